/- A row is no longer than its room. -/
import Derived.Test.YtdggkcohidijcaaHaInts
namespace Go.Proofs.Ytdggkcohidijcaa
open Go.RowKit
set_option linter.unusedVariables false
set_option linter.unusedSimpArgs false

theorem ioCap {w : World} {base : Nat} {p : Option Addr} {n c : Nat} {L : List Int} (h : IO w base (.slice p n c) L) : L.length ≤ c := by
  obtain ⟨_, ⟨hv, h0⟩ | ⟨g, cap, cur, hv, _, _, hc, _⟩⟩ := h
  · simp only [Value.slice.injEq] at hv
    omega
  · simp only [Value.slice.injEq] at hv
    omega

end Go.Proofs.Ytdggkcohidijcaa
