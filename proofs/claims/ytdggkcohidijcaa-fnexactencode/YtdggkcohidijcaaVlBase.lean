/- What the laws of one vocabulary use. -/
import Derived.Test.YtdggkcohidijcaaVcOk
namespace Go.Proofs.Ytdggkcohidijcaa
open Go.RowKit
set_option linter.unusedVariables false
set_option linter.unusedSimpArgs false

theorem bel_undrewV {B : Nat} {w w' : World} (h : Below B w.drew w') : Below B w w' := ⟨h.os, h.tape, h.output, h.size, h.block⟩

theorem sz_smallV {n : Nat} (h : ¬ szF n 1048576 < 0) : n ≤ 1048576 := by
  unfold szF at h
  split at h <;> omega

theorem ln_voc {x : S_Vocab} (h : zVocab x ≤ 1048576) : LnVocab x 1048576 := by
  unfold zVocab at h
  show x.f0.length ≤ 1048576
  omega

theorem cell1V {W : World} {b : Nat} {a : Value} (h : W.cell? ⟨b, 0, none⟩ = some a) : ∀ j u, ([a] : List Value)[j]? = some u → W.cell? ((⟨b, 0, none⟩ : Addr).add j) = some u := by
  intro j u hj
  rw [Addr.add_mid, Nat.zero_add]
  rcases j with _ | j
  · simp only [List.getElem?_cons_zero, Option.some.injEq] at hj; rw [← hj]; exact h
  · simp at hj

theorem toVocS_c (x : S_Vocab) (v0 : Value) (w : World) (hn : LnVocab x 1048576) (h : RdVocab w x v0) :
    Calls Try.prog 27 #[.agg #[v0]] w fun e w' => ∃ p c, e = .returned (.agg #[.slice p x.f0.length c]) ∧ OwVocab w' w.heap.size x (.slice p x.f0.length c) ∧ Below w.heap.size w w' := by
  refine (toVocab_c x v0 w hn h).mono ?_
  rintro e w' ⟨u0, rfl, ho, hb⟩
  obtain ⟨p, c, rfl⟩ := own_sliceV ho
  exact ⟨p, c, rfl, ho, hb⟩

end Go.Proofs.Ytdggkcohidijcaa
