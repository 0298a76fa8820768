/- Merging again and again. -/
import Derived.Test.YtdggkcohidijcaaJM
namespace Go.Proofs.Ytdggkcohidijcaa
open Go.RowKit
set_option linter.unusedVariables false
set_option linter.unusedSimpArgs false

theorem moB_yes {L : List S_Pair} {ts : List Int} {i r : Nat} (h : okT L ts) (hp : placeF L ts = some (i, r)) : moB L ts = mgT ts i r ∧ moO L ts = true := by
  unfold moB moO moF
  rw [if_pos h, hp, decide_eq_true h]
  exact ⟨rfl, rfl⟩
theorem moB_none {L : List S_Pair} {ts : List Int} (h : okT L ts) (hp : placeF L ts = none) : moB L ts = ts ∧ moO L ts = false := by
  unfold moB moO moF
  rw [if_pos h, hp, decide_eq_true h]
  exact ⟨rfl, rfl⟩
theorem moB_bad {L : List S_Pair} {ts : List Int} (h : ¬ okT L ts) : moB L ts = [] ∧ moO L ts = false := by
  unfold moB moO
  rw [if_neg h, decide_eq_false h]
  exact ⟨rfl, rfl⟩
theorem okT_mg {L : List S_Pair} {ts : List Int} {i r : Nat} (h : okT L ts) (hp : placeF L ts = some (i, r)) : okT L (mgT ts i r) := by
  have hl := matB_lt (place_is hp)
  have hn := mgT_len (r := r) hl.2
  refine ⟨h.1, by have := h.2.1; omega, fun x hx => ?_⟩
  unfold mgT at hx
  rcases List.mem_append.1 hx with hx | hx
  · exact h.2.2 x (List.mem_of_mem_take hx)
  · rcases List.mem_cons.1 hx with rfl | hx
    · have := hl.1
      exact ⟨by omega, by omega⟩
    · exact h.2.2 x (List.mem_of_mem_drop hx)
theorem okT_bp {L : List S_Pair} {s : ByteArray} (h : okV L) (h64 : s.size ≤ 64) : okT L (bpI s) := ⟨h, by rw [bpI_len]; omega, fun x hx => by
  unfold bpI at hx
  obtain ⟨i, _, rfl⟩ := List.mem_map.1 hx
  have := byteAt_rng s i
  exact ⟨by omega, by omega⟩⟩
theorem place_nil (M : List S_Pair) : placeF M [] = none := place_none (fun r i => by
  rcases h : matB M [] r i with _ | _
  · rfl
  · exact absurd (matB_lt h).2 (by simp))

/-- While one merges again and again. -/
structure NvS (L : List S_Pair) (R : List Int) (n : Nat) (ts : List Int) (k : Nat) : Prop where
  ok : okT L ts
  all : bpeL L ts = R
  few : ts.length + k ≤ n

theorem NvS.step {L : List S_Pair} {R ts : List Int} {n k i r : Nat} (S : NvS L R n ts k) (hp : placeF L ts = some (i, r)) : NvS L R n (mgT ts i r) (k + 1) :=
  ⟨okT_mg S.ok hp, by rw [← bpeL_step hp]; exact S.all, by have := S.few; have := mgT_len (r := r) (matB_lt (place_is hp)).2; omega⟩
theorem NvS.stop {L : List S_Pair} {R ts : List Int} {n k : Nat} (S : NvS L R n ts k) (hp : placeF L ts = none) : ts = R := by rw [← S.all]; exact (bpeN_none hp _).symm
theorem NvS.last {L : List S_Pair} {R ts : List Int} {n k : Nat} (S : NvS L R n ts k) (hk : n ≤ k) : ts = R := by
  have h : ts.length = 0 := by have := S.few; omega
  have e : ts = [] := List.eq_nil_of_length_eq_zero h
  refine S.stop ?_
  rw [e]
  exact place_nil L

end Go.Proofs.Ytdggkcohidijcaa
