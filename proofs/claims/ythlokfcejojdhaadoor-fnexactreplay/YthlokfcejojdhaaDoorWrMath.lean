/- What a record is, and which are right. -/
import Derived.Test.YthlokfcejojdhaaDoorHaRec
namespace Go.Proofs.YthlokfcejojdhaaDoor
open Go.RowKit
set_option linter.unusedVariables false

/-- A record that is right. -/
def okR (x : S_Rec) : Prop :=
  (x.f0 = 1 ∧ (0 ≤ x.f1 ∧ x.f1 ≤ 100000) ∧ (-1 ≤ x.f3 ∧ x.f3 ≤ 4) ∧ x.f2 = 0 ∧ x.f4 = ⟨#[]⟩) ∨
  (x.f0 = 2 ∧ (1 ≤ x.f1 ∧ x.f1 ≤ 100000) ∧ (1 ≤ x.f2 ∧ x.f2 ≤ 100000) ∧ x.f3 = 0 ∧ x.f4.size ≤ 900) ∨
  (x.f0 = 3 ∧ x.f1 = 0 ∧ (1 ≤ x.f2 ∧ x.f2 ≤ 100000) ∧ x.f3 = 0 ∧ x.f4 = ⟨#[]⟩) ∨
  (x.f0 = 4 ∧ ((x.f2 = 0 ∧ x.f1 = 0) ∨ (x.f2 ≠ 0 ∧ (1 ≤ x.f2 ∧ x.f2 ≤ 100000) ∧ (1 ≤ x.f1 ∧ x.f1 ≤ 100000))) ∧ x.f3 = 0 ∧ x.f4 = ⟨#[]⟩)

instance (x : S_Rec) : Decidable (okR x) := by unfold okR; infer_instance

/-- The bounds that the program asks first. -/
def bdR (x : S_Rec) : Prop :=
  (x.f0 = 1 ∧ (0 ≤ x.f1 ∧ x.f1 ≤ 100000) ∧ (-1 ≤ x.f3 ∧ x.f3 ≤ 4)) ∨
  (x.f0 = 4 ∧ x.f2 = 0 ∧ x.f1 = 0) ∨
  ((x.f0 = 4 ∧ x.f2 ≠ 0 ∨ x.f0 = 2) ∧ (1 ≤ x.f1 ∧ x.f1 ≤ 100000) ∧ x.f4.size ≤ 900 ∧ (1 ≤ x.f2 ∧ x.f2 ≤ 100000)) ∨
  (x.f0 = 3 ∧ (1 ≤ x.f2 ∧ x.f2 ≤ 100000))

instance (x : S_Rec) : Decidable (bdR x) := by unfold bdR; infer_instance

/-- What the program keeps of a record of a kind. -/
def cutR (x : S_Rec) : S_Rec :=
  if x.f0 = 1 then ⟨1, x.f1, 0, x.f3, ⟨#[]⟩⟩ else if x.f0 = 2 then ⟨2, x.f1, x.f2, 0, x.f4⟩ else if x.f0 = 3 then ⟨3, 0, x.f2, 0, ⟨#[]⟩⟩ else if x.f0 = 4 then ⟨4, x.f1, x.f2, 0, ⟨#[]⟩⟩ else ⟨0, 0, 0, 0, ⟨#[]⟩⟩

def sameR (x y : S_Rec) : Prop := x.f0 = y.f0 ∧ x.f1 = y.f1 ∧ x.f2 = y.f2 ∧ x.f3 = y.f3 ∧ x.f4 = y.f4

instance (x y : S_Rec) : Decidable (sameR x y) := by unfold sameR; infer_instance

theorem sameR_eq {x y : S_Rec} (h : sameR x y) : x = y := by
  obtain ⟨h0, h1, h2, h3, h4⟩ := h
  cases x; cases y
  simp_all

theorem ret_t {p : Prop} [Decidable p] (h : p) : Ending.returned (.bool true) = .returned (.bool (decide p)) := by rw [decide_eq_true h]

theorem ret_f {p : Prop} [Decidable p] (h : ¬ p) : Ending.returned (.bool false) = .returned (.bool (decide p)) := by rw [decide_eq_false h]

theorem ret_x {a : Bool} {p : Prop} [Decidable p] {b : Bool} (ha : a = b) (h : decide p = b) : Ending.returned (.bool a) = .returned (.bool (decide p)) := by rw [ha, h]

theorem empty_no {s : ByteArray} (h : ¬ s = ⟨#[]⟩) : s.toList.isEmpty = false := by
  rw [Bool.eq_false_iff]
  intro h'
  rw [List.isEmpty_iff] at h'
  apply h
  have h2 : s.data.toList = [] := by rw [← ByteArray.toList_eq]; exact h'
  cases s with | mk d => simp at h2; rw [h2]

theorem okR_iff (x : S_Rec) : okR x ↔ bdR x ∧ sameR (cutR x) x := by
  have h900 : x.f4 = ⟨#[]⟩ → x.f4.size = 0 := fun h => by rw [h]; rfl
  have h901 : (⟨#[]⟩ : ByteArray) = x.f4 ↔ x.f4 = ⟨#[]⟩ := ⟨fun h => h.symm, fun h => h.symm⟩
  unfold okR bdR sameR cutR
  generalize (x.f4 = (⟨#[]⟩ : ByteArray)) = p at *
  generalize x.f4.size = n at *
  by_cases h1 : x.f0 = 1
  · rw [if_pos h1]; simp only [h901]; grind
  · rw [if_neg h1]
    by_cases h2 : x.f0 = 2
    · rw [if_pos h2]; grind
    · rw [if_neg h2]
      by_cases h3 : x.f0 = 3
      · rw [if_pos h3]; simp only [h901]; grind
      · rw [if_neg h3]
        by_cases h4 : x.f0 = 4
        · rw [if_pos h4]; simp only [h901]; grind
        · rw [if_neg h4]; grind

end Go.Proofs.YthlokfcejojdhaaDoor
