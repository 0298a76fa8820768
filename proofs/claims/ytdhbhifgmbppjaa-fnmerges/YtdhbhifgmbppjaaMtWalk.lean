/- The walk of the mark's text. -/
import Derived.Test.YtdhbhifgmbppjaaHaBase
import Derived.Test.YtdhbhifgmbppjaaMtMath
namespace Go.Proofs.Ytdhbhifgmbppjaa
open Go.RowKit
set_option linter.unusedVariables false

theorem take_set1 (xs : List Value) (j : Nat) (c : Value) (h : j < xs.length) : (xs.set j c).take (j + 1) = xs.take j ++ [c] := by
  rw [List.take_add_one, List.take_set_of_le (by omega)]
  simp [h]

/-- A row of the call's own whose first j cells are marked. -/
def Mkd (w : World) (base : Nat) (e : TypeId) (size : Nat) (v : Value) (n : Nat) (ML : List Value) (j : Nat) : Prop := ∃ xs, w.ownsRow base e size v n xs ∧ xs.take j = ML.take j

theorem Mkd.bel {w w' : World} {base N : Nat} {e : TypeId} {size : Nat} {v : Value} {n : Nat} {ML : List Value} {j : Nat} (h : Mkd w base e size v n ML j) (hb : Below N w w') (hN : w.heap.size ≤ N) : Mkd w' base e size v n ML j := by
  obtain ⟨xs, h1, h2⟩ := h
  exact ⟨xs, own_bel h1 hb hN, h2⟩

theorem Mkd.set {w : World} {base : Nat} {e : TypeId} {size g n cap : Nat} {ML : List Value} {j : Nat} (h : Mkd w base e size (.slice (some ⟨g, 0, none⟩) n cap) n ML j) (c : Value) (hc : ML[j]? = some c) (hj : j < n * size) : Mkd (w.setCell ⟨g, j, none⟩ c) base e size (.slice (some ⟨g, 0, none⟩) n cap) n ML (j + 1) := by
  obtain ⟨xs, h1, h2⟩ := h
  refine ⟨_, (h1.stored j c).1, ?_⟩
  have hl := h1.1
  rw [take_set1 xs j c (by omega), h2, List.take_add_one, hc]
  rfl

theorem Mkd.cell {w : World} {base : Nat} {e : TypeId} {size g n cap : Nat} {ML : List Value} {j : Nat} (h : Mkd w base e size (.slice (some ⟨g, 0, none⟩) n cap) n ML j) (i : Nat) (hi : i < n * size) : (∃ u, w.cell? ⟨g, i, none⟩ = some u) ∧ w.frozen? ⟨g, i, none⟩ = false := by
  obtain ⟨xs, h1, _⟩ := h
  exact ⟨own_cell h1 i hi, h1.frozenAt i⟩

theorem Mkd.all {w : World} {base : Nat} {e : TypeId} {size : Nat} {v : Value} {n : Nat} {ML : List Value} (h : Mkd w base e size v n ML (n * size)) (hM : ML.length = n * size) : w.ownsRow base e size v n ML := by
  obtain ⟨xs, h1, h2⟩ := h
  have hl := h1.1
  rw [List.take_of_length_le (by omega), List.take_of_length_le (by omega)] at h2
  rw [← h2]; exact h1

end Go.Proofs.Ytdhbhifgmbppjaa
