/- The walk of the mark's text. -/
import Derived.Test.YtmknplpcpmkhiaaGreatHaBase
import Derived.Test.YtmknplpcpmkhiaaGreatMtMath
namespace Go.Proofs.YtmknplpcpmkhiaaGreat
open Go.RowKit
set_option linter.unusedVariables false

set_option maxRecDepth 20000 in
set_option maxHeartbeats 1000000 in
theorem markText_c (n : Int) (w : World) (h0 : 0 < n) (h1 : n ≤ 4611686018427387904) :
    Calls Tryz.prog 122 #[.int .i64 n] w fun e w' => e = .returned (.string (mt n)) ∧ Below w.heap.size w w' := by
  go_enter Tryz.func122, Tryz.ntmps122
  go_wp2
  go_loopw [0, 3] (fun m v wr => ∃ (x : Int) (acc : List Int), 0 ≤ x ∧ x ≤ n ∧ (acc.length : Int) ≤ n - x ∧ m = .int .i64 x ∧ v = .string (strOfNums acc) ∧ Below w.heap.size w wr ∧ Hid (mD x ++ acc = mD n)) (fun m _ _ => (intOf m).toNat)
  case atStart => exact ⟨n, [], by omega, Int.le_refl _, by simp, rfl, rfl, Below.refl _ _, by show _ ++ [] = _; rw [List.append_nil]⟩
  case round =>
    obtain ⟨x, acc, hx0, hx1, hal, rfl, rfl, hbel, HD⟩ := hrel
    have hsz := hbel.size
    by_cases hp : 0 < x
    · have HD2 : Hid (mD (x / 10) ++ ((48 + x % 10) :: acc) = mD n) := by
        have := HD.out
        rw [mD_more x hp, List.append_assoc] at this
        exact this
      have hco := conv_one wr
      have had : ∀ W, (Op.stringOp .add (strOfNums [48 + x % 10]) (strOfNums acc)).run Tryz.prog W = .ok (.string (strOfNums ((48 + x % 10) :: acc))) W := fun W => run_add_nums [48 + x % 10] acc (by simp; omega) W
      have hw8 : IntKind.u8.wrap (48 + x % 10) = 48 + x % 10 := by
        simp only [IntKind.wrap, IntKind.bits, IntKind.signed]
        simp
        omega
      clear HD
      go_wp2
      go_roundw
      case rel => exact ⟨x / 10, (48 + x % 10) :: acc, by omega, by omega, by simp; omega, rfl, rfl, hbel.alloc (by omega) _, HD2⟩
      case measure => simp [intOf]; omega
    · have : x = 0 := by omega
      subst this
      have HD2 : Hid (acc = mD n) := by
        have := HD.out
        rw [mD_zero 0 (by omega)] at this
        exact this
      have had : ∀ W, (Op.stringOp .add ⟨#[109]⟩ (strOfNums acc)).run Tryz.prog W = .ok (.string (strOfNums (109 :: acc))) W := fun W => run_add_nums [109] acc (by simp; omega) W
      clear HD
      go_wp2
      go_ret
      exact ⟨by rw [HD2.out]; rfl, hbel⟩

theorem take_set1 (xs : List Value) (j : Nat) (c : Value) (h : j < xs.length) : (xs.set j c).take (j + 1) = xs.take j ++ [c] := by
  rw [List.take_add_one, List.take_set_of_le (by omega)]
  simp [h]

/-- A row of the call's own whose first j cells are marked. -/
def Mkd (w : World) (base : Nat) (e : TypeId) (size : Nat) (v : Value) (n : Nat) (ML : List Value) (j : Nat) : Prop := ∃ xs, w.ownsRow base e size v n xs ∧ xs.take j = ML.take j

theorem Mkd.bel {w w' : World} {base N : Nat} {e : TypeId} {size : Nat} {v : Value} {n : Nat} {ML : List Value} {j : Nat} (h : Mkd w base e size v n ML j) (hb : Below N w w') (hN : w.heap.size ≤ N) : Mkd w' base e size v n ML j := by
  obtain ⟨xs, h1, h2⟩ := h
  exact ⟨xs, own_bel h1 hb hN, h2⟩

theorem Mkd.set {w : World} {base : Nat} {e : TypeId} {size g n cap : Nat} {ML : List Value} {j : Nat} (h : Mkd w base e size (.slice (some ⟨g, 0, none⟩) n cap) n ML j) (c : Value) (hc : ML[j]? = some c) (hj : j < n * size) : Mkd (w.setCell ⟨g, j, none⟩ c) base e size (.slice (some ⟨g, 0, none⟩) n cap) n ML (j + 1) := by
  obtain ⟨xs, h1, h2⟩ := h
  refine ⟨_, (h1.stored j c).1, ?_⟩
  have hl := h1.1
  rw [take_set1 xs j c (by omega), h2, List.take_add_one, hc]
  rfl

theorem Mkd.cell {w : World} {base : Nat} {e : TypeId} {size g n cap : Nat} {ML : List Value} {j : Nat} (h : Mkd w base e size (.slice (some ⟨g, 0, none⟩) n cap) n ML j) (i : Nat) (hi : i < n * size) : (∃ u, w.cell? ⟨g, i, none⟩ = some u) ∧ w.frozen? ⟨g, i, none⟩ = false := by
  obtain ⟨xs, h1, _⟩ := h
  exact ⟨own_cell h1 i hi, h1.frozenAt i⟩

theorem Mkd.all {w : World} {base : Nat} {e : TypeId} {size : Nat} {v : Value} {n : Nat} {ML : List Value} (h : Mkd w base e size v n ML (n * size)) (hM : ML.length = n * size) : w.ownsRow base e size v n ML := by
  obtain ⟨xs, h1, h2⟩ := h
  have hl := h1.1
  rw [List.take_of_length_le (by omega), List.take_of_length_le (by omega)] at h2
  rw [← h2]; exact h1

end Go.Proofs.YtmknplpcpmkhiaaGreat
