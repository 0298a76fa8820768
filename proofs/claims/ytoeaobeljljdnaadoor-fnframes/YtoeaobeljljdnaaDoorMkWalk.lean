/- The walks of what the exact laws hold rows of texts by: equal, marked, held. -/
import Derived.Test.YtoeaobeljljdnaaDoorFsWalk
namespace Go.Proofs.YtoeaobeljljdnaaDoor
open Go.RowKit
set_option linter.unusedVariables false

set_option maxRecDepth 20000 in
set_option maxHeartbeats 1000000 in
theorem markText_c (n : Int) (w : World) (h0 : 0 < n) (h1 : n ≤ 4611686018427387904) :
    Calls Tryd.prog 29 #[.int .i64 n] w fun e w' => e = .returned (.string (mt n)) ∧ Below w.heap.size w w' := by
  go_enter Tryd.func29, Tryd.ntmps29
  go_wp2
  go_loopw [0, 3] (fun m v wr => ∃ (x : Int) (acc : List Int), 0 ≤ x ∧ x ≤ n ∧ (acc.length : Int) ≤ n - x ∧ m = .int .i64 x ∧ v = .string (strOfNums acc) ∧ Below w.heap.size w wr ∧ Hid (mD x ++ acc = mD n)) (fun m _ _ => (intOf m).toNat)
  case atStart => exact ⟨n, [], by omega, Int.le_refl _, by simp, rfl, rfl, Below.refl _ _, by show _ ++ [] = _; rw [List.append_nil]⟩
  case round =>
    obtain ⟨x, acc, hx0, hx1, hal, rfl, rfl, hbel, HD⟩ := hrel
    have hsz := hbel.size
    by_cases hp : 0 < x
    · have HD2 : Hid (mD (x / 10) ++ ((48 + x % 10) :: acc) = mD n) := by
        have := HD.out
        rw [mD_more x hp, List.append_assoc] at this
        exact this
      have hco := conv_one wr
      have had : ∀ W, (Op.stringOp .add (strOfNums [48 + x % 10]) (strOfNums acc)).run Tryd.prog W = .ok (.string (strOfNums ((48 + x % 10) :: acc))) W := fun W => run_add_nums [48 + x % 10] acc (by simp; omega) W
      have hw8 : IntKind.u8.wrap (48 + x % 10) = 48 + x % 10 := by
        simp only [IntKind.wrap, IntKind.bits, IntKind.signed]
        simp
        omega
      clear HD
      go_wp2
      go_roundw
      case rel => exact ⟨x / 10, (48 + x % 10) :: acc, by omega, by omega, by simp; omega, rfl, rfl, hbel.alloc (by omega) _, HD2⟩
      case measure => simp [intOf]; omega
    · have : x = 0 := by omega
      subst this
      have HD2 : Hid (acc = mD n) := by
        have := HD.out
        rw [mD_zero 0 (by omega)] at this
        exact this
      have had : ∀ W, (Op.stringOp .add ⟨#[109]⟩ (strOfNums acc)).run Tryd.prog W = .ok (.string (strOfNums (109 :: acc))) W := fun W => run_add_nums [109] acc (by simp; omega) W
      clear HD
      go_wp2
      go_ret
      exact ⟨by rw [HD2.out]; rfl, hbel⟩

theorem own_forms {w : World} {base : Nat} {v : Value} {L : List ByteArray} (h : OwnS w base v L) :
    (v = .slice none 0 0 ∧ L = []) ∨ ∃ g cap, v = .slice (some ⟨g, 0, none⟩) L.length cap ∧ base ≤ g ∧ g < w.heap.size ∧ ∀ j, j < L.length → w.cell? ⟨g, j, none⟩ = (L.map Value.string)[j]? := by
  have h' := h
  obtain ⟨h1, ⟨rfl, h2⟩ | ⟨g, cap, cur, rfl, hg, hh, _⟩⟩ := h'
  · exact Or.inl ⟨rfl, List.eq_nil_of_length_eq_zero h2⟩
  · exact Or.inr ⟨g, cap, rfl, hg, lt_of_some hh, fun j hj => World.ownsRow.cellAt h j (by omega)⟩

theorem cell_str {L : List ByteArray} {j : Nat} (h : j < L.length) : (L.map Value.string)[j]? = some (.string L[j]) := by
  rw [List.getElem?_map, List.getElem?_eq_getElem h]; rfl

set_option maxRecDepth 20000 in
set_option maxHeartbeats 1000000 in
theorem eqS_c (v1 v2 : Value) (L : List ByteArray) (b1 b2 : Nat) (w : World) (hl : L.length ≤ 1048576) (h1 : OwnS w b1 v1 L) (h2 : OwnS w b2 v2 L) :
    Calls Tryd.prog 15 #[v1, v2] w fun e w' => e = .returned (.bool true) ∧ Below w.heap.size w w' := by
  rcases Nat.eq_zero_or_pos L.length with hn | hn
  · have hL : L = [] := List.eq_nil_of_length_eq_zero hn
    subst hL
    have f1 : ∃ a c, v1 = .slice a 0 c := by
      rcases own_forms h1 with ⟨rfl, _⟩ | ⟨g, cap, rfl, _⟩
      · exact ⟨_, _, rfl⟩
      · exact ⟨_, _, rfl⟩
    have f2 : ∃ a c, v2 = .slice a 0 c := by
      rcases own_forms h2 with ⟨rfl, _⟩ | ⟨g, cap, rfl, _⟩
      · exact ⟨_, _, rfl⟩
      · exact ⟨_, _, rfl⟩
    obtain ⟨p1, c1, rfl⟩ := f1
    obtain ⟨p2, c2, rfl⟩ := f2
    clear h1 h2 hn hl
    go_enter Tryd.func15, Tryd.ntmps15
    go_wp2
    go_loopw [5] (fun i wr => i = .int .i64 0 ∧ wr = w) (fun _ _ => 0)
    case atStart => exact ⟨rfl, rfl⟩
    case round =>
      obtain ⟨rfl, rfl⟩ := hrel
      go_wp2
      go_ret
      exact ⟨rfl, Below.refl _ _⟩
  · obtain ⟨g1, c1, rfl, _, hg1, r1⟩ : ∃ g cap, v1 = .slice (some ⟨g, 0, none⟩) L.length cap ∧ b1 ≤ g ∧ g < w.heap.size ∧ ∀ j, j < L.length → w.cell? ⟨g, j, none⟩ = (L.map Value.string)[j]? := by
      rcases own_forms h1 with ⟨_, rfl⟩ | h
      · simp at hn
      · exact h
    obtain ⟨g2, c2, rfl, _, hg2, r2⟩ : ∃ g cap, v2 = .slice (some ⟨g, 0, none⟩) L.length cap ∧ b2 ≤ g ∧ g < w.heap.size ∧ ∀ j, j < L.length → w.cell? ⟨g, j, none⟩ = (L.map Value.string)[j]? := by
      rcases own_forms h2 with ⟨_, rfl⟩ | h
      · simp at hn
      · exact h
    have R1 : Hid (∀ j, j < L.length → w.cell? ⟨g1, j, none⟩ = (L.map Value.string)[j]?) := r1
    have R2 : Hid (∀ j, j < L.length → w.cell? ⟨g2, j, none⟩ = (L.map Value.string)[j]?) := r2
    have hl' : (L.length : Int) ≤ 1048576 := by omega
    clear h1 h2 r1 r2 hl
    go_enter Tryd.func15, Tryd.ntmps15
    go_wp2
    go_loopw [5] (fun i wr => ∃ k : Nat, k ≤ L.length ∧ i = .int .i64 (k : Int) ∧ Hid (Below w.heap.size w wr)) (fun i _ => L.length - (intOf i).toNat)
    case atStart => exact ⟨0, Nat.zero_le _, rfl, Below.refl _ _⟩
    case round =>
      obtain ⟨k, hk, rfl, HB⟩ := hrel
      by_cases hlt : k < L.length
      · have e1 : wr.cell? ⟨g1, k, none⟩ = some (.string L[k]) := by rw [HB.out.cell (by exact hg1), R1.out k hlt, cell_str hlt]
        have e2 : wr.cell? ⟨g2, k, none⟩ = some (.string L[k]) := by rw [HB.out.cell (by exact hg2), R2.out k hlt, cell_str hlt]
        have hlt' : (k : Int) < L.length := by omega
        generalize L[k] = Y at e1 e2
        go_wp2
        go_quiet (fail)
        go_wp2
        go_roundw
        case rel => exact ⟨k + 1, by omega, by go_num, bel_drewN HB.out _⟩
        case measure => simp [intOf]; omega
      · have hke : k = L.length := by omega
        subst hke
        go_wp2
        go_ret
        exact ⟨rfl, HB.out⟩

end Go.Proofs.YtoeaobeljljdnaaDoor
