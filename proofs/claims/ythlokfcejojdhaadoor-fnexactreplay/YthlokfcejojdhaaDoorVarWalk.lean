/- The walks of the two that tell a number by seven bits a byte. -/
import Derived.Test.YthlokfcejojdhaaDoorOwnLaws
import Derived.Test.YthlokfcejojdhaaDoorVarMath
namespace Go.Proofs.YthlokfcejojdhaaDoor
open Go.RowKit
set_option linter.unusedVariables false

set_option maxHeartbeats 400000 in
set_option maxRecDepth 20000 in
theorem specVar_yes (n : Int) (w : World) (h0 : 0 ≤ n) (h1 : n ≤ 562949953421311) :
    Calls Tryd.prog 77 #[.int .i64 n] w fun e w' => e = .returned (.string (strOfNums (varL n))) ∧ Below w.heap.size w w' := by
  obtain ⟨i0, hi, hz0, hz1, hz2⟩ := info_parts info5
  go_enter Tryd.func77, Tryd.ntmps77
  go_wp2
  go_loopw [0, 3] (fun m v wr => ∃ (acc : List Int) (x : Int), 0 ≤ x ∧ 100 * (acc.length : Int) + x ≤ n ∧ m = .int .i64 x ∧ wr.ownsRow w.heap.size 5 1 v acc.length (acc.map (Value.int .u8)) ∧ Below w.heap.size w wr ∧ Hid (acc ++ varL x = varL n)) (fun m _ _ => (intOf m).toNat)
  case atStart => exact ⟨[], n, h0, by simp, rfl, World.ownsRow_made w _ 0 (Nat.le_refl _) (by decide) (by simp), (Below.refl _ _).alloc (Nat.le_refl _) _, rfl⟩
  case round =>
    obtain ⟨acc, x, hx, hacc, rfl, hown, hbel, HE⟩ := hrel
    have hsz := hbel.size
    by_cases h128 : 128 ≤ x
    · go_wp2_with (first
        | (at_builtin; refine wpList_append_own _ rfl _ _ 22 rfl w.heap.size 5 i0 (.int .u8 0) 1 1 Tryd.underlying22 hi hz0 hz1 hz2 rfl (by decide) _ _ _ rfl (hown.alloc _) ⟨wr.heap.size, 0, none⟩ 1 1 [.int .u8 (128 + x % 128)] rfl rfl (cell_one_new _ _ _) (by intro u hu; simp at hu; subst hu; rfl) (by unfold maxLen; omega) (by omega) (by simp; omega) ?_))
      · intro v' w1 hown' hgrow _
        have R1 := own_snoc hown'
        have R2 := below_append hbel (Nat.le_refl _) hown hgrow
        have R3 : Hid ((acc ++ [128 + x % 128]) ++ varL (x / 128) = varL n) := by rw [Int.add_comm]; exact var_step HE.out h128
        clear hown' hgrow hown hbel HE
        go_wp2
        go_roundw
        case rel => first | exact ⟨acc ++ [128 + x % 128], x / 128, by omega, by simp; omega, rfl, R1, R2, R3⟩ | ((repeat apply Exists.intro); exact ⟨⟨acc ++ [128 + x % 128], x / 128, by omega, by simp; omega, rfl, R1, R2, R3⟩, rfl⟩)
        case measure => simp [intOf]; omega
    · go_wp2_with (first
        | (at_builtin; refine wpList_append_own _ rfl _ _ 22 rfl w.heap.size 5 i0 (.int .u8 0) 1 1 Tryd.underlying22 hi hz0 hz1 hz2 rfl (by decide) _ _ _ rfl (hown.alloc _) ⟨wr.heap.size, 0, none⟩ 1 1 [.int .u8 x] rfl rfl (cell_one_new _ _ _) (by intro u hu; simp at hu; subst hu; rfl) (by unfold maxLen; omega) (by omega) (by simp; omega) ?_))
      · intro v' w1 hown' hgrow _
        have R1 := own_snoc hown'
        have R2 := below_append hbel (Nat.le_refl _) hown hgrow
        have R3 : Hid (acc ++ [x] = varL n) := var_end HE.out (by omega)
        have hconv := run_string_of_own (acc ++ [x]) rfl R1
        clear hown' hgrow hown hbel HE R1
        go_wp2
        go_ret
        exact ⟨ret_str (congrArg strOfNums R3.out), R2⟩

set_option maxHeartbeats 400000 in
set_option maxRecDepth 20000 in
theorem specVar_no (n : Int) (w : World) (h : n < 0 ∨ 562949953421311 < n) :
    Calls Tryd.prog 77 #[.int .i64 n] w fun e w' => e = .returned (.string ⟨#[]⟩) ∧ Below w.heap.size w w' := by
  by_cases h0 : n < 0
  · go_enter Tryd.func77, Tryd.ntmps77
    go_wp2
    go_ret
    exact ⟨rfl, Below.refl _ _⟩
  · have h1 : 562949953421311 < n := by omega
    have hd : decide (n ≤ 562949953421311) = false := by simp; omega
    go_enter Tryd.func77, Tryd.ntmps77
    go_wp2
    go_ret
    exact ⟨rfl, Below.refl _ _⟩

set_option maxHeartbeats 400000 in
set_option maxRecDepth 20000 in
theorem implVar_yes (n : Int) (w : World) (h0 : 0 ≤ n) (h1 : n ≤ 562949953421311) :
    Calls Tryd.prog 46 #[.int .i64 n] w fun e w' => e = .returned (.string (strOfNums (varL n))) ∧ Below w.heap.size w w' := by
  obtain ⟨i0, hi, hz0, hz1, hz2⟩ := info_parts info5
  go_enter Tryd.func46, Tryd.ntmps46
  go_wp2_with (at_make; refine wpList_make_own _ rfl _ _ 22 rfl w.heap.size 5 i0 (.int .u8 0) 1 Tryd.underlying22 hi hz0 hz1 .i64 .i64 7 7 rfl rfl rfl (by rw [hz2]; decide) (by decide) (Nat.le_refl _) ?_)
  intro w0 hown0 hgrow0
  have hbel0 : Below w.heap.size w w0 := (Below.refl _ _).grown hgrow0 (Nat.le_refl _) (by simp)
  clear hgrow0
  go_wp2
  go_loopw [0, 3] (fun m v wr => ∃ (acc : List Int) (x : Int), 0 ≤ x ∧ 100 * (acc.length : Int) + x ≤ n ∧ m = .int .i64 x ∧ wr.ownsRow w.heap.size 5 1 v acc.length (acc.map (Value.int .u8)) ∧ Below w.heap.size w wr ∧ Hid (acc ++ varL x = varL n)) (fun m _ _ => (intOf m).toNat)
  case atStart => exact ⟨[], n, h0, by simp, rfl, hown0, hbel0, rfl⟩
  case round =>
    obtain ⟨acc, x, hx, hacc, rfl, hown, hbel, HE⟩ := hrel
    have hsz := hbel.size
    by_cases h128 : 128 ≤ x
    · go_wp2_with (first
        | (at_builtin; refine wpList_append_own _ rfl _ _ 22 rfl w.heap.size 5 i0 (.int .u8 0) 1 1 Tryd.underlying22 hi hz0 hz1 hz2 rfl (by decide) _ _ _ rfl (hown.alloc _) ⟨wr.heap.size, 0, none⟩ 1 1 [.int .u8 (x % 128 + 128)] rfl rfl (cell_one_new _ _ _) (by intro u hu; simp at hu; subst hu; rfl) (by unfold maxLen; omega) (by omega) (by simp; omega) ?_))
      · intro v' w1 hown' hgrow _
        have R1 := own_snoc hown'
        have R2 := below_append hbel (Nat.le_refl _) hown hgrow
        have R3 : Hid ((acc ++ [x % 128 + 128]) ++ varL (x / 128) = varL n) := by exact var_step HE.out h128
        clear hown' hgrow hown hbel HE
        go_wp2
        go_roundw
        case rel => first | exact ⟨acc ++ [x % 128 + 128], x / 128, by omega, by simp; omega, rfl, R1, R2, R3⟩ | ((repeat apply Exists.intro); exact ⟨⟨acc ++ [x % 128 + 128], x / 128, by omega, by simp; omega, rfl, R1, R2, R3⟩, rfl⟩)
        case measure => simp [intOf]; omega
    · go_wp2_with (first
        | (at_builtin; refine wpList_append_own _ rfl _ _ 22 rfl w.heap.size 5 i0 (.int .u8 0) 1 1 Tryd.underlying22 hi hz0 hz1 hz2 rfl (by decide) _ _ _ rfl (hown.alloc _) ⟨wr.heap.size, 0, none⟩ 1 1 [.int .u8 x] rfl rfl (cell_one_new _ _ _) (by intro u hu; simp at hu; subst hu; rfl) (by unfold maxLen; omega) (by omega) (by simp; omega) ?_))
      · intro v' w1 hown' hgrow _
        have R1 := own_snoc hown'
        have R2 := below_append hbel (Nat.le_refl _) hown hgrow
        have R3 : Hid (acc ++ [x] = varL n) := var_end HE.out (by omega)
        have hconv := run_string_of_own (acc ++ [x]) rfl R1
        clear hown' hgrow hown hbel HE R1
        go_wp2
        go_ret
        exact ⟨ret_str (congrArg strOfNums R3.out), R2⟩

set_option maxHeartbeats 400000 in
set_option maxRecDepth 20000 in
theorem implVar_no (n : Int) (w : World) (h : n < 0 ∨ 562949953421311 < n) :
    Calls Tryd.prog 46 #[.int .i64 n] w fun e w' => e = .returned (.string ⟨#[]⟩) ∧ Below w.heap.size w w' := by
  by_cases h0 : n < 0
  · go_enter Tryd.func46, Tryd.ntmps46
    go_wp2
    go_ret
    exact ⟨rfl, Below.refl _ _⟩
  · have h1 : 562949953421311 < n := by omega
    have hd : decide (n ≤ 562949953421311) = false := by simp; omega
    go_enter Tryd.func46, Tryd.ntmps46
    go_wp2
    go_ret
    exact ⟨rfl, Below.refl _ _⟩

end Go.Proofs.YthlokfcejojdhaaDoor
