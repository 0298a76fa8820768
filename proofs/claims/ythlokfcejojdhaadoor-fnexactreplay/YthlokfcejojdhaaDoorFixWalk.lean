/- The walks of the two that tell a number in so many bytes, the highest first. -/
import Derived.Test.YthlokfcejojdhaaDoorOwnLaws
import Derived.Test.YthlokfcejojdhaaDoorFixMath
import Derived.OpenShut
namespace Go.Proofs.YthlokfcejojdhaaDoor
open Go.RowKit
set_option linter.unusedVariables false

theorem add_be (n : Int) (k : Nat) (hk : k ≤ 7) : ∀ w, (Op.stringOp .add (strOfNums [fq n k % 256]) (strOfNums (beL n k))).run Tryd.prog w = .ok (.string (strOfNums (beL n (k + 1)))) w := fun w =>
  run_add_nums [fq n k % 256] (beL n k) (by rw [beL_length]; simp; omega) w

theorem be_cell (n : Int) (W k : Nat) (h : k < W) : ((List.replicate (W - k) 0 ++ beL n k).map (Value.int .u8))[W - 1 - k]? = some (.int .u8 0) := by
  rw [List.map_append, List.getElem?_append_left (by simp; omega), List.map_replicate, List.getElem?_replicate_of_lt (by omega)]

set_option maxRecDepth 20000 in
set_option maxHeartbeats 400000 in
theorem specFix_yes (n : Int) (W : Nat) (w : World) (h0 : 0 ≤ n) (h1 : n ≤ 9223372036854775807) (hW1 : 1 ≤ W) (hW7 : W ≤ 7) (hq : fq n W ≤ 0) :
    Calls Tryd.prog 84 #[.int .i64 n, .int .i64 W] w fun e w' => e = .returned (.string (strOfNums (beL n W))) ∧ Below w.heap.size w w' := by
  have HQ : Hid (fq n W ≤ 0) := hq
  clear hq
  go_enter Tryd.func84, Tryd.ntmps84
  go_wp2
  go_loopw [0, 5, 6] (fun m v i wr => ∃ k : Nat, k ≤ W ∧ i = .int .i64 k ∧ m = .int .i64 (fq n k) ∧ v = .string (strOfNums (beL n k)) ∧ Below w.heap.size w wr) (fun _ _ i _ => W - (intOf i).toNat)
  case atStart => exact ⟨0, Nat.zero_le _, rfl, rfl, rfl, Below.refl _ _⟩
  case round =>
    obtain ⟨k, hk, rfl, rfl, rfl, hbel⟩ := hrel
    have hsz := hbel.size
    have f0 := fq_nonneg n h0 k
    have f1 := fq_le n h0 k
    by_cases hlt : k < W
    · have hco := conv_one wr
      have had := add_be n k (by omega)
      go_wp2
      go_roundw
      case rel => exact ⟨k + 1, by omega, by go_num, rfl, rfl, hbel.alloc (by omega) _⟩
      case measure => simp [intOf]; omega
    · have : k = W := by omega
      subst this
      have hz := HQ.out
      go_wp2
      go_ret
      exact ⟨rfl, hbel⟩

set_option maxRecDepth 20000 in
set_option maxHeartbeats 400000 in
theorem implFix_yes (n : Int) (W : Nat) (w : World) (h0 : 0 ≤ n) (h1 : n ≤ 9223372036854775807) (hW1 : 1 ≤ W) (hW7 : W ≤ 7) (hq : fq n W ≤ 0) :
    Calls Tryd.prog 44 #[.int .i64 n, .int .i64 W] w fun e w' => e = .returned (.string (strOfNums (beL n W))) ∧ Below w.heap.size w w' := by
  have hne := fq_ne n W h0 hq
  clear hq
  obtain ⟨i0, hi, hz0, hz1, hz2⟩ := info_parts info5
  go_enter Tryd.func44, Tryd.ntmps44
  go_wp2_with (first | (at_make; refine wpList_make_full _ rfl _ _ 22 rfl w.heap.size 5 i0 (.int .u8 0) 1 Tryd.underlying22 hi hz0 hz1 .i64 .i64 W W W rfl rfl rfl rfl (by rw [hz2]; omega) (by unfold maxLen; omega) (Nat.le_refl _) ?_) | go_in)
  intro w0 hown0 hgrow0
  have hbel0 : Below w.heap.size w w0 := (Below.refl _ _).grown hgrow0 (Nat.le_refl _) (by simp)
  clear hgrow0
  have hown1 : w0.ownsRow w.heap.size 5 1 (.slice (some ⟨w.heap.size, 0, none⟩) W W) W ((List.replicate (W - 0) 0 ++ beL n 0).map (Value.int .u8)) := by
    simpa [toList_madeCells_one, beL] using hown0
  clear hown0
  go_wp2
  go_loopw [24] (fun i wr => ∃ k : Nat, k ≤ W ∧ i = .int .i64 k ∧ wr.ownsRow w.heap.size 5 1 (.slice (some ⟨w.heap.size, 0, none⟩) W W) W ((List.replicate (W - k) 0 ++ beL n k).map (Value.int .u8)) ∧ Below w.heap.size w wr) (fun i _ => W - (intOf i).toNat)
  case atStart => exact ⟨0, Nat.zero_le _, rfl, hown1, hbel0⟩
  case round =>
    obtain ⟨k, hk, rfl, hown, hbel⟩ := hrel
    have hsz := hbel.size
    by_cases hlt : k < W
    · have hcl : wr.cell? ⟨w.heap.size, W - 1 - k, none⟩ = some (.int .u8 0) := by
        rw [hown.cellAt (W - 1 - k) (by omega)]
        exact be_cell n W k hlt
      have hfz := hown.frozenAt (W - 1 - k)
      go_wp2
      have hst := hown.stored (W - 1 - k) (.int .u8 (n / 2 ^ (8 * k) % 256))
      have R1 : (wr.setCell ⟨w.heap.size, W - 1 - k, none⟩ (.int .u8 (n / 2 ^ (8 * k) % 256))).ownsRow w.heap.size 5 1 (.slice (some ⟨w.heap.size, 0, none⟩) W W) W ((List.replicate (W - (k + 1)) 0 ++ beL n (k + 1)).map (Value.int .u8)) := by
        rw [← be_set n W k hlt, List.map_set, fq_eq n k]
        exact hst.1
      have R2 : Below w.heap.size w (wr.setCell ⟨w.heap.size, W - 1 - k, none⟩ (.int .u8 (n / 2 ^ (8 * k) % 256))) := hbel.setCell (Nat.le_refl _) _
      go_roundw
      case rel => first | exact ⟨k + 1, by omega, by go_num, R1, R2⟩ | ((repeat apply Exists.intro); exact ⟨⟨k + 1, by omega, by go_num, R1, R2⟩, rfl⟩)
      case measure => simp [intOf]; omega
    · have hkW : k = W := by omega
      subst hkW
      have hown2 : wr.ownsRow w.heap.size 5 1 (.slice (some ⟨w.heap.size, 0, none⟩) k k) k ((beL n k).map (Value.int .u8)) := by
        simpa using hown
      have hconv := run_string_of_own (beL n k) (by rw [beL_length]) hown2
      clear hown hown1 hown2
      go_wp2
      go_ret
      exact ⟨rfl, hbel⟩

set_option maxRecDepth 20000 in
set_option maxHeartbeats 400000 in
theorem specFix_out (n v : Int) (w : World) (h : v < 1 ∨ 7 < v ∨ n < 0) :
    Calls Tryd.prog 84 #[.int .i64 n, .int .i64 v] w fun e w' => e = .returned (.string ⟨#[]⟩) ∧ Below w.heap.size w w' := by
  by_cases h1 : v < 1
  · go_enter Tryd.func84, Tryd.ntmps84
    go_wp2
    go_ret
    exact ⟨rfl, Below.refl _ _⟩
  · by_cases h7 : 7 < v
    · go_enter Tryd.func84, Tryd.ntmps84
      go_wp2
      go_ret
      exact ⟨rfl, Below.refl _ _⟩
    · have hn : n < 0 := by omega
      go_enter Tryd.func84, Tryd.ntmps84
      go_wp2
      go_ret
      exact ⟨rfl, Below.refl _ _⟩

set_option maxRecDepth 20000 in
set_option maxHeartbeats 400000 in
theorem implFix_out (n v : Int) (w : World) (h : v < 1 ∨ 7 < v ∨ n < 0) :
    Calls Tryd.prog 44 #[.int .i64 n, .int .i64 v] w fun e w' => e = .returned (.string ⟨#[]⟩) ∧ Below w.heap.size w w' := by
  by_cases h1 : v < 1
  · go_enter Tryd.func44, Tryd.ntmps44
    go_wp2
    go_ret
    exact ⟨rfl, Below.refl _ _⟩
  · by_cases h7 : 7 < v
    · go_enter Tryd.func44, Tryd.ntmps44
      go_wp2
      go_ret
      exact ⟨rfl, Below.refl _ _⟩
    · have hn : n < 0 := by omega
      go_enter Tryd.func44, Tryd.ntmps44
      go_wp2
      go_ret
      exact ⟨rfl, Below.refl _ _⟩

set_option maxRecDepth 20000 in
set_option maxHeartbeats 400000 in
theorem specFix_no (n : Int) (W : Nat) (w : World) (h0 : 0 ≤ n) (h1 : n ≤ 9223372036854775807) (hW1 : 1 ≤ W) (hW7 : W ≤ 7) (hq : 0 < fq n W) :
    Calls Tryd.prog 84 #[.int .i64 n, .int .i64 W] w fun e w' => e = .returned (.string ⟨#[]⟩) ∧ Below w.heap.size w w' := by
  have HQ : Hid (0 < fq n W) := hq
  clear hq
  go_enter Tryd.func84, Tryd.ntmps84
  go_wp2
  go_loopw [0, 5, 6] (fun m v i wr => ∃ k : Nat, k ≤ W ∧ i = .int .i64 k ∧ m = .int .i64 (fq n k) ∧ v = .string (strOfNums (beL n k)) ∧ Below w.heap.size w wr) (fun _ _ i _ => W - (intOf i).toNat)
  case atStart => exact ⟨0, Nat.zero_le _, rfl, rfl, rfl, Below.refl _ _⟩
  case round =>
    obtain ⟨k, hk, rfl, rfl, rfl, hbel⟩ := hrel
    have hsz := hbel.size
    have f0 := fq_nonneg n h0 k
    have f1 := fq_le n h0 k
    by_cases hlt : k < W
    · have hco := conv_one wr
      have had := add_be n k (by omega)
      go_wp2
      go_roundw
      case rel => exact ⟨k + 1, by omega, by go_num, rfl, rfl, hbel.alloc (by omega) _⟩
      case measure => simp [intOf]; omega
    · have : k = W := by omega
      subst this
      have hz := HQ.out
      go_wp2
      go_ret
      exact ⟨rfl, hbel⟩

set_option maxRecDepth 20000 in
set_option maxHeartbeats 400000 in
theorem implFix_no (n : Int) (W : Nat) (w : World) (h0 : 0 ≤ n) (hW1 : 1 ≤ W) (hW7 : W ≤ 7) (hq : 0 < fq n W) :
    Calls Tryd.prog 44 #[.int .i64 n, .int .i64 W] w fun e w' => e = .returned (.string ⟨#[]⟩) ∧ Below w.heap.size w w' := by
  have hne := fq_ne' n W hq
  clear hq
  go_enter Tryd.func44, Tryd.ntmps44
  go_wp2
  go_ret
  exact ⟨rfl, Below.refl _ _⟩

end Go.Proofs.YthlokfcejojdhaaDoor
