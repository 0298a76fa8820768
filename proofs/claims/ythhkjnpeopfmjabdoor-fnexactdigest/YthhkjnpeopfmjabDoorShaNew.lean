/- The walk of what begins the program's own sum. -/
import Derived.Test.YthhkjnpeopfmjabDoorShaTell
import Derived.Deep.WholeRow
namespace Go.Proofs.YthhkjnpeopfmjabDoor
open Go.RowKit
set_option linter.unusedVariables false
attribute [local go_sem ↓] Go.wp_at_zero Go.wp_at_succ

/-- Where the sum begins. -/
def H0 : V8 := ⟨1779033703, 3144134277, 1013904242, 2773480762, 1359893119, 2600822924, 528734635, 1541459225⟩

/-- The cells at the beginning. -/
def cells0 : List Value := sCells H0.l (List.replicate 64 0) 0

def zero73 : Array Value := (sCells (List.replicate 8 0) (List.replicate 64 0) 0).toArray

theorem info_sum : (Tryd.prog.info? 63).map (fun i => (i.zero, i.size)) = some (some (.agg zero73), 73) := by kernel_rfl

set_option maxRecDepth 20000 in
set_option maxHeartbeats 2000000 in
theorem new_any (w : World) :
    Calls Tryd.prog 28 #[] w fun e w' => e = .returned (.agg cells0.toArray) ∧ Below w.heap.size w w' := by
  obtain ⟨hz, hi⟩ := zero_of_info info_sum
  go_enter Tryd.func28, Tryd.ntmps28
  have hz73 : zero73.size = 73 := by kernel_rfl
  have hset : (((((((zero73.setIfInBounds 0 (.int .u32 1779033703)).setIfInBounds 1 (.int .u32 3144134277)).setIfInBounds 2 (.int .u32 1013904242)).setIfInBounds 3 (.int .u32 2773480762)).setIfInBounds 4 (.int .u32 1359893119)).setIfInBounds 5 (.int .u32 2600822924)).setIfInBounds 6 (.int .u32 528734635)).setIfInBounds 7 (.int .u32 1541459225) = cells0.toArray := by kernel_rfl
  have H1 : Hid (cells0.toArray.size = 73) := by show _ = _; kernel_rfl
  have H2 : Hid ((Tryd.prog.info? 63).map (·.size) = some cells0.toArray.size) := by show _ = _; rw [H1.out]; exact hi
  have H3 : Hid (cells0.toArray.all (·.oneCell') = true) := by show _ = _; kernel_rfl
  have H4 : Hid (zero73.size = cells0.toArray.size) := by show _ = _; rw [H1.out, hz73]
  have H5 : Hid ((Tryd.prog.info? 63).map (·.size) = some cells0.length) := by show _ = _; rw [← List.size_toArray]; exact H2.out
  clear hi
  go_wp2_with (first
    | (refine wpList_store_mid (by rfl) 63 (.tmp 0) (.tmp 2) (by rfl) w.heap.size 0 cells0.toArray (by rfl) (by rfl) (new_there _ _ _ _ H4.out) H2.out H3.out ?_)
    | fail)
  have hrs := World.rangeAt_setCells_same (w.alloc (.cells zero73 63)) w.heap.size 0 cells0 (new_there _ _ _ _ (by rw [H4.out, List.size_toArray]))
  have hld := run_loadVar_mid (P := Tryd.prog) ((w.alloc (.cells zero73 63)).setCells w.heap.size 0 cells0) w.heap.size 0 63 cells0 _ hrs Tryd.underlying63 rfl H5.out
  refine bodyPost_ret (v := .agg cells0.toArray) ?_ rfl ⟨rfl, below_setCells _ (Nat.le_refl _) _ _ _ ((Below.refl _ _).alloc (Nat.le_refl _) _)⟩
  rw [results_one_cell rfl]
  show ((asAddr (.pointer (some ⟨w.heap.size, 0, none⟩))).run Tryd.prog ((w.alloc (.cells zero73 63)).setCells w.heap.size 0 cells0)).andThen _ = _
  simp only [asAddr, Sem.run_pure, Result.andThen_ok, hld]

end Go.Proofs.YthhkjnpeopfmjabDoor
