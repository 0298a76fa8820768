/- ShowSnap of the specification. -/
import Derived.Test.YtocjijognmhfmaaDoorKvMath
namespace Go.Proofs.YtocjijognmhfmaaDoor
open Go.RowKit
set_option linter.unusedVariables false
set_option linter.unusedSimpArgs false

theorem lt_of_someV {w : World} {k : Nat} {o : Obj} (h : w.heap[k]? = some o) : k < w.heap.size := (Array.getElem?_eq_some_iff.1 h).1

set_option maxRecDepth 20000 in
set_option maxHeartbeats 2000000 in
theorem specShowS_c (x : S_Snap) (w : World) (hz : x.f2.size ≤ 1048576) : Calls Tryd.prog 12 #[.agg #[.int .i64 x.f0, .int .i64 x.f1, .string x.f2]] w fun e w' => e = .returned (.string (snT x)) ∧ Below w.heap.size w w' := by
  obtain ⟨W0, hW0⟩ : ∃ W, W = w.alloc (.cells #[.int .i64 x.f0, .int .i64 x.f1, .string x.f2] 25) := ⟨_, rfl⟩
  have HW0 : Hid (w.alloc (.cells #[.int .i64 x.f0, .int .i64 x.f1, .string x.f2] 25) = W0) := hW0.symm
  have HX0 : Hid (W0.heap[w.heap.size]? = some (.cells #[.int .i64 x.f0, .int .i64 x.f1, .string x.f2] 25)) := by rw [hW0]; exact alloc_lastV _ _
  have HB0 : Hid (Below w.heap.size w W0) := by rw [hW0]; exact (Below.refl _ _).alloc (Nat.le_refl _) _
  clear hW0
  obtain ⟨x0, x1, x2⟩ := box3V HX0.out
  have HZ : Hid (x.f2.size ≤ 1048576) := hz
  go_enter Tryd.func12, Tryd.ntmps12
  go_wp2_with fail
  rw [HW0.out]
  refine (specSnapOk_c x W0 (by unfold maxLen; have := HZ.out; omega)).mono ?_
  rintro e w1 ⟨rfl, b1⟩
  have HX1 : Hid (w1.heap[w.heap.size]? = some (.cells #[.int .i64 x.f0, .int .i64 x.f1, .string x.f2] 25)) := (b1.block _ (lt_of_someV HX0.out)).trans HX0.out
  have HB1 : Hid (Below w.heap.size w w1) := HB0.out.trans (b1.mono HB0.out.size)
  clear b1 x0 x1 x2
  obtain ⟨d0, d1, d2⟩ := box3V HX1.out
  by_cases hk : okS1 x
  rotate_left
  · have HF : Hid (snT x = ⟨#[]⟩) := by show _ = _; unfold snT; rw [if_neg hk]
    by_cases hs : okS x
    · rw [decide_eq_true hs]
      have h0 : x.f0 = 0 := ((okS_iff x).1 hs).elim (fun h => absurd h hk) (fun h => h.1)
      have hb : (x.f0 == 0) = true := by rw [h0]; rfl
      clear hk hs h0
      go_wp2
      go_ret
      exact ⟨by rw [HF.out]; rfl, HB1.out⟩
    · rw [decide_eq_false hs]
      clear hk hs
      go_wp2
      go_ret
      exact ⟨by rw [HF.out]; rfl, HB1.out⟩
  rw [decide_eq_true ((okS_iff x).2 (.inl hk))]
  have HK : Hid (okS1 x) := hk
  have HF : Hid (snT x = frameOf (hdS x) ++ x.f2) := by show _ = _; unfold snT; rw [if_pos hk]
  have hb : (x.f0 == 0) = false := by have := hk.1.1; rw [beq_eq_false_iff_ne]; omega
  clear hk
  go_upto_region 3 with fail
  refine wp_region_told (fun W => Below w1.heap.size w1 W) (by kernel_rfl) (by kernel_rfl) ((Below.refl w1.heap.size w1).drew) ?_
  refine told_pure (some 11) (.pointer (some ⟨w.heap.size, 0, none⟩)) rfl (by kernel_rfl) (fun _ => by kernel_rfl) ?_
  refine told_load (some 12) ⟨w.heap.size, 0, none⟩ (.int .i64 x.f0) rfl (by kernel_rfl) (fun _ => by kernel_rfl) (fun _ hS => atB hS d0) ?_
  refine told_call (some 13) (.string (strOfNums (beL x.f0 4))) 26 #[.int .i64 x.f0, .int .i64 4] rfl (by kernel_rfl) (fun _ => by kernel_rfl) (fun W hS => below_S (sfix4 x.f0 W (by have := HK.out.1; omega) (by have := HK.out.1; omega)) hS) ?_
  refine told_pure (some 14) (.pointer (some ⟨w.heap.size, 1, none⟩)) rfl (by kernel_rfl) (fun _ => by kernel_rfl) ?_
  refine told_load (some 15) ⟨w.heap.size, 1, none⟩ (.int .i64 x.f1) rfl (by kernel_rfl) (fun _ => by kernel_rfl) (fun _ hS => atB hS d1) ?_
  refine told_call (some 16) (.string (strOfNums (beL x.f1 4))) 26 #[.int .i64 x.f1, .int .i64 4] rfl (by kernel_rfl) (fun _ => by kernel_rfl) (fun W hS => below_S (sfix4 x.f1 W (by have := HK.out.2.1; omega) (by have := HK.out.2.1; omega)) hS) ?_
  refine told_run (some 17) (.string (hd1 x)) (Op.stringOp .add (strOfNums (beL x.f0 4)) (strOfNums (beL x.f1 4))) rfl (by kernel_rfl) (fun _ => by kernel_rfl) (fun W _ => run_string_add_sum W _ _ (by rw [be_sizeV, be_sizeV]; omega)) ?_
  refine told_pure (some 18) (.pointer (some ⟨w.heap.size, 2, none⟩)) rfl (by kernel_rfl) (fun _ => by kernel_rfl) ?_
  refine told_load (some 19) ⟨w.heap.size, 2, none⟩ (.string x.f2) rfl (by kernel_rfl) (fun _ => by kernel_rfl) (fun _ hS => atB hS d2) ?_
  refine told_pure (some 20) (.int .i64 (x.f2.size : Int)) rfl (by kernel_rfl) (fun _ => by kernel_rfl) ?_
  refine told_call (some 21) (.string (strOfNums (beL x.f2.size 4))) 26 #[.int .i64 (x.f2.size : Int), .int .i64 4] rfl (by kernel_rfl) (fun _ => by kernel_rfl) (fun W hS => below_S (sfix4 x.f2.size W (by omega) (by have := HK.out.2.2; omega)) hS) ?_
  refine told_run (some 22) (.string (hd2 x)) (Op.stringOp .add (hd1 x) (strOfNums (beL x.f2.size 4))) rfl (by kernel_rfl) (fun _ => by kernel_rfl) (fun W _ => run_string_add_sum W _ _ (by rw [hd1_size, be_sizeV]; omega)) ?_
  refine told_pure (some 23) (.pointer (some ⟨w.heap.size, 2, none⟩)) rfl (by kernel_rfl) (fun _ => by kernel_rfl) ?_
  refine told_load (some 24) ⟨w.heap.size, 2, none⟩ (.string x.f2) rfl (by kernel_rfl) (fun _ => by kernel_rfl) (fun _ hS => atB hS d2) ?_
  refine told_call (some 25) (.string (shaOut x.f2)) 27 #[.string x.f2] rfl (by kernel_rfl) (fun _ => by kernel_rfl) (fun W hS => below_S (specSha2 x.f2 W (by have := HK.out.2.2; omega)) hS) ?_
  refine told_run (some 26) (.string (hdS x)) (Op.stringOp .add (hd2 x) (shaOut x.f2)) rfl (by kernel_rfl) (fun _ => by kernel_rfl) (fun W _ => run_string_add_sum W _ _ (by rw [hd2_size, sha_size]; omega)) ?_
  refine told_call (some 27) (.string (frameOf (hdS x))) 25 #[.string (hdS x)] rfl (by kernel_rfl) (fun _ => by kernel_rfl) (fun W hS => below_S (specFr (hdS x) W (by rw [hdS_size]; omega) (by rw [hdS_size]; omega)) hS) ?_
  refine told_pure (some 28) (.pointer (some ⟨w.heap.size, 2, none⟩)) rfl (by kernel_rfl) (fun _ => by kernel_rfl) ?_
  refine told_load (some 29) ⟨w.heap.size, 2, none⟩ (.string x.f2) rfl (by kernel_rfl) (fun _ => by kernel_rfl) (fun _ hS => atB hS d2) ?_
  refine told_run (some 30) (.string (frameOf (hdS x) ++ x.f2)) (Op.stringOp .add (frameOf (hdS x)) x.f2) rfl (by kernel_rfl) (fun _ => by kernel_rfl) (fun W _ => run_string_add_sum W _ _ (by rw [frameOf_size, hdS_size]; have := HK.out.2.2; omega)) ?_
  refine told_pure (some 2) (.string (frameOf (hdS x) ++ x.f2)) rfl (by kernel_rfl) (fun _ => by kernel_rfl) ?_
  refine told_nil ?_
  intro w2 hS2
  simp only [Act.put, List.setIfInBounds_toArray, List.set_cons_zero, List.set_cons_succ]
  have HB2 : Hid (Below w.heap.size w w2) := HB1.out.trans (Below.mono hS2 HB1.out.size)
  clear hS2 d0 d1 d2
  go_wp2
  go_ret
  exact ⟨by rw [HF.out]; rfl, HB2.out⟩

end Go.Proofs.YtocjijognmhfmaaDoor
