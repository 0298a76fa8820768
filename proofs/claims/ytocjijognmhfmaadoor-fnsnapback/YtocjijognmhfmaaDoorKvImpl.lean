/- ShowSnap of the program. -/
import Derived.Test.YtocjijognmhfmaaDoorKvSpec
namespace Go.Proofs.YtocjijognmhfmaaDoor
open Go.RowKit
set_option linter.unusedVariables false
set_option linter.unusedSimpArgs false

set_option maxRecDepth 20000 in
set_option maxHeartbeats 2000000 in
theorem snapHead_c (x : S_Snap) (w : World) (hk : okS1 x) (hG : 2 < w.heap.size) (hT : Tab w kL) : Calls Tryd.prog 20 #[.agg #[.int .i64 x.f0, .int .i64 x.f1, .string x.f2]] w fun e w' => e = .returned (.string (hdS x)) ∧ Below w.heap.size w w' := by
  have hz : x.f2.size ≤ 1048576 := by have := hk.2.2; omega
  have HK : Hid (okS1 x) := hk
  have HT0 : Hid (Tab w kL) := hT
  have HG0 : Hid (2 < w.heap.size) := hG
  clear hT hG hk
  obtain ⟨W0, hW0⟩ : ∃ W, W = w.alloc (.cells #[.int .i64 x.f0, .int .i64 x.f1, .string x.f2] 25) := ⟨_, rfl⟩
  have HW0 : Hid (w.alloc (.cells #[.int .i64 x.f0, .int .i64 x.f1, .string x.f2] 25) = W0) := hW0.symm
  have HX0 : Hid (W0.heap[w.heap.size]? = some (.cells #[.int .i64 x.f0, .int .i64 x.f1, .string x.f2] 25)) := by rw [hW0]; exact alloc_lastV _ _
  have HB0 : Hid (Below w.heap.size w W0) := by rw [hW0]; exact (Below.refl _ _).alloc (Nat.le_refl _) _
  clear hW0
  obtain ⟨x0, x1, x2⟩ := box3V HX0.out
  have HZ : Hid (x.f2.size ≤ 1048576) := hz
  go_enter Tryd.func20, Tryd.ntmps20
  have HT : Hid (Tab W0 kL) := HT0.out.below HB0.out HG0.out
  have HG : Hid (2 < W0.heap.size) := Nat.lt_of_lt_of_le HG0.out HB0.out.size
  go_upto_region 1 with fail
  rw [HW0.out]
  refine wp_region_told (fun W => Below W0.heap.size W0 W) (by kernel_rfl) (by kernel_rfl) ((Below.refl W0.heap.size W0).drew) ?_
  refine told_pure (some 3) (.pointer (some ⟨w.heap.size, 0, none⟩)) rfl (by kernel_rfl) (fun _ => by kernel_rfl) ?_
  refine told_load (some 4) ⟨w.heap.size, 0, none⟩ (.int .i64 x.f0) rfl (by kernel_rfl) (fun _ => by kernel_rfl) (fun _ hS => atB hS x0) ?_
  refine told_call (some 5) (.string (strOfNums (beL x.f0 4))) 35 #[.int .i64 x.f0, .int .i64 4] rfl (by kernel_rfl) (fun _ => by kernel_rfl) (fun W hS => below_S (ifix4 x.f0 W (by have := HK.out.1; omega) (by have := HK.out.1; omega)) hS) ?_
  refine told_pure (some 6) (.pointer (some ⟨w.heap.size, 1, none⟩)) rfl (by kernel_rfl) (fun _ => by kernel_rfl) ?_
  refine told_load (some 7) ⟨w.heap.size, 1, none⟩ (.int .i64 x.f1) rfl (by kernel_rfl) (fun _ => by kernel_rfl) (fun _ hS => atB hS x1) ?_
  refine told_call (some 8) (.string (strOfNums (beL x.f1 4))) 35 #[.int .i64 x.f1, .int .i64 4] rfl (by kernel_rfl) (fun _ => by kernel_rfl) (fun W hS => below_S (ifix4 x.f1 W (by have := HK.out.2.1; omega) (by have := HK.out.2.1; omega)) hS) ?_
  refine told_run (some 9) (.string (hd1 x)) (Op.stringOp .add (strOfNums (beL x.f0 4)) (strOfNums (beL x.f1 4))) rfl (by kernel_rfl) (fun _ => by kernel_rfl) (fun W _ => run_string_add_sum W _ _ (by rw [be_sizeV, be_sizeV]; omega)) ?_
  refine told_pure (some 10) (.pointer (some ⟨w.heap.size, 2, none⟩)) rfl (by kernel_rfl) (fun _ => by kernel_rfl) ?_
  refine told_load (some 11) ⟨w.heap.size, 2, none⟩ (.string x.f2) rfl (by kernel_rfl) (fun _ => by kernel_rfl) (fun _ hS => atB hS x2) ?_
  refine told_pure (some 12) (.int .i64 (x.f2.size : Int)) rfl (by kernel_rfl) (fun _ => by kernel_rfl) ?_
  refine told_call (some 13) (.string (strOfNums (beL x.f2.size 4))) 35 #[.int .i64 (x.f2.size : Int), .int .i64 4] rfl (by kernel_rfl) (fun _ => by kernel_rfl) (fun W hS => below_S (ifix4 x.f2.size W (by omega) (by have := HK.out.2.2; omega)) hS) ?_
  refine told_run (some 14) (.string (hd2 x)) (Op.stringOp .add (hd1 x) (strOfNums (beL x.f2.size 4))) rfl (by kernel_rfl) (fun _ => by kernel_rfl) (fun W _ => run_string_add_sum W _ _ (by rw [hd1_size, be_sizeV]; omega)) ?_
  refine told_pure (some 15) (.pointer (some ⟨w.heap.size, 2, none⟩)) rfl (by kernel_rfl) (fun _ => by kernel_rfl) ?_
  refine told_load (some 16) ⟨w.heap.size, 2, none⟩ (.string x.f2) rfl (by kernel_rfl) (fun _ => by kernel_rfl) (fun _ hS => atB hS x2) ?_
  refine told_call (some 17) (.string (shaOut x.f2)) 37 #[.string x.f2] rfl (by kernel_rfl) (fun _ => by kernel_rfl) (fun W hS => below_S (implSha2 x.f2 W (by have := HK.out.2.2; omega) (Nat.lt_of_lt_of_le HG.out hS.size) (HT.out.below hS HG.out)) hS) ?_
  refine told_run (some 18) (.string (hdS x)) (Op.stringOp .add (hd2 x) (shaOut x.f2)) rfl (by kernel_rfl) (fun _ => by kernel_rfl) (fun W _ => run_string_add_sum W _ _ (by rw [hd2_size, sha_size]; omega)) ?_
  refine told_pure (some 2) (.string (hdS x)) rfl (by kernel_rfl) (fun _ => by kernel_rfl) ?_
  refine told_nil ?_
  intro w2 hS2
  simp only [Act.put, List.setIfInBounds_toArray, List.set_cons_zero, List.set_cons_succ]
  have HB2 : Hid (Below w.heap.size w w2) := HB0.out.trans (Below.mono hS2 HB0.out.size)
  clear hS2 x0 x1 x2
  go_wp2
  go_ret
  exact ⟨rfl, HB2.out⟩

set_option maxRecDepth 20000 in
set_option maxHeartbeats 2000000 in
theorem implShowS_c (x : S_Snap) (w : World) (hz : x.f2.size ≤ 1048576) (hG : 2 < w.heap.size) (hT : Tab w kL) : Calls Tryd.prog 8 #[.agg #[.int .i64 x.f0, .int .i64 x.f1, .string x.f2]] w fun e w' => e = .returned (.string (snT x)) ∧ Below w.heap.size w w' := by
  have HT0 : Hid (Tab w kL) := hT
  have HG0 : Hid (2 < w.heap.size) := hG
  clear hT hG
  obtain ⟨W0, hW0⟩ : ∃ W, W = w.alloc (.cells #[.int .i64 x.f0, .int .i64 x.f1, .string x.f2] 25) := ⟨_, rfl⟩
  have HW0 : Hid (w.alloc (.cells #[.int .i64 x.f0, .int .i64 x.f1, .string x.f2] 25) = W0) := hW0.symm
  have HX0 : Hid (W0.heap[w.heap.size]? = some (.cells #[.int .i64 x.f0, .int .i64 x.f1, .string x.f2] 25)) := by rw [hW0]; exact alloc_lastV _ _
  have HB0 : Hid (Below w.heap.size w W0) := by rw [hW0]; exact (Below.refl _ _).alloc (Nat.le_refl _) _
  clear hW0
  obtain ⟨x0, x1, x2⟩ := box3V HX0.out
  have HZ : Hid (x.f2.size ≤ 1048576) := hz
  go_enter Tryd.func8, Tryd.ntmps8
  go_wp2_with fail
  rw [HW0.out]
  refine (implSnapOk_c x W0 (by unfold maxLen; have := HZ.out; omega)).mono ?_
  rintro e w1 ⟨rfl, b1⟩
  have HX1 : Hid (w1.heap[w.heap.size]? = some (.cells #[.int .i64 x.f0, .int .i64 x.f1, .string x.f2] 25)) := (b1.block _ (lt_of_someV HX0.out)).trans HX0.out
  have HB1 : Hid (Below w.heap.size w w1) := HB0.out.trans (b1.mono HB0.out.size)
  clear b1 x0 x1 x2
  obtain ⟨d0, d1, d2⟩ := box3V HX1.out
  have HT : Hid (Tab w1 kL) := HT0.out.below HB1.out HG0.out
  have HG : Hid (2 < w1.heap.size) := Nat.lt_of_lt_of_le HG0.out HB1.out.size
  have HE := fun W => eqS0 x W
  by_cases hk : okS1 x
  rotate_left
  · have HF : Hid (snT x = ⟨#[]⟩) := by show _ = _; unfold snT; rw [if_neg hk]
    by_cases hs : okS x
    · rw [decide_eq_true hs]
      have h0 := ((okS_iff x).1 hs).elim (fun h => absurd h hk) id
      rw [decide_eq_true h0] at HE
      clear hk hs h0
      go_wp2
      go_ret
      exact ⟨by rw [HF.out]; rfl, HB1.out⟩
    · rw [decide_eq_false hs]
      clear hk hs HE
      go_wp2
      go_ret
      exact ⟨by rw [HF.out]; rfl, HB1.out⟩
  rw [decide_eq_true ((okS_iff x).2 (.inl hk))]
  rw [decide_eq_false (fun h : x.f0 = 0 ∧ x.f1 = 0 ∧ x.f2 = ⟨#[]⟩ => by have := hk.1.1; have := h.1; omega)] at HE
  have HK : Hid (okS1 x) := hk
  have HF : Hid (snT x = frameOf (hdS x) ++ x.f2) := by show _ = _; unfold snT; rw [if_pos hk]
  clear hk
  go_upto_region 3 with fail
  refine wp_region_told (fun W => Below w1.heap.size w1 W) (by kernel_rfl) (by kernel_rfl) ((Below.refl w1.heap.size w1).drew) ?_
  refine told_loads (some 11) ⟨w.heap.size, 0, none⟩ [.int .i64 x.f0, .int .i64 x.f1, .string x.f2] rfl (by kernel_rfl) (fun _ => by kernel_rfl) (fun _ hS => cells3V (atB hS d0) (atB hS d1) (atB hS d2)) ?_
  refine told_call (some 12) (.string (hdS x)) 20 #[.agg #[.int .i64 x.f0, .int .i64 x.f1, .string x.f2]] rfl (by kernel_rfl) (fun _ => by kernel_rfl) (fun W hS => below_S (snapHead_c x W HK.out (Nat.lt_of_lt_of_le HG.out hS.size) (HT.out.below hS HG.out)) hS) ?_
  refine told_call (some 13) (.string (frameOf (hdS x))) 19 #[.string (hdS x)] rfl (by kernel_rfl) (fun _ => by kernel_rfl) (fun W hS => below_S (implFr (hdS x) W (by rw [hdS_size]; omega) (by rw [hdS_size]; omega)) hS) ?_
  refine told_pure (some 14) (.pointer (some ⟨w.heap.size, 2, none⟩)) rfl (by kernel_rfl) (fun _ => by kernel_rfl) ?_
  refine told_load (some 15) ⟨w.heap.size, 2, none⟩ (.string x.f2) rfl (by kernel_rfl) (fun _ => by kernel_rfl) (fun _ hS => atB hS d2) ?_
  refine told_run (some 16) (.string (frameOf (hdS x) ++ x.f2)) (Op.stringOp .add (frameOf (hdS x)) x.f2) rfl (by kernel_rfl) (fun _ => by kernel_rfl) (fun W _ => run_string_add_sum W _ _ (by rw [frameOf_size, hdS_size]; have := HK.out.2.2; omega)) ?_
  refine told_pure (some 2) (.string (frameOf (hdS x) ++ x.f2)) rfl (by kernel_rfl) (fun _ => by kernel_rfl) ?_
  refine told_nil ?_
  intro w2 hS2
  simp only [Act.put, List.setIfInBounds_toArray, List.set_cons_zero, List.set_cons_succ]
  have HB2 : Hid (Below w.heap.size w w2) := HB1.out.trans (Below.mono hS2 HB1.out.size)
  clear hS2 d0 d1 d2 HE
  go_wp2
  go_ret
  exact ⟨by rw [HF.out]; rfl, HB2.out⟩

end Go.Proofs.YtocjijognmhfmaaDoor
