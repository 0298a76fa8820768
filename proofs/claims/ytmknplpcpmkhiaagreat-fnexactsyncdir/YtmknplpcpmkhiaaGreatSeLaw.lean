/- The exact law of SyncDir, walked. -/
import Derived.Test.YtmknplpcpmkhiaaGreatDlOn
import Derived.Test.YtmknplpcpmkhiaaGreatSeSpc2
namespace Go.Proofs.YtmknplpcpmkhiaaGreat
open Go.RowKit Go.Maps
set_option linter.unusedVariables false

theorem ln_sd {x : S_Disk} (hx : okX x) (h : LnDisk x 1048576) : LnDisk (sdF x).1 1048576 := by
  refine ⟨Nat.le_trans (List.length_filter_le _ _) h.1, ?_, Nat.zero_le _⟩
  have := nms_short hx x.f4.length
  rw [List.take_length] at this
  show (nms x.f3 x.f4).length ≤ _
  omega

set_option maxRecDepth 20000 in
set_option maxHeartbeats 8000000 in
theorem syncdir_law (x : S_Disk) (v2 v3 v4 : Value) (w : World) (hs : SmDisk x) (hg : gDisk x) (h : RdDisk w x v2 v3 v4) :
    Calls Tryz.prog 5 #[.agg #[.int .i64 x.f0, .int .i64 x.f1, v2, v3, v4]] w fun e w' => e = .returned (.bool true) ∧ Below w.heap.size w w' := by
  obtain ⟨W0, hW0⟩ : ∃ W, W = w.alloc (.cells #[.int .i64 x.f0, .int .i64 x.f1, v2, v3, v4] 58) := ⟨_, rfl⟩
  have HW0 : Hid (w.alloc (.cells #[.int .i64 x.f0, .int .i64 x.f1, v2, v3, v4] 58) = W0) := hW0.symm
  have HS0 : Hid (W0.heap.size = w.heap.size + 1) := by show _ = _; rw [hW0]; simp
  have HB0 : Hid (Below w.heap.size w W0) := by rw [hW0]; exact (Below.refl _ _).alloc (Nat.le_refl _) _
  have HR0 : Hid (RdDisk W0 x v2 v3 v4) := h.keep HB0.out (Nat.le_refl _)
  have HBX : Hid (∀ W', Below W0.heap.size W0 W' → W'.cell? ⟨w.heap.size, 0, none⟩ = some (.int .i64 x.f0) ∧ W'.cell? ⟨w.heap.size, 1, none⟩ = some (.int .i64 x.f1) ∧ W'.cell? ⟨w.heap.size, 2, none⟩ = some (v2) ∧ W'.cell? ⟨w.heap.size, 3, none⟩ = some (v3) ∧ W'.cell? ⟨w.heap.size, 4, none⟩ = some (v4)) := fun W' hbel => by
    have hk : W'.heap[w.heap.size]? = some (.cells #[.int .i64 x.f0, .int .i64 x.f1, v2, v3, v4] 58) := by rw [hbel.block _ (by rw [HS0.out]; exact Nat.lt_succ_self _), hW0]; exact alloc_at _ _
    exact disk_cellL hk
  have HRD : Hid (∀ W', Below W0.heap.size W0 W' → RdDisk W' x v2 v3 v4) := fun W' hbel => HR0.out.keep hbel (Nat.le_refl _)
  have HDN : Hid (∀ W', Below W0.heap.size W0 W' → Below w.heap.size w W') := fun W' hbel => HB0.out.trans (hbel.mono (by rw [HS0.out]; exact Nat.le_succ _))
  have HSM : Hid (SmDisk x) := hs
  have HGD : Hid (gDisk x) := hg
  clear hW0 h hs hg
  go_enter Tryz.func5, Tryz.ntmps5
  go_wp2_with fail
  rw [HW0.out]
  refine (szDisk_c x 1048576 v2 v3 v4 _ (by decide) (by decide) HSM.out HR0.out).mono ?_
  rintro e w1 ⟨rfl, b1⟩
  have HC1 : Hid (Below W0.heap.size W0 w1) := b1
  clear b1
  have hzz : szF (zDisk x) 1048576 = szF (zDisk x) 1048576 := rfl
  generalize hz : szF (zDisk x) 1048576 = z at hzz ⊢
  clear hzz
  have HZ : Hid (szF (zDisk x) 1048576 = z) := hz
  clear hz
  by_cases hneg : z < 0
  · go_wp2
    go_ret
    exact ⟨rfl, HDN.out _ HC1.out⟩
  have hsmall : zDisk x ≤ 1048576 := sz_small (by rw [HZ.out]; exact hneg)
  have HLN : Hid (LnDisk x 1048576) := ln_disk hsmall
  have HBN : Hid (Bnd x) := bnd_disk hsmall HSM.out HGD.out
  clear hsmall
  obtain ⟨e0, e1, e2, e3, e4⟩ := HBX.out w1 HC1.out
  go_wp2_with fail
  refine (toDisk_c x v2 v3 v4 _ HLN.out (HRD.out _ HC1.out)).mono ?_
  rintro e w2 ⟨u2, u3, u4, rfl, how, b2⟩
  obtain ⟨p2, cp2, hvp2, hlp2, hnp2⟩ := own_slice how.1; subst hvp2; obtain ⟨p3, cp3, hvp3, hlp3, hnp3⟩ := own_slice how.2.1; subst hvp3; obtain ⟨p4, cp4, hvp4, hlp4, hnp4⟩ := own_slice how.2.2; subst hvp4; 
  have HC2 : Hid (Below W0.heap.size W0 w2) := HC1.out.trans (b2.mono HC1.out.size)
  have HO2 : Hid (OwDisk w2 w1.heap.size x (.slice p2 x.f2.length cp2) (.slice p3 x.f3.length cp3) (.slice p4 x.f4.length cp4)) := how
  have HCP : Hid (x.f3.length ≤ cp3 ∧ x.f4.length ≤ cp4) := ⟨hlp3, hlp4⟩
  clear b2 how hlp2 hlp3 hlp4 hnp2 hnp3 hnp4 e0 e1 e2 e3 e4
  go_wp2_with fail
  refine (specSyncDir_c x p2 p3 p4 cp2 cp3 cp4  w2 HBN.out HO2.out.rd HCP.out.1 HCP.out.2).mono ?_
  rintro e w3 ⟨y, code, s2, cs2, s3, cs3, s4, cs4, rfl, ho, b3, hf⟩
  have HF : Hid ((okX x ∧ y = (sdF x).1 ∧ code = (sdF x).2) ∨ (¬ okX x ∧ y = bare 0 0 ∧ code = 1)) := hf
  have HLY : Hid (LnDisk y 1048576) := by
    rcases hf with ⟨hok, rfl, _⟩ | ⟨_, rfl, _⟩
    · exact ln_sd hok HLN.out
    · exact ln_bare 0 0
  have HC3 : Hid (Below W0.heap.size W0 w3) := HC2.out.trans (b3.mono HC2.out.size)
  obtain ⟨WW, hWW⟩ : ∃ W, W = w3.alloc (.cells #[.int .i64 y.f0, .int .i64 y.f1, .slice s2 y.f2.length cs2, .slice s3 y.f3.length cs3, .slice s4 y.f4.length cs4] 28) := ⟨_, rfl⟩
  have HWW : Hid (w3.alloc (.cells #[.int .i64 y.f0, .int .i64 y.f1, .slice s2 y.f2.length cs2, .slice s3 y.f3.length cs3, .slice s4 y.f4.length cs4] 28) = WW) := hWW.symm
  have HSW : Hid (WW.heap.size = w3.heap.size + 1) := by show _ = _; rw [hWW]; simp
  have HB3W : Hid (Below w3.heap.size w3 WW) := by rw [hWW]; exact (Below.refl _ _).alloc (Nat.le_refl _) _
  have HCW : Hid (Below W0.heap.size W0 WW) := HC3.out.trans (HB3W.out.mono HC3.out.size)
  have HYW : Hid (∀ W', Below WW.heap.size WW W' → W'.cell? ⟨w3.heap.size, 0, none⟩ = some (.int .i64 y.f0) ∧ W'.cell? ⟨w3.heap.size, 1, none⟩ = some (.int .i64 y.f1) ∧ W'.cell? ⟨w3.heap.size, 2, none⟩ = some (.slice s2 y.f2.length cs2) ∧ W'.cell? ⟨w3.heap.size, 3, none⟩ = some (.slice s3 y.f3.length cs3) ∧ W'.cell? ⟨w3.heap.size, 4, none⟩ = some (.slice s4 y.f4.length cs4)) := fun W' hbel => by
    have hk : W'.heap[w3.heap.size]? = some (.cells #[.int .i64 y.f0, .int .i64 y.f1, .slice s2 y.f2.length cs2, .slice s3 y.f3.length cs3, .slice s4 y.f4.length cs4] 28) := by rw [hbel.block _ (by rw [HSW.out]; exact Nat.lt_succ_self _), hWW]; exact alloc_at _ _
    exact disk_cellL hk
  have HYR : Hid (∀ W', Below WW.heap.size WW W' → RdDisk W' y (.slice s2 y.f2.length cs2) (.slice s3 y.f3.length cs3) (.slice s4 y.f4.length cs4)) := fun W' hbel => (ho.keep HB3W.out (Nat.le_refl _)).keep hbel (Nat.le_refl _)
  clear ho b3 hf hWW HO2 HCP
  obtain ⟨e0, e1, e2, e3, e4⟩ := HBX.out w3 HC3.out
  have e0' : ∀ o, (w3.alloc o).cell? ⟨w.heap.size, 0, none⟩ = some (.int .i64 x.f0) := fun o => cell_alloc e0
  have e1' : ∀ o, (w3.alloc o).cell? ⟨w.heap.size, 1, none⟩ = some (.int .i64 x.f1) := fun o => cell_alloc e1
  have e2' : ∀ o, (w3.alloc o).cell? ⟨w.heap.size, 2, none⟩ = some (v2) := fun o => cell_alloc e2
  have e3' : ∀ o, (w3.alloc o).cell? ⟨w.heap.size, 3, none⟩ = some (v3) := fun o => cell_alloc e3
  have e4' : ∀ o, (w3.alloc o).cell? ⟨w.heap.size, 4, none⟩ = some (v4) := fun o => cell_alloc e4
  go_wp2_with fail
  rw [HWW.out]
  refine (toDisk_c x v2 v3 v4 _ HLN.out (HRD.out _ HCW.out)).mono ?_
  rintro e w4 ⟨u2, u3, u4, rfl, how, b2⟩
  obtain ⟨q2, cq2, hvq2, hlq2, hnq2⟩ := own_slice how.1; subst hvq2; obtain ⟨q3, cq3, hvq3, hlq3, hnq3⟩ := own_slice how.2.1; subst hvq3; obtain ⟨q4, cq4, hvq4, hlq4, hnq4⟩ := own_slice how.2.2; subst hvq4; 
  have HW4 : Hid (Below WW.heap.size WW w4) := b2
  have HC4 : Hid (Below W0.heap.size W0 w4) := HCW.out.trans (b2.mono HCW.out.size)
  obtain ⟨WX, hWX⟩ : ∃ W, W = w4.alloc (.cells #[.int .i64 x.f0, .int .i64 x.f1, .slice q2 x.f2.length cq2, .slice q3 x.f3.length cq3, .slice q4 x.f4.length cq4] 28) := ⟨_, rfl⟩
  have HWX : Hid (w4.alloc (.cells #[.int .i64 x.f0, .int .i64 x.f1, .slice q2 x.f2.length cq2, .slice q3 x.f3.length cq3, .slice q4 x.f4.length cq4] 28) = WX) := hWX.symm
  have HSX : Hid (WX.heap.size = w4.heap.size + 1) := by show _ = _; rw [hWX]; simp
  have HBb : Hid (Below w4.heap.size w4 WX) := by rw [hWX]; exact (Below.refl _ _).alloc (Nat.le_refl _) _
  have HCX : Hid (Below W0.heap.size W0 WX) := HC4.out.trans (HBb.out.mono HC4.out.size)
  have HWXW : Hid (Below WW.heap.size WW WX) := HW4.out.trans (HBb.out.mono HW4.out.size)
  have HOX : Hid (OwDisk WX WW.heap.size x (.slice q2 x.f2.length cq2) (.slice q3 x.f3.length cq3) (.slice q4 x.f4.length cq4)) := how.keep HBb.out (Nat.le_refl _)
  have HXX : Hid (∀ W', Below WX.heap.size WX W' → W'.cell? ⟨w4.heap.size, 0, none⟩ = some (.int .i64 x.f0) ∧ W'.cell? ⟨w4.heap.size, 1, none⟩ = some (.int .i64 x.f1) ∧ W'.cell? ⟨w4.heap.size, 2, none⟩ = some (.slice q2 x.f2.length cq2) ∧ W'.cell? ⟨w4.heap.size, 3, none⟩ = some (.slice q3 x.f3.length cq3) ∧ W'.cell? ⟨w4.heap.size, 4, none⟩ = some (.slice q4 x.f4.length cq4)) := fun W' hbel => by
    have hk : W'.heap[w4.heap.size]? = some (.cells #[.int .i64 x.f0, .int .i64 x.f1, .slice q2 x.f2.length cq2, .slice q3 x.f3.length cq3, .slice q4 x.f4.length cq4] 28) := by rw [hbel.block _ (by rw [HSX.out]; exact Nat.lt_succ_self _), hWX]; exact alloc_at _ _
    exact disk_cellL hk
  have HQ4 : Hid (q4 = none → cq4 = 0) := hnq4
  obtain ⟨f0, f1, f2, f3, f4⟩ := HXX.out WX (Below.refl _ _)
  clear b2 how hlq2 hlq3 hlq4 hnq2 hnq3 hnq4 e0 e1 e2 e3 e4 e0' e1' e2' e3' e4' hWX
  go_wp2_with fail
  rw [HWX.out]
  refine (implSyncDir_c x q2 q3 q4 cq2 cq3 cq4  WX HBN.out HOX.out.rd HQ4.out).mono ?_
  rintro e w5 ⟨y', code', u2, u3, u4, rfl, ho, b5, hf⟩
  obtain ⟨rfl, rfl⟩ : y = y' ∧ code = code' := on_one HF.out hf
  obtain ⟨g2, cg2, hvg2, hlg2, hng2⟩ := own_slice ho.1; subst hvg2; obtain ⟨g3, cg3, hvg3, hlg3, hng3⟩ := own_slice ho.2.1; subst hvg3; obtain ⟨g4, cg4, hvg4, hlg4, hng4⟩ := own_slice ho.2.2; subst hvg4; 
  obtain ⟨WG, hWG⟩ : ∃ W, W = w5.alloc (.cells #[.int .i64 y.f0, .int .i64 y.f1, .slice g2 y.f2.length cg2, .slice g3 y.f3.length cg3, .slice g4 y.f4.length cg4] 28) := ⟨_, rfl⟩
  have HWG : Hid (w5.alloc (.cells #[.int .i64 y.f0, .int .i64 y.f1, .slice g2 y.f2.length cg2, .slice g3 y.f3.length cg3, .slice g4 y.f4.length cg4] 28) = WG) := hWG.symm
  have HBG : Hid (Below w5.heap.size w5 WG) := by rw [hWG]; exact (Below.refl _ _).alloc (Nat.le_refl _) _
  have HY6 : Hid (Below WX.heap.size WX WG) := b5.trans (HBG.out.mono b5.size)
  have HC6 : Hid (Below W0.heap.size W0 WG) := HCX.out.trans (HY6.out.mono HCX.out.size)
  have HV6 : Hid (Below WW.heap.size WW WG) := HWXW.out.trans (HY6.out.mono HWXW.out.size)
  have HG6 : Hid (OwDisk WG WX.heap.size y (.slice g2 y.f2.length cg2) (.slice g3 y.f3.length cg3) (.slice g4 y.f4.length cg4)) := ho.keep HBG.out (Nat.le_refl _)
  have HN6 : Hid (WG.heap[w5.heap.size]? = some (.cells #[.int .i64 y.f0, .int .i64 y.f1, .slice g2 y.f2.length cg2, .slice g3 y.f3.length cg3, .slice g4 y.f4.length cg4] 28)) := by rw [hWG]; exact alloc_at _ _
  have HGL : Hid (∀ u ∈ ([.slice g2 y.f2.length cg2, .slice g3 y.f3.length cg3, .slice g4 y.f4.length cg4] : List Value), ∀ k, u.ownBlock = some k → WX.heap.size ≤ k ∧ k < w5.heap.size) := own_blocks ho
  have HXL : Hid (WX.heap.size ≤ w5.heap.size) := b5.size
  obtain ⟨t0, t1, t2, t3, t4⟩ := HYW.out w5 (HWXW.out.trans (b5.mono HWXW.out.size))
  have t0' : ∀ o, (w5.alloc o).cell? ⟨w3.heap.size, 0, none⟩ = some (.int .i64 y.f0) := fun o => cell_alloc t0
  have t1' : ∀ o, (w5.alloc o).cell? ⟨w3.heap.size, 1, none⟩ = some (.int .i64 y.f1) := fun o => cell_alloc t1
  have t2' : ∀ o, (w5.alloc o).cell? ⟨w3.heap.size, 2, none⟩ = some (.slice s2 y.f2.length cs2) := fun o => cell_alloc t2
  have t3' : ∀ o, (w5.alloc o).cell? ⟨w3.heap.size, 3, none⟩ = some (.slice s3 y.f3.length cs3) := fun o => cell_alloc t3
  have t4' : ∀ o, (w5.alloc o).cell? ⟨w3.heap.size, 4, none⟩ = some (.slice s4 y.f4.length cs4) := fun o => cell_alloc t4
  clear ho b5 hf hlg2 hlg3 hlg4 hng2 hng3 hng4 hWG f0 f1 f2 f3 f4
  go_wp2_with fail
  rw [HWG.out]
  refine (eqDisk_c y _ _ _ _ _ _ WG HLY.out HG6.out.rd (HYR.out _ HV6.out)).mono ?_
  rintro e w6 ⟨rfl, b6⟩
  have HCk : Hid (Below W0.heap.size W0 w6) := HC6.out.trans (b6.mono HC6.out.size)
  have HVk : Hid (Below WW.heap.size WW w6) := HV6.out.trans (b6.mono HV6.out.size)
  have HGk : Hid (OwDisk w6 WX.heap.size y (.slice g2 y.f2.length cg2) (.slice g3 y.f3.length cg3) (.slice g4 y.f4.length cg4)) := HG6.out.keep b6 (Nat.le_refl _)
  have HNk : Hid (w6.heap[w5.heap.size]? = some (.cells #[.int .i64 y.f0, .int .i64 y.f1, .slice g2 y.f2.length cg2, .slice g3 y.f3.length cg3, .slice g4 y.f4.length cg4] 28)) := (b6.block _ (lt_of_some HN6.out)).trans HN6.out
  have HYk : Hid (Below WX.heap.size WX w6) := HY6.out.trans (b6.mono HY6.out.size)
  clear b6 t0 t1 t2 t3 t4 t0' t1' t2' t3' t4'
  go_upto_region 10 with fail
  refine wp_genD (fun W => Hid (Below WX.heap.size WX W) ∧ Hid (Below W0.heap.size W0 W) ∧ Hid (Below WW.heap.size WW W) ∧ Hid (OwDisk W WX.heap.size y (.slice g2 y.f2.length cg2) (.slice g3 y.f3.length cg3) (.slice g4 y.f4.length cg4)) ∧ Hid (W.heap[w5.heap.size]? = some (.cells #[.int .i64 y.f0, .int .i64 y.f1, .slice g2 y.f2.length cg2, .slice g3 y.f3.length cg3, .slice g4 y.f4.length cg4] 28))) ⟨HYk.out, HCk.out, HVk.out, HGk.out, HNk.out⟩ ?_
  rintro W1 ⟨HY1, HC1', HV1, HG1, HN1⟩
  refine wp_region_held_drew (S := (fun W => (W.cell? ⟨w.heap.size, 0, none⟩ = some (.int .i64 x.f0) ∧ W.cell? ⟨w.heap.size, 1, none⟩ = some (.int .i64 x.f1) ∧ W.cell? ⟨w.heap.size, 2, none⟩ = some (v2) ∧ W.cell? ⟨w.heap.size, 3, none⟩ = some (v3) ∧ W.cell? ⟨w.heap.size, 4, none⟩ = some (v4)) ∧ (W.cell? ⟨w4.heap.size, 0, none⟩ = some (.int .i64 x.f0) ∧ W.cell? ⟨w4.heap.size, 1, none⟩ = some (.int .i64 x.f1) ∧ W.cell? ⟨w4.heap.size, 2, none⟩ = some (.slice q2 x.f2.length cq2) ∧ W.cell? ⟨w4.heap.size, 3, none⟩ = some (.slice q3 x.f3.length cq3) ∧ W.cell? ⟨w4.heap.size, 4, none⟩ = some (.slice q4 x.f4.length cq4)))) (by kernel_rfl) ⟨HBX.out _ HC1'.out.drew, HXX.out _ HY1.out.drew⟩ (fun hHeld => ?_)
  refine wpAnyH_take (i := 0) (v := ?_) rfl (by kernel_rfl) (by kernel_rfl) (by kernel_rfl) (fun _ _ _ h => h) (Or.inl ⟨by rfl, ?_⟩) hHeld ?_
  rotate_left
  · (intro W hSW; obtain ⟨⟨a0, a1, a2, a3, a4⟩, ⟨b0, b1, b2, b3, b4⟩⟩ := hSW; go_simp; try with_reducible rfl)
  simp only [Act.put, List.setIfInBounds_toArray, List.set_cons_zero, List.set_cons_succ, List.getElem_toArray, List.getElem_cons_zero]
  refine wpAnyH_take (i := 1) (v := ?_) rfl (by kernel_rfl) (by kernel_rfl) (by kernel_rfl) (fun _ _ _ h => h) (Or.inl ⟨by rfl, ?_⟩) hHeld ?_
  rotate_left
  · (intro W hSW; obtain ⟨⟨a0, a1, a2, a3, a4⟩, ⟨b0, b1, b2, b3, b4⟩⟩ := hSW; go_simp; try with_reducible rfl)
  simp only [Act.put, List.setIfInBounds_toArray, List.set_cons_zero, List.set_cons_succ, List.getElem_toArray, List.getElem_cons_zero, List.getElem_cons_succ]
  refine wpAnyH_ready (rs := [2]) (by kernel_rfl) (by simp) ?_
  refine AllReadyH.cons rfl (fun K hK => ?_) AllReadyH.nil
  go_simp
  go_at_call 26
  refine (toDisk_c x v2 v3 v4 _ HLN.out ((HRD.out _ HC1'.out).keep (Below.refl W1.heap.size W1).drew (Nat.le_refl _))).mono ?_
  rintro e W2 ⟨u2, u3, u4, rfl, how, b2⟩
  replace b2 := bel_undrew b2
  obtain ⟨r2, cr2, hvr2, hlr2, hnr2⟩ := own_slice how.1; subst hvr2; obtain ⟨r3, cr3, hvr3, hlr3, hnr3⟩ := own_slice how.2.1; subst hvr3; obtain ⟨r4, cr4, hvr4, hlr4, hnr4⟩ := own_slice how.2.2; subst hvr4; 
  have HC2' : Hid (Below W0.heap.size W0 W2) := HC1'.out.trans (b2.mono HC1'.out.size)
  have HY2 : Hid (Below WX.heap.size WX W2) := HY1.out.trans (b2.mono HY1.out.size)
  have HV2 : Hid (Below WW.heap.size WW W2) := HV1.out.trans (b2.mono HV1.out.size)
  have HG2 : Hid (OwDisk W2 WX.heap.size y (.slice g2 y.f2.length cg2) (.slice g3 y.f3.length cg3) (.slice g4 y.f4.length cg4)) := HG1.out.keep b2 (Nat.le_refl _)
  have HN2 : Hid (W2.heap[w5.heap.size]? = some (.cells #[.int .i64 y.f0, .int .i64 y.f1, .slice g2 y.f2.length cg2, .slice g3 y.f3.length cg3, .slice g4 y.f4.length cg4] 28)) := (b2.block _ (lt_of_some HN1.out)).trans HN1.out
  have HO2' : Hid (RdDisk W2 x (.slice r2 x.f2.length cr2) (.slice r3 x.f3.length cr3) (.slice r4 x.f4.length cr4)) := how.rd
  clear b2 how hlr2 hlr3 hlr4 hnr2 hnr3 hnr4
  go_simp
  refine hK.out _ _ ⟨HBX.out _ HC2'.out, HXX.out _ HY2.out⟩ (fun hHeld => ?_)
  clear hK K
  refine wpAnyH_ready (rs := [3]) (by kernel_rfl) (by simp) ?_
  refine AllReadyH.cons rfl (fun K hK => ?_) AllReadyH.nil
  go_simp
  go_at_call 28
  refine (eqDisk_c x _ _ _ _ _ _ W2 HLN.out (HOX.out.rd.keep HY2.out (Nat.le_refl _)) HO2'.out).mono ?_
  rintro e W3 ⟨rfl, b3⟩
  have HC3' : Hid (Below W0.heap.size W0 W3) := HC2'.out.trans (b3.mono HC2'.out.size)
  have HY3 : Hid (Below WX.heap.size WX W3) := HY2.out.trans (b3.mono HY2.out.size)
  have HV3 : Hid (Below WW.heap.size WW W3) := HV2.out.trans (b3.mono HV2.out.size)
  have HG3 : Hid (OwDisk W3 WX.heap.size y (.slice g2 y.f2.length cg2) (.slice g3 y.f3.length cg3) (.slice g4 y.f4.length cg4)) := HG2.out.keep b3 (Nat.le_refl _)
  have HN3 : Hid (W3.heap[w5.heap.size]? = some (.cells #[.int .i64 y.f0, .int .i64 y.f1, .slice g2 y.f2.length cg2, .slice g3 y.f3.length cg3, .slice g4 y.f4.length cg4] 28)) := (b3.block _ (lt_of_some HN2.out)).trans HN2.out
  clear b3
  go_simp
  refine hK.out _ _ ⟨HBX.out _ HC3'.out, HXX.out _ HY3.out⟩ (fun hHeld => ?_)
  clear hK K
  refine wpAnyH_take (i := 4) (v := ?_) rfl (by kernel_rfl) (by kernel_rfl) (by kernel_rfl) (fun _ _ _ h => h) (Or.inl ⟨by rfl, ?_⟩) hHeld ?_
  rotate_left
  · (intro W hSW; obtain ⟨⟨a0, a1, a2, a3, a4⟩, ⟨b0, b1, b2, b3, b4⟩⟩ := hSW; go_simp; try with_reducible rfl)
  simp only [Act.put, List.setIfInBounds_toArray, List.set_cons_zero, List.set_cons_succ, List.getElem_toArray, List.getElem_cons_zero, List.getElem_cons_succ]
  refine wpAnyH_done (by kernel_rfl) ?_ _
  clear hHeld
  obtain ⟨f0, f1, f2, f3, f4⟩ := HXX.out W3 HY3.out
  go_wp2_with fail
  refine (markDisk_c x 1 _ _ _ WW.heap.size W3 HLN.out (by decide) (by decide) HV3.out.size (HOX.out.keep HY3.out (Nat.le_refl _))).mono ?_
  rintro e w7 ⟨rfl, _, hbut⟩
  have hblk := own_blocks HOX.out
  have HC7 : Hid (Below W0.heap.size W0 w7) := HC3'.out.trans (hbut.below (fun u hu k hk => Nat.le_trans HCW.out.size (hblk u hu k hk).1) HC3'.out.size)
  have HV7 : Hid (Below WW.heap.size WW w7) := HV3.out.trans (hbut.below (fun u hu k hk => (hblk u hu k hk).1) HV3.out.size)
  have HG7 : Hid (OwDisk w7 WX.heap.size y (.slice g2 y.f2.length cg2) (.slice g3 y.f3.length cg3) (.slice g4 y.f4.length cg4)) := ⟨hbut.own HG3.out.1 fun u hu k hk => (hblk u hu k hk).2, hbut.own HG3.out.2.1 fun u hu k hk => (hblk u hu k hk).2, hbut.own HG3.out.2.2 fun u hu k hk => (hblk u hu k hk).2⟩
  have HN7 : Hid (w7.heap[w5.heap.size]? = some (.cells #[.int .i64 y.f0, .int .i64 y.f1, .slice g2 y.f2.length cg2, .slice g3 y.f3.length cg3, .slice g4 y.f4.length cg4] 28)) := (hbut.block _ (lt_of_some HN3.out) (fun u hu e => by have h1 := (hblk u hu _ e).2; have h2 := HXL.out; omega)).trans HN3.out
  have hk7 : (0 : Int) ≤ 1 + ((x.f2.length * 3 : Nat) : Int) + ((x.f3.length * 2 : Nat) : Int) + ((x.f4.length * 4 : Nat) : Int) := by omega
  generalize (1 : Int) + ((x.f2.length * 3 : Nat) : Int) + ((x.f3.length * 2 : Nat) : Int) + ((x.f4.length * 4 : Nat) : Int) = K at hk7 ⊢
  have hk8 : ¬ K < 0 := by omega
  clear hbut hblk hk7 f0 f1 f2 f3 f4 HG3 HN3 HV3 HY3 HC3'
  obtain ⟨a0, a1, a2, a3, a4⟩ := disk_cellL HN7.out
  obtain ⟨t0, t1, t2, t3, t4⟩ := HYW.out w7 HV7.out
  go_wp2_with fail
  refine (eqDisk_c y _ _ _ _ _ _ w7 HLY.out HG7.out.rd (HYR.out _ HV7.out)).mono ?_
  rintro e w8 ⟨rfl, b8⟩
  have HC8 : Hid (Below W0.heap.size W0 w8) := HC7.out.trans (b8.mono HC7.out.size)
  have HV8 : Hid (Below WW.heap.size WW w8) := HV7.out.trans (b8.mono HV7.out.size)
  have HG8 : Hid (OwDisk w8 WX.heap.size y (.slice g2 y.f2.length cg2) (.slice g3 y.f3.length cg3) (.slice g4 y.f4.length cg4)) := HG7.out.keep b8 (Nat.le_refl _)
  have HN8 : Hid (w8.heap[w5.heap.size]? = some (.cells #[.int .i64 y.f0, .int .i64 y.f1, .slice g2 y.f2.length cg2, .slice g3 y.f3.length cg3, .slice g4 y.f4.length cg4] 28)) := (b8.block _ (lt_of_some HN7.out)).trans HN7.out
  clear b8 a0 a1 a2 a3 a4 t0 t1 t2 t3 t4
  obtain ⟨a0, a1, a2, a3, a4⟩ := disk_cellL HN8.out
  have HZ8 : Hid (WX.heap.size ≤ w8.heap.size) := Nat.le_of_lt (Nat.lt_of_le_of_lt HXL.out (lt_of_some HN8.out))
  go_wp2_with fail
  refine (markDisk_c y 1 _ _ _ WX.heap.size w8 HLY.out (by decide) (by decide) HZ8.out HG8.out).mono ?_
  rintro e w9 ⟨rfl, hmo, hbut⟩
  obtain ⟨Kc, hKc⟩ : ∃ Kc : Int, 1 + ((y.f2.length * 3 : Nat) : Int) + ((y.f3.length * 2 : Nat) : Int) + ((y.f4.length * 4 : Nat) : Int) = Kc := ⟨_, rfl⟩
  have hkc' : ¬ Kc < 0 := by omega
  have HKc : Hid ((1 + ((y.f2.length * 3 : Nat) : Int) + ((y.f3.length * 2 : Nat) : Int) + ((y.f4.length * 4 : Nat) : Int) : Int) = Kc) := hKc
  rw [hKc]
  clear hKc
  have HC9 : Hid (Below W0.heap.size W0 w9) := HC8.out.trans (hbut.below (fun u hu k hk => Nat.le_trans HCX.out.size (HGL.out u hu k hk).1) HC8.out.size)
  have HV9 : Hid (Below WW.heap.size WW w9) := HV8.out.trans (hbut.below (fun u hu k hk => Nat.le_trans HWXW.out.size (HGL.out u hu k hk).1) HV8.out.size)
  have HM9 : Hid (MoDisk w9 WX.heap.size y 1 (.slice g2 y.f2.length cg2) (.slice g3 y.f3.length cg3) (.slice g4 y.f4.length cg4)) := hmo
  have HN9 : Hid (w9.heap[w5.heap.size]? = some (.cells #[.int .i64 y.f0, .int .i64 y.f1, .slice g2 y.f2.length cg2, .slice g3 y.f3.length cg3, .slice g4 y.f4.length cg4] 28)) := (hbut.block _ (lt_of_some HN8.out) (fun u hu e => by have h1 := (HGL.out u hu _ e).2; omega)).trans HN8.out
  clear hmo hbut a0 a1 a2 a3 a4 HG8 HN8 HV8 HC8
  obtain ⟨a0, a1, a2, a3, a4⟩ := disk_cellL HN9.out
  go_wp2_with fail
  refine (heldDisk_c y 1 _ _ _ w9 HLY.out (by decide) (by decide) HM9.out.rd).mono ?_
  rintro e wa ⟨rfl, ba⟩
  have HCa : Hid (Below W0.heap.size W0 wa) := HC9.out.trans (ba.mono HC9.out.size)
  have HVa : Hid (Below WW.heap.size WW wa) := HV9.out.trans (ba.mono HV9.out.size)
  have HMa : Hid (MoDisk wa WX.heap.size y 1 (.slice g2 y.f2.length cg2) (.slice g3 y.f3.length cg3) (.slice g4 y.f4.length cg4)) := HM9.out.keep ba (Nat.le_refl _)
  have HNa : Hid (wa.heap[w5.heap.size]? = some (.cells #[.int .i64 y.f0, .int .i64 y.f1, .slice g2 y.f2.length cg2, .slice g3 y.f3.length cg3, .slice g4 y.f4.length cg4] 28)) := (ba.block _ (lt_of_some HN9.out)).trans HN9.out
  rw [HKc.out]
  clear ba a0 a1 a2 a3 a4 HM9 HN9 HV9 HC9
  obtain ⟨e0, e1, e2, e3, e4⟩ := HBX.out wa HCa.out
  go_wp2_with fail
  refine (toDisk_c x v2 v3 v4 _ HLN.out (HRD.out _ HCa.out)).mono ?_
  rintro e wb ⟨u2, u3, u4, rfl, how, bb⟩
  obtain ⟨r2, cr2, hvr2, hlr2, hnr2⟩ := own_slice how.1; subst hvr2; obtain ⟨r3, cr3, hvr3, hlr3, hnr3⟩ := own_slice how.2.1; subst hvr3; obtain ⟨r4, cr4, hvr4, hlr4, hnr4⟩ := own_slice how.2.2; subst hvr4; 
  have HCb : Hid (Below W0.heap.size W0 wb) := HCa.out.trans (bb.mono HCa.out.size)
  have HVb : Hid (Below WW.heap.size WW wb) := HVa.out.trans (bb.mono HVa.out.size)
  have HMb : Hid (MoDisk wb WX.heap.size y 1 (.slice g2 y.f2.length cg2) (.slice g3 y.f3.length cg3) (.slice g4 y.f4.length cg4)) := HMa.out.keep bb (Nat.le_refl _)
  have HNb : Hid (wb.heap[w5.heap.size]? = some (.cells #[.int .i64 y.f0, .int .i64 y.f1, .slice g2 y.f2.length cg2, .slice g3 y.f3.length cg3, .slice g4 y.f4.length cg4] 28)) := (bb.block _ (lt_of_some HNa.out)).trans HNa.out
  have HRb : Hid (RdDisk wb x (.slice r2 x.f2.length cr2) (.slice r3 x.f3.length cr3) (.slice r4 x.f4.length cr4)) := how.rd
  have HR4 : Hid (r4 = none → cr4 = 0) := hnr4
  clear bb how hlr2 hlr3 hlr4 hnr2 hnr3 hnr4 e0 e1 e2 e3 e4 HCa HVa HMa HNa
  go_wp2_with fail
  refine (implSyncDir_c x r2 r3 r4 cr2 cr3 cr4  wb HBN.out HRb.out HR4.out).mono ?_
  rintro e wc ⟨y', code', u2, u3, u4, rfl, ho, bc, hf⟩
  obtain ⟨rfl, rfl⟩ : y = y' ∧ code = code' := on_one HF.out hf
  obtain ⟨h2, ch2, hvh2, hlh2, hnh2⟩ := own_slice ho.1; subst hvh2; obtain ⟨h3, ch3, hvh3, hlh3, hnh3⟩ := own_slice ho.2.1; subst hvh3; obtain ⟨h4, ch4, hvh4, hlh4, hnh4⟩ := own_slice ho.2.2; subst hvh4; 
  obtain ⟨WH, hWH⟩ : ∃ W, W = wc.alloc (.cells #[.int .i64 y.f0, .int .i64 y.f1, .slice h2 y.f2.length ch2, .slice h3 y.f3.length ch3, .slice h4 y.f4.length ch4] 28) := ⟨_, rfl⟩
  have HWH : Hid (wc.alloc (.cells #[.int .i64 y.f0, .int .i64 y.f1, .slice h2 y.f2.length ch2, .slice h3 y.f3.length ch3, .slice h4 y.f4.length ch4] 28) = WH) := hWH.symm
  have HBH : Hid (Below wc.heap.size wc WH) := by rw [hWH]; exact (Below.refl _ _).alloc (Nat.le_refl _) _
  have HbH : Hid (Below wb.heap.size wb WH) := bc.trans (HBH.out.mono bc.size)
  have HCd : Hid (Below W0.heap.size W0 WH) := HCb.out.trans (HbH.out.mono HCb.out.size)
  have HVd : Hid (Below WW.heap.size WW WH) := HVb.out.trans (HbH.out.mono HVb.out.size)
  have HMd : Hid (MoDisk WH WX.heap.size y 1 (.slice g2 y.f2.length cg2) (.slice g3 y.f3.length cg3) (.slice g4 y.f4.length cg4)) := HMb.out.keep HbH.out (Nat.le_refl _)
  have HNd : Hid (WH.heap[w5.heap.size]? = some (.cells #[.int .i64 y.f0, .int .i64 y.f1, .slice g2 y.f2.length cg2, .slice g3 y.f3.length cg3, .slice g4 y.f4.length cg4] 28)) := (HbH.out.block _ (lt_of_some HNb.out)).trans HNb.out
  have HHd : Hid (RdDisk WH y (.slice h2 y.f2.length ch2) (.slice h3 y.f3.length ch3) (.slice h4 y.f4.length ch4)) := ho.rd.keep HBH.out (Nat.le_refl _)
  have HPd : Hid (WH.heap[wc.heap.size]? = some (.cells #[.int .i64 y.f0, .int .i64 y.f1, .slice h2 y.f2.length ch2, .slice h3 y.f3.length ch3, .slice h4 y.f4.length ch4] 28)) := by rw [hWH]; exact alloc_at _ _
  obtain ⟨t0, t1, t2, t3, t4⟩ := HYW.out wc (HVb.out.trans (bc.mono HVb.out.size))
  have t0' : ∀ o, (wc.alloc o).cell? ⟨w3.heap.size, 0, none⟩ = some (.int .i64 y.f0) := fun o => cell_alloc t0
  have t1' : ∀ o, (wc.alloc o).cell? ⟨w3.heap.size, 1, none⟩ = some (.int .i64 y.f1) := fun o => cell_alloc t1
  have t2' : ∀ o, (wc.alloc o).cell? ⟨w3.heap.size, 2, none⟩ = some (.slice s2 y.f2.length cs2) := fun o => cell_alloc t2
  have t3' : ∀ o, (wc.alloc o).cell? ⟨w3.heap.size, 3, none⟩ = some (.slice s3 y.f3.length cs3) := fun o => cell_alloc t3
  have t4' : ∀ o, (wc.alloc o).cell? ⟨w3.heap.size, 4, none⟩ = some (.slice s4 y.f4.length cs4) := fun o => cell_alloc t4
  clear ho bc hf hlh2 hlh3 hlh4 hnh2 hnh3 hnh4 hWH HCb HVb HMb HNb
  go_wp2_with fail
  rw [HWH.out]
  refine (eqDisk_c y _ _ _ _ _ _ WH HLY.out HHd.out (HYR.out _ HVd.out)).mono ?_
  rintro e wd ⟨rfl, bd⟩
  have HCe : Hid (Below W0.heap.size W0 wd) := HCd.out.trans (bd.mono HCd.out.size)
  have HMe : Hid (MoDisk wd WX.heap.size y 1 (.slice g2 y.f2.length cg2) (.slice g3 y.f3.length cg3) (.slice g4 y.f4.length cg4)) := HMd.out.keep bd (Nat.le_refl _)
  have HNe : Hid (wd.heap[w5.heap.size]? = some (.cells #[.int .i64 y.f0, .int .i64 y.f1, .slice g2 y.f2.length cg2, .slice g3 y.f3.length cg3, .slice g4 y.f4.length cg4] 28)) := (bd.block _ (lt_of_some HNd.out)).trans HNd.out
  clear bd t0 t1 t2 t3 t4 t0' t1' t2' t3' t4' HCd HVd HMd HNd HHd HPd
  obtain ⟨a0, a1, a2, a3, a4⟩ := disk_cellL HNe.out
  go_wp2_with fail
  refine (heldDisk_c y 1 _ _ _ wd HLY.out (by decide) (by decide) HMe.out.rd).mono ?_
  rintro e we ⟨rfl, be⟩
  rw [HKc.out]
  have HCf : Hid (Below W0.heap.size W0 we) := HCe.out.trans (be.mono HCe.out.size)
  clear be
  go_wp2
  go_ret
  exact ⟨rfl, HDN.out _ HCf.out⟩

end Go.Proofs.YtmknplpcpmkhiaaGreat
