/- The exact law of Load, walked. -/
import Derived.Test.YtiogjmchbpmdpaaDiLoad
namespace Go.Proofs.Ytiogjmchbpmdpaa
open Go.RowKit Go.Maps
set_option linter.unusedVariables false

set_option maxRecDepth 20000 in
set_option maxHeartbeats 8000000 in
theorem load_law (x : S_Disk) (v2 v3 v4 : Value) (s : ByteArray) (w : World) (hs : SmDisk x) (hg : gDisk x) (hz : s.size ≤ maxLen) (h : RdDisk w x v2 v3 v4) :
    Calls Try.prog 6 #[.agg #[.int .i64 x.f0, .int .i64 x.f1, v2, v3, v4], .string s] w fun e w' => e = .returned (.bool true) ∧ Below w.heap.size w w' := by
  obtain ⟨W0, hW0⟩ : ∃ W, W = w.alloc (.cells #[.int .i64 x.f0, .int .i64 x.f1, v2, v3, v4] 36) := ⟨_, rfl⟩
  have HW0 : Hid (w.alloc (.cells #[.int .i64 x.f0, .int .i64 x.f1, v2, v3, v4] 36) = W0) := hW0.symm
  have HS0 : Hid (W0.heap.size = w.heap.size + 1) := by show _ = _; rw [hW0]; simp
  have HB0 : Hid (Below w.heap.size w W0) := by rw [hW0]; exact (Below.refl _ _).alloc (Nat.le_refl _) _
  have HR0 : Hid (RdDisk W0 x v2 v3 v4) := h.keep HB0.out (Nat.le_refl _)
  have HBX : Hid (∀ W', Below W0.heap.size W0 W' → W'.cell? ⟨w.heap.size, 0, none⟩ = some (.int .i64 x.f0) ∧ W'.cell? ⟨w.heap.size, 1, none⟩ = some (.int .i64 x.f1) ∧ W'.cell? ⟨w.heap.size, 2, none⟩ = some (v2) ∧ W'.cell? ⟨w.heap.size, 3, none⟩ = some (v3) ∧ W'.cell? ⟨w.heap.size, 4, none⟩ = some (v4)) := fun W' hbel => by
    have hk : W'.heap[w.heap.size]? = some (.cells #[.int .i64 x.f0, .int .i64 x.f1, v2, v3, v4] 36) := by rw [hbel.block _ (by rw [HS0.out]; exact Nat.lt_succ_self _), hW0]; exact alloc_at _ _
    exact disk_cellL hk
  have HRD : Hid (∀ W', Below W0.heap.size W0 W' → RdDisk W' x v2 v3 v4) := fun W' hbel => HR0.out.keep hbel (Nat.le_refl _)
  have HDN : Hid (∀ W', Below W0.heap.size W0 W' → Below w.heap.size w W') := fun W' hbel => HB0.out.trans (hbel.mono (by rw [HS0.out]; exact Nat.le_succ _))
  have HSM : Hid (SmDisk x) := hs
  have HGD : Hid (gDisk x) := hg
  clear hW0 h hs hg
  unfold maxLen at hz
  go_enter Try.func6, Try.ntmps6
  by_cases hlong : (1048576 : Int) < s.size
  · go_wp2
    rw [HW0.out]
    go_ret
    exact ⟨rfl, HB0.out⟩
  have hsz : s.size ≤ 1048576 := by omega
  go_wp2_with fail
  rw [HW0.out]
  refine (szDisk_c x 1048576 v2 v3 v4 _ (by decide) (by decide) HSM.out HR0.out).mono ?_
  rintro e w1 ⟨rfl, b1⟩
  have HC1 : Hid (Below W0.heap.size W0 w1) := b1
  clear b1
  have hzz : szF (zDisk x) 1048576 = szF (zDisk x) 1048576 := rfl
  generalize hz : szF (zDisk x) 1048576 = z at hzz ⊢
  clear hzz
  have HZ : Hid (szF (zDisk x) 1048576 = z) := hz
  clear hz
  by_cases hneg : z < 0
  · go_wp2
    go_ret
    exact ⟨rfl, HDN.out _ HC1.out⟩
  have hsmall : zDisk x ≤ 1048576 := sz_small (by rw [HZ.out]; exact hneg)
  have HLN : Hid (LnDisk x 1048576) := ln_disk hsmall
  have HBN : Hid (Bnd x) := bnd_disk hsmall HSM.out HGD.out
  clear hsmall
  obtain ⟨e0, e1, e2, e3, e4⟩ := HBX.out w1 HC1.out
  go_wp2_with fail
  refine (toDisk_c x v2 v3 v4 _ HLN.out (HRD.out _ HC1.out)).mono ?_
  rintro e w2 ⟨u2, u3, u4, rfl, how, b2⟩
  obtain ⟨p2, cp2, hvp2, hlp2, hnp2⟩ := own_slice how.1; subst hvp2; obtain ⟨p3, cp3, hvp3, hlp3, hnp3⟩ := own_slice how.2.1; subst hvp3; obtain ⟨p4, cp4, hvp4, hlp4, hnp4⟩ := own_slice how.2.2; subst hvp4; 
  have HC2 : Hid (Below W0.heap.size W0 w2) := HC1.out.trans (b2.mono HC1.out.size)
  have HO2 : Hid (OwDisk w2 w1.heap.size x (.slice p2 x.f2.length cp2) (.slice p3 x.f3.length cp3) (.slice p4 x.f4.length cp4)) := how
  have HCP : Hid (x.f3.length ≤ cp3 ∧ x.f4.length ≤ cp4) := ⟨hlp3, hlp4⟩
  clear b2 how hlp2 hlp3 hlp4 hnp2 hnp3 hnp4 e0 e1 e2 e3 e4
  go_wp2_with fail
  refine (specLoad_c x p2 p3 p4 cp2 cp3 cp4 s w2 HBN.out HO2.out.rd HCP.out.1 HCP.out.2 hsz).mono ?_
  intro e w3 hdo
  obtain ⟨D, B, rfl, hB, b3⟩ := hdo.val
  have HBk : Hid ((okX x ∧ D = ldS x s ∧ B = !decide (fnd x s < 0)) ∨ (¬ okX x ∧ D = ⟨#[]⟩ ∧ B = false)) := hB
  have HC3 : Hid (Below W0.heap.size W0 w3) := HC2.out.trans (b3.mono HC2.out.size)
  clear hdo hB b3 HO2 HCP
  obtain ⟨e0, e1, e2, e3, e4⟩ := HBX.out w3 HC3.out
  go_wp2_with fail
  refine (toDisk_c x v2 v3 v4 _ HLN.out (HRD.out _ HC3.out)).mono ?_
  rintro e w4 ⟨u2, u3, u4, rfl, how, b2⟩
  obtain ⟨q2, cq2, hvq2, hlq2, hnq2⟩ := own_slice how.1; subst hvq2; obtain ⟨q3, cq3, hvq3, hlq3, hnq3⟩ := own_slice how.2.1; subst hvq3; obtain ⟨q4, cq4, hvq4, hlq4, hnq4⟩ := own_slice how.2.2; subst hvq4; 
  have HC4 : Hid (Below W0.heap.size W0 w4) := HC3.out.trans (b2.mono HC3.out.size)
  obtain ⟨WX, hWX⟩ : ∃ W, W = w4.alloc (.cells #[.int .i64 x.f0, .int .i64 x.f1, .slice q2 x.f2.length cq2, .slice q3 x.f3.length cq3, .slice q4 x.f4.length cq4] 26) := ⟨_, rfl⟩
  have HWX : Hid (w4.alloc (.cells #[.int .i64 x.f0, .int .i64 x.f1, .slice q2 x.f2.length cq2, .slice q3 x.f3.length cq3, .slice q4 x.f4.length cq4] 26) = WX) := hWX.symm
  have HSX : Hid (WX.heap.size = w4.heap.size + 1) := by show _ = _; rw [hWX]; simp
  have HBb : Hid (Below w4.heap.size w4 WX) := by rw [hWX]; exact (Below.refl _ _).alloc (Nat.le_refl _) _
  have HCX : Hid (Below W0.heap.size W0 WX) := HC4.out.trans (HBb.out.mono HC4.out.size)
  have HOX : Hid (OwDisk WX w3.heap.size x (.slice q2 x.f2.length cq2) (.slice q3 x.f3.length cq3) (.slice q4 x.f4.length cq4)) := how.keep HBb.out (Nat.le_refl _)
  have HXX : Hid (∀ W', Below WX.heap.size WX W' → W'.cell? ⟨w4.heap.size, 0, none⟩ = some (.int .i64 x.f0) ∧ W'.cell? ⟨w4.heap.size, 1, none⟩ = some (.int .i64 x.f1) ∧ W'.cell? ⟨w4.heap.size, 2, none⟩ = some (.slice q2 x.f2.length cq2) ∧ W'.cell? ⟨w4.heap.size, 3, none⟩ = some (.slice q3 x.f3.length cq3) ∧ W'.cell? ⟨w4.heap.size, 4, none⟩ = some (.slice q4 x.f4.length cq4)) := fun W' hbel => by
    have hk : W'.heap[w4.heap.size]? = some (.cells #[.int .i64 x.f0, .int .i64 x.f1, .slice q2 x.f2.length cq2, .slice q3 x.f3.length cq3, .slice q4 x.f4.length cq4] 26) := by rw [hbel.block _ (by rw [HSX.out]; exact Nat.lt_succ_self _), hWX]; exact alloc_at _ _
    exact disk_cellL hk
  have HQ4 : Hid (q4 = none → cq4 = 0) := hnq4
  have f0 : WX.cell? ⟨w4.heap.size, 0, none⟩ = some (.int .i64 x.f0) := (HXX.out WX (Below.refl _ _)).1
  have f1 : WX.cell? ⟨w4.heap.size, 1, none⟩ = some (.int .i64 x.f1) := (HXX.out WX (Below.refl _ _)).2.1
  have f2 : WX.cell? ⟨w4.heap.size, 2, none⟩ = some (.slice q2 x.f2.length cq2) := (HXX.out WX (Below.refl _ _)).2.2.1
  have f3 : WX.cell? ⟨w4.heap.size, 3, none⟩ = some (.slice q3 x.f3.length cq3) := (HXX.out WX (Below.refl _ _)).2.2.2.1
  have f4 : WX.cell? ⟨w4.heap.size, 4, none⟩ = some (.slice q4 x.f4.length cq4) := (HXX.out WX (Below.refl _ _)).2.2.2.2
  clear b2 how hlq2 hlq3 hlq4 hnq2 hnq3 hnq4 e0 e1 e2 e3 e4 hWX
  go_wp2_with fail
  rw [HWX.out]
  refine (implLoad_c x q2 q3 q4 cq2 cq3 cq4 s WX HBN.out HOX.out.rd HQ4.out hsz).mono ?_
  intro e w5 hdo
  obtain ⟨D', B', rfl, hB, b3⟩ := hdo.val
  have hsame : D' = D ∧ B' = B := by
    rcases HBk.out with ⟨o1, d1, b1⟩ | ⟨o1, d1, b1⟩ <;> rcases hB with ⟨o2, d2, b2⟩ | ⟨o2, d2, b2⟩
    · exact ⟨d2.trans d1.symm, b2.trans b1.symm⟩
    · exact absurd o1 o2
    · exact absurd o2 o1
    · exact ⟨d2.trans d1.symm, b2.trans b1.symm⟩
  obtain ⟨rfl, rfl⟩ := hsame
  have HY5 : Hid (Below WX.heap.size WX w5) := b3
  have HC5 : Hid (Below W0.heap.size W0 w5) := HCX.out.trans (b3.mono HCX.out.size)
  clear hdo hB b3 f0 f1 f2 f3 f4 HBk
  go_upto_region 12 with fail
  refine wp_genD (fun W => Hid (Below WX.heap.size WX W) ∧ Hid (Below W0.heap.size W0 W)) ⟨HY5.out, HC5.out⟩ ?_
  rintro W1 ⟨HY1, HC1'⟩
  refine wp_region_held_drew (S := (fun W => (W.cell? ⟨w.heap.size, 0, none⟩ = some (.int .i64 x.f0) ∧ W.cell? ⟨w.heap.size, 1, none⟩ = some (.int .i64 x.f1) ∧ W.cell? ⟨w.heap.size, 2, none⟩ = some (v2) ∧ W.cell? ⟨w.heap.size, 3, none⟩ = some (v3) ∧ W.cell? ⟨w.heap.size, 4, none⟩ = some (v4)) ∧ (W.cell? ⟨w4.heap.size, 0, none⟩ = some (.int .i64 x.f0) ∧ W.cell? ⟨w4.heap.size, 1, none⟩ = some (.int .i64 x.f1) ∧ W.cell? ⟨w4.heap.size, 2, none⟩ = some (.slice q2 x.f2.length cq2) ∧ W.cell? ⟨w4.heap.size, 3, none⟩ = some (.slice q3 x.f3.length cq3) ∧ W.cell? ⟨w4.heap.size, 4, none⟩ = some (.slice q4 x.f4.length cq4)))) (by kernel_rfl) ⟨HBX.out _ HC1'.out.drew, HXX.out _ HY1.out.drew⟩ (fun hHeld => ?_)
  refine wpAnyH_take (i := 0) (v := ?_) rfl (by kernel_rfl) (by kernel_rfl) (by kernel_rfl) (fun _ _ _ h => h) (Or.inl ⟨by rfl, ?_⟩) hHeld ?_
  rotate_left
  · (intro W hSW; obtain ⟨⟨a0, a1, a2, a3, a4⟩, ⟨b0, b1, b2, b3, b4⟩⟩ := hSW; go_simp; try with_reducible rfl)
  simp only [Act.put, List.setIfInBounds_toArray, List.set_cons_zero, List.set_cons_succ, List.getElem_toArray, List.getElem_cons_zero]
  refine wpAnyH_take (i := 1) (v := ?_) rfl (by kernel_rfl) (by kernel_rfl) (by kernel_rfl) (fun _ _ _ h => h) (Or.inl ⟨by rfl, ?_⟩) hHeld ?_
  rotate_left
  · (intro W hSW; obtain ⟨⟨a0, a1, a2, a3, a4⟩, ⟨b0, b1, b2, b3, b4⟩⟩ := hSW; go_simp; try with_reducible rfl)
  simp only [Act.put, List.setIfInBounds_toArray, List.set_cons_zero, List.set_cons_succ, List.getElem_toArray, List.getElem_cons_zero, List.getElem_cons_succ]
  refine wpAnyH_ready (rs := [2]) (by kernel_rfl) (by simp) ?_
  refine AllReadyH.cons rfl (fun K hK => ?_) AllReadyH.nil
  go_simp
  go_at_call 14
  refine (toDisk_c x v2 v3 v4 _ HLN.out ((HRD.out _ HC1'.out).keep (Below.refl W1.heap.size W1).drew (Nat.le_refl _))).mono ?_
  rintro e W2 ⟨u2, u3, u4, rfl, how, b2⟩
  replace b2 := bel_undrew b2
  obtain ⟨r2, cr2, hvr2, hlr2, hnr2⟩ := own_slice how.1; subst hvr2; obtain ⟨r3, cr3, hvr3, hlr3, hnr3⟩ := own_slice how.2.1; subst hvr3; obtain ⟨r4, cr4, hvr4, hlr4, hnr4⟩ := own_slice how.2.2; subst hvr4; 
  have HC2' : Hid (Below W0.heap.size W0 W2) := HC1'.out.trans (b2.mono HC1'.out.size)
  have HY2 : Hid (Below WX.heap.size WX W2) := HY1.out.trans (b2.mono HY1.out.size)
  have HO2' : Hid (RdDisk W2 x (.slice r2 x.f2.length cr2) (.slice r3 x.f3.length cr3) (.slice r4 x.f4.length cr4)) := how.rd
  clear b2 how hlr2 hlr3 hlr4 hnr2 hnr3 hnr4
  go_simp
  refine hK.out _ _ ⟨HBX.out _ HC2'.out, HXX.out _ HY2.out⟩ (fun hHeld => ?_)
  clear hK K
  refine wpAnyH_ready (rs := [3]) (by kernel_rfl) (by simp) ?_
  refine AllReadyH.cons rfl (fun K hK => ?_) AllReadyH.nil
  go_simp
  go_at_call 9
  refine (eqDisk_c x _ _ _ _ _ _ W2 HLN.out (HOX.out.rd.keep HY2.out (Nat.le_refl _)) HO2'.out).mono ?_
  rintro e W3 ⟨rfl, b3⟩
  have HC3' : Hid (Below W0.heap.size W0 W3) := HC2'.out.trans (b3.mono HC2'.out.size)
  have HY3 : Hid (Below WX.heap.size WX W3) := HY2.out.trans (b3.mono HY2.out.size)
  clear b3
  go_simp
  refine hK.out _ _ ⟨HBX.out _ HC3'.out, HXX.out _ HY3.out⟩ (fun hHeld => ?_)
  clear hK K
  refine wpAnyH_take (i := 4) (v := ?_) rfl (by kernel_rfl) (by kernel_rfl) (by kernel_rfl) (fun _ _ _ h => h) (Or.inl ⟨by rfl, ?_⟩) hHeld ?_
  rotate_left
  · (intro W hSW; obtain ⟨⟨a0, a1, a2, a3, a4⟩, ⟨b0, b1, b2, b3, b4⟩⟩ := hSW; go_simp; try with_reducible rfl)
  simp only [Act.put, List.setIfInBounds_toArray, List.set_cons_zero, List.set_cons_succ, List.getElem_toArray, List.getElem_cons_zero, List.getElem_cons_succ]
  refine wpAnyH_done (by kernel_rfl) ?_ _
  go_wp2
  go_ret
  exact ⟨rfl, HDN.out _ HC3'.out⟩

end Go.Proofs.Ytiogjmchbpmdpaa
