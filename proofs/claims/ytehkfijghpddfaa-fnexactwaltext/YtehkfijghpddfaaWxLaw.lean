/- The exact law of WalText, walked. -/
import Derived.Test.YtehkfijghpddfaaWwLaw
import Derived.Test.YtehkfijghpddfaaWxSpec
import Derived.Test.YtehkfijghpddfaaWxImpl
namespace Go.Proofs.Ytehkfijghpddfaa
open Go.RowKit
set_option linter.unusedVariables false
set_option linter.unusedSimpArgs false

set_option maxRecDepth 20000 in
set_option maxHeartbeats 8000000 in
theorem waltext_law (x : S_Wal) (v4 : Value) (w : World) (hs : SmWal x) (hg : gWal x) (h : RdWal w x v4) :
    Calls Try.prog 6 #[.agg #[.int .i64 x.f0, .int .i64 x.f1, .int .i64 x.f2, .int .i64 x.f3, v4]] w fun e w' => e = .returned (.bool true) ∧ Below w.heap.size w w' := by
  obtain ⟨W0, hW0⟩ : ∃ W, W = w.alloc (.cells #[.int .i64 x.f0, .int .i64 x.f1, .int .i64 x.f2, .int .i64 x.f3, v4] 42) := ⟨_, rfl⟩
  have HW0 : Hid (w.alloc (.cells #[.int .i64 x.f0, .int .i64 x.f1, .int .i64 x.f2, .int .i64 x.f3, v4] 42) = W0) := hW0.symm
  have HS0 : Hid (W0.heap.size = w.heap.size + 1) := by show _ = _; rw [hW0]; simp
  have HB0 : Hid (Below w.heap.size w W0) := by rw [hW0]; exact (Below.refl _ _).alloc (Nat.le_refl _) _
  have HR0 : Hid (RdWal W0 x v4) := h.keep HB0.out (Nat.le_refl _)
  have HBX : Hid (∀ W', Below W0.heap.size W0 W' → W'.cell? ⟨w.heap.size, 0, none⟩ = some (.int .i64 x.f0) ∧ W'.cell? ⟨w.heap.size, 1, none⟩ = some (.int .i64 x.f1) ∧ W'.cell? ⟨w.heap.size, 2, none⟩ = some (.int .i64 x.f2) ∧ W'.cell? ⟨w.heap.size, 3, none⟩ = some (.int .i64 x.f3) ∧ W'.cell? ⟨w.heap.size, 4, none⟩ = some (v4)) := fun W' hbel => by
    have hk : W'.heap[w.heap.size]? = some (.cells #[.int .i64 x.f0, .int .i64 x.f1, .int .i64 x.f2, .int .i64 x.f3, v4] 42) := by rw [hbel.block _ (by rw [HS0.out]; exact Nat.lt_succ_self _), hW0]; exact alloc_last _ _
    exact box5 hk
  have HRD : Hid (∀ W', Below W0.heap.size W0 W' → RdWal W' x v4) := fun W' hbel => RdWal.keep HR0.out hbel (Nat.le_refl _)
  have HDN : Hid (∀ W', Below W0.heap.size W0 W' → Below w.heap.size w W') := fun W' hbel => HB0.out.trans (hbel.mono (by rw [HS0.out]; exact Nat.le_succ _))
  have HSM : Hid (SmWal x) := hs
  clear hW0 h hs hg
  go_enter Try.func6, Try.ntmps6
  go_wp2_with fail
  rw [HW0.out]
  refine (szWal_c x 1048576 v4 _ (by decide) (by decide) HSM.out HR0.out).mono ?_
  rintro e w1 ⟨rfl, b1⟩
  have HC1 : Hid (Below W0.heap.size W0 w1) := b1
  clear b1
  generalize hz : szF (zWal x) 1048576 = z
  have HZ : Hid (szF (zWal x) 1048576 = z) := hz
  clear hz
  by_cases hneg : z < 0
  · go_wp2
    go_ret
    exact ⟨rfl, HDN.out _ HC1.out⟩
  have HLN : Hid (LnWal x 1048576) := ln_wal (sz_smallW (by rw [HZ.out]; exact hneg))
  obtain ⟨e0, e1, e2, e3, e4⟩ := HBX.out w1 HC1.out
  go_wp2_with fail
  refine (toWal_c x v4 _ HLN.out (HRD.out _ HC1.out)).mono ?_
  rintro e w2 ⟨u4, rfl, how, b2⟩
  obtain ⟨p, cp, rfl⟩ := own_sliceW how
  have HC2 : Hid (Below W0.heap.size W0 w2) := HC1.out.trans (b2.mono HC1.out.size)
  have HO2 : Hid (OwWal w2 w1.heap.size x (.slice p x.f4.length cp)) := how
  clear b2 how e0 e1 e2 e3 e4
  go_wp2_with fail
  refine (specWalText_c x p cp w2 HLN.out HSM.out.2 (OwWal.rd HO2.out)).mono ?_
  rintro e w3 ⟨rfl, b3⟩
  have HC3 : Hid (Below W0.heap.size W0 w3) := HC2.out.trans (b3.mono HC2.out.size)
  clear b3 HO2
  obtain ⟨e0, e1, e2, e3, e4⟩ := HBX.out w3 HC3.out
  generalize hB : walT x = B
  have HBk : Hid (walT x = B) := hB
  clear hB
  go_wp2_with fail
  refine (toWal_c x v4 _ HLN.out (HRD.out _ HC3.out)).mono ?_
  rintro e w4 ⟨u4, rfl, how, b2⟩
  obtain ⟨q, cq, rfl⟩ := own_sliceW how
  have HC4 : Hid (Below W0.heap.size W0 w4) := HC3.out.trans (b2.mono HC3.out.size)
  obtain ⟨WX, hWX⟩ : ∃ W, W = w4.alloc (.cells #[.int .i64 x.f0, .int .i64 x.f1, .int .i64 x.f2, .int .i64 x.f3, .slice q x.f4.length cq] 26) := ⟨_, rfl⟩
  have HWX : Hid (w4.alloc (.cells #[.int .i64 x.f0, .int .i64 x.f1, .int .i64 x.f2, .int .i64 x.f3, .slice q x.f4.length cq] 26) = WX) := hWX.symm
  have HSX : Hid (WX.heap.size = w4.heap.size + 1) := by show _ = _; rw [hWX]; simp
  have HBb : Hid (Below w4.heap.size w4 WX) := by rw [hWX]; exact (Below.refl _ _).alloc (Nat.le_refl _) _
  have HCX : Hid (Below W0.heap.size W0 WX) := HC4.out.trans (HBb.out.mono HC4.out.size)
  have HOX : Hid (OwWal WX w3.heap.size x (.slice q x.f4.length cq)) := OwWal.keep how HBb.out (Nat.le_refl _)
  have HXX : Hid (∀ W', Below WX.heap.size WX W' → W'.cell? ⟨w4.heap.size, 0, none⟩ = some (.int .i64 x.f0) ∧ W'.cell? ⟨w4.heap.size, 1, none⟩ = some (.int .i64 x.f1) ∧ W'.cell? ⟨w4.heap.size, 2, none⟩ = some (.int .i64 x.f2) ∧ W'.cell? ⟨w4.heap.size, 3, none⟩ = some (.int .i64 x.f3) ∧ W'.cell? ⟨w4.heap.size, 4, none⟩ = some (.slice q x.f4.length cq)) := fun W' hbel => by
    have hk : W'.heap[w4.heap.size]? = some (.cells #[.int .i64 x.f0, .int .i64 x.f1, .int .i64 x.f2, .int .i64 x.f3, .slice q x.f4.length cq] 26) := by rw [hbel.block _ (by rw [HSX.out]; exact Nat.lt_succ_self _), hWX]; exact alloc_last _ _
    exact box5 hk
  obtain ⟨f0, f1, f2, f3, f4⟩ := HXX.out WX (Below.refl _ _)
  clear b2 how e0 e1 e2 e3 e4 hWX
  go_wp2_with fail
  rw [HWX.out]
  refine (implWalText_c x q cq WX HLN.out HSM.out.2 (OwWal.rd HOX.out)).mono ?_
  rintro e w5 ⟨rfl, b3⟩
  rw [HBk.out]
  have HY5 : Hid (Below WX.heap.size WX w5) := b3
  have HC5 : Hid (Below W0.heap.size W0 w5) := HCX.out.trans (b3.mono HCX.out.size)
  clear b3 f0 f1 f2 f3 f4 HBk
  go_upto_region 10 with fail
  refine wp_genW (fun W => Hid (Below WX.heap.size WX W) ∧ Hid (Below W0.heap.size W0 W)) ⟨HY5.out, HC5.out⟩ ?_
  rintro W1 ⟨HY1, HC1'⟩
  refine wp_region_held_drew (S := (fun W => (W.cell? ⟨w.heap.size, 0, none⟩ = some (.int .i64 x.f0) ∧ W.cell? ⟨w.heap.size, 1, none⟩ = some (.int .i64 x.f1) ∧ W.cell? ⟨w.heap.size, 2, none⟩ = some (.int .i64 x.f2) ∧ W.cell? ⟨w.heap.size, 3, none⟩ = some (.int .i64 x.f3) ∧ W.cell? ⟨w.heap.size, 4, none⟩ = some (v4)) ∧ (W.cell? ⟨w4.heap.size, 0, none⟩ = some (.int .i64 x.f0) ∧ W.cell? ⟨w4.heap.size, 1, none⟩ = some (.int .i64 x.f1) ∧ W.cell? ⟨w4.heap.size, 2, none⟩ = some (.int .i64 x.f2) ∧ W.cell? ⟨w4.heap.size, 3, none⟩ = some (.int .i64 x.f3) ∧ W.cell? ⟨w4.heap.size, 4, none⟩ = some (.slice q x.f4.length cq)))) (by kernel_rfl) ⟨HBX.out _ HC1'.out.drew, HXX.out _ HY1.out.drew⟩ (fun hHeld => ?_)
  refine wpAnyH_take (i := 0) (v := ?_) rfl (by kernel_rfl) (by kernel_rfl) (by kernel_rfl) (fun _ _ _ h => h) (Or.inl ⟨by rfl, ?_⟩) hHeld ?_
  rotate_left
  · (intro W hSW; obtain ⟨⟨a0, a1, a2, a3, a4⟩, ⟨b0, b1, b2, b3, b4⟩⟩ := hSW; go_simp; try with_reducible rfl)
  simp only [Act.put, List.setIfInBounds_toArray, List.set_cons_zero, List.set_cons_succ, List.getElem_toArray, List.getElem_cons_zero, List.getElem_cons_succ]
  refine wpAnyH_take (i := 1) (v := ?_) rfl (by kernel_rfl) (by kernel_rfl) (by kernel_rfl) (fun _ _ _ h => h) (Or.inl ⟨by rfl, ?_⟩) hHeld ?_
  rotate_left
  · (intro W hSW; obtain ⟨⟨a0, a1, a2, a3, a4⟩, ⟨b0, b1, b2, b3, b4⟩⟩ := hSW; go_simp; try with_reducible rfl)
  simp only [Act.put, List.setIfInBounds_toArray, List.set_cons_zero, List.set_cons_succ, List.getElem_toArray, List.getElem_cons_zero, List.getElem_cons_succ]
  refine wpAnyH_ready (rs := [2]) (by kernel_rfl) (by simp) ?_
  refine AllReadyH.cons rfl (fun K hK => ?_) AllReadyH.nil
  go_simp
  go_at_call 17
  refine (toWal_c x v4 _ HLN.out (RdWal.keep (HRD.out _ HC1'.out) (Below.refl W1.heap.size W1).drew (Nat.le_refl _))).mono ?_
  rintro e W2 ⟨u4, rfl, how, b2⟩
  replace b2 := bel_undrewW b2
  obtain ⟨r, cr, rfl⟩ := own_sliceW how
  have HC2' : Hid (Below W0.heap.size W0 W2) := HC1'.out.trans (b2.mono HC1'.out.size)
  have HY2 : Hid (Below WX.heap.size WX W2) := HY1.out.trans (b2.mono HY1.out.size)
  have HO2' : Hid (RdWal W2 x (.slice r x.f4.length cr)) := OwWal.rd how
  clear b2 how
  go_simp
  refine hK.out _ _ ⟨HBX.out _ HC2'.out, HXX.out _ HY2.out⟩ (fun hHeld => ?_)
  clear hK K
  refine wpAnyH_ready (rs := [3]) (by kernel_rfl) (by simp) ?_
  refine AllReadyH.cons rfl (fun K hK => ?_) AllReadyH.nil
  go_simp
  go_at_call 19
  refine (eqWal_c x _ _ W2 HLN.out (RdWal.keep (OwWal.rd HOX.out) HY2.out (Nat.le_refl _)) HO2'.out).mono ?_
  rintro e W3 ⟨rfl, b3⟩
  have HC3' : Hid (Below W0.heap.size W0 W3) := HC2'.out.trans (b3.mono HC2'.out.size)
  have HY3 : Hid (Below WX.heap.size WX W3) := HY2.out.trans (b3.mono HY2.out.size)
  clear b3
  go_simp
  refine hK.out _ _ ⟨HBX.out _ HC3'.out, HXX.out _ HY3.out⟩ (fun hHeld => ?_)
  clear hK K
  refine wpAnyH_take (i := 4) (v := ?_) rfl (by kernel_rfl) (by kernel_rfl) (by kernel_rfl) (fun _ _ _ h => h) (Or.inl ⟨by rfl, ?_⟩) hHeld ?_
  rotate_left
  · (intro W hSW; obtain ⟨⟨a0, a1, a2, a3, a4⟩, ⟨b0, b1, b2, b3, b4⟩⟩ := hSW; go_simp; try with_reducible rfl)
  simp only [Act.put, List.setIfInBounds_toArray, List.set_cons_zero, List.set_cons_succ, List.getElem_toArray, List.getElem_cons_zero, List.getElem_cons_succ]
  refine wpAnyH_done (by kernel_rfl) ?_ _
  go_wp2
  go_ret
  exact ⟨rfl, HDN.out _ HC3'.out⟩

end Go.Proofs.Ytehkfijghpddfaa
