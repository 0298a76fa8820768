/- The exact law of List, walked. -/
import Derived.Test.YtiogjmchbpmdpaaDiList
namespace Go.Proofs.Ytiogjmchbpmdpaa
open Go.RowKit Go.Maps
set_option linter.unusedVariables false

theorem LsR.len {x : S_Disk} {L : List ByteArray} (h : (okX x ∧ L = nowN x) ∨ (¬ okX x ∧ L = [])) : L.length ≤ 1048576 := by
  rcases h with ⟨h1, rfl⟩ | ⟨_, rfl⟩
  · have := nowN_len h1; omega
  · simp

theorem LsR.one {x : S_Disk} {L M : List ByteArray} (h : (okX x ∧ L = nowN x) ∨ (¬ okX x ∧ L = [])) (h' : (okX x ∧ M = nowN x) ∨ (¬ okX x ∧ M = [])) : M = L := by
  rcases h with ⟨h1, rfl⟩ | ⟨h1, rfl⟩ <;> rcases h' with ⟨h2, rfl⟩ | ⟨h2, rfl⟩
  · rfl
  · exact absurd h1 h2
  · exact absurd h2 h1
  · rfl

/-- A row of the call's own leaves as it is where only rows that lie elsewhere were written into. -/
theorem ButL.ownS {vs : List Value} {w w' : World} {B : Nat} {v : Value} {L : List ByteArray} (h : ButL vs w w') (ho : OwnS w B v L) (hB : ∀ u ∈ vs, ∀ k, u.ownBlock = some k → k < B) : OwnS w' B v L := h.own ho hB

theorem own_lt {w : World} {base : Nat} {e : TypeId} {size n : Nat} {v : Value} {xs : List Value} (h : w.ownsRow base e size v n xs) : ∀ k, v.ownBlock = some k → base ≤ k ∧ k < w.heap.size := by
  intro k hk
  obtain ⟨_, ⟨rfl, _⟩ | ⟨g, cap, cur, rfl, hg, hh, _⟩⟩ := h
  · cases hk
  · simp only [Value.ownBlock, Option.some.injEq] at hk
    subst hk
    exact ⟨hg, lt_of_some hh⟩

theorem own_keep_lt {w w' : World} {B N : Nat} {v : Value} {L : List ByteArray} (h : OwnS w B v L) (hv : ∀ k, v.ownBlock = some k → k < N) (hb : Below N w w') : OwnS w' B v L := by
  obtain ⟨a1, ⟨rfl, a2⟩ | ⟨g, cap, cur, rfl, a2, a3, a4⟩⟩ := h
  · exact ⟨a1, .inl ⟨rfl, a2⟩⟩
  · exact ⟨a1, .inr ⟨g, cap, cur, rfl, a2, by rw [hb.block g (hv g rfl)]; exact a3, a4⟩⟩

theorem own_blocks {w : World} {base : Nat} {x : S_Disk} {v2 v3 v4 : Value} (h : OwDisk w base x v2 v3 v4) : ∀ u ∈ [v2, v3, v4], ∀ k, u.ownBlock = some k → base ≤ k ∧ k < w.heap.size := by
  intro u hu k hk
  simp only [List.mem_cons, List.not_mem_nil, or_false] at hu
  rcases hu with rfl | rfl | rfl
  · exact own_lt h.1 k hk
  · exact own_lt h.2.1 k hk
  · exact own_lt h.2.2 k hk

set_option maxRecDepth 20000 in
set_option maxHeartbeats 8000000 in
theorem list_law (x : S_Disk) (v2 v3 v4 : Value) (w : World) (hs : SmDisk x) (hg : gDisk x) (h : RdDisk w x v2 v3 v4) :
    Calls Try.prog 5 #[.agg #[.int .i64 x.f0, .int .i64 x.f1, v2, v3, v4]] w fun e w' => e = .returned (.bool true) ∧ Below w.heap.size w w' := by
  obtain ⟨W0, hW0⟩ : ∃ W, W = w.alloc (.cells #[.int .i64 x.f0, .int .i64 x.f1, v2, v3, v4] 36) := ⟨_, rfl⟩
  have HW0 : Hid (w.alloc (.cells #[.int .i64 x.f0, .int .i64 x.f1, v2, v3, v4] 36) = W0) := hW0.symm
  have HS0 : Hid (W0.heap.size = w.heap.size + 1) := by show _ = _; rw [hW0]; simp
  have HB0 : Hid (Below w.heap.size w W0) := by rw [hW0]; exact (Below.refl _ _).alloc (Nat.le_refl _) _
  have HR0 : Hid (RdDisk W0 x v2 v3 v4) := h.keep HB0.out (Nat.le_refl _)
  have HBX : Hid (∀ W', Below W0.heap.size W0 W' → W'.cell? ⟨w.heap.size, 0, none⟩ = some (.int .i64 x.f0) ∧ W'.cell? ⟨w.heap.size, 1, none⟩ = some (.int .i64 x.f1) ∧ W'.cell? ⟨w.heap.size, 2, none⟩ = some (v2) ∧ W'.cell? ⟨w.heap.size, 3, none⟩ = some (v3) ∧ W'.cell? ⟨w.heap.size, 4, none⟩ = some (v4)) := fun W' hbel => by
    have hk : W'.heap[w.heap.size]? = some (.cells #[.int .i64 x.f0, .int .i64 x.f1, v2, v3, v4] 36) := by rw [hbel.block _ (by rw [HS0.out]; exact Nat.lt_succ_self _), hW0]; exact alloc_at _ _
    exact disk_cellL hk
  have HRD : Hid (∀ W', Below W0.heap.size W0 W' → RdDisk W' x v2 v3 v4) := fun W' hbel => HR0.out.keep hbel (Nat.le_refl _)
  have HDN : Hid (∀ W', Below W0.heap.size W0 W' → Below w.heap.size w W') := fun W' hbel => HB0.out.trans (hbel.mono (by rw [HS0.out]; exact Nat.le_succ _))
  have HSM : Hid (SmDisk x) := hs
  have HGD : Hid (gDisk x) := hg
  clear hW0 h hs hg
  go_enter Try.func5, Try.ntmps5
  go_wp2_with fail
  rw [HW0.out]
  refine (szDisk_c x 1048576 v2 v3 v4 _ (by decide) (by decide) HSM.out HR0.out).mono ?_
  rintro e w1 ⟨rfl, b1⟩
  have HC1 : Hid (Below W0.heap.size W0 w1) := b1
  clear b1
  have hzz : szF (zDisk x) 1048576 = szF (zDisk x) 1048576 := rfl
  generalize hz : szF (zDisk x) 1048576 = z at hzz ⊢
  clear hzz
  have HZ : Hid (szF (zDisk x) 1048576 = z) := hz
  clear hz
  by_cases hneg : z < 0
  · go_wp2
    go_ret
    exact ⟨rfl, HDN.out _ HC1.out⟩
  have hsmall : zDisk x ≤ 1048576 := sz_small (by rw [HZ.out]; exact hneg)
  have HLN : Hid (LnDisk x 1048576) := ln_disk hsmall
  have HBN : Hid (Bnd x) := bnd_disk hsmall HSM.out HGD.out
  clear hsmall
  obtain ⟨e0, e1, e2, e3, e4⟩ := HBX.out w1 HC1.out
  go_wp2_with fail
  refine (toDisk_c x v2 v3 v4 _ HLN.out (HRD.out _ HC1.out)).mono ?_
  rintro e w2 ⟨u2, u3, u4, rfl, how, b2⟩
  obtain ⟨p2, cp2, hvp2, hlp2, hnp2⟩ := own_slice how.1; subst hvp2; obtain ⟨p3, cp3, hvp3, hlp3, hnp3⟩ := own_slice how.2.1; subst hvp3; obtain ⟨p4, cp4, hvp4, hlp4, hnp4⟩ := own_slice how.2.2; subst hvp4; 
  have HC2 : Hid (Below W0.heap.size W0 w2) := HC1.out.trans (b2.mono HC1.out.size)
  have HO2 : Hid (OwDisk w2 w1.heap.size x (.slice p2 x.f2.length cp2) (.slice p3 x.f3.length cp3) (.slice p4 x.f4.length cp4)) := how
  have HCP : Hid (x.f3.length ≤ cp3 ∧ x.f4.length ≤ cp4) := ⟨hlp3, hlp4⟩
  clear b2 how hlp2 hlp3 hlp4 hnp2 hnp3 hnp4 e0 e1 e2 e3 e4
  go_wp2_with fail
  refine (specList_c x p2 p3 p4 cp2 cp3 cp4 w2 HBN.out HO2.out.rd HCP.out.1 HCP.out.2).mono ?_
  rintro e w3 ⟨vs, L, rfl, ho, hL, b3⟩
  have HL : Hid ((okX x ∧ L = nowN x) ∨ (¬ okX x ∧ L = [])) := hL
  have HLL : Hid (L.length ≤ 1048576) := LsR.len hL
  have HC3 : Hid (Below W0.heap.size W0 w3) := HC2.out.trans (b3.mono HC2.out.size)
  have HS3 : Hid (OwnS w3 w2.heap.size vs L) := ho
  have HVS : Hid (∀ k, vs.ownBlock = some k → k < w3.heap.size) := fun k hk => (own_lt ho k hk).2
  clear ho hL b3 HO2 HCP
  obtain ⟨e0, e1, e2, e3, e4⟩ := HBX.out w3 HC3.out
  go_wp2_with fail
  refine (toDisk_c x v2 v3 v4 _ HLN.out (HRD.out _ HC3.out)).mono ?_
  rintro e w4 ⟨u2, u3, u4, rfl, how, b2⟩
  obtain ⟨q2, cq2, hvq2, hlq2, hnq2⟩ := own_slice how.1; subst hvq2; obtain ⟨q3, cq3, hvq3, hlq3, hnq3⟩ := own_slice how.2.1; subst hvq3; obtain ⟨q4, cq4, hvq4, hlq4, hnq4⟩ := own_slice how.2.2; subst hvq4; 
  have HC4 : Hid (Below W0.heap.size W0 w4) := HC3.out.trans (b2.mono HC3.out.size)
  obtain ⟨WX, hWX⟩ : ∃ W, W = w4.alloc (.cells #[.int .i64 x.f0, .int .i64 x.f1, .slice q2 x.f2.length cq2, .slice q3 x.f3.length cq3, .slice q4 x.f4.length cq4] 26) := ⟨_, rfl⟩
  have HWX : Hid (w4.alloc (.cells #[.int .i64 x.f0, .int .i64 x.f1, .slice q2 x.f2.length cq2, .slice q3 x.f3.length cq3, .slice q4 x.f4.length cq4] 26) = WX) := hWX.symm
  have HSX : Hid (WX.heap.size = w4.heap.size + 1) := by show _ = _; rw [hWX]; simp
  have HBb : Hid (Below w4.heap.size w4 WX) := by rw [hWX]; exact (Below.refl _ _).alloc (Nat.le_refl _) _
  have HCX : Hid (Below W0.heap.size W0 WX) := HC4.out.trans (HBb.out.mono HC4.out.size)
  have HOX : Hid (OwDisk WX w3.heap.size x (.slice q2 x.f2.length cq2) (.slice q3 x.f3.length cq3) (.slice q4 x.f4.length cq4)) := how.keep HBb.out (Nat.le_refl _)
  have HXX : Hid (∀ W', Below WX.heap.size WX W' → W'.cell? ⟨w4.heap.size, 0, none⟩ = some (.int .i64 x.f0) ∧ W'.cell? ⟨w4.heap.size, 1, none⟩ = some (.int .i64 x.f1) ∧ W'.cell? ⟨w4.heap.size, 2, none⟩ = some (.slice q2 x.f2.length cq2) ∧ W'.cell? ⟨w4.heap.size, 3, none⟩ = some (.slice q3 x.f3.length cq3) ∧ W'.cell? ⟨w4.heap.size, 4, none⟩ = some (.slice q4 x.f4.length cq4)) := fun W' hbel => by
    have hk : W'.heap[w4.heap.size]? = some (.cells #[.int .i64 x.f0, .int .i64 x.f1, .slice q2 x.f2.length cq2, .slice q3 x.f3.length cq3, .slice q4 x.f4.length cq4] 26) := by rw [hbel.block _ (by rw [HSX.out]; exact Nat.lt_succ_self _), hWX]; exact alloc_at _ _
    exact disk_cellL hk
  have HQ4 : Hid (q4 = none → cq4 = 0) := hnq4
  have f0 : WX.cell? ⟨w4.heap.size, 0, none⟩ = some (.int .i64 x.f0) := (HXX.out WX (Below.refl _ _)).1
  have f1 : WX.cell? ⟨w4.heap.size, 1, none⟩ = some (.int .i64 x.f1) := (HXX.out WX (Below.refl _ _)).2.1
  have f2 : WX.cell? ⟨w4.heap.size, 2, none⟩ = some (.slice q2 x.f2.length cq2) := (HXX.out WX (Below.refl _ _)).2.2.1
  have f3 : WX.cell? ⟨w4.heap.size, 3, none⟩ = some (.slice q3 x.f3.length cq3) := (HXX.out WX (Below.refl _ _)).2.2.2.1
  have f4 : WX.cell? ⟨w4.heap.size, 4, none⟩ = some (.slice q4 x.f4.length cq4) := (HXX.out WX (Below.refl _ _)).2.2.2.2
  have hb34 : Below w3.heap.size w3 WX := b2.trans (HBb.out.mono b2.size)
  clear b2 how hlq2 hlq3 hlq4 hnq2 hnq3 hnq4 e0 e1 e2 e3 e4 hWX
  have HB34 : Hid (Below w3.heap.size w3 WX) := hb34
  clear hb34
  go_wp2_with fail
  rw [HWX.out]
  refine (implList_c x q2 q3 q4 cq2 cq3 cq4 WX HBN.out HOX.out.rd HQ4.out).mono ?_
  rintro e w5 ⟨vg, M, rfl, ho, hM, b5⟩
  obtain rfl : M = L := LsR.one HL.out hM
  have HY5 : Hid (Below WX.heap.size WX w5) := b5
  have HC5 : Hid (Below W0.heap.size W0 w5) := HCX.out.trans (b5.mono HCX.out.size)
  have HG5 : Hid (OwnS w5 WX.heap.size vg M) := ho
  have HS5 : Hid (OwnS w5 w2.heap.size vs M) := (HS3.out.keep HB34.out).keep b5
  clear ho hM b5 f0 f1 f2 f3 f4
  go_wp2_with fail
  refine (eqS_c vg vs M _ _ w5 HLL.out HG5.out HS5.out).mono ?_
  rintro e w6 ⟨rfl, b6⟩
  have HY6 : Hid (Below WX.heap.size WX w6) := HY5.out.trans (b6.mono HY5.out.size)
  have HC6 : Hid (Below W0.heap.size W0 w6) := HC5.out.trans (b6.mono HC5.out.size)
  have HG6 : Hid (OwnS w6 WX.heap.size vg M) := HG5.out.keep b6
  have HS6 : Hid (OwnS w6 w2.heap.size vs M) := HS5.out.keep b6
  clear b6 HG5 HS5 HY5 HC5
  go_upto_region 10 with fail
  refine wp_genD (fun W => Hid (Below WX.heap.size WX W) ∧ Hid (Below W0.heap.size W0 W) ∧ Hid (OwnS W WX.heap.size vg M) ∧ Hid (OwnS W w2.heap.size vs M)) ⟨HY6.out, HC6.out, HG6.out, HS6.out⟩ ?_
  rintro W1 ⟨HY1, HC1', HG1, HS1⟩
  refine wp_region_held_drew (S := (fun W => (W.cell? ⟨w.heap.size, 0, none⟩ = some (.int .i64 x.f0) ∧ W.cell? ⟨w.heap.size, 1, none⟩ = some (.int .i64 x.f1) ∧ W.cell? ⟨w.heap.size, 2, none⟩ = some (v2) ∧ W.cell? ⟨w.heap.size, 3, none⟩ = some (v3) ∧ W.cell? ⟨w.heap.size, 4, none⟩ = some (v4)) ∧ (W.cell? ⟨w4.heap.size, 0, none⟩ = some (.int .i64 x.f0) ∧ W.cell? ⟨w4.heap.size, 1, none⟩ = some (.int .i64 x.f1) ∧ W.cell? ⟨w4.heap.size, 2, none⟩ = some (.slice q2 x.f2.length cq2) ∧ W.cell? ⟨w4.heap.size, 3, none⟩ = some (.slice q3 x.f3.length cq3) ∧ W.cell? ⟨w4.heap.size, 4, none⟩ = some (.slice q4 x.f4.length cq4)))) (by kernel_rfl) ⟨HBX.out _ HC1'.out.drew, HXX.out _ HY1.out.drew⟩ (fun hHeld => ?_)
  refine wpAnyH_take (i := 0) (v := ?_) rfl (by kernel_rfl) (by kernel_rfl) (by kernel_rfl) (fun _ _ _ h => h) (Or.inl ⟨by rfl, ?_⟩) hHeld ?_
  rotate_left
  · (intro W hSW; obtain ⟨⟨a0, a1, a2, a3, a4⟩, ⟨b0, b1, b2, b3, b4⟩⟩ := hSW; go_simp; try with_reducible rfl)
  simp only [Act.put, List.setIfInBounds_toArray, List.set_cons_zero, List.set_cons_succ, List.getElem_toArray, List.getElem_cons_zero]
  refine wpAnyH_take (i := 1) (v := ?_) rfl (by kernel_rfl) (by kernel_rfl) (by kernel_rfl) (fun _ _ _ h => h) (Or.inl ⟨by rfl, ?_⟩) hHeld ?_
  rotate_left
  · (intro W hSW; obtain ⟨⟨a0, a1, a2, a3, a4⟩, ⟨b0, b1, b2, b3, b4⟩⟩ := hSW; go_simp; try with_reducible rfl)
  simp only [Act.put, List.setIfInBounds_toArray, List.set_cons_zero, List.set_cons_succ, List.getElem_toArray, List.getElem_cons_zero, List.getElem_cons_succ]
  refine wpAnyH_ready (rs := [2]) (by kernel_rfl) (by simp) ?_
  refine AllReadyH.cons rfl (fun K hK => ?_) AllReadyH.nil
  go_simp
  go_at_call 14
  refine (toDisk_c x v2 v3 v4 _ HLN.out ((HRD.out _ HC1'.out).keep (Below.refl W1.heap.size W1).drew (Nat.le_refl _))).mono ?_
  rintro e W2 ⟨u2, u3, u4, rfl, how, b2⟩
  replace b2 := bel_undrew b2
  obtain ⟨r2, cr2, hvr2, hlr2, hnr2⟩ := own_slice how.1; subst hvr2; obtain ⟨r3, cr3, hvr3, hlr3, hnr3⟩ := own_slice how.2.1; subst hvr3; obtain ⟨r4, cr4, hvr4, hlr4, hnr4⟩ := own_slice how.2.2; subst hvr4; 
  have HC2' : Hid (Below W0.heap.size W0 W2) := HC1'.out.trans (b2.mono HC1'.out.size)
  have HG2 : Hid (OwnS W2 WX.heap.size vg M) := HG1.out.keep b2
  have HS2 : Hid (OwnS W2 w2.heap.size vs M) := HS1.out.keep b2
  have HY2 : Hid (Below WX.heap.size WX W2) := HY1.out.trans (b2.mono HY1.out.size)
  have HO2' : Hid (RdDisk W2 x (.slice r2 x.f2.length cr2) (.slice r3 x.f3.length cr3) (.slice r4 x.f4.length cr4)) := how.rd
  clear b2 how hlr2 hlr3 hlr4 hnr2 hnr3 hnr4
  go_simp
  refine hK.out _ _ ⟨HBX.out _ HC2'.out, HXX.out _ HY2.out⟩ (fun hHeld => ?_)
  clear hK K
  refine wpAnyH_ready (rs := [3]) (by kernel_rfl) (by simp) ?_
  refine AllReadyH.cons rfl (fun K hK => ?_) AllReadyH.nil
  go_simp
  go_at_call 9
  refine (eqDisk_c x _ _ _ _ _ _ W2 HLN.out (HOX.out.rd.keep HY2.out (Nat.le_refl _)) HO2'.out).mono ?_
  rintro e W3 ⟨rfl, b3⟩
  have HC3' : Hid (Below W0.heap.size W0 W3) := HC2'.out.trans (b3.mono HC2'.out.size)
  have HG3 : Hid (OwnS W3 WX.heap.size vg M) := HG2.out.keep b3
  have HS3' : Hid (OwnS W3 w2.heap.size vs M) := HS2.out.keep b3
  have HY3 : Hid (Below WX.heap.size WX W3) := HY2.out.trans (b3.mono HY2.out.size)
  clear b3
  go_simp
  refine hK.out _ _ ⟨HBX.out _ HC3'.out, HXX.out _ HY3.out⟩ (fun hHeld => ?_)
  clear hK K
  refine wpAnyH_take (i := 4) (v := ?_) rfl (by kernel_rfl) (by kernel_rfl) (by kernel_rfl) (fun _ _ _ h => h) (Or.inl ⟨by rfl, ?_⟩) hHeld ?_
  rotate_left
  · (intro W hSW; obtain ⟨⟨a0, a1, a2, a3, a4⟩, ⟨b0, b1, b2, b3, b4⟩⟩ := hSW; go_simp; try with_reducible rfl)
  simp only [Act.put, List.setIfInBounds_toArray, List.set_cons_zero, List.set_cons_succ, List.getElem_toArray, List.getElem_cons_zero, List.getElem_cons_succ]
  refine wpAnyH_done (by kernel_rfl) ?_ _
  clear hHeld
  obtain ⟨f0, f1, f2, f3, f4⟩ := HXX.out W3 HY3.out
  have HZ3 : Hid (w3.heap.size ≤ W3.heap.size) := Nat.le_trans HB34.out.size HY3.out.size
  go_wp2_with fail
  refine (markDisk_c x 1 _ _ _ w3.heap.size W3 HLN.out (by decide) (by decide) HZ3.out (HOX.out.keep HY3.out (Nat.le_refl _))).mono ?_
  rintro e w7 ⟨rfl, _, hbut⟩
  have hblk := own_blocks HOX.out
  have HG7 : Hid (OwnS w7 WX.heap.size vg M) := hbut.ownS HG3.out fun u hu k hk => (hblk u hu k hk).2
  have HC7 : Hid (Below W0.heap.size W0 w7) := HC3'.out.trans (hbut.below (fun u hu k hk => Nat.le_trans HC3.out.size (hblk u hu k hk).1) HC3'.out.size)
  have HS7 : Hid (OwnS w7 w2.heap.size vs M) := by
    have h1 : Below w3.heap.size W3 w7 := hbut.below (fun u hu k hk => (hblk u hu k hk).1) HZ3.out
    exact own_keep_lt HS3'.out HVS.out h1
  have HZ7 : Hid (WX.heap.size ≤ w7.heap.size) := Nat.le_trans HY3.out.size hbut.size
  have hk7 : (0 : Int) ≤ 1 + ((x.f2.length * 3 : Nat) : Int) + ((x.f3.length * 2 : Nat) : Int) + ((x.f4.length * 4 : Nat) : Int) := by omega
  generalize (1 : Int) + ((x.f2.length * 3 : Nat) : Int) + ((x.f3.length * 2 : Nat) : Int) + ((x.f4.length * 4 : Nat) : Int) = K at hk7 ⊢
  have hk8 : ¬ K < 0 := by omega
  clear hbut hblk hk7 f0 f1 f2 f3 f4 HG3 HS3'
  go_wp2_with fail
  refine (eqS_c vg vs M _ _ w7 HLL.out HG7.out HS7.out).mono ?_
  rintro e w8 ⟨rfl, b8⟩
  have HG8 : Hid (OwnS w8 WX.heap.size vg M) := HG7.out.keep b8
  have HS8 : Hid (OwnS w8 w2.heap.size vs M) := HS7.out.keep b8
  have HC8 : Hid (Below W0.heap.size W0 w8) := HC7.out.trans (b8.mono HC7.out.size)
  have HZ8 : Hid (WX.heap.size ≤ w8.heap.size) := Nat.le_trans HZ7.out b8.size
  clear b8
  go_wp2_with fail
  refine (mark_c vg M WX.heap.size w8 HLL.out HG8.out HZ8.out).mono ?_
  rintro e w9 ⟨rfl, ho9, b9⟩
  have HG9 : Hid (OwnS w9 WX.heap.size vg (marks 1 M.length)) := ho9
  have HS9 : Hid (OwnS w9 w2.heap.size vs M) := own_keep_lt HS8.out (fun k hk => Nat.lt_of_lt_of_le (HVS.out k hk) HB34.out.size) b9
  have HC9 : Hid (Below W0.heap.size W0 w9) := HC8.out.trans (b9.mono HCX.out.size)
  clear ho9 b9 HG8 HS8 HC8
  go_wp2_with fail
  refine (held_c vg M.length WX.heap.size w9 HLL.out HG9.out).mono ?_
  rintro e wa ⟨rfl, ba⟩
  have HGa : Hid (OwnS wa WX.heap.size vg (marks 1 M.length)) := HG9.out.keep ba
  have HSa : Hid (OwnS wa w2.heap.size vs M) := HS9.out.keep ba
  have HCa : Hid (Below W0.heap.size W0 wa) := HC9.out.trans (ba.mono HC9.out.size)
  have n0 : (0 : Int) ≤ 1 + (M.length : Int) := by omega
  clear ba HG9 HS9 HC9
  obtain ⟨e0, e1, e2, e3, e4⟩ := HBX.out wa HCa.out
  go_wp2_with fail
  refine (toDisk_c x v2 v3 v4 _ HLN.out (HRD.out _ HCa.out)).mono ?_
  rintro e wb ⟨u2, u3, u4, rfl, how, bb⟩
  obtain ⟨t2, ct2, hvt2, hlt2, hnt2⟩ := own_slice how.1; subst hvt2; obtain ⟨t3, ct3, hvt3, hlt3, hnt3⟩ := own_slice how.2.1; subst hvt3; obtain ⟨t4, ct4, hvt4, hlt4, hnt4⟩ := own_slice how.2.2; subst hvt4; 
  have HGb : Hid (OwnS wb WX.heap.size vg (marks 1 M.length)) := HGa.out.keep bb
  have HSb : Hid (OwnS wb w2.heap.size vs M) := HSa.out.keep bb
  have HCb : Hid (Below W0.heap.size W0 wb) := HCa.out.trans (bb.mono HCa.out.size)
  have HOb : Hid (OwDisk wb wa.heap.size x (.slice t2 x.f2.length ct2) (.slice t3 x.f3.length ct3) (.slice t4 x.f4.length ct4)) := how
  have HT4 : Hid (t4 = none → ct4 = 0) := hnt4
  clear bb how hlt2 hlt3 hlt4 hnt2 hnt3 hnt4 e0 e1 e2 e3 e4 HGa HSa HCa
  go_wp2_with fail
  refine (implList_c x t2 t3 t4 ct2 ct3 ct4 wb HBN.out HOb.out.rd HT4.out).mono ?_
  rintro e wc ⟨vh, M', rfl, ho, hM, bc⟩
  obtain rfl : M' = M := LsR.one HL.out hM
  have HGc : Hid (OwnS wc WX.heap.size vg (marks 1 M'.length)) := HGb.out.keep bc
  have HSc : Hid (OwnS wc w2.heap.size vs M') := HSb.out.keep bc
  have HCc : Hid (Below W0.heap.size W0 wc) := HCb.out.trans (bc.mono HCb.out.size)
  have HHc : Hid (OwnS wc wb.heap.size vh M') := ho
  clear ho hM bc HGb HSb HCb HOb
  go_wp2_with fail
  refine (eqS_c vh vs M' _ _ wc HLL.out HHc.out HSc.out).mono ?_
  rintro e wd ⟨rfl, bd⟩
  have HGd : Hid (OwnS wd WX.heap.size vg (marks 1 M'.length)) := HGc.out.keep bd
  have HCd : Hid (Below W0.heap.size W0 wd) := HCc.out.trans (bd.mono HCc.out.size)
  clear bd HGc HSc HCc HHc
  go_wp2_with fail
  refine (held_c vg M'.length WX.heap.size wd HLL.out HGd.out).mono ?_
  rintro e we ⟨rfl, be⟩
  have HCe : Hid (Below W0.heap.size W0 we) := HCd.out.trans (be.mono HCd.out.size)
  clear be
  go_wp2
  go_ret
  exact ⟨rfl, HDN.out _ HCe.out⟩

end Go.Proofs.Ytiogjmchbpmdpaa
