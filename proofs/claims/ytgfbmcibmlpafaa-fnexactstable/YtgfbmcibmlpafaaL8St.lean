/- The exact law of Stable, walked. -/
import Derived.Test.YtgfbmcibmlpafaaVlBase
import Derived.Test.YtgfbmcibmlpafaaHaOpV
import Derived.Test.YtgfbmcibmlpafaaM8Impl
import Derived.Test.YtgfbmcibmlpafaaM8SpecM
import Derived.Test.YtgfbmcibmlpafaaL8Cap
namespace Go.Proofs.Ytgfbmcibmlpafaa
open Go.RowKit
set_option linter.unusedVariables false
set_option linter.unusedSimpArgs false

set_option maxRecDepth 20000 in
set_option maxHeartbeats 8000000 in
theorem stable_law (x : S_Vocab) (v0 : Value) (ts : List Int) (q0 : Option Addr) (c0 : Nat) (w : World) (hs : SmVocab x) (hg : gVocab x) (hts : ts.length ≤ maxLen) (h : RdVocab w x v0) (ht : IR w (.slice q0 ts.length c0) ts) :
    Calls Try.prog 4 #[.agg #[v0], .slice q0 ts.length c0] w fun e w' => e = .returned (.bool true) ∧ Below w.heap.size w w' := by
  obtain ⟨W0, hW0⟩ : ∃ W, W = w.alloc (.cells #[v0] 24) := ⟨_, rfl⟩
  have HW0 : Hid (w.alloc (.cells #[v0] 24) = W0) := hW0.symm
  have HS0 : Hid (W0.heap.size = w.heap.size + 1) := by show _ = _; rw [hW0]; simp
  have HB0 : Hid (Below w.heap.size w W0) := by rw [hW0]; exact (Below.refl _ _).alloc (Nat.le_refl _) _
  have HBX : Hid (∀ W', Below W0.heap.size W0 W' → W'.cell? ⟨w.heap.size, 0, none⟩ = some v0) := fun W' hbel => by
    have hk : W'.heap[w.heap.size]? = some (.cells #[v0] 24) := by rw [hbel.block _ (by rw [HS0.out]; exact Nat.lt_succ_self _), hW0]; exact alloc_last _ _
    exact box1 hk
  have HRD : Hid (∀ W', Below W0.heap.size W0 W' → RdVocab W' x v0) := fun W' hbel => RdVocab.keep (h.keep HB0.out (Nat.le_refl _)) hbel (Nat.le_refl _)
  have HTD : Hid (∀ W', Below W0.heap.size W0 W' → IR W' (.slice q0 ts.length c0) ts) := fun W' hbel => IR.keep (ht.keep HB0.out (Nat.le_refl _)) hbel (Nat.le_refl _)
  have HDN : Hid (∀ W', Below W0.heap.size W0 W' → Below w.heap.size w W') := fun W' hbel => HB0.out.trans (hbel.mono (by rw [HS0.out]; exact Nat.le_succ _))
  have HSM : Hid (SmVocab x) := hs
  clear hW0 h hs hg hts ht
  by_cases hbig : (1048576 : Int) < (ts.length : Int)
  · go_enter Try.func4, Try.ntmps4
    go_wp2_with fail
    rw [HW0.out]
    go_ret
    exact ⟨rfl, HB0.out⟩
  have HTL : Hid (ts.length ≤ 1048576) := by show _ ≤ _; omega
  go_enter Try.func4, Try.ntmps4
  go_wp2_with fail
  rw [HW0.out]
  refine (szVocab_c x 1048576 v0 _ (by decide) (by decide) HSM.out (HRD.out _ (Below.refl _ _))).mono ?_
  rintro e w1 ⟨rfl, b1⟩
  have HCw1 : Hid (Below W0.heap.size W0 w1) := b1
  clear b1
  generalize hz : szF (zVocab x) 1048576 = z
  have HZ : Hid (szF (zVocab x) 1048576 = z) := hz
  clear hz
  by_cases hneg : z < 0
  · go_wp2
    go_ret
    exact ⟨rfl, HDN.out _ HCw1.out⟩
  have HLN : Hid (LnVocab x 1048576) := ln_voc (sz_smallV (by rw [HZ.out]; exact hneg))
  have e0 := HBX.out w1 HCw1.out
  go_wp2_with fail
  refine (toVocS_c x v0 _ HLN.out (HRD.out _ HCw1.out)).mono ?_
  rintro e w2 ⟨p, cp, rfl, howw2, bw2⟩
  have HCw2 : Hid (Below W0.heap.size W0 w2) := HCw1.out.trans (bw2.mono HCw1.out.size)
  have HO2 : Hid (RdVocab w2 x (.slice p x.f0.length cp)) := OwVocab.rd howw2
  clear bw2 howw2 e0
  go_wp2_with fail
  refine (toIntS_c _ ts _ HTL.out (HTD.out _ HCw2.out)).mono ?_
  rintro e wt ⟨qt, ct, rfl, hoiwt, bwt⟩
  have HCwt : Hid (Below W0.heap.size W0 wt) := HCw2.out.trans (bwt.mono HCw2.out.size)
  have HO2t : Hid (RdVocab wt x (.slice p x.f0.length cp)) := RdVocab.keep HO2.out bwt (Nat.le_refl _)
  have HIt : Hid (IR wt (.slice qt ts.length ct) ts) := hoiwt.row
  have HCP : Hid (ts.length ≤ ct) := ioCap hoiwt
  clear bwt hoiwt
  go_wp2_with fail
  refine (specSt_c x.f0 p cp ts qt ct wt HLN.out HTL.out HO2t.out HIt.out).mono ?_
  rintro e w3 ⟨rfl, bw3⟩
  have HCw3 : Hid (Below W0.heap.size W0 w3) := HCwt.out.trans (bw3.mono HCwt.out.size)
  obtain ⟨b, hb⟩ : ∃ b, stB x.f0 ts = b := ⟨_, rfl⟩
  have Hbb : Hid (stB x.f0 ts = b) := hb
  rw [hb]
  clear hb
  clear bw3
  have e0 := HBX.out w3 HCw3.out
  go_wp2_with fail
  refine (toVocS_c x v0 _ HLN.out (HRD.out _ HCw3.out)).mono ?_
  rintro e w4 ⟨q, cq, rfl, howw4, bw4⟩
  have HCw4 : Hid (Below W0.heap.size W0 w4) := HCw3.out.trans (bw4.mono HCw3.out.size)
  obtain ⟨WX, hWX⟩ : ∃ W, W = w4.alloc (.cells #[.slice q x.f0.length cq] 31) := ⟨_, rfl⟩
  have HWX : Hid (w4.alloc (.cells #[.slice q x.f0.length cq] 31) = WX) := hWX.symm
  have HSX : Hid (WX.heap.size = w4.heap.size + 1) := by show _ = _; rw [hWX]; simp
  have HBb : Hid (Below w4.heap.size w4 WX) := by rw [hWX]; exact (Below.refl _ _).alloc (Nat.le_refl _) _
  have HCWX : Hid (Below W0.heap.size W0 WX) := HCw4.out.trans (HBb.out.mono HCw4.out.size)
  have HVWX : Hid (Below w3.heap.size w3 WX) := bw4.trans (HBb.out.mono bw4.size)
  have HOX : Hid (OwVocab WX w3.heap.size x (.slice q x.f0.length cq)) := OwVocab.keep howw4 HBb.out (Nat.le_refl _)
  have HXX : Hid (∀ W', Below WX.heap.size WX W' → W'.cell? ⟨w4.heap.size, 0, none⟩ = some (.slice q x.f0.length cq)) := fun W' hbel => by
    have hk : W'.heap[w4.heap.size]? = some (.cells #[.slice q x.f0.length cq] 31) := by rw [hbel.block _ (by rw [HSX.out]; exact Nat.lt_succ_self _), hWX]; exact alloc_last _ _
    exact box1 hk
  clear bw4 howw4 e0 hWX
  go_wp2_with fail
  rw [HWX.out]
  refine (toIntS_c _ ts _ HTL.out (HTD.out _ HCWX.out)).mono ?_
  rintro e wu ⟨q1, c1, rfl, hoiwu, bwu⟩
  have HCwu : Hid (Below W0.heap.size W0 wu) := HCWX.out.trans (bwu.mono HCWX.out.size)
  have HYu : Hid (Below WX.heap.size WX wu) := bwu
  have HIu : Hid (IO wu WX.heap.size (.slice q1 ts.length c1) ts) := hoiwu
  clear bwu hoiwu
  have f0 := HXX.out wu HYu.out
  go_wp2_with fail
  refine (implSt_c x.f0 q cq ts q1 c1 wu HLN.out HTL.out (RdVocab.keep (OwVocab.rd HOX.out) HYu.out (Nat.le_refl _)) HIu.out.row).mono ?_
  rintro e w5 ⟨rfl, bw5⟩
  have HCw5 : Hid (Below W0.heap.size W0 w5) := HCwu.out.trans (bw5.mono HCwu.out.size)
  have HY5 : Hid (Below WX.heap.size WX w5) := HYu.out.trans (bw5.mono HYu.out.size)
  have HI5 : Hid (IO w5 WX.heap.size (.slice q1 ts.length c1) ts) := own_bel HIu.out bw5 (Nat.le_refl _)
  rw [Hbb.out]
  have HV5 : Hid (Below w3.heap.size w3 w5) := HVWX.out.trans (HY5.out.mono HVWX.out.size)
  clear bw5 f0
  go_upto_region 13 with fail
  refine wp_genW (fun W => Hid (Below WX.heap.size WX W) ∧ Hid (Below W0.heap.size W0 W) ∧ Hid (Below w3.heap.size w3 W) ∧ Hid (IO W WX.heap.size (.slice q1 ts.length c1) ts)) ⟨HY5.out, HCw5.out, HV5.out, HI5.out⟩ ?_
  rintro W1 ⟨HY1, HC1', HV1', HI1'⟩
  refine wp_region_L [⟨3, fun W => ∀ j u, ([.slice q x.f0.length cq] : List Value)[j]? = some u → W.cell? ((⟨w4.heap.size, 0, none⟩ : Addr).add j) = some u⟩, ⟨2, fun W => ∀ j u, ([v0] : List Value)[j]? = some u → W.cell? ((⟨w.heap.size, 0, none⟩ : Addr).add j) = some u⟩] (by kernel_rfl) (fun f hf => by
    simp only [List.mem_cons, List.not_mem_nil, or_false] at hf
    rcases hf with rfl | rfl
    · exact cell1V (HXX.out _ HY1.out.drew)
    · exact cell1V (HBX.out _ HC1'.out.drew)) ?_
  refine At.take 0 (some 33) (.agg #[.slice q x.f0.length cq]) rfl rfl (by kernel_rfl) (by kernel_rfl) (by kernel_rfl) (by kernel_rfl) (fun _ _ _ h => h) (yl_loads 3 ⟨w4.heap.size, 0, none⟩ [.slice q x.f0.length cq] (List.mem_cons_self) [3] (by kernel_rfl) rfl (by kernel_rfl) (fun _ => by kernel_rfl)) ?_
  refine At.take 1 (some 34) (.agg #[v0]) rfl rfl (by kernel_rfl) (by kernel_rfl) (by kernel_rfl) (by kernel_rfl) (fun _ _ _ h => h) (yl_loads 2 ⟨w.heap.size, 0, none⟩ [v0] (List.mem_cons_of_mem _ (List.mem_cons_self)) [2] (by kernel_rfl) rfl (by kernel_rfl) (fun _ => by kernel_rfl)) ?_
  refine At.step 2 (some 35) rfl rfl (by kernel_rfl) (by kernel_rfl) (fun u W => ∃ p c, u = .agg #[.slice p x.f0.length c] ∧ OwVocab W W1.drew.heap.size x (.slice p x.f0.length c) ∧ Below W1.drew.heap.size W1.drew W) (gives_call (by kernel_rfl) ((toVocS_c x v0 W1.drew HLN.out (HRD.out _ HC1'.out.drew)).mono fun e w' ⟨p, c, he, ho, hb⟩ => ⟨_, he, p, c, rfl, ho, hb⟩)) ?_
  rintro u Z1 ⟨p2, c2, rfl, ho, b1⟩
  have HY2 : Hid (Below WX.heap.size WX Z1) := HY1.out.trans ((bel_undrewV b1).mono HY1.out.size)
  have HBZ : Hid (Below W1.heap.size W1 Z1) := bel_undrewV b1
  refine ⟨held_cons (.inr (cell1V (HXX.out _ HY2.out))) (held_cons (.inl (by kernel_rfl)) (held_nil)), ?_⟩
  refine At.step 3 (some 36) rfl rfl (by kernel_rfl) (by kernel_rfl) (fun u W => u = .bool true ∧ Below Z1.heap.size Z1 W) (gives_call (by kernel_rfl) ((eqVocab_c x (.slice q x.f0.length cq) (.slice p2 x.f0.length c2) Z1 HLN.out (RdVocab.keep (OwVocab.rd HOX.out) HY2.out (Nat.le_refl _)) (OwVocab.rd ho)).mono fun e w' ⟨he, hb⟩ => ⟨_, he, rfl, hb⟩)) ?_
  rintro u w9 ⟨rfl, b2⟩
  have b3 : Below W1.heap.size W1 w9 := HBZ.out.trans (b2.mono HBZ.out.size)
  have HCw9 : Hid (Below W0.heap.size W0 w9) := HC1'.out.trans (b3.mono HC1'.out.size)
  have HV9 : Hid (Below w3.heap.size w3 w9) := HV1'.out.trans (b3.mono HV1'.out.size)
  have HY9 : Hid (Below WX.heap.size WX w9) := HY1.out.trans (b3.mono HY1.out.size)
  have HI9 : Hid (IO w9 WX.heap.size (.slice q1 ts.length c1) ts) := own_bel HI1'.out b3 (Nat.le_refl _)
  refine ⟨held_cons (.inl (by kernel_rfl)) (held_cons (.inl (by kernel_rfl)) (held_nil)), ?_⟩
  refine At.take 4 (some 37) (.bool false) rfl rfl (by kernel_rfl) (by kernel_rfl) (by kernel_rfl) (by kernel_rfl) (fun _ _ _ h => h) (yl_pure (by kernel_rfl) (fun _ => by kernel_rfl)) ?_
  refine At.done (by kernel_rfl) ?_
  simp only [Act.put, List.setIfInBounds_toArray, List.set_cons_zero, List.set_cons_succ]
  clear ho b1 b2 b3
  go_wp2_with fail
  refine (toIntS_c _ ts _ HTL.out (HTD.out _ HCw9.out)).mono ?_
  rintro e w10 ⟨q2, c2, rfl, hoiw10, bw10⟩
  have HCw10 : Hid (Below W0.heap.size W0 w10) := HCw9.out.trans (bw10.mono HCw9.out.size)
  have HI10 : Hid (IO w10 WX.heap.size (.slice q1 ts.length c1) ts) := own_bel HI9.out bw10 (Nat.le_refl _)
  have HV10 : Hid (Below w3.heap.size w3 w10) := HV9.out.trans (bw10.mono HV9.out.size)
  have HY10 : Hid (Below WX.heap.size WX w10) := HY9.out.trans (bw10.mono HY9.out.size)
  have HJ10 : Hid (IR w10 (.slice q2 ts.length c2) ts) := hoiw10.row
  clear bw10 hoiw10
  go_wp2_with fail
  refine (eqIntS_c _ _ ts w10 HTL.out HI10.out.row HJ10.out).mono ?_
  rintro e w11 ⟨rfl, b11⟩
  have HCw11 : Hid (Below W0.heap.size W0 w11) := HCw10.out.trans (b11.mono HCw10.out.size)
  have HV11 : Hid (Below w3.heap.size w3 w11) := HV10.out.trans (b11.mono HV10.out.size)
  have HY11 : Hid (Below WX.heap.size WX w11) := HY10.out.trans (b11.mono HY10.out.size)
  have HI11 : Hid (IO w11 WX.heap.size (.slice q1 ts.length c1) ts) := own_bel HI10.out b11 (Nat.le_refl _)
  clear b11
  go_wp2
  go_ret
  exact ⟨rfl, HDN.out _ HCw11.out⟩

end Go.Proofs.Ytgfbmcibmlpafaa
