/- The exact law of Encode, walked. -/
import Derived.Test.YtdggkcohidijcaaVlBase
import Derived.Test.YtdggkcohidijcaaHaOpV
import Derived.Test.YtdggkcohidijcaaC9ESpec
import Derived.Test.YtdggkcohidijcaaJB
import Derived.Test.YtdggkcohidijcaaJM
namespace Go.Proofs.Ytdggkcohidijcaa
open Go.RowKit
set_option linter.unusedVariables false
set_option linter.unusedSimpArgs false

set_option maxRecDepth 20000 in
set_option maxHeartbeats 8000000 in
theorem encode_law (x : S_Vocab) (v0 : Value) (s : ByteArray) (w : World) (hs : SmVocab x) (hg : gVocab x) (hts : s.size ≤ maxLen) (h : RdVocab w x v0) :
    Calls Try.prog 7 #[.agg #[v0], .string s] w fun e w' => e = .returned (.bool true) ∧ Below w.heap.size w w' := by
  obtain ⟨W0, hW0⟩ : ∃ W, W = w.alloc (.cells #[v0] 50) := ⟨_, rfl⟩
  have HW0 : Hid (w.alloc (.cells #[v0] 50) = W0) := hW0.symm
  have HS0 : Hid (W0.heap.size = w.heap.size + 1) := by show _ = _; rw [hW0]; simp
  have HB0 : Hid (Below w.heap.size w W0) := by rw [hW0]; exact (Below.refl _ _).alloc (Nat.le_refl _) _
  have HBX : Hid (∀ W', Below W0.heap.size W0 W' → W'.cell? ⟨w.heap.size, 0, none⟩ = some v0) := fun W' hbel => by
    have hk : W'.heap[w.heap.size]? = some (.cells #[v0] 50) := by rw [hbel.block _ (by rw [HS0.out]; exact Nat.lt_succ_self _), hW0]; exact alloc_last _ _
    exact box1 hk
  have HRD : Hid (∀ W', Below W0.heap.size W0 W' → RdVocab W' x v0) := fun W' hbel => RdVocab.keep (h.keep HB0.out (Nat.le_refl _)) hbel (Nat.le_refl _)
  have HDN : Hid (∀ W', Below W0.heap.size W0 W' → Below w.heap.size w W') := fun W' hbel => HB0.out.trans (hbel.mono (by rw [HS0.out]; exact Nat.le_succ _))
  have HSM : Hid (SmVocab x) := hs
  clear hW0 h hs hg hts
  by_cases hbig : (1048576 : Int) < (s.size : Int)
  · go_enter Try.func7, Try.ntmps7
    go_wp2_with fail
    rw [HW0.out]
    go_ret
    exact ⟨rfl, HB0.out⟩
  have HTL : Hid (s.size ≤ 1048576) := by show _ ≤ _; omega
  go_enter Try.func7, Try.ntmps7
  go_wp2_with fail
  rw [HW0.out]
  refine (szVocab_c x 1048576 v0 _ (by decide) (by decide) HSM.out (HRD.out _ (Below.refl _ _))).mono ?_
  rintro e w1 ⟨rfl, b1⟩
  have HCw1 : Hid (Below W0.heap.size W0 w1) := b1
  clear b1
  generalize hz : szF (zVocab x) 1048576 = z
  have HZ : Hid (szF (zVocab x) 1048576 = z) := hz
  clear hz
  by_cases hneg : z < 0
  · go_wp2
    go_ret
    exact ⟨rfl, HDN.out _ HCw1.out⟩
  have HLN : Hid (LnVocab x 1048576) := ln_voc (sz_smallV (by rw [HZ.out]; exact hneg))
  have e0 := HBX.out w1 HCw1.out
  go_wp2_with fail
  refine (toVocS_c x v0 _ HLN.out (HRD.out _ HCw1.out)).mono ?_
  rintro e w2 ⟨p, cp, rfl, howw2, bw2⟩
  have HCw2 : Hid (Below W0.heap.size W0 w2) := HCw1.out.trans (bw2.mono HCw1.out.size)
  have HO2 : Hid (RdVocab w2 x (.slice p x.f0.length cp)) := OwVocab.rd howw2
  clear bw2 howw2 e0
  go_wp2_with fail
  refine (specEnc_c x.f0 p cp s w2 HLN.out HTL.out HO2.out).mono ?_
  rintro e w3 ⟨vS, rfl, hoS, bw3⟩
  obtain ⟨pS, kS, rfl⟩ := own_sliceV hoS
  have HCw3 : Hid (Below W0.heap.size W0 w3) := HCw2.out.trans (bw3.mono HCw2.out.size)
  have HRL : Hid ((encF x.f0 s).length ≤ 1000) := encF_len x.f0 s
  obtain ⟨R, hR⟩ : ∃ R, encF x.f0 s = R := ⟨_, rfl⟩
  have HRR : Hid (encF x.f0 s = R) := hR
  rw [hR] at hoS HRL ⊢
  have HOS : Hid (IO w3 w2.heap.size (.slice pS R.length kS) R) := hoS
  clear hR hoS
  obtain ⟨b, hb⟩ : ∃ b, enC x.f0 s = b := ⟨_, rfl⟩
  have Hbb : Hid (enC x.f0 s = b) := hb
  rw [hb]
  clear hb
  clear bw3
  have e0 := HBX.out w3 HCw3.out
  go_wp2_with fail
  refine (toVocS_c x v0 _ HLN.out (HRD.out _ HCw3.out)).mono ?_
  rintro e w4 ⟨q, cq, rfl, howw4, bw4⟩
  have HCw4 : Hid (Below W0.heap.size W0 w4) := HCw3.out.trans (bw4.mono HCw3.out.size)
  obtain ⟨WX, hWX⟩ : ∃ W, W = w4.alloc (.cells #[.slice q x.f0.length cq] 26) := ⟨_, rfl⟩
  have HWX : Hid (w4.alloc (.cells #[.slice q x.f0.length cq] 26) = WX) := hWX.symm
  have HSX : Hid (WX.heap.size = w4.heap.size + 1) := by show _ = _; rw [hWX]; simp
  have HBb : Hid (Below w4.heap.size w4 WX) := by rw [hWX]; exact (Below.refl _ _).alloc (Nat.le_refl _) _
  have HCWX : Hid (Below W0.heap.size W0 WX) := HCw4.out.trans (HBb.out.mono HCw4.out.size)
  have HVWX : Hid (Below w3.heap.size w3 WX) := bw4.trans (HBb.out.mono bw4.size)
  have HOX : Hid (OwVocab WX w3.heap.size x (.slice q x.f0.length cq)) := OwVocab.keep howw4 HBb.out (Nat.le_refl _)
  have HXX : Hid (∀ W', Below WX.heap.size WX W' → W'.cell? ⟨w4.heap.size, 0, none⟩ = some (.slice q x.f0.length cq)) := fun W' hbel => by
    have hk : W'.heap[w4.heap.size]? = some (.cells #[.slice q x.f0.length cq] 26) := by rw [hbel.block _ (by rw [HSX.out]; exact Nat.lt_succ_self _), hWX]; exact alloc_last _ _
    exact box1 hk
  clear bw4 howw4 e0 hWX
  have f0 := HXX.out WX (Below.refl _ _)
  go_wp2_with fail
  rw [HWX.out]
  refine (implEnc_c x.f0 q cq s WX HLN.out HTL.out (OwVocab.rd HOX.out)).mono ?_
  rintro e w5 ⟨vG, rfl, hoG, bw5⟩
  obtain ⟨pG, kG, rfl⟩ := own_sliceV hoG
  have HCw5 : Hid (Below W0.heap.size W0 w5) := HCWX.out.trans (bw5.mono HCWX.out.size)
  have HY5 : Hid (Below WX.heap.size WX w5) := bw5
  rw [HRR.out] at hoG ⊢
  have HOG : Hid (IO w5 WX.heap.size (.slice pG R.length kG) R) := hoG
  clear hoG
  rw [Hbb.out]
  have HV5 : Hid (Below w3.heap.size w3 w5) := HVWX.out.trans (HY5.out.mono HVWX.out.size)
  clear bw5 f0
  have HR1 : Hid (R.length ≤ 1048576) := by have := HRL.out; show _ ≤ _; omega
  go_wp2_with fail
  refine (eqIntS_c _ _ R w5 HR1.out HOG.out.row (IR.keep HOS.out.row HV5.out (Nat.le_refl _))).mono ?_
  rintro e w6 ⟨rfl, b6⟩
  have HCw6 : Hid (Below W0.heap.size W0 w6) := HCw5.out.trans (b6.mono HCw5.out.size)
  have HY6 : Hid (Below WX.heap.size WX w6) := HY5.out.trans (b6.mono HY5.out.size)
  have HV6 : Hid (Below w3.heap.size w3 w6) := HV5.out.trans (b6.mono HV5.out.size)
  have HG6 : Hid (IO w6 WX.heap.size (.slice pG R.length kG) R) := own_bel HOG.out b6 (Nat.le_refl _)
  clear b6
  go_upto_region 12 with fail
  refine wp_genW (fun W => Hid (Below WX.heap.size WX W) ∧ Hid (Below W0.heap.size W0 W) ∧ Hid (Below w3.heap.size w3 W) ∧ Hid (IO W WX.heap.size (.slice pG R.length kG) R)) ⟨HY6.out, HCw6.out, HV6.out, HG6.out⟩ ?_
  rintro W1 ⟨HY1, HC1', HV1', HG1'⟩
  refine wp_region_L [⟨3, fun W => ∀ j u, ([.slice q x.f0.length cq] : List Value)[j]? = some u → W.cell? ((⟨w4.heap.size, 0, none⟩ : Addr).add j) = some u⟩, ⟨2, fun W => ∀ j u, ([v0] : List Value)[j]? = some u → W.cell? ((⟨w.heap.size, 0, none⟩ : Addr).add j) = some u⟩] (by kernel_rfl) (fun f hf => by
    simp only [List.mem_cons, List.not_mem_nil, or_false] at hf
    rcases hf with rfl | rfl
    · exact cell1V (HXX.out _ HY1.out.drew)
    · exact cell1V (HBX.out _ HC1'.out.drew)) ?_
  refine At.take 0 (some 48) (.agg #[.slice q x.f0.length cq]) rfl rfl (by kernel_rfl) (by kernel_rfl) (by kernel_rfl) (by kernel_rfl) (fun _ _ _ h => h) (yl_loads 3 ⟨w4.heap.size, 0, none⟩ [.slice q x.f0.length cq] (List.mem_cons_self) [3] (by kernel_rfl) rfl (by kernel_rfl) (fun _ => by kernel_rfl)) ?_
  refine At.take 1 (some 49) (.agg #[v0]) rfl rfl (by kernel_rfl) (by kernel_rfl) (by kernel_rfl) (by kernel_rfl) (fun _ _ _ h => h) (yl_loads 2 ⟨w.heap.size, 0, none⟩ [v0] (List.mem_cons_of_mem _ (List.mem_cons_self)) [2] (by kernel_rfl) rfl (by kernel_rfl) (fun _ => by kernel_rfl)) ?_
  refine At.step 2 (some 50) rfl rfl (by kernel_rfl) (by kernel_rfl) (fun u W => ∃ p c, u = .agg #[.slice p x.f0.length c] ∧ OwVocab W W1.drew.heap.size x (.slice p x.f0.length c) ∧ Below W1.drew.heap.size W1.drew W) (gives_call (by kernel_rfl) ((toVocS_c x v0 W1.drew HLN.out (HRD.out _ HC1'.out.drew)).mono fun e w' ⟨p, c, he, ho, hb⟩ => ⟨_, he, p, c, rfl, ho, hb⟩)) ?_
  rintro u Z1 ⟨p2, c2, rfl, ho, b1⟩
  have HY2 : Hid (Below WX.heap.size WX Z1) := HY1.out.trans ((bel_undrewV b1).mono HY1.out.size)
  have HBZ : Hid (Below W1.heap.size W1 Z1) := bel_undrewV b1
  refine ⟨held_cons (.inr (cell1V (HXX.out _ HY2.out))) (held_cons (.inl (by kernel_rfl)) (held_nil)), ?_⟩
  refine At.step 3 (some 51) rfl rfl (by kernel_rfl) (by kernel_rfl) (fun u W => u = .bool true ∧ Below Z1.heap.size Z1 W) (gives_call (by kernel_rfl) ((eqVocab_c x (.slice q x.f0.length cq) (.slice p2 x.f0.length c2) Z1 HLN.out (RdVocab.keep (OwVocab.rd HOX.out) HY2.out (Nat.le_refl _)) (OwVocab.rd ho)).mono fun e w' ⟨he, hb⟩ => ⟨_, he, rfl, hb⟩)) ?_
  rintro u w9 ⟨rfl, b2⟩
  have b3 : Below W1.heap.size W1 w9 := HBZ.out.trans (b2.mono HBZ.out.size)
  have HCw9 : Hid (Below W0.heap.size W0 w9) := HC1'.out.trans (b3.mono HC1'.out.size)
  have HV9 : Hid (Below w3.heap.size w3 w9) := HV1'.out.trans (b3.mono HV1'.out.size)
  have HY9 : Hid (Below WX.heap.size WX w9) := HY1.out.trans (b3.mono HY1.out.size)
  have HG9 : Hid (IO w9 WX.heap.size (.slice pG R.length kG) R) := own_bel HG1'.out b3 (Nat.le_refl _)
  refine ⟨held_cons (.inl (by kernel_rfl)) (held_cons (.inl (by kernel_rfl)) (held_nil)), ?_⟩
  refine At.take 4 (some 52) (.bool false) rfl rfl (by kernel_rfl) (by kernel_rfl) (by kernel_rfl) (by kernel_rfl) (fun _ _ _ h => h) (yl_pure (by kernel_rfl) (fun _ => by kernel_rfl)) ?_
  refine At.done (by kernel_rfl) ?_
  simp only [Act.put, List.setIfInBounds_toArray, List.set_cons_zero, List.set_cons_succ]
  clear ho b1 b2 b3
  have f0 := HXX.out w9 HY9.out
  have HOXn : Hid (OwVocab w9 w3.heap.size x (.slice q x.f0.length cq)) := OwVocab.keep HOX.out HY9.out (Nat.le_refl _)
  go_wp2_with fail
  refine (markVocab_c x 1 (.slice q x.f0.length cq) w3.heap.size w9 HLN.out (by decide) (by decide) HV9.out.size HOXn.out).mono ?_
  rintro e w12 ⟨rfl, _, hbut⟩
  have HB12 : Hid (Below w3.heap.size w9 w12) := hbut.below (fun u hu k hk => by rw [List.mem_singleton.1 hu] at hk; exact (HOX.out.lt k hk).1) HV9.out.size
  have HV12 : Hid (Below w3.heap.size w3 w12) := HV9.out.trans HB12.out
  have HWXs : Hid (WX.heap.size ≤ WX.heap.size) := Nat.le_refl _
  have HG12 : Hid (IO w12 WX.heap.size (.slice pG R.length kG) R) := hbut.own HG9.out (fun u hu k hk => by rw [List.mem_singleton.1 hu] at hk; exact Nat.lt_of_lt_of_le (HOX.out.lt k hk).2 HWXs.out)
  have HCw12 : Hid (Below W0.heap.size W0 w12) := HCw3.out.trans (HV12.out.mono HCw3.out.size)
  obtain ⟨K, hK⟩ : ∃ K : Int, 1 + ((x.f0.length * 2 : Nat) : Int) = K := ⟨_, rfl⟩
  have HKb : Hid (0 < K ∧ K ≤ 3000000) := by have h1 : x.f0.length ≤ 1048576 := HLN.out; exact ⟨by omega, by omega⟩
  have hK0 : ¬ K < 0 := by have := HKb.out.1; omega
  rw [hK]
  clear hbut hK f0 HOXn
  go_wp2_with fail
  refine (eqIntS_c _ _ R w12 HR1.out HG12.out.row (IR.keep HOS.out.row HV12.out (Nat.le_refl _))).mono ?_
  rintro e w14 ⟨rfl, b14⟩
  have HV14 : Hid (Below w3.heap.size w3 w14) := HV12.out.trans (b14.mono HV12.out.size)
  have HG14 : Hid (IO w14 WX.heap.size (.slice pG R.length kG) R) := own_bel HG12.out b14 (Nat.le_refl _)
  have HLW : Hid (w3.heap.size ≤ WX.heap.size) := Nat.le_trans HVWX.out.size (Nat.le_refl _)
  clear b14
  go_wp2_with fail
  refine (markIntS_c _ R.length _ 1 WX.heap.size w14 HR1.out (by decide) (by decide) HG14.out).mono ?_
  rintro e w15 ⟨rfl, hmk, hbv⟩
  have hbut := ButL.of_butV (vs := [.slice pG R.length kG]) hbv (by simp)
  have HV15 : Hid (Below w3.heap.size w3 w15) := HV14.out.trans (hbut.below (fun u hu k hk => by rw [List.mem_singleton.1 hu] at hk; exact Nat.le_trans HLW.out (HG14.out.lt k hk).1) HV14.out.size)
  have HM15 : Hid (w15.ownsRow WX.heap.size 3 1 (.slice pG R.length kG) R.length (mI 1 R.length)) := hmk
  have hrl : (R.length : Int) ≤ 1000 := by have := HRL.out; omega
  have HKR : Hid (1 + (R.length : Int) = 1 + (R.length : Int)) := rfl
  clear hbut hbv hmk
  obtain ⟨M, hM⟩ : ∃ M : Int, 1 + (R.length : Int) = M := ⟨_, rfl⟩
  have HMM : Hid (1 + (R.length : Int) = M) := hM
  have hM0 : ¬ M < 0 := by omega
  rw [hM]
  clear hM
  go_wp2_with fail
  refine (heldIntS_c _ R.length 1 w15 HR1.out (by decide) (by decide) (RowR.own HM15.out)).mono ?_
  rintro e w16 ⟨rfl, b16⟩
  rw [HMM.out]
  have HV16 : Hid (Below w3.heap.size w3 w16) := HV15.out.trans (b16.mono HV15.out.size)
  have HM16 : Hid (w16.ownsRow WX.heap.size 3 1 (.slice pG R.length kG) R.length (mI 1 R.length)) := own_bel HM15.out b16 (Nat.le_refl _)
  have HCw16 : Hid (Below W0.heap.size W0 w16) := HCw3.out.trans (HV16.out.mono HCw3.out.size)
  clear b16
  have e0 := HBX.out w16 HCw16.out
  go_wp2_with fail
  refine (toVocS_c x v0 _ HLN.out (HRD.out _ HCw16.out)).mono ?_
  rintro e w17 ⟨p3, c3, rfl, howw17, bw17⟩
  have HCw17 : Hid (Below W0.heap.size W0 w17) := HCw16.out.trans (bw17.mono HCw16.out.size)
  have HV17 : Hid (Below w3.heap.size w3 w17) := HV16.out.trans (bw17.mono HV16.out.size)
  have HM17 : Hid (w17.ownsRow WX.heap.size 3 1 (.slice pG R.length kG) R.length (mI 1 R.length)) := own_bel HM16.out bw17 (Nat.le_refl _)
  have HO17 : Hid (RdVocab w17 x (.slice p3 x.f0.length c3)) := OwVocab.rd howw17
  clear bw17 howw17 e0
  go_wp2_with fail
  refine (implEnc_c x.f0 p3 c3 s w17 HLN.out HTL.out HO17.out).mono ?_
  rintro e w19 ⟨vH, rfl, hoH, bw19⟩
  obtain ⟨pH, kH, rfl⟩ := own_sliceV hoH
  have HCw19 : Hid (Below W0.heap.size W0 w19) := HCw17.out.trans (bw19.mono HCw17.out.size)
  rw [HRR.out] at hoH ⊢
  have HOH : Hid (IO w19 w17.heap.size (.slice pH R.length kH) R) := hoH
  rw [Hbb.out]
  have HV19 : Hid (Below w3.heap.size w3 w19) := HV17.out.trans (bw19.mono HV17.out.size)
  have HM19 : Hid (w19.ownsRow WX.heap.size 3 1 (.slice pG R.length kG) R.length (mI 1 R.length)) := own_bel HM17.out bw19 (Nat.le_refl _)
  clear bw19 hoH
  go_wp2_with fail
  refine (eqIntS_c _ _ R w19 HR1.out HOH.out.row (IR.keep HOS.out.row HV19.out (Nat.le_refl _))).mono ?_
  rintro e w20 ⟨rfl, b20⟩
  have HV20 : Hid (Below w3.heap.size w3 w20) := HV19.out.trans (b20.mono HV19.out.size)
  have HM20 : Hid (w20.ownsRow WX.heap.size 3 1 (.slice pG R.length kG) R.length (mI 1 R.length)) := own_bel HM19.out b20 (Nat.le_refl _)
  clear b20
  go_wp2_with fail
  refine (heldIntS_c _ R.length 1 w20 HR1.out (by decide) (by decide) (RowR.own HM20.out)).mono ?_
  rintro e w21 ⟨rfl, b21⟩
  rw [HMM.out]
  have HV21 : Hid (Below w3.heap.size w3 w21) := HV20.out.trans (b21.mono HV20.out.size)
  clear b21
  go_wp2
  go_ret
  exact ⟨rfl, HDN.out _ (HCw3.out.trans (HV21.out.mono HCw3.out.size))⟩

end Go.Proofs.Ytdggkcohidijcaa
