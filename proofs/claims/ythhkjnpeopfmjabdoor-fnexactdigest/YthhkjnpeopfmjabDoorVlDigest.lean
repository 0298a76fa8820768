/- The exact law of Digest, walked. -/
import Derived.Test.YthhkjnpeopfmjabDoorVlBase
import Derived.Test.YthhkjnpeopfmjabDoorHaOpV
import Derived.Test.YthhkjnpeopfmjabDoorVkDig
namespace Go.Proofs.YthhkjnpeopfmjabDoor
open Go.RowKit
set_option linter.unusedVariables false
set_option linter.unusedSimpArgs false

set_option maxRecDepth 20000 in
set_option maxHeartbeats 8000000 in
theorem digest_law (x : S_Vocab) (v0 : Value) (w : World) (hG : 0 < w.heap.size) (hT : Tab w kL) (hs : SmVocab x) (hg : gVocab x) (h : RdVocab w x v0) :
    Calls Tryd.prog 3 #[.agg #[v0]] w fun e w' => e = .returned (.bool true) ∧ Below w.heap.size w w' := by
  obtain ⟨W0, hW0⟩ : ∃ W, W = w.alloc (.cells #[v0] 24) := ⟨_, rfl⟩
  have HW0 : Hid (w.alloc (.cells #[v0] 24) = W0) := hW0.symm
  have HS0 : Hid (W0.heap.size = w.heap.size + 1) := by show _ = _; rw [hW0]; simp
  have HB0 : Hid (Below w.heap.size w W0) := by rw [hW0]; exact (Below.refl _ _).alloc (Nat.le_refl _) _
  have HR0 : Hid (RdVocab W0 x v0) := h.keep HB0.out (Nat.le_refl _)
  have HBX : Hid (∀ W', Below W0.heap.size W0 W' → W'.cell? ⟨w.heap.size, 0, none⟩ = some v0) := fun W' hbel => by
    have hk : W'.heap[w.heap.size]? = some (.cells #[v0] 24) := by rw [hbel.block _ (by rw [HS0.out]; exact Nat.lt_succ_self _), hW0]; exact alloc_last _ _
    exact box1 hk
  have HRD : Hid (∀ W', Below W0.heap.size W0 W' → RdVocab W' x v0) := fun W' hbel => RdVocab.keep HR0.out hbel (Nat.le_refl _)
  have HDN : Hid (∀ W', Below W0.heap.size W0 W' → Below w.heap.size w W') := fun W' hbel => HB0.out.trans (hbel.mono (by rw [HS0.out]; exact Nat.le_succ _))
  have HSM : Hid (SmVocab x) := hs
  have HG : Hid (0 < w.heap.size) := hG
  have HT : Hid (Tab w kL) := hT
  clear hG hT
  clear hW0 h hs hg
  go_enter Tryd.func3, Tryd.ntmps3
  go_wp2_with fail
  rw [HW0.out]
  refine (szVocab_c x 1048576 v0 _ (by decide) (by decide) HSM.out HR0.out).mono ?_
  rintro e w1 ⟨rfl, b1⟩
  have HC1 : Hid (Below W0.heap.size W0 w1) := b1
  clear b1
  generalize hz : szF (zVocab x) 1048576 = z
  have HZ : Hid (szF (zVocab x) 1048576 = z) := hz
  clear hz
  by_cases hneg : z < 0
  · go_wp2
    go_ret
    exact ⟨rfl, HDN.out _ HC1.out⟩
  have HLN : Hid (LnVocab x 1048576) := ln_voc (sz_smallV (by rw [HZ.out]; exact hneg))
  have e0 := HBX.out w1 HC1.out
  go_wp2_with fail
  refine (toVocS_c x v0 _ HLN.out (HRD.out _ HC1.out)).mono ?_
  rintro e w2 ⟨p, cp, rfl, how, b2⟩
  have HC2 : Hid (Below W0.heap.size W0 w2) := HC1.out.trans (b2.mono HC1.out.size)
  have HO2 : Hid (RdVocab w2 x (.slice p x.f0.length cp)) := OwVocab.rd how
  clear b2 how e0
  go_wp2_with fail
  refine (specDig_c x.f0 p cp w2  HLN.out HO2.out).mono ?_
  rintro e w3 ⟨rfl, b3⟩
  have HC3 : Hid (Below W0.heap.size W0 w3) := HC2.out.trans (b3.mono HC2.out.size)
  clear b3 HO2
  have e0 := HBX.out w3 HC3.out
  generalize hB : digT x.f0 = B
  have HBk : Hid (digT x.f0 = B) := hB
  clear hB
  go_wp2_with fail
  refine (toVocS_c x v0 _ HLN.out (HRD.out _ HC3.out)).mono ?_
  rintro e w4 ⟨q, cq, rfl, how, b2⟩
  have HC4 : Hid (Below W0.heap.size W0 w4) := HC3.out.trans (b2.mono HC3.out.size)
  obtain ⟨WX, hWX⟩ : ∃ W, W = w4.alloc (.cells #[.slice q x.f0.length cq] 29) := ⟨_, rfl⟩
  have HWX : Hid (w4.alloc (.cells #[.slice q x.f0.length cq] 29) = WX) := hWX.symm
  have HSX : Hid (WX.heap.size = w4.heap.size + 1) := by show _ = _; rw [hWX]; simp
  have HBb : Hid (Below w4.heap.size w4 WX) := by rw [hWX]; exact (Below.refl _ _).alloc (Nat.le_refl _) _
  have HCX : Hid (Below W0.heap.size W0 WX) := HC4.out.trans (HBb.out.mono HC4.out.size)
  have HOX : Hid (RdVocab WX x (.slice q x.f0.length cq)) := RdVocab.keep (OwVocab.rd how) HBb.out (Nat.le_refl _)
  have HXX : Hid (∀ W', Below WX.heap.size WX W' → W'.cell? ⟨w4.heap.size, 0, none⟩ = some (.slice q x.f0.length cq)) := fun W' hbel => by
    have hk : W'.heap[w4.heap.size]? = some (.cells #[.slice q x.f0.length cq] 29) := by rw [hbel.block _ (by rw [HSX.out]; exact Nat.lt_succ_self _), hWX]; exact alloc_last _ _
    exact box1 hk
  have f0 := HXX.out WX (Below.refl _ _)
  clear b2 how e0 hWX
  go_wp2_with fail
  rw [HWX.out]
  refine (implDig_c x.f0 q cq WX (Nat.lt_of_lt_of_le HG.out (HDN.out _ (HCX.out)).size) (HT.out.below (HDN.out _ (HCX.out)) HG.out) HLN.out HOX.out).mono ?_
  rintro e w5 ⟨rfl, b5⟩
  rw [HBk.out]
  have HY5 : Hid (Below WX.heap.size WX w5) := b5
  have HC5 : Hid (Below W0.heap.size W0 w5) := HCX.out.trans (b5.mono HCX.out.size)
  clear b5 f0 HBk
  go_upto_region 10 with fail
  refine wp_genW (fun W => Hid (Below WX.heap.size WX W) ∧ Hid (Below W0.heap.size W0 W)) ⟨HY5.out, HC5.out⟩ ?_
  rintro W1 ⟨HY1, HC1'⟩
  refine wp_region_L [⟨3, fun W => ∀ j u, ([.slice q x.f0.length cq] : List Value)[j]? = some u → W.cell? ((⟨w4.heap.size, 0, none⟩ : Addr).add j) = some u⟩, ⟨2, fun W => ∀ j u, ([v0] : List Value)[j]? = some u → W.cell? ((⟨w.heap.size, 0, none⟩ : Addr).add j) = some u⟩] (by kernel_rfl) (fun f hf => by
    simp only [List.mem_cons, List.not_mem_nil, or_false] at hf
    rcases hf with rfl | rfl
    · exact cell1V (HXX.out _ HY1.out.drew)
    · exact cell1V (HBX.out _ HC1'.out.drew)) ?_
  refine At.take 0 (some 22) (.agg #[.slice q x.f0.length cq]) rfl rfl (by kernel_rfl) (by kernel_rfl) (by kernel_rfl) (by kernel_rfl) (fun _ _ _ h => h) (yl_loads 3 ⟨w4.heap.size, 0, none⟩ [.slice q x.f0.length cq] (List.mem_cons_self) [3] (by kernel_rfl) rfl (by kernel_rfl) (fun _ => by kernel_rfl)) ?_
  refine At.take 1 (some 23) (.agg #[v0]) rfl rfl (by kernel_rfl) (by kernel_rfl) (by kernel_rfl) (by kernel_rfl) (fun _ _ _ h => h) (yl_loads 2 ⟨w.heap.size, 0, none⟩ [v0] (List.mem_cons_of_mem _ (List.mem_cons_self)) [2] (by kernel_rfl) rfl (by kernel_rfl) (fun _ => by kernel_rfl)) ?_
  refine At.step 2 (some 24) rfl rfl (by kernel_rfl) (by kernel_rfl) (fun u W => ∃ p c, u = .agg #[.slice p x.f0.length c] ∧ OwVocab W W1.drew.heap.size x (.slice p x.f0.length c) ∧ Below W1.drew.heap.size W1.drew W) (gives_call (by kernel_rfl) ((toVocS_c x v0 W1.drew HLN.out (HRD.out _ HC1'.out.drew)).mono fun e w' ⟨p, c, he, ho, hb⟩ => ⟨_, he, p, c, rfl, ho, hb⟩)) ?_
  rintro u Z1 ⟨p2, c2, rfl, ho, b1⟩
  have HY2 : Hid (Below WX.heap.size WX Z1) := HY1.out.trans ((bel_undrewV b1).mono HY1.out.size)
  have HC2' : Hid (Below W0.heap.size W0 Z1) := HC1'.out.trans ((bel_undrewV b1).mono HC1'.out.size)
  refine ⟨held_cons (.inr (cell1V (HXX.out _ HY2.out))) (held_cons (.inl (by kernel_rfl)) (held_nil)), ?_⟩
  refine At.step 3 (some 25) rfl rfl (by kernel_rfl) (by kernel_rfl) (fun u W => u = .bool true ∧ Below Z1.heap.size Z1 W) (gives_call (by kernel_rfl) ((eqVocab_c x (.slice q x.f0.length cq) (.slice p2 x.f0.length c2) Z1 HLN.out (RdVocab.keep HOX.out HY2.out (Nat.le_refl _)) (OwVocab.rd ho)).mono fun e w' ⟨he, hb⟩ => ⟨_, he, rfl, hb⟩)) ?_
  rintro u w9 ⟨rfl, b2⟩
  have HC9 : Hid (Below W0.heap.size W0 w9) := HC2'.out.trans (b2.mono HC2'.out.size)
  refine ⟨held_cons (.inl (by kernel_rfl)) (held_cons (.inl (by kernel_rfl)) (held_nil)), ?_⟩
  refine At.take 4 (some 26) (.bool false) rfl rfl (by kernel_rfl) (by kernel_rfl) (by kernel_rfl) (by kernel_rfl) (fun _ _ _ h => h) (yl_pure (by kernel_rfl) (fun _ => by kernel_rfl)) ?_
  refine At.done (by kernel_rfl) ?_
  simp only [Act.put, List.setIfInBounds_toArray, List.set_cons_zero, List.set_cons_succ]
  clear ho b1 b2
  go_wp2
  go_ret
  exact ⟨rfl, HDN.out _ HC9.out⟩

end Go.Proofs.YthhkjnpeopfmjabDoor
