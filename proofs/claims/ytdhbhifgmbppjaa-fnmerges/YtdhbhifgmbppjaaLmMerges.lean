/- The law FnMerges, walked. -/
import Derived.Test.YtdhbhifgmbppjaaJNb
import Derived.Test.YtdhbhifgmbppjaaJVt
import Derived.Test.YtdhbhifgmbppjaaM8Impl
import Derived.Test.YtdhbhifgmbppjaaB8Impl
import Derived.Test.YtdhbhifgmbppjaaT8De
namespace Go.Proofs.Ytdhbhifgmbppjaa
open Go.RowKit
set_option linter.unusedVariables false
set_option linter.unusedSimpArgs false

set_option maxRecDepth 20000 in
set_option maxHeartbeats 8000000 in
theorem merges_law (w : World) (ao : Option Addr) (len cap : Nat) (zs : List Int) (hrow : IsRow w ao len cap zs) :
    Calls Try.prog 3 #[.slice ao len cap] w fun e w' => e = .returned (.bool true) ∧ Below w.heap.size w w' := by
  obtain ⟨i0, hi, hz0, hz1, hz2⟩ := info_parts infoInt
  have HC : Hid (CodeAt w w.heap.size ao len zs) := hrow.code
  have HZ : Hid (∀ j, 0 ≤ zs.getD j 0 ∧ zs.getD j 0 ≤ 255) := hrow.range
  have hlm := hrow.len
  clear hrow
  by_cases hbig : (1048576 : Int) < len
  · go_enter Try.func3, Try.ntmps3
    go_wp2_with fail
    refine (big_c w ao len cap true (decide_eq_true hbig)).mono ?_
    rintro e wz ⟨rfl, hw⟩
    replace hw := hw.symm
    subst hw
    go_wp2
    go_ret
    exact ⟨rfl, Below.refl _ _⟩
  have HL : Hid (len ≤ 1048576) := by show _ ≤ _; omega
  go_enter Try.func3, Try.ntmps3
  go_wp2_with fail
  refine (big_c w ao len cap false (decide_eq_false (by omega))).mono ?_
  rintro e wz ⟨rfl, hw⟩
  replace hw := hw.symm
  subst hw
  clear hbig
  go_wp2_with fail
  refine (drawMo_c w len cap ao zs HC.out HL.out HZ.out).mono ?_
  rintro e w1 ⟨L, p, c, ts, q, cq, rfl, hLl, hts, hown, hio, b1⟩
  have HLl : Hid (L.length ≤ 1048576) := by show _ ≤ _; omega
  have HTl : Hid (ts.length ≤ 2000) := hts
  have HB1 : Hid (Below w.heap.size w w1) := b1
  have HO1 : Hid (RowR w1 (.slice p L.length c) L.length 2 (rPair L)) := RowR.own hown
  have HI1 : Hid (IR w1 (.slice q ts.length cq) ts) := IO.row hio
  have HCQ : Hid (ts.length ≤ cq) := prCap hio
  obtain ⟨W1, hW1⟩ : ∃ W, W = w1.alloc (.cells #[.slice p L.length c] 26) := ⟨_, rfl⟩
  have HW1 : Hid (w1.alloc (.cells #[.slice p L.length c] 26) = W1) := hW1.symm
  have HBW : Hid (Below w1.heap.size w1 W1) := by rw [hW1]; exact (Below.refl _ _).alloc (Nat.le_refl _) _
  have HX1 : Hid (W1.heap[w1.heap.size]? = some (.cells #[.slice p L.length c] 26)) := by rw [hW1]; exact alloc_last _ _
  have HBu : Hid (Below w.heap.size w W1) := HB1.out.trans (HBW.out.mono HB1.out.size)
  have HRV : Hid (∀ W, Below W1.heap.size W1 W → RowR W (.slice p L.length c) L.length 2 (rPair L)) := fun W hb => (HO1.out.keep HBW.out (Nat.le_refl _)).keep hb (Nat.le_refl _)
  have HIV : Hid (∀ W, Below W1.heap.size W1 W → IR W (.slice q ts.length cq) ts) := fun W hb => (HI1.out.keep HBW.out (Nat.le_refl _)).keep hb (Nat.le_refl _)
  have HXV : Hid (∀ W, Below W1.heap.size W1 W → W.cell? ⟨w1.heap.size, 0, none⟩ = some (.slice p L.length c)) := fun W hb => box1 ((hb.block _ (lt_of_some HX1.out)).trans HX1.out)
  have HDN : Hid (∀ W, Below W1.heap.size W1 W → Below w.heap.size w W) := fun W hb => HBu.out.trans (hb.mono HBu.out.size)
  clear hLl hown b1 hW1 hts hio
  have v0 := HXV.out W1 (Below.refl _ _)
  go_wp2_with fail
  rw [HW1.out]
  refine (implMo_c L p c ts q cq W1 HLl.out (by have := HTl.out; omega) (HRV.out _ (Below.refl _ _)) (HIV.out _ (Below.refl _ _))).mono ?_
  rintro e w2 ⟨vx, rfl, hox, b2⟩
  have HALL := mo_all L ts
  have HXL : Hid ((moB L ts).length ≤ 1000) := moB_len L ts
  obtain ⟨X, hX⟩ : ∃ X, moB L ts = X := ⟨_, rfl⟩
  rw [hX] at hox HALL HXL
  obtain ⟨qx, cx, rfl⟩ := own_sliceV hox
  have HB2 : Hid (Below W1.heap.size W1 w2) := b2
  have HIX : Hid (IR w2 (.slice qx X.length cx) X) := IO.row hox
  clear hox b2 hX v0
  have v0 := HXV.out w2 HB2.out
  go_wp2_with fail
  refine (specDe_c L p c ts q cq w2 HLl.out (by have := HTl.out; omega) (HRV.out _ HB2.out) (HIV.out _ HB2.out)).mono ?_
  rintro e w3 ⟨rfl, b3⟩
  have HB3 : Hid (Below W1.heap.size W1 w3) := HB2.out.trans (b3.mono HB2.out.size)
  have HIX3 : Hid (IR w3 (.slice qx X.length cx) X) := IR.keep HIX.out b3 (Nat.le_refl _)
  clear b3 v0
  have v0 := HXV.out w3 HB3.out
  go_wp2_with fail
  refine (implDe_c L p c X qx cx w3 HLl.out (by have := HXL.out; omega) (HRV.out _ HB3.out) HIX3.out).mono ?_
  rintro e w4 ⟨rfl, b4⟩
  have HB4 : Hid (Below W1.heap.size W1 w4) := HB3.out.trans (b4.mono HB3.out.size)
  have HD4 : Hid (Below w.heap.size w w4) := HDN.out _ HB4.out
  clear b4 v0
  have hxl := HXL.out
  have htl := HTl.out
  rcases HALL with ⟨hok, hmo, hlen, hox, hde⟩ | ⟨hok, hmo, hst⟩ | ⟨hok, hmo⟩
  · rw [decide_eq_true hok, hmo, hox, hde]
    have el : IntKind.i64.wrap ((ts.length : Int) - 1) = (X.length : Int) := by rw [IntWalk.i64_in _ (by omega)]; omega
    generalize deB L ts = S
    clear hok hmo hox hde
    go_wp2_with fail
    refine (drawBpe_c w4 len cap ao zs (codeBel HC.out HD4.out) HL.out HZ.out).mono ?_
    rintro e wa ⟨M, pm, cm, s, rfl, hMl, hsl, hownm, ba⟩
    obtain ⟨WB, hWB⟩ : ∃ W, W = wa.alloc (.cells #[.slice pm M.length cm] 26) := ⟨_, rfl⟩
    have HWB : Hid (wa.alloc (.cells #[.slice pm M.length cm] 26) = WB) := hWB.symm
    have hbb : Below wa.heap.size wa WB := by rw [hWB]; exact (Below.refl _ _).alloc (Nat.le_refl _) _
    have HXB : Hid (WB.heap[wa.heap.size]? = some (.cells #[.slice pm M.length cm] 26)) := by rw [hWB]; exact alloc_last _ _
    have HDB : Hid (Below w.heap.size w WB) := (HD4.out.trans (ba.mono HD4.out.size)).trans (hbb.mono (Nat.le_trans HD4.out.size ba.size))
    have HRB : Hid (RowR WB (.slice pm M.length cm) M.length 2 (rPair M)) := (RowR.own hownm).keep hbb (Nat.le_refl _)
    have HRM : Hid (∀ W, Below WB.heap.size WB W → RowR W (.slice pm M.length cm) M.length 2 (rPair M)) := fun W hb => HRB.out.keep hb (Nat.le_refl _)
    have HXM : Hid (∀ W, Below WB.heap.size WB W → W.cell? ⟨wa.heap.size, 0, none⟩ = some (.slice pm M.length cm)) := fun W hb => box1 ((hb.block _ (lt_of_some HXB.out)).trans HXB.out)
    have HDM : Hid (∀ W, Below WB.heap.size WB W → Below w.heap.size w W) := fun W hb => HDB.out.trans (hb.mono HDB.out.size)
    have HML : Hid (M.length ≤ 1048576) := by show _ ≤ _; omega
    have HSL : Hid (s.size ≤ 24024) := hsl
    clear hWB hbb hownm ba hMl hsl
    have m0 := HXM.out WB (Below.refl _ _)
    go_wp2_with fail
    rw [HWB.out]
    refine (implBpe_c M pm cm s WB HML.out (by have := HSL.out; omega) (HRM.out _ (Below.refl _ _))).mono ?_
    rintro e wc ⟨vc, rfl, hoc, bc⟩
    have HALL := bpF_all M s
    have HLN : Hid ((bpF M s).length ≤ 1000) := bpF_len M s
    obtain ⟨Y, hY⟩ : ∃ Y, bpF M s = Y := ⟨_, rfl⟩
    rw [hY] at hoc HALL HLN
    have HA1 : Hid (¬ (okV M ∧ s.size ≤ 64) → Y.length = 0) := HALL.1
    have HA2 : Hid (okV M ∧ s.size ≤ 64 → decide (okT M Y) = true ∧ deB M Y = s ∧ stB M Y = true) := HALL.2
    obtain ⟨qy, cy, rfl⟩ := own_sliceV hoc
    have HBc : Hid (Below WB.heap.size WB wc) := bc
    have HIc : Hid (IR wc (.slice qy Y.length cy) Y) := IO.row hoc
    clear hoc bc hY HALL m0
    have m0 := HXM.out wc HBc.out
    go_wp2_with fail
    refine (implDe_c M pm cm Y qy cy wc HML.out (by have := HLN.out; omega) (HRM.out _ HBc.out) HIc.out).mono ?_
    rintro e wd ⟨rfl, bd⟩
    have HBd : Hid (Below WB.heap.size WB wd) := HBc.out.trans (bd.mono HBc.out.size)
    have HId : Hid (IR wd (.slice qy Y.length cy) Y) := IR.keep HIc.out bd (Nat.le_refl _)
    obtain ⟨D, hD⟩ : ∃ D, deB M Y = D := ⟨_, rfl⟩
    obtain ⟨o, ho⟩ : ∃ o, decide (okT M Y) = o := ⟨_, rfl⟩
    rw [hD, ho] at HA2 ⊢
    clear bd hD ho m0
    have m0 := HXM.out wd HBd.out
    go_wp2_with fail
    refine (specVok_c M pm cm wd HML.out (HRM.out _ HBd.out)).mono ?_
    rintro e we ⟨rfl, be⟩
    have HBe : Hid (Below WB.heap.size WB we) := HBd.out.trans (be.mono HBd.out.size)
    have HIe : Hid (IR we (.slice qy Y.length cy) Y) := IR.keep HId.out be (Nat.le_refl _)
    clear be m0
    have hsz := HSL.out
    by_cases hok : okV M
    rotate_left
    · have hy0 : (Y.length : Int) = 0 := by have := HA1.out (fun h => hok h.1); omega
      rw [decide_eq_false hok]
      go_wp2
      go_ret
      exact ⟨rfl, HDM.out _ HBe.out⟩
    rw [decide_eq_true hok]
    by_cases h64 : (64 : Int) < (s.size : Int)
    · have hy0 : (Y.length : Int) = 0 := by have := HA1.out (fun h => by have := h.2; omega); omega
      go_wp2
      go_ret
      exact ⟨rfl, HDM.out _ HBe.out⟩
    obtain ⟨rfl, rfl, hst⟩ := HA2.out ⟨hok, by omega⟩
    have HST : Hid (stB M Y = true) := hst
    clear hok hst HA1 HA2
    have m0 := HXM.out we HBe.out
    go_wp2_with fail
    refine (implSt_c M pm cm Y qy cy we HML.out (by have := HLN.out; omega) (HRM.out _ HBe.out) HIe.out).mono ?_
    rintro e wf ⟨rfl, bf⟩
    rw [HST.out]
    have HBf : Hid (Below WB.heap.size WB wf) := HBe.out.trans (bf.mono HBe.out.size)
    clear bf m0
    go_wp2
    go_ret
    exact ⟨rfl, HDM.out _ HBf.out⟩
  · rw [decide_eq_true hok, hmo]
    have HST : Hid (stB L ts = true) := hst
    generalize deB L ts = S
    generalize deB L X = S2
    generalize decide (okT L X) = o2
    clear hok hmo hst
    have v0 := HXV.out w4 HB4.out
    go_wp2_with fail
    refine (implSt_c L p c ts q cq w4 HLl.out (by omega) (HRV.out _ HB4.out) (HIV.out _ HB4.out)).mono ?_
    rintro e w5 ⟨rfl, b5⟩
    rw [HST.out]
    have HD5 : Hid (Below w.heap.size w w5) := HD4.out.trans (b5.mono HD4.out.size)
    clear b5 v0
    go_wp2_with fail
    refine (drawBpe_c w5 len cap ao zs (codeBel HC.out HD5.out) HL.out HZ.out).mono ?_
    rintro e wa ⟨M, pm, cm, s, rfl, hMl, hsl, hownm, ba⟩
    obtain ⟨WB, hWB⟩ : ∃ W, W = wa.alloc (.cells #[.slice pm M.length cm] 26) := ⟨_, rfl⟩
    have HWB : Hid (wa.alloc (.cells #[.slice pm M.length cm] 26) = WB) := hWB.symm
    have hbb : Below wa.heap.size wa WB := by rw [hWB]; exact (Below.refl _ _).alloc (Nat.le_refl _) _
    have HXB : Hid (WB.heap[wa.heap.size]? = some (.cells #[.slice pm M.length cm] 26)) := by rw [hWB]; exact alloc_last _ _
    have HDB : Hid (Below w.heap.size w WB) := (HD5.out.trans (ba.mono HD5.out.size)).trans (hbb.mono (Nat.le_trans HD5.out.size ba.size))
    have HRB : Hid (RowR WB (.slice pm M.length cm) M.length 2 (rPair M)) := (RowR.own hownm).keep hbb (Nat.le_refl _)
    have HRM : Hid (∀ W, Below WB.heap.size WB W → RowR W (.slice pm M.length cm) M.length 2 (rPair M)) := fun W hb => HRB.out.keep hb (Nat.le_refl _)
    have HXM : Hid (∀ W, Below WB.heap.size WB W → W.cell? ⟨wa.heap.size, 0, none⟩ = some (.slice pm M.length cm)) := fun W hb => box1 ((hb.block _ (lt_of_some HXB.out)).trans HXB.out)
    have HDM : Hid (∀ W, Below WB.heap.size WB W → Below w.heap.size w W) := fun W hb => HDB.out.trans (hb.mono HDB.out.size)
    have HML : Hid (M.length ≤ 1048576) := by show _ ≤ _; omega
    have HSL : Hid (s.size ≤ 24024) := hsl
    clear hWB hbb hownm ba hMl hsl
    have m0 := HXM.out WB (Below.refl _ _)
    go_wp2_with fail
    rw [HWB.out]
    refine (implBpe_c M pm cm s WB HML.out (by have := HSL.out; omega) (HRM.out _ (Below.refl _ _))).mono ?_
    rintro e wc ⟨vc, rfl, hoc, bc⟩
    have HALL := bpF_all M s
    have HLN : Hid ((bpF M s).length ≤ 1000) := bpF_len M s
    obtain ⟨Y, hY⟩ : ∃ Y, bpF M s = Y := ⟨_, rfl⟩
    rw [hY] at hoc HALL HLN
    have HA1 : Hid (¬ (okV M ∧ s.size ≤ 64) → Y.length = 0) := HALL.1
    have HA2 : Hid (okV M ∧ s.size ≤ 64 → decide (okT M Y) = true ∧ deB M Y = s ∧ stB M Y = true) := HALL.2
    obtain ⟨qy, cy, rfl⟩ := own_sliceV hoc
    have HBc : Hid (Below WB.heap.size WB wc) := bc
    have HIc : Hid (IR wc (.slice qy Y.length cy) Y) := IO.row hoc
    clear hoc bc hY HALL m0
    have m0 := HXM.out wc HBc.out
    go_wp2_with fail
    refine (implDe_c M pm cm Y qy cy wc HML.out (by have := HLN.out; omega) (HRM.out _ HBc.out) HIc.out).mono ?_
    rintro e wd ⟨rfl, bd⟩
    have HBd : Hid (Below WB.heap.size WB wd) := HBc.out.trans (bd.mono HBc.out.size)
    have HId : Hid (IR wd (.slice qy Y.length cy) Y) := IR.keep HIc.out bd (Nat.le_refl _)
    obtain ⟨D, hD⟩ : ∃ D, deB M Y = D := ⟨_, rfl⟩
    obtain ⟨o, ho⟩ : ∃ o, decide (okT M Y) = o := ⟨_, rfl⟩
    rw [hD, ho] at HA2 ⊢
    clear bd hD ho m0
    have m0 := HXM.out wd HBd.out
    go_wp2_with fail
    refine (specVok_c M pm cm wd HML.out (HRM.out _ HBd.out)).mono ?_
    rintro e we ⟨rfl, be⟩
    have HBe : Hid (Below WB.heap.size WB we) := HBd.out.trans (be.mono HBd.out.size)
    have HIe : Hid (IR we (.slice qy Y.length cy) Y) := IR.keep HId.out be (Nat.le_refl _)
    clear be m0
    have hsz := HSL.out
    by_cases hok : okV M
    rotate_left
    · have hy0 : (Y.length : Int) = 0 := by have := HA1.out (fun h => hok h.1); omega
      rw [decide_eq_false hok]
      go_wp2
      go_ret
      exact ⟨rfl, HDM.out _ HBe.out⟩
    rw [decide_eq_true hok]
    by_cases h64 : (64 : Int) < (s.size : Int)
    · have hy0 : (Y.length : Int) = 0 := by have := HA1.out (fun h => by have := h.2; omega); omega
      go_wp2
      go_ret
      exact ⟨rfl, HDM.out _ HBe.out⟩
    obtain ⟨rfl, rfl, hst⟩ := HA2.out ⟨hok, by omega⟩
    have HST : Hid (stB M Y = true) := hst
    clear hok hst HA1 HA2
    have m0 := HXM.out we HBe.out
    go_wp2_with fail
    refine (implSt_c M pm cm Y qy cy we HML.out (by have := HLN.out; omega) (HRM.out _ HBe.out) HIe.out).mono ?_
    rintro e wf ⟨rfl, bf⟩
    rw [HST.out]
    have HBf : Hid (Below WB.heap.size WB wf) := HBe.out.trans (bf.mono HBe.out.size)
    clear bf m0
    go_wp2
    go_ret
    exact ⟨rfl, HDM.out _ HBf.out⟩
  · rw [decide_eq_false hok, hmo]
    generalize deB L ts = S
    generalize deB L X = S2
    generalize decide (okT L X) = o2
    clear hok hmo
    go_wp2_with fail
    refine (drawBpe_c w4 len cap ao zs (codeBel HC.out HD4.out) HL.out HZ.out).mono ?_
    rintro e wa ⟨M, pm, cm, s, rfl, hMl, hsl, hownm, ba⟩
    obtain ⟨WB, hWB⟩ : ∃ W, W = wa.alloc (.cells #[.slice pm M.length cm] 26) := ⟨_, rfl⟩
    have HWB : Hid (wa.alloc (.cells #[.slice pm M.length cm] 26) = WB) := hWB.symm
    have hbb : Below wa.heap.size wa WB := by rw [hWB]; exact (Below.refl _ _).alloc (Nat.le_refl _) _
    have HXB : Hid (WB.heap[wa.heap.size]? = some (.cells #[.slice pm M.length cm] 26)) := by rw [hWB]; exact alloc_last _ _
    have HDB : Hid (Below w.heap.size w WB) := (HD4.out.trans (ba.mono HD4.out.size)).trans (hbb.mono (Nat.le_trans HD4.out.size ba.size))
    have HRB : Hid (RowR WB (.slice pm M.length cm) M.length 2 (rPair M)) := (RowR.own hownm).keep hbb (Nat.le_refl _)
    have HRM : Hid (∀ W, Below WB.heap.size WB W → RowR W (.slice pm M.length cm) M.length 2 (rPair M)) := fun W hb => HRB.out.keep hb (Nat.le_refl _)
    have HXM : Hid (∀ W, Below WB.heap.size WB W → W.cell? ⟨wa.heap.size, 0, none⟩ = some (.slice pm M.length cm)) := fun W hb => box1 ((hb.block _ (lt_of_some HXB.out)).trans HXB.out)
    have HDM : Hid (∀ W, Below WB.heap.size WB W → Below w.heap.size w W) := fun W hb => HDB.out.trans (hb.mono HDB.out.size)
    have HML : Hid (M.length ≤ 1048576) := by show _ ≤ _; omega
    have HSL : Hid (s.size ≤ 24024) := hsl
    clear hWB hbb hownm ba hMl hsl
    have m0 := HXM.out WB (Below.refl _ _)
    go_wp2_with fail
    rw [HWB.out]
    refine (implBpe_c M pm cm s WB HML.out (by have := HSL.out; omega) (HRM.out _ (Below.refl _ _))).mono ?_
    rintro e wc ⟨vc, rfl, hoc, bc⟩
    have HALL := bpF_all M s
    have HLN : Hid ((bpF M s).length ≤ 1000) := bpF_len M s
    obtain ⟨Y, hY⟩ : ∃ Y, bpF M s = Y := ⟨_, rfl⟩
    rw [hY] at hoc HALL HLN
    have HA1 : Hid (¬ (okV M ∧ s.size ≤ 64) → Y.length = 0) := HALL.1
    have HA2 : Hid (okV M ∧ s.size ≤ 64 → decide (okT M Y) = true ∧ deB M Y = s ∧ stB M Y = true) := HALL.2
    obtain ⟨qy, cy, rfl⟩ := own_sliceV hoc
    have HBc : Hid (Below WB.heap.size WB wc) := bc
    have HIc : Hid (IR wc (.slice qy Y.length cy) Y) := IO.row hoc
    clear hoc bc hY HALL m0
    have m0 := HXM.out wc HBc.out
    go_wp2_with fail
    refine (implDe_c M pm cm Y qy cy wc HML.out (by have := HLN.out; omega) (HRM.out _ HBc.out) HIc.out).mono ?_
    rintro e wd ⟨rfl, bd⟩
    have HBd : Hid (Below WB.heap.size WB wd) := HBc.out.trans (bd.mono HBc.out.size)
    have HId : Hid (IR wd (.slice qy Y.length cy) Y) := IR.keep HIc.out bd (Nat.le_refl _)
    obtain ⟨D, hD⟩ : ∃ D, deB M Y = D := ⟨_, rfl⟩
    obtain ⟨o, ho⟩ : ∃ o, decide (okT M Y) = o := ⟨_, rfl⟩
    rw [hD, ho] at HA2 ⊢
    clear bd hD ho m0
    have m0 := HXM.out wd HBd.out
    go_wp2_with fail
    refine (specVok_c M pm cm wd HML.out (HRM.out _ HBd.out)).mono ?_
    rintro e we ⟨rfl, be⟩
    have HBe : Hid (Below WB.heap.size WB we) := HBd.out.trans (be.mono HBd.out.size)
    have HIe : Hid (IR we (.slice qy Y.length cy) Y) := IR.keep HId.out be (Nat.le_refl _)
    clear be m0
    have hsz := HSL.out
    by_cases hok : okV M
    rotate_left
    · have hy0 : (Y.length : Int) = 0 := by have := HA1.out (fun h => hok h.1); omega
      rw [decide_eq_false hok]
      go_wp2
      go_ret
      exact ⟨rfl, HDM.out _ HBe.out⟩
    rw [decide_eq_true hok]
    by_cases h64 : (64 : Int) < (s.size : Int)
    · have hy0 : (Y.length : Int) = 0 := by have := HA1.out (fun h => by have := h.2; omega); omega
      go_wp2
      go_ret
      exact ⟨rfl, HDM.out _ HBe.out⟩
    obtain ⟨rfl, rfl, hst⟩ := HA2.out ⟨hok, by omega⟩
    have HST : Hid (stB M Y = true) := hst
    clear hok hst HA1 HA2
    have m0 := HXM.out we HBe.out
    go_wp2_with fail
    refine (implSt_c M pm cm Y qy cy we HML.out (by have := HLN.out; omega) (HRM.out _ HBe.out) HIe.out).mono ?_
    rintro e wf ⟨rfl, bf⟩
    rw [HST.out]
    have HBf : Hid (Below WB.heap.size WB wf) := HBe.out.trans (bf.mono HBe.out.size)
    clear bf m0
    go_wp2
    go_ret
    exact ⟨rfl, HDM.out _ HBf.out⟩

end Go.Proofs.Ytdhbhifgmbppjaa
