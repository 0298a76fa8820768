/- The law FnCanon, walked. -/
import Derived.Test.YtdhbhifgmbppjaaDoorVdLaw
import Derived.Test.YtdhbhifgmbppjaaDoorJVr
import Derived.Test.YtdhbhifgmbppjaaDoorJSc
namespace Go.Proofs.YtdhbhifgmbppjaaDoor
open Go.RowKit
set_option linter.unusedVariables false
set_option linter.unusedSimpArgs false

set_option maxRecDepth 20000 in
set_option maxHeartbeats 8000000 in
theorem canon_law (w : World) (ao : Option Addr) (len cap : Nat) (zs : List Int) (hrow : IsRow w ao len cap zs) (hG : 0 < w.heap.size) (hT : Tab w kL) :
    Calls Tryd.prog 3 #[.slice ao len cap] w fun e w' => e = .returned (.bool true) ∧ Below w.heap.size w w' := by
  have HC : Hid (CodeAt w w.heap.size ao len zs) := hrow.code
  have HZ : Hid (∀ j, 0 ≤ zs.getD j 0 ∧ zs.getD j 0 ≤ 255) := hrow.range
  have HUP : Hid (∀ W, Below w.heap.size w W → 0 < W.heap.size ∧ Tab W kL) := fun W hb => ⟨Nat.lt_of_lt_of_le hG hb.size, hT.below hb hG⟩
  have hlm := hrow.len
  clear hrow hG hT
  by_cases hbig : (1048576 : Int) < len
  · go_enter Tryd.func3, Tryd.ntmps3
    go_wp2_with fail
    refine (big_c w ao len cap true (decide_eq_true hbig)).mono ?_
    rintro e wz ⟨rfl, hw⟩
    replace hw := hw.symm
    subst hw
    go_wp2
    go_ret
    exact ⟨rfl, Below.refl _ _⟩
  have HL : Hid (len ≤ 1048576) := by show _ ≤ _; omega
  go_enter Tryd.func3, Tryd.ntmps3
  go_wp2_with fail
  refine (big_c w ao len cap false (decide_eq_false (by omega))).mono ?_
  rintro e wz ⟨rfl, hw⟩
  replace hw := hw.symm
  subst hw
  clear hbig
  go_wp2_with fail
  refine (drawCanon_c w len cap ao zs HC.out HL.out HZ.out).mono ?_
  rintro e w1 ⟨L, p, c, rfl, hLl, hown, b1⟩
  have HLl : Hid (L.length ≤ 1048576) := by show _ ≤ _; omega
  have HB1 : Hid (Below w.heap.size w w1) := b1
  have HO1 : Hid (RowR w1 (.slice p L.length c) L.length 2 (rPair L)) := RowR.own hown
  obtain ⟨W1, hW1⟩ : ∃ W, W = w1.alloc (.cells #[.slice p L.length c] 26) := ⟨_, rfl⟩
  have HW1 : Hid (w1.alloc (.cells #[.slice p L.length c] 26) = W1) := hW1.symm
  have HBW : Hid (Below w1.heap.size w1 W1) := by rw [hW1]; exact (Below.refl _ _).alloc (Nat.le_refl _) _
  have HX1 : Hid (W1.heap[w1.heap.size]? = some (.cells #[.slice p L.length c] 26)) := by rw [hW1]; exact alloc_last _ _
  have HBu : Hid (Below w.heap.size w W1) := HB1.out.trans (HBW.out.mono HB1.out.size)
  have HRV : Hid (∀ W, Below W1.heap.size W1 W → RowR W (.slice p L.length c) L.length 2 (rPair L)) := fun W hb => (HO1.out.keep HBW.out (Nat.le_refl _)).keep hb (Nat.le_refl _)
  have HXV : Hid (∀ W, Below W1.heap.size W1 W → W.cell? ⟨w1.heap.size, 0, none⟩ = some (.slice p L.length c)) := fun W hb => box1 ((hb.block _ (lt_of_some HX1.out)).trans HX1.out)
  have HDN : Hid (∀ W, Below W1.heap.size W1 W → Below w.heap.size w W) := fun W hb => HBu.out.trans (hb.mono HBu.out.size)
  clear hLl hown b1 hW1
  have v0 := HXV.out W1 (Below.refl _ _)
  go_wp2_with fail
  rw [HW1.out]
  refine (implCanon_c L p c W1 HLl.out (HRV.out _ (Below.refl _ _))).mono ?_
  rintro e w2 ⟨rfl, b2⟩
  have HB2 : Hid (Below W1.heap.size W1 w2) := b2
  have HS : Hid ((canT L).size ≤ 250) := canT_size L
  obtain ⟨S, hS⟩ : ∃ S, canT L = S := ⟨_, rfl⟩
  have HSS : Hid (canT L = S) := hS
  rw [hS] at HS ⊢
  clear b2 hS v0
  go_wp2_with fail
  refine (implRead_c S w2 (by have := HS.out; omega)).mono ?_
  rintro e w3 ⟨b3, hcase⟩
  have HB3 : Hid (Below W1.heap.size W1 w3) := HB2.out.trans (b3.mono HB2.out.size)
  clear b3
  by_cases hok : okV L
  · rcases hcase with ⟨L', v, hok', hcan, rfl, hown'⟩ | ⟨hno, rfl⟩
    rotate_left
    · exact absurd ⟨L, hok, HSS.out⟩ hno
    obtain rfl : L' = L := canT_inj hok' hok (hcan.trans HSS.out.symm)
    obtain ⟨q, d, rfl⟩ := own_sliceV hown'
    have HDG : Hid (digT L' = shaOut S) := by show _ = _; unfold digT; rw [if_pos hok, HSS.out]
    have HO3 : Hid (RowR w3 (.slice q L'.length d) L'.length 2 (rPair L')) := RowR.own hown'
    obtain ⟨W3, hW3⟩ : ∃ W, W = w3.alloc (.cells #[.slice q L'.length d] 26) := ⟨_, rfl⟩
    have HW3 : Hid (w3.alloc (.cells #[.slice q L'.length d] 26) = W3) := hW3.symm
    have hbw3 : Below w3.heap.size w3 W3 := by rw [hW3]; exact (Below.refl _ _).alloc (Nat.le_refl _) _
    have HX3 : Hid (W3.heap[w3.heap.size]? = some (.cells #[.slice q L'.length d] 26)) := by rw [hW3]; exact alloc_last _ _
    have HB3' : Hid (Below W1.heap.size W1 W3) := HB3.out.trans (hbw3.mono HB3.out.size)
    have HRX : Hid (RowR W3 (.slice q L'.length d) L'.length 2 (rPair L')) := HO3.out.keep hbw3 (Nat.le_refl _)
    clear hW3 hbw3 hown' hcan hok'
    have v0 := HXV.out w3 HB3.out
    have hlt0 : w1.heap.size < w3.heap.size := Nat.lt_of_lt_of_le (lt_of_some HX1.out) HB3.out.size
    have hne0 : ¬ w1.heap.size = w3.heap.size := by omega
    go_wp2_with fail
    rw [HW3.out]
    refine (specVok_c L' p c W3 HLl.out (HRV.out _ HB3'.out)).mono ?_
    rintro e w4 ⟨rfl, b4⟩
    rw [decide_eq_true hok]
    have HB4 : Hid (Below W1.heap.size W1 w4) := HB3'.out.trans (b4.mono HB3'.out.size)
    have HX4 : Hid (w4.heap[w3.heap.size]? = some (.cells #[.slice q L'.length d] 26)) := (b4.block _ (lt_of_some HX3.out)).trans HX3.out
    have HR4 : Hid (RowR w4 (.slice q L'.length d) L'.length 2 (rPair L')) := HRX.out.keep b4 (Nat.le_refl _)
    clear b4 v0 hok hlt0 hne0
    have v0 := HXV.out w4 HB4.out
    have v1 := box1 HX4.out
    go_wp2_with fail
    refine (samePairs_c _ _ L' w4 HLl.out HR4.out (HRV.out _ HB4.out)).mono ?_
    rintro e w5 ⟨rfl, b5⟩
    have HB5 : Hid (Below W1.heap.size W1 w5) := HB4.out.trans (b5.mono HB4.out.size)
    clear b5 v0 v1
    have v0 := HXV.out w5 HB5.out
    have hup := HUP.out w5 (HDN.out _ HB5.out)
    go_wp2_with fail
    refine (implDig_c L' p c w5 hup.1 hup.2 HLl.out (HRV.out _ HB5.out)).mono ?_
    rintro e w6 ⟨rfl, b6⟩
    rw [HDG.out]
    have HB6 : Hid (Below W1.heap.size W1 w6) := HB5.out.trans (b6.mono HB5.out.size)
    clear b6 v0 hup
    go_wp2_with fail
    refine (specSha2 S w6 (by have := HS.out; omega)).mono ?_
    rintro e w7 ⟨rfl, b7⟩
    have HC7 : Hid (Below w.heap.size w w7) := HDN.out _ (HB6.out.trans (b7.mono HB6.out.size))
    clear b7
    generalize shaOut S = D
    go_wp2_with fail
    refine (drawRead_c w7 len cap ao zs (codeBel HC.out HC7.out) HL.out HZ.out).mono ?_
    rintro e w8 ⟨T, rfl, hTs, b8⟩
    have HTS : Hid (T.size ≤ 1048576) := by show _ ≤ _; omega
    have HC8 : Hid (Below w.heap.size w w8) := HC7.out.trans (b8.mono HC7.out.size)
    clear b8 hTs
    go_wp2_with fail
    refine (implRead_c T w8 HTS.out).mono ?_
    rintro e w9 ⟨b9, hcase⟩
    have HC9 : Hid (Below w.heap.size w w9) := HC8.out.trans (b9.mono HC8.out.size)
    clear b9
    rcases hcase with ⟨M, v, hokM, hcanM, rfl, hownM⟩ | ⟨hno, rfl⟩
    · obtain ⟨q2, d2, rfl⟩ := own_sliceV hownM
      have HM60 : Hid (M.length ≤ 1048576) := by have := okV_len hokM; show _ ≤ _; omega
      have HOM : Hid (RowR w9 (.slice q2 M.length d2) M.length 2 (rPair M)) := RowR.own hownM
      have HCM : Hid (canT M = T) := hcanM
      have HOK : Hid (okV M) := hokM
      obtain ⟨W9, hW9⟩ : ∃ W, W = w9.alloc (.cells #[.slice q2 M.length d2] 26) := ⟨_, rfl⟩
      have HW9 : Hid (w9.alloc (.cells #[.slice q2 M.length d2] 26) = W9) := hW9.symm
      have hbw : Below w9.heap.size w9 W9 := by rw [hW9]; exact (Below.refl _ _).alloc (Nat.le_refl _) _
      have HX9 : Hid (W9.heap[w9.heap.size]? = some (.cells #[.slice q2 M.length d2] 26)) := by rw [hW9]; exact alloc_last _ _
      have HC9' : Hid (Below w.heap.size w W9) := HC9.out.trans (hbw.mono HC9.out.size)
      have HRM : Hid (RowR W9 (.slice q2 M.length d2) M.length 2 (rPair M)) := HOM.out.keep hbw (Nat.le_refl _)
      clear hW9 hbw hownM hcanM hokM
      go_wp2_with fail
      rw [HW9.out]
      refine (specRead_c T W9 HTS.out).mono ?_
      rintro e wa ⟨ba, hcase⟩
      rcases hcase with ⟨M2, v2, hokM2, hcanM2, rfl, hownM2⟩ | ⟨hno, rfl⟩
      rotate_left
      · exact absurd ⟨M, HOK.out, HCM.out⟩ hno
      have HCa : Hid (Below w.heap.size w wa) := HC9'.out.trans (ba.mono HC9'.out.size)
      have HXa : Hid (wa.heap[w9.heap.size]? = some (.cells #[.slice q2 M.length d2] 26)) := (ba.block _ (lt_of_some HX9.out)).trans HX9.out
      have HRa : Hid (RowR wa (.slice q2 M.length d2) M.length 2 (rPair M)) := HRM.out.keep ba (Nat.le_refl _)
      obtain ⟨Wb, hWb⟩ : ∃ W, W = wa.alloc (.cells #[v2] 26) := ⟨_, rfl⟩
      have HWb : Hid (wa.alloc (.cells #[v2] 26) = Wb) := hWb.symm
      have hbb : Below wa.heap.size wa Wb := by rw [hWb]; exact (Below.refl _ _).alloc (Nat.le_refl _) _
      have HCb : Hid (Below w.heap.size w Wb) := HCa.out.trans (hbb.mono HCa.out.size)
      have HXb : Hid (Wb.heap[w9.heap.size]? = some (.cells #[.slice q2 M.length d2] 26)) := (hbb.block _ (lt_of_some HXa.out)).trans HXa.out
      have HRb : Hid (RowR Wb (.slice q2 M.length d2) M.length 2 (rPair M)) := HRa.out.keep hbb (Nat.le_refl _)
      obtain ⟨q3, d3, rfl⟩ := own_sliceV hownM2
      clear hWb hbb ba hownM2 hcanM2 hokM2
      have y0 := box1 HXa.out
      have hlt0 : w9.heap.size < wa.heap.size := lt_of_some HXa.out
      have hne0 : ¬ w9.heap.size = wa.heap.size := by omega
      go_wp2_with fail
      rw [HWb.out]
      refine (implCanon_c M q2 d2 Wb HM60.out HRb.out).mono ?_
      rintro e wc ⟨rfl, bc⟩
      rw [HCM.out]
      have HCc : Hid (Below w.heap.size w wc) := HCb.out.trans (bc.mono HCb.out.size)
      have HXc : Hid (wc.heap[w9.heap.size]? = some (.cells #[.slice q2 M.length d2] 26)) := (bc.block _ (lt_of_some HXb.out)).trans HXb.out
      have HRc : Hid (RowR wc (.slice q2 M.length d2) M.length 2 (rPair M)) := HRb.out.keep bc (Nat.le_refl _)
      clear bc y0 hlt0 hne0
      have y0 := box1 HXc.out
      go_wp2_with fail
      refine (implVok_c M q2 d2 wc HM60.out HRc.out).mono ?_
      rintro e wd ⟨rfl, bd⟩
      rw [decide_eq_true HOK.out]
      have HCd : Hid (Below w.heap.size w wd) := HCc.out.trans (bd.mono HCc.out.size)
      clear bd y0
      go_wp2
      go_ret
      exact ⟨rfl, HCd.out⟩
    · have HNO : Hid (¬ HasV T) := hno
      obtain ⟨W9, hW9⟩ : ∃ W, W = w9.alloc (.cells #[.slice none 0 0] 26) := ⟨_, rfl⟩
      have HW9 : Hid (w9.alloc (.cells #[.slice none 0 0] 26) = W9) := hW9.symm
      have HC9' : Hid (Below w.heap.size w W9) := by rw [hW9]; exact HC9.out.alloc HC9.out.size _
      clear hW9 hno
      go_wp2_with fail
      rw [HW9.out]
      refine (specRead_c T W9 HTS.out).mono ?_
      rintro e wa ⟨ba, hcase⟩
      rcases hcase with ⟨M2, v2, hokM2, hcanM2, rfl, hownM2⟩ | ⟨hno, rfl⟩
      · exact absurd ⟨M2, hokM2, hcanM2⟩ HNO.out
      have HCa : Hid (Below w.heap.size w wa) := HC9'.out.trans (ba.mono HC9'.out.size)
      clear ba hno
      go_wp2
      go_ret
      exact ⟨rfl, HCa.out.alloc HCa.out.size _⟩
  · rcases hcase with ⟨L', v, hok', hcan, rfl, hown'⟩ | ⟨hno, rfl⟩
    · have hS0 : S = ⟨#[]⟩ := by rw [← HSS.out]; unfold canT; rw [if_neg hok]
      have := canT_pos hok'
      rw [hcan, hS0] at this
      exact absurd this (by decide)
    obtain ⟨W3, hW3⟩ : ∃ W, W = w3.alloc (.cells #[.slice none 0 0] 26) := ⟨_, rfl⟩
    have HW3 : Hid (w3.alloc (.cells #[.slice none 0 0] 26) = W3) := hW3.symm
    have HB3' : Hid (Below W1.heap.size W1 W3) := by rw [hW3]; exact HB3.out.alloc HB3.out.size _
    clear hW3 hno
    have v0 := HXV.out w3 HB3.out
    have hlt0 : w1.heap.size < w3.heap.size := Nat.lt_of_lt_of_le (lt_of_some HX1.out) HB3.out.size
    have hne0 : ¬ w1.heap.size = w3.heap.size := by omega
    go_wp2_with fail
    rw [HW3.out]
    refine (specVok_c L p c W3 HLl.out (HRV.out _ HB3'.out)).mono ?_
    rintro e w7 ⟨rfl, b7⟩
    rw [decide_eq_false hok]
    have HC7 : Hid (Below w.heap.size w w7) := HDN.out _ (HB3'.out.trans (b7.mono HB3'.out.size))
    clear b7 v0 hok hlt0 hne0
    go_wp2_with fail
    refine (drawRead_c w7 len cap ao zs (codeBel HC.out HC7.out) HL.out HZ.out).mono ?_
    rintro e w8 ⟨T, rfl, hTs, b8⟩
    have HTS : Hid (T.size ≤ 1048576) := by show _ ≤ _; omega
    have HC8 : Hid (Below w.heap.size w w8) := HC7.out.trans (b8.mono HC7.out.size)
    clear b8 hTs
    go_wp2_with fail
    refine (implRead_c T w8 HTS.out).mono ?_
    rintro e w9 ⟨b9, hcase⟩
    have HC9 : Hid (Below w.heap.size w w9) := HC8.out.trans (b9.mono HC8.out.size)
    clear b9
    rcases hcase with ⟨M, v, hokM, hcanM, rfl, hownM⟩ | ⟨hno, rfl⟩
    · obtain ⟨q2, d2, rfl⟩ := own_sliceV hownM
      have HM60 : Hid (M.length ≤ 1048576) := by have := okV_len hokM; show _ ≤ _; omega
      have HOM : Hid (RowR w9 (.slice q2 M.length d2) M.length 2 (rPair M)) := RowR.own hownM
      have HCM : Hid (canT M = T) := hcanM
      have HOK : Hid (okV M) := hokM
      obtain ⟨W9, hW9⟩ : ∃ W, W = w9.alloc (.cells #[.slice q2 M.length d2] 26) := ⟨_, rfl⟩
      have HW9 : Hid (w9.alloc (.cells #[.slice q2 M.length d2] 26) = W9) := hW9.symm
      have hbw : Below w9.heap.size w9 W9 := by rw [hW9]; exact (Below.refl _ _).alloc (Nat.le_refl _) _
      have HX9 : Hid (W9.heap[w9.heap.size]? = some (.cells #[.slice q2 M.length d2] 26)) := by rw [hW9]; exact alloc_last _ _
      have HC9' : Hid (Below w.heap.size w W9) := HC9.out.trans (hbw.mono HC9.out.size)
      have HRM : Hid (RowR W9 (.slice q2 M.length d2) M.length 2 (rPair M)) := HOM.out.keep hbw (Nat.le_refl _)
      clear hW9 hbw hownM hcanM hokM
      go_wp2_with fail
      rw [HW9.out]
      refine (specRead_c T W9 HTS.out).mono ?_
      rintro e wa ⟨ba, hcase⟩
      rcases hcase with ⟨M2, v2, hokM2, hcanM2, rfl, hownM2⟩ | ⟨hno, rfl⟩
      rotate_left
      · exact absurd ⟨M, HOK.out, HCM.out⟩ hno
      have HCa : Hid (Below w.heap.size w wa) := HC9'.out.trans (ba.mono HC9'.out.size)
      have HXa : Hid (wa.heap[w9.heap.size]? = some (.cells #[.slice q2 M.length d2] 26)) := (ba.block _ (lt_of_some HX9.out)).trans HX9.out
      have HRa : Hid (RowR wa (.slice q2 M.length d2) M.length 2 (rPair M)) := HRM.out.keep ba (Nat.le_refl _)
      obtain ⟨Wb, hWb⟩ : ∃ W, W = wa.alloc (.cells #[v2] 26) := ⟨_, rfl⟩
      have HWb : Hid (wa.alloc (.cells #[v2] 26) = Wb) := hWb.symm
      have hbb : Below wa.heap.size wa Wb := by rw [hWb]; exact (Below.refl _ _).alloc (Nat.le_refl _) _
      have HCb : Hid (Below w.heap.size w Wb) := HCa.out.trans (hbb.mono HCa.out.size)
      have HXb : Hid (Wb.heap[w9.heap.size]? = some (.cells #[.slice q2 M.length d2] 26)) := (hbb.block _ (lt_of_some HXa.out)).trans HXa.out
      have HRb : Hid (RowR Wb (.slice q2 M.length d2) M.length 2 (rPair M)) := HRa.out.keep hbb (Nat.le_refl _)
      obtain ⟨q3, d3, rfl⟩ := own_sliceV hownM2
      clear hWb hbb ba hownM2 hcanM2 hokM2
      have y0 := box1 HXa.out
      have hlt0 : w9.heap.size < wa.heap.size := lt_of_some HXa.out
      have hne0 : ¬ w9.heap.size = wa.heap.size := by omega
      go_wp2_with fail
      rw [HWb.out]
      refine (implCanon_c M q2 d2 Wb HM60.out HRb.out).mono ?_
      rintro e wc ⟨rfl, bc⟩
      rw [HCM.out]
      have HCc : Hid (Below w.heap.size w wc) := HCb.out.trans (bc.mono HCb.out.size)
      have HXc : Hid (wc.heap[w9.heap.size]? = some (.cells #[.slice q2 M.length d2] 26)) := (bc.block _ (lt_of_some HXb.out)).trans HXb.out
      have HRc : Hid (RowR wc (.slice q2 M.length d2) M.length 2 (rPair M)) := HRb.out.keep bc (Nat.le_refl _)
      clear bc y0 hlt0 hne0
      have y0 := box1 HXc.out
      go_wp2_with fail
      refine (implVok_c M q2 d2 wc HM60.out HRc.out).mono ?_
      rintro e wd ⟨rfl, bd⟩
      rw [decide_eq_true HOK.out]
      have HCd : Hid (Below w.heap.size w wd) := HCc.out.trans (bd.mono HCc.out.size)
      clear bd y0
      go_wp2
      go_ret
      exact ⟨rfl, HCd.out⟩
    · have HNO : Hid (¬ HasV T) := hno
      obtain ⟨W9, hW9⟩ : ∃ W, W = w9.alloc (.cells #[.slice none 0 0] 26) := ⟨_, rfl⟩
      have HW9 : Hid (w9.alloc (.cells #[.slice none 0 0] 26) = W9) := hW9.symm
      have HC9' : Hid (Below w.heap.size w W9) := by rw [hW9]; exact HC9.out.alloc HC9.out.size _
      clear hW9 hno
      go_wp2_with fail
      rw [HW9.out]
      refine (specRead_c T W9 HTS.out).mono ?_
      rintro e wa ⟨ba, hcase⟩
      rcases hcase with ⟨M2, v2, hokM2, hcanM2, rfl, hownM2⟩ | ⟨hno, rfl⟩
      · exact absurd ⟨M2, hokM2, hcanM2⟩ HNO.out
      have HCa : Hid (Below w.heap.size w wa) := HC9'.out.trans (ba.mono HC9'.out.size)
      clear ba hno
      go_wp2
      go_ret
      exact ⟨rfl, HCa.out.alloc HCa.out.size _⟩

end Go.Proofs.YtdhbhifgmbppjaaDoor
