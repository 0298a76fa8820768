/- The law FnOneMore, walked. -/
import Derived.Test.YtdhbhifgmbppjaaO8Base
import Derived.Test.YtdhbhifgmbppjaaM8Impl
import Derived.Test.YtdhbhifgmbppjaaB8Impl
namespace Go.Proofs.Ytdhbhifgmbppjaa
open Go.RowKit
set_option linter.unusedVariables false
set_option linter.unusedSimpArgs false

set_option maxRecDepth 20000 in
set_option maxHeartbeats 8000000 in
theorem onemore_law (w : World) (ao : Option Addr) (len cap : Nat) (zs : List Int) (hrow : IsRow w ao len cap zs) :
    Calls Try.prog 5 #[.slice ao len cap] w fun e w' => e = .returned (.bool true) ∧ Below w.heap.size w w' := by
  obtain ⟨i0, hi, hz0, hz1, hz2⟩ := info_parts infoInt
  have HC : Hid (CodeAt w w.heap.size ao len zs) := hrow.code
  have HZ : Hid (∀ j, 0 ≤ zs.getD j 0 ∧ zs.getD j 0 ≤ 255) := hrow.range
  have hlm := hrow.len
  clear hrow
  by_cases hbig : (1048576 : Int) < len
  · go_enter Try.func5, Try.ntmps5
    go_wp2_with fail
    refine (big_c w ao len cap true (decide_eq_true hbig)).mono ?_
    rintro e wz ⟨rfl, hw⟩
    replace hw := hw.symm
    subst hw
    go_wp2
    go_ret
    exact ⟨rfl, Below.refl _ _⟩
  have HL : Hid (len ≤ 1048576) := by show _ ≤ _; omega
  go_enter Try.func5, Try.ntmps5
  go_wp2_with fail
  refine (big_c w ao len cap false (decide_eq_false (by omega))).mono ?_
  rintro e wz ⟨rfl, hw⟩
  replace hw := hw.symm
  subst hw
  clear hbig
  go_wp2_with fail
  refine (drawBpe_c w len cap ao zs HC.out HL.out HZ.out).mono ?_
  rintro e w1 ⟨L, p, c, s, rfl, hLl, hsl, hown, b1⟩
  have HLl : Hid (L.length ≤ 1048576) := by show _ ≤ _; omega
  have HSl : Hid (s.size ≤ 24024) := hsl
  have HB1 : Hid (Below w.heap.size w w1) := b1
  have HO1 : Hid (RowR w1 (.slice p L.length c) L.length 2 (rPair L)) := RowR.own hown
  obtain ⟨W1, hW1⟩ : ∃ W, W = w1.alloc (.cells #[.slice p L.length c] 26) := ⟨_, rfl⟩
  have HW1 : Hid (w1.alloc (.cells #[.slice p L.length c] 26) = W1) := hW1.symm
  have HBW : Hid (Below w1.heap.size w1 W1) := by rw [hW1]; exact (Below.refl _ _).alloc (Nat.le_refl _) _
  have HX1 : Hid (W1.heap[w1.heap.size]? = some (.cells #[.slice p L.length c] 26)) := by rw [hW1]; exact alloc_last _ _
  have HBu : Hid (Below w.heap.size w W1) := HB1.out.trans (HBW.out.mono HB1.out.size)
  have HRV : Hid (∀ W, Below W1.heap.size W1 W → RowR W (.slice p L.length c) L.length 2 (rPair L)) := fun W hb => (HO1.out.keep HBW.out (Nat.le_refl _)).keep hb (Nat.le_refl _)
  have HXV : Hid (∀ W, Below W1.heap.size W1 W → W.cell? ⟨w1.heap.size, 0, none⟩ = some (.slice p L.length c)) := fun W hb => box1 ((hb.block _ (lt_of_some HX1.out)).trans HX1.out)
  have HDN : Hid (∀ W, Below W1.heap.size W1 W → Below w.heap.size w W) := fun W hb => HBu.out.trans (hb.mono HBu.out.size)
  have HCP : Hid (L.length ≤ c) := prCap hown
  clear hLl hown b1 hW1
  have v0 := HXV.out W1 (Below.refl _ _)
  go_wp2_with fail
  rw [HW1.out]
  refine (specVok_c L p c W1 HLl.out (HRV.out _ (Below.refl _ _))).mono ?_
  rintro e w2 ⟨rfl, b2⟩
  have HB2 : Hid (Below W1.heap.size W1 w2) := b2
  clear b2 v0
  have v0 := HXV.out w2 HB2.out
  by_cases hok : okV L
  rotate_left
  · rw [decide_eq_false hok]
    go_wp2
    go_ret
    exact ⟨rfl, HDN.out _ HB2.out⟩
  rw [decide_eq_true hok]
  have HOK : Hid (okV L) := hok
  clear hok
  have hsz := HSl.out
  by_cases hl0 : (L.length : Int) = 0
  · skip
    go_wp2
    go_ret
    exact ⟨rfl, HDN.out _ HB2.out⟩
  have hl0b : ((L.length : Int) == 0) = false := by simp only [beq_eq_false_iff_ne, ne_eq]; exact hl0
  by_cases h64 : (64 : Int) < (s.size : Int)
  · skip
    go_wp2
    go_ret
    exact ⟨rfl, HDN.out _ HB2.out⟩
  have H64 : Hid (s.size ≤ 64) := by show _ ≤ _; omega
  have hm' : (s.size : Int) ≤ 1048576 := by omega
  obtain ⟨R, hR⟩ : ∃ R, bpeL L (bpI s) = R := ⟨_, rfl⟩
  have HRR : Hid (bpF L s = R) := by rw [← hR]; exact if_pos ⟨HOK.out, H64.out⟩
  have HRL : Hid (R.length ≤ 1048576) := by have := bpF_len L s; rw [HRR.out] at this; show _ ≤ _; omega
  obtain ⟨S, hS⟩ : ∃ S, L.take (L.length - 1) = S := ⟨_, rfl⟩
  have hl1 : S.length + 1 = L.length := by
    have := congrArg List.length hS
    rw [List.length_take] at this
    omega
  have HSS : Hid (L.take S.length = S) := by show _ = _; rw [show S.length = L.length - 1 by omega]; exact hS
  obtain ⟨HTS, HN0⟩ := om_start HSS.out HOK.out H64.out
  rw [hR] at HN0
  have HNN : Hid (OmS L R S.length s.size (bpF S s).length (bpF S s) 0) := HN0
  have HL1 : Hid (S.length + 1 = L.length) := hl1
  have HSL : Hid (S.length ≤ 1048576) := by have := HLl.out; show _ ≤ _; omega
  have HL60 : Hid (L.length ≤ 60) := okV_len HOK.out
  have en : IntKind.i64.wrap ((L.length : Int) - 1) = (S.length : Int) := by have := HL60.out; rw [IntWalk.i64_in _ (by omega)]; omega
  have es : IntKind.i64.wrap (256 + (S.length : Int)) = 256 + (S.length : Int) := by have := HL60.out; exact IntWalk.i64_in _ (by omega)
  obtain ⟨pb, po, pc, hv, _, _⟩ := (HRV.out W1 (Below.refl _ _)).some (by omega) (by decide)
  simp only [Value.slice.injEq, true_and] at hv
  obtain ⟨rfl, rfl⟩ := hv
  obtain ⟨vv3, W3, hrun, hown3, hb3⟩ := cpPr (some ⟨pb, po, none⟩) S c w2 HSL.out (rowPre (HRV.out w2 HB2.out) HSS.out)
  obtain ⟨q3, c3, rfl⟩ := own_sliceV hown3
  obtain ⟨W4, hW4⟩ : ∃ W, W = W3.alloc (.cells #[.slice q3 S.length c3] 26) := ⟨_, rfl⟩
  have HW4 : Hid (W3.alloc (.cells #[.slice q3 S.length c3] 26) = W4) := hW4.symm
  have hb4 : Below W3.heap.size W3 W4 := by rw [hW4]; exact (Below.refl _ _).alloc (Nat.le_refl _) _
  have HX4 : Hid (W4.heap[W3.heap.size]? = some (.cells #[.slice q3 S.length c3] 26)) := by rw [hW4]; exact alloc_last _ _
  have HB13 : Hid (Below W1.heap.size W1 W3) := HB2.out.trans (hb3.mono HB2.out.size)
  have HB14 : Hid (Below W1.heap.size W1 W4) := HB13.out.trans (hb4.mono HB13.out.size)
  have HS4 : Hid (RowR W4 (.slice q3 S.length c3) S.length 2 (rPair S)) := (RowR.own hown3).keep hb4 (Nat.le_refl _)
  have HRS : Hid (∀ W, Below W4.heap.size W4 W → RowR W (.slice q3 S.length c3) S.length 2 (rPair S)) := fun W hb => HS4.out.keep hb (Nat.le_refl _)
  have HXS : Hid (∀ W, Below W4.heap.size W4 W → W.cell? ⟨W3.heap.size, 0, none⟩ = some (.slice q3 S.length c3)) := fun W hb => box1 ((hb.block _ (lt_of_some HX4.out)).trans HX4.out)
  have HU : Hid (∀ W, Below W4.heap.size W4 W → Below W1.heap.size W1 W) := fun W hb => HB14.out.trans (hb.mono HB14.out.size)
  have HRV4 : Hid (∀ W, Below W4.heap.size W4 W → RowR W (.slice (some ⟨pb, po, none⟩) L.length c) L.length 2 (rPair L)) := fun W hb => HRV.out W (HU.out W hb)
  have HXV4 : Hid (∀ W, Below W4.heap.size W4 W → W.cell? ⟨w1.heap.size, 0, none⟩ = some (.slice (some ⟨pb, po, none⟩) L.length c)) := fun W hb => HXV.out W (HU.out W hb)
  have HDN4 : Hid (∀ W, Below W4.heap.size W4 W → Below w.heap.size w W) := fun W hb => HDN.out W (HU.out W hb)
  have hnc : (S.length : Int) ≤ (c : Int) := by have := HCP.out; omega
  have hnc' : S.length ≤ c := by have := HCP.out; omega
  have x4 := HXV.out W4 HB14.out
  have x5 := HXS.out W4 (Below.refl _ _)
  have h12 : w1.heap.size < w2.heap.size := Nat.lt_of_lt_of_le (lt_of_some HX1.out) HB2.out.size
  have hne12 : ¬ w1.heap.size = w2.heap.size := by omega
  clear hW4 hR hS HN0 hown3 hb3 hb4
  go_wp2_with (first | (at_builtin; refine wpList_append_run8 rfl _ _ 24 rfl _ _ rfl rfl _ _ hrun ?_) | fail)
  rw [HW4.out]
  clear hrun HRV HXV HDN v0 x4 HU HB14 HB13 HB2
  have HRV := HRV4
  have HXV := HXV4
  have HDN := HDN4
  clear HRV4 HXV4 HDN4
  refine (implBpe_c S q3 c3 s W4 HSL.out (by omega) (HRS.out _ (Below.refl _ _))).mono ?_
  rintro e w5 ⟨v5, rfl, ho5, b5⟩
  obtain ⟨q5, c5, rfl⟩ := own_sliceV ho5
  have HB5 : Hid (Below W4.heap.size W4 w5) := b5
  have HT5 : Hid (IR w5 (.slice q5 (bpF S s).length c5) (bpF S s)) := IO.row ho5
  clear b5 ho5 x5 HTS
  obtain ⟨T0, hT0⟩ : ∃ T, bpF S s = T := ⟨_, rfl⟩
  have HM : Hid ((bpF S s).length = T0.length) := by rw [hT0]; rfl
  rw [hT0] at HT5 HNN ⊢
  clear hT0
  go_wp2_with fail
  go_loopw [7, 8] (fun tv kv wr => ∃ (k : Nat) (ts : List Int) (q : Option Addr) (cq : Nat), tv = .slice q ts.length cq ∧ kv = .int .i64 (k : Int) ∧ k ≤ s.size ∧ Hid (OmS L R S.length s.size T0.length ts k) ∧ Hid (IR wr (.slice q ts.length cq) ts) ∧ Hid (Below W4.heap.size W4 wr)) (fun _ kv _ => s.size - (intOf kv).toNat)
  case atStart => exact ⟨0, T0, q5, c5, rfl, rfl, Nat.zero_le _, HNN, HT5, HB5⟩
  case round =>
    clear HNN HT5 HB5
    obtain ⟨k, ts, q, cq, rfl, rfl, hk, HS, HT, HB⟩ := hrel
    have HLE : Hid (ts.length ≤ (bpF S s).length) := by rw [HM.out]; exact HS.out.len
    by_cases hlt : k < s.size
    · have hlt' : (k : Int) < s.size := by omega
      have v0 := HXV.out wr HB.out
      go_wp2_with fail
      refine (implMo_c L (some ⟨pb, po, none⟩) c ts q cq wr HLl.out (by have := HS.out.nv.few; omega) (HRV.out _ HB.out) HT.out).mono ?_
      rintro e w5 ⟨v, rfl, ho, b5⟩
      have HB5 : Hid (Below W4.heap.size W4 w5) := HB.out.trans (b5.mono HB.out.size)
      rcases hp : placeF L ts with _ | ⟨i, r⟩
      · obtain ⟨e1, e2⟩ := moB_none HS.out.nv.ok hp
        rw [e1] at ho
        rw [e2]
        obtain rfl : ts = R := HS.out.nv.stop hp
        have HT5 : Hid (IR w5 (.slice q ts.length cq) ts) := IR.keep HT.out b5 (Nat.le_refl _)
        obtain ⟨q', cq', rfl⟩ := own_sliceV ho
        clear ho b5 e1 e2 hp v0
        have v0 := HXV.out w5 HB5.out
        go_wp2_with fail
        refine (implBpe_c L (some ⟨pb, po, none⟩) c s w5 HLl.out (by have := HSl.out; omega) (HRV.out _ HB5.out)).mono ?_
        rintro e w6 ⟨vv6, rfl, ho6, b6⟩
        rw [HRR.out] at ho6
        obtain ⟨q6, c6, rfl⟩ := own_sliceV ho6
        have HB6 : Hid (Below W4.heap.size W4 w6) := HB5.out.trans (b6.mono HB5.out.size)
        have HT6 : Hid (IR w6 (.slice q ts.length cq) ts) := IR.keep HT5.out b6 (Nat.le_refl _)
        have HO6 : Hid (IR w6 (.slice q6 ts.length c6) ts) := IO.row ho6
        clear b6 ho6 v0
        go_wp2_with fail
        refine (sameInts_c _ _ ts w6 HRL.out HT6.out HO6.out).mono ?_
        rintro e w7 ⟨rfl, b7⟩
        have HB7 : Hid (Below W4.heap.size W4 w7) := HB6.out.trans (b7.mono HB6.out.size)
        have HT7 : Hid (IR w7 (.slice q ts.length cq) ts) := IR.keep HT6.out b7 (Nat.le_refl _)
        clear b7
        have v0 := HXV.out w7 HB7.out
        go_wp2_with fail
        refine (specBpe_c L (some ⟨pb, po, none⟩) c s w7 HLl.out (by have := HSl.out; omega) (HRV.out _ HB7.out)).mono ?_
        rintro e w8 ⟨vv8, rfl, ho8, b8⟩
        rw [HRR.out] at ho8
        obtain ⟨q8, c8, rfl⟩ := own_sliceV ho8
        have HB8 : Hid (Below W4.heap.size W4 w8) := HB7.out.trans (b8.mono HB7.out.size)
        have HT8 : Hid (IR w8 (.slice q ts.length cq) ts) := IR.keep HT7.out b8 (Nat.le_refl _)
        have HO8 : Hid (IR w8 (.slice q8 ts.length c8) ts) := IO.row ho8
        clear b8 ho8 v0
        go_wp2_with fail
        refine (sameInts_c _ _ ts w8 HRL.out HT8.out HO8.out).mono ?_
        rintro e w9 ⟨rfl, b9⟩
        have HB9 : Hid (Below W4.heap.size W4 w9) := HB8.out.trans (b9.mono HB8.out.size)
        clear b9
        have y0 := HXS.out w9 HB9.out
        go_wp2_with fail
        refine (specBpe_c S q3 c3 s w9 HSL.out (by have := HSl.out; omega) (HRS.out _ HB9.out)).mono ?_
        rintro e wa ⟨va, rfl, hoa, ba⟩
        obtain ⟨qa, ca, rfl⟩ := own_sliceV hoa
        have HBa : Hid (Below W4.heap.size W4 wa) := HB9.out.trans (ba.mono HB9.out.size)
        have hle : (ts.length : Int) ≤ ((bpF S s).length : Int) := by have := HLE.out; omega
        clear hoa ba y0
        go_wp2
        go_ret
        exact ⟨rfl, HDN.out _ HBa.out⟩
      · obtain ⟨e1, e2⟩ := moB_yes HS.out.nv.ok hp
        rw [e1] at ho
        rw [e2]
        obtain ⟨q', cq', rfl⟩ := own_sliceV ho
        have HT5 : Hid (IR w5 (.slice q' (mgT ts i r).length cq') (mgT ts i r)) := IO.row ho
        have HTt : Hid (IR w5 (.slice q ts.length cq) ts) := IR.keep HT.out b5 (Nat.le_refl _)
        obtain ⟨hrn, hil, HSn, hpre, hat, a, hta, hane⟩ := HS.out.at HL1.out hp
        have hxl := mgT_len (r := r) hil
        have HTL : Hid (ts.length ≤ 1048576) := by have := HS.out.nv.few; show _ ≤ _; omega
        generalize mgT ts i r = x at HT5 HSn hpre hat hxl ⊢
        have HSx : Hid (OmS L R S.length s.size T0.length x (k + 1)) := HSn
        have hixl : (i : Int) < (x.length : Int) := by omega
        obtain ⟨xb, xo, rfl, hxb, hxc⟩ := HT5.out.cells (by omega)
        have HC5 : Hid (w5.cell? ⟨xb, xo + i, none⟩ = some (.int .i64 (256 + (S.length : Int)))) := by
          have h1 := hxc i (by omega)
          rw [List.getElem?_eq_getElem (by omega)] at hat
          rw [Option.some.inj hat] at h1
          exact h1
        have HPL : Hid (Calls Try.prog 17 #[.slice (some ⟨xb, xo, none⟩) x.length cq', .slice q ts.length cq] w5 fun e w' => e = .returned (.int .i64 (i : Int)) ∧ Below w5.heap.size w5 w') := place_c _ _ x ts i _ a w5 (by have := HTL.out; omega) HTL.out hpre hat hta hane HT5.out HTt.out
        have HXB : Hid (xb < w5.heap.size) := hxb
        clear ho b5 e1 e2 hp v0 HSn hpre hat hta hane hxc hrn hil hxb
        go_wp2_with fail
        refine HPL.out.mono ?_
        rintro e w6 ⟨rfl, b6⟩
        have HB6 : Hid (Below W4.heap.size W4 w6) := HB5.out.trans (b6.mono HB5.out.size)
        have HT6 : Hid (IR w6 (.slice (some ⟨xb, xo, none⟩) x.length cq') x) := IR.keep HT5.out b6 (Nat.le_refl _)
        have c6 : w6.cell? ⟨xb, xo + i, none⟩ = some (.int .i64 (256 + (S.length : Int))) := by rw [b6.cell (by exact HXB.out)]; exact HC5.out
        clear b6
        go_wp2
        go_roundw
        case rel => first | exact ⟨k + 1, x, _, cq', rfl, by go_num, by omega, HSx, HT6, HB6⟩ | ((repeat apply Exists.intro); exact ⟨⟨k + 1, x, _, cq', rfl, by go_num, by omega, HSx, HT6, HB6⟩, rfl⟩)
        case measure => simp [intOf]; omega
    · have hlt' : ¬ (k : Int) < s.size := by omega
      obtain rfl : ts = R := HS.out.nv.last (by omega)
      have v0 := HXV.out wr HB.out
      go_wp2_with fail
      refine (implBpe_c L (some ⟨pb, po, none⟩) c s wr HLl.out (by have := HSl.out; omega) (HRV.out _ HB.out)).mono ?_
      rintro e w6 ⟨vv6, rfl, ho6, b6⟩
      rw [HRR.out] at ho6
      obtain ⟨q6, c6, rfl⟩ := own_sliceV ho6
      have HB6 : Hid (Below W4.heap.size W4 w6) := HB.out.trans (b6.mono HB.out.size)
      have HT6 : Hid (IR w6 (.slice q ts.length cq) ts) := IR.keep HT.out b6 (Nat.le_refl _)
      have HO6 : Hid (IR w6 (.slice q6 ts.length c6) ts) := IO.row ho6
      clear b6 ho6 v0
      go_wp2_with fail
      refine (sameInts_c _ _ ts w6 HRL.out HT6.out HO6.out).mono ?_
      rintro e w7 ⟨rfl, b7⟩
      have HB7 : Hid (Below W4.heap.size W4 w7) := HB6.out.trans (b7.mono HB6.out.size)
      have HT7 : Hid (IR w7 (.slice q ts.length cq) ts) := IR.keep HT6.out b7 (Nat.le_refl _)
      clear b7
      have v0 := HXV.out w7 HB7.out
      go_wp2_with fail
      refine (specBpe_c L (some ⟨pb, po, none⟩) c s w7 HLl.out (by have := HSl.out; omega) (HRV.out _ HB7.out)).mono ?_
      rintro e w8 ⟨vv8, rfl, ho8, b8⟩
      rw [HRR.out] at ho8
      obtain ⟨q8, c8, rfl⟩ := own_sliceV ho8
      have HB8 : Hid (Below W4.heap.size W4 w8) := HB7.out.trans (b8.mono HB7.out.size)
      have HT8 : Hid (IR w8 (.slice q ts.length cq) ts) := IR.keep HT7.out b8 (Nat.le_refl _)
      have HO8 : Hid (IR w8 (.slice q8 ts.length c8) ts) := IO.row ho8
      clear b8 ho8 v0
      go_wp2_with fail
      refine (sameInts_c _ _ ts w8 HRL.out HT8.out HO8.out).mono ?_
      rintro e w9 ⟨rfl, b9⟩
      have HB9 : Hid (Below W4.heap.size W4 w9) := HB8.out.trans (b9.mono HB8.out.size)
      clear b9
      have y0 := HXS.out w9 HB9.out
      go_wp2_with fail
      refine (specBpe_c S q3 c3 s w9 HSL.out (by have := HSl.out; omega) (HRS.out _ HB9.out)).mono ?_
      rintro e wa ⟨va, rfl, hoa, ba⟩
      obtain ⟨qa, ca, rfl⟩ := own_sliceV hoa
      have HBa : Hid (Below W4.heap.size W4 wa) := HB9.out.trans (ba.mono HB9.out.size)
      have hle : (ts.length : Int) ≤ ((bpF S s).length : Int) := by have := HLE.out; omega
      clear hoa ba y0
      go_wp2
      go_ret
      exact ⟨rfl, HDN.out _ HBa.out⟩

end Go.Proofs.Ytdhbhifgmbppjaa
