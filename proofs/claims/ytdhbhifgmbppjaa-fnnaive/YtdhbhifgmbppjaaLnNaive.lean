/- The law FnNaive, walked. -/
import Derived.Test.YtdhbhifgmbppjaaN8Math
import Derived.Test.YtdhbhifgmbppjaaN8Base
import Derived.Test.YtdhbhifgmbppjaaM8Impl
import Derived.Test.YtdhbhifgmbppjaaB8Impl
namespace Go.Proofs.Ytdhbhifgmbppjaa
open Go.RowKit
set_option linter.unusedVariables false
set_option linter.unusedSimpArgs false

set_option maxRecDepth 20000 in
set_option maxHeartbeats 8000000 in
theorem naive_law (w : World) (ao : Option Addr) (len cap : Nat) (zs : List Int) (hrow : IsRow w ao len cap zs) :
    Calls Try.prog 4 #[.slice ao len cap] w fun e w' => e = .returned (.bool true) ∧ Below w.heap.size w w' := by
  obtain ⟨i0, hi, hz0, hz1, hz2⟩ := info_parts infoInt
  have HC : Hid (CodeAt w w.heap.size ao len zs) := hrow.code
  have HZ : Hid (∀ j, 0 ≤ zs.getD j 0 ∧ zs.getD j 0 ≤ 255) := hrow.range
  have hlm := hrow.len
  clear hrow
  by_cases hbig : (1048576 : Int) < len
  · go_enter Try.func4, Try.ntmps4
    go_wp2_with fail
    refine (big_c w ao len cap true (decide_eq_true hbig)).mono ?_
    rintro e wz ⟨rfl, hw⟩
    replace hw := hw.symm
    subst hw
    go_wp2
    go_ret
    exact ⟨rfl, Below.refl _ _⟩
  have HL : Hid (len ≤ 1048576) := by show _ ≤ _; omega
  go_enter Try.func4, Try.ntmps4
  go_wp2_with fail
  refine (big_c w ao len cap false (decide_eq_false (by omega))).mono ?_
  rintro e wz ⟨rfl, hw⟩
  replace hw := hw.symm
  subst hw
  clear hbig
  go_wp2_with fail
  refine (drawBpe_c w len cap ao zs HC.out HL.out HZ.out).mono ?_
  rintro e w1 ⟨L, p, c, s, rfl, hLl, hsl, hown, b1⟩
  have HLl : Hid (L.length ≤ 1048576) := by show _ ≤ _; omega
  have HSl : Hid (s.size ≤ 24024) := hsl
  have HB1 : Hid (Below w.heap.size w w1) := b1
  have HO1 : Hid (RowR w1 (.slice p L.length c) L.length 2 (rPair L)) := RowR.own hown
  obtain ⟨W1, hW1⟩ : ∃ W, W = w1.alloc (.cells #[.slice p L.length c] 26) := ⟨_, rfl⟩
  have HW1 : Hid (w1.alloc (.cells #[.slice p L.length c] 26) = W1) := hW1.symm
  have HBW : Hid (Below w1.heap.size w1 W1) := by rw [hW1]; exact (Below.refl _ _).alloc (Nat.le_refl _) _
  have HX1 : Hid (W1.heap[w1.heap.size]? = some (.cells #[.slice p L.length c] 26)) := by rw [hW1]; exact alloc_last _ _
  have HBu : Hid (Below w.heap.size w W1) := HB1.out.trans (HBW.out.mono HB1.out.size)
  have HRV : Hid (∀ W, Below W1.heap.size W1 W → RowR W (.slice p L.length c) L.length 2 (rPair L)) := fun W hb => (HO1.out.keep HBW.out (Nat.le_refl _)).keep hb (Nat.le_refl _)
  have HXV : Hid (∀ W, Below W1.heap.size W1 W → W.cell? ⟨w1.heap.size, 0, none⟩ = some (.slice p L.length c)) := fun W hb => box1 ((hb.block _ (lt_of_some HX1.out)).trans HX1.out)
  have HDN : Hid (∀ W, Below W1.heap.size W1 W → Below w.heap.size w W) := fun W hb => HBu.out.trans (hb.mono HBu.out.size)
  clear hLl hown b1 hW1
  have v0 := HXV.out W1 (Below.refl _ _)
  go_wp2_with fail
  rw [HW1.out]
  refine (specVok_c L p c W1 HLl.out (HRV.out _ (Below.refl _ _))).mono ?_
  rintro e w2 ⟨rfl, b2⟩
  have HB2 : Hid (Below W1.heap.size W1 w2) := b2
  clear b2 v0
  by_cases hok : okV L
  rotate_left
  · rw [decide_eq_false hok]
    go_wp2
    go_ret
    exact ⟨rfl, HDN.out _ HB2.out⟩
  rw [decide_eq_true hok]
  have HOK : Hid (okV L) := hok
  clear hok
  have hsz := HSl.out
  by_cases h64 : (64 : Int) < (s.size : Int)
  · skip
    go_wp2
    go_ret
    exact ⟨rfl, HDN.out _ HB2.out⟩
  have H64 : Hid (s.size ≤ 64) := by show _ ≤ _; omega
  have hm' : (s.size : Int) ≤ 1048576 := by omega
  obtain ⟨R, hR⟩ : ∃ R, bpeL L (bpI s) = R := ⟨_, rfl⟩
  have HRR : Hid (bpF L s = R) := by rw [← hR]; exact if_pos ⟨HOK.out, H64.out⟩
  have HRL : Hid (R.length ≤ 1048576) := by have := bpF_len L s; rw [HRR.out] at this; show _ ≤ _; omega
  have HN0 : Hid (NvS L R s.size (bpI s) 0) := ⟨okT_bp HOK.out H64.out, hR, by rw [bpI_len]; omega⟩
  obtain ⟨W2, hW2⟩ : ∃ W, W = w2.alloc (.cells #[] 3) := ⟨_, rfl⟩
  have HW2 : Hid (w2.alloc (.cells #[] 3) = W2) := hW2.symm
  have HM0 : Hid (W2.ownsRow W1.heap.size 3 1 (.slice (some ⟨w2.heap.size, 0, none⟩) 0 0) 0 []) := by
    rw [hW2]
    exact World.ownsRow_made (base := W1.heap.size) (e := 3) (size := 1) w2 #[] 0 HB2.out.size (by decide) rfl
  have HC0 : Hid (Below W1.heap.size W1 W2) := by rw [hW2]; exact HB2.out.alloc HB2.out.size _
  clear hW2 hR
  go_wp2_with fail
  rw [HW2.out]
  go_loopw [5, 6] (fun ov iv wr => ∃ k : Nat, k ≤ s.size ∧ iv = .int .i64 (k : Int) ∧ Hid (wr.ownsRow W1.heap.size 3 1 ov ((bpI s).take k).length (rI ((bpI s).take k))) ∧ Hid (Below W1.heap.size W1 wr)) (fun _ iv _ => s.size - (intOf iv).toNat)
  case atStart => exact ⟨0, Nat.zero_le _, rfl, HM0.out, HC0.out⟩
  case round =>
    obtain ⟨k, hk, rfl, HOV, HBr⟩ := hrel
    by_cases hlt : k < s.size
    · have hlt' : (k : Int) < s.size := by omega
      have hix := ixB s k hlt
      have HSN : Hid ((bpI s).take (k + 1) = (bpI s).take k ++ [byteAt s k]) := bpI_take s k hlt
      have HKL : Hid (((bpI s).take k).length ≤ 1000) := by show _ ≤ _; rw [List.length_take, bpI_len]; have := H64.out; omega
      have hbr := byteAt_rng s k
      have ew : IntKind.i64.wrap (byteAt s k) = byteAt s k := IntWalk.i64_in _ (by omega)
      generalize (bpI s).take k = P at HSN HKL HOV
      generalize byteAt s k = bb at hix HSN hbr ew
      have hsz1 := HBr.out.size
      have hml : (1048577 : Nat) ≤ maxLen := by unfold maxLen; omega
      have hPl := HKL.out
      have hown4 := HOV.out
      go_wp2_with (at_builtin; refine wpList_append_own _ rfl _ _ 27 rfl W1.heap.size 3 i0 (.int .i64 0) 1 8 Try.underlying27 hi hz0 hz1 hz2 rfl (by decide) _ _ _ rfl (hown4.alloc _) ⟨wr.heap.size, 0, none⟩ 1 1 [.int .i64 bb] rfl rfl (cell_one_new _ _ _) (by intro u hu; simp at hu; subst hu; rfl) (by omega) (by omega) (by simp; omega) ?_)
      intro v' w5 hown5 hgrow _
      have R1 : w5.ownsRow W1.heap.size 3 1 v' (P ++ [bb]).length (rI (P ++ [bb])) := by
        have := hown5
        unfold rI at this ⊢
        simpa using this
      have R2 := below_append HBr.out (Nat.le_refl _) hown4 hgrow
      rw [← HSN.out] at R1
      clear hown5 hgrow hown4 HBr HOV
      go_wp2
      go_roundw
      case rel => first | exact ⟨k + 1, by omega, by go_num, R1, R2⟩ | ((repeat apply Exists.intro); exact ⟨⟨k + 1, by omega, by go_num, R1, R2⟩, rfl⟩)
      case measure => simp [intOf]; omega
    · have hke : k = s.size := by omega
      subst hke
      have hov : wr.ownsRow W1.heap.size 3 1 u5 (bpI s).length (rI (bpI s)) := by
        have h := HOV.out
        rw [List.take_of_length_le (by rw [bpI_len]; exact Nat.le_refl _)] at h
        exact h
      obtain ⟨q, cq, rfl⟩ := own_sliceV hov
      have HV : Hid (IR wr (.slice q (bpI s).length cq) (bpI s)) := IO.row hov
      have HBq : Hid (Below W1.heap.size W1 wr) := HBr.out
      clear HOV hov HBr
      generalize bpI s = T0 at HN0 HV ⊢
      go_wp2_with fail
      go_loopw [5, 7] (fun tv kv wr => ∃ (k : Nat) (ts : List Int) (q : Option Addr) (cq : Nat), tv = .slice q ts.length cq ∧ kv = .int .i64 (k : Int) ∧ k ≤ s.size ∧ Hid (NvS L R s.size ts k) ∧ Hid (IR wr (.slice q ts.length cq) ts) ∧ Hid (Below W1.heap.size W1 wr)) (fun _ kv _ => s.size - (intOf kv).toNat)
      case atStart => exact ⟨0, T0, q, cq, rfl, rfl, Nat.zero_le _, HN0, HV, HBq⟩
      case round =>
        clear HN0 HV HBq
        obtain ⟨k, ts, q, cq, rfl, rfl, hk, HS, HT, HB⟩ := hrel
        by_cases hlt : k < s.size
        · have hlt' : (k : Int) < s.size := by omega
          have v0 := HXV.out wr HB.out
          go_wp2_with fail
          refine (implMo_c L p c ts q cq wr HLl.out (by have := HS.out.few; have := H64.out; omega) (HRV.out _ HB.out) HT.out).mono ?_
          rintro e w5 ⟨v, rfl, ho, b5⟩
          have HB5 : Hid (Below W1.heap.size W1 w5) := HB.out.trans (b5.mono HB.out.size)
          rcases hp : placeF L ts with _ | ⟨i, r⟩
          · obtain ⟨e1, e2⟩ := moB_none HS.out.ok hp
            rw [e1] at ho
            rw [e2]
            obtain rfl : ts = R := HS.out.stop hp
            have HT5 : Hid (IR w5 (.slice q ts.length cq) ts) := IR.keep HT.out b5 (Nat.le_refl _)
            obtain ⟨q', cq', rfl⟩ := own_sliceV ho
            clear ho b5 e1 e2 hp v0
            have v0 := HXV.out w5 HB5.out
            go_wp2_with fail
            refine (implBpe_c L p c s w5 HLl.out (by have := HSl.out; omega) (HRV.out _ HB5.out)).mono ?_
            rintro e w6 ⟨vv6, rfl, ho6, b6⟩
            rw [HRR.out] at ho6
            obtain ⟨q6, c6, rfl⟩ := own_sliceV ho6
            have HB6 : Hid (Below W1.heap.size W1 w6) := HB5.out.trans (b6.mono HB5.out.size)
            have HT6 : Hid (IR w6 (.slice q ts.length cq) ts) := IR.keep HT5.out b6 (Nat.le_refl _)
            have HO6 : Hid (IR w6 (.slice q6 ts.length c6) ts) := IO.row ho6
            clear b6 ho6 v0
            go_wp2_with fail
            refine (sameInts_c _ _ ts w6 HRL.out HT6.out HO6.out).mono ?_
            rintro e w7 ⟨rfl, b7⟩
            have HB7 : Hid (Below W1.heap.size W1 w7) := HB6.out.trans (b7.mono HB6.out.size)
            have HT7 : Hid (IR w7 (.slice q ts.length cq) ts) := IR.keep HT6.out b7 (Nat.le_refl _)
            clear b7
            have v0 := HXV.out w7 HB7.out
            go_wp2_with fail
            refine (specBpe_c L p c s w7 HLl.out (by have := HSl.out; omega) (HRV.out _ HB7.out)).mono ?_
            rintro e w8 ⟨vv8, rfl, ho8, b8⟩
            rw [HRR.out] at ho8
            obtain ⟨q8, c8, rfl⟩ := own_sliceV ho8
            have HB8 : Hid (Below W1.heap.size W1 w8) := HB7.out.trans (b8.mono HB7.out.size)
            have HT8 : Hid (IR w8 (.slice q ts.length cq) ts) := IR.keep HT7.out b8 (Nat.le_refl _)
            have HO8 : Hid (IR w8 (.slice q8 ts.length c8) ts) := IO.row ho8
            clear b8 ho8 v0
            go_wp2_with fail
            refine (sameInts_c _ _ ts w8 HRL.out HT8.out HO8.out).mono ?_
            rintro e w9 ⟨rfl, b9⟩
            have HB9 : Hid (Below W1.heap.size W1 w9) := HB8.out.trans (b9.mono HB8.out.size)
            clear b9
            go_wp2
            go_ret
            exact ⟨rfl, HDN.out _ HB9.out⟩
          · obtain ⟨e1, e2⟩ := moB_yes HS.out.ok hp
            rw [e1] at ho
            rw [e2]
            obtain ⟨q', cq', rfl⟩ := own_sliceV ho
            have HT5 : Hid (IR w5 (.slice q' (mgT ts i r).length cq') (mgT ts i r)) := IO.row ho
            have HS5 : Hid (NvS L R s.size (mgT ts i r) (k + 1)) := HS.out.step hp
            generalize mgT ts i r = ts2 at HT5 HS5 ⊢
            clear ho b5 e1 e2 hp v0
            go_wp2
            go_roundw
            case rel => first | exact ⟨k + 1, ts2, q', cq', rfl, by go_num, by omega, HS5, HT5, HB5⟩ | ((repeat apply Exists.intro); exact ⟨⟨k + 1, ts2, q', cq', rfl, by go_num, by omega, HS5, HT5, HB5⟩, rfl⟩)
            case measure => simp [intOf]; omega
        · have hlt' : ¬ (k : Int) < s.size := by omega
          obtain rfl : ts = R := HS.out.last (by omega)
          have v0 := HXV.out wr HB.out
          go_wp2_with fail
          refine (implBpe_c L p c s wr HLl.out (by have := HSl.out; omega) (HRV.out _ HB.out)).mono ?_
          rintro e w6 ⟨vv6, rfl, ho6, b6⟩
          rw [HRR.out] at ho6
          obtain ⟨q6, c6, rfl⟩ := own_sliceV ho6
          have HB6 : Hid (Below W1.heap.size W1 w6) := HB.out.trans (b6.mono HB.out.size)
          have HT6 : Hid (IR w6 (.slice q ts.length cq) ts) := IR.keep HT.out b6 (Nat.le_refl _)
          have HO6 : Hid (IR w6 (.slice q6 ts.length c6) ts) := IO.row ho6
          clear b6 ho6 v0
          go_wp2_with fail
          refine (sameInts_c _ _ ts w6 HRL.out HT6.out HO6.out).mono ?_
          rintro e w7 ⟨rfl, b7⟩
          have HB7 : Hid (Below W1.heap.size W1 w7) := HB6.out.trans (b7.mono HB6.out.size)
          have HT7 : Hid (IR w7 (.slice q ts.length cq) ts) := IR.keep HT6.out b7 (Nat.le_refl _)
          clear b7
          have v0 := HXV.out w7 HB7.out
          go_wp2_with fail
          refine (specBpe_c L p c s w7 HLl.out (by have := HSl.out; omega) (HRV.out _ HB7.out)).mono ?_
          rintro e w8 ⟨vv8, rfl, ho8, b8⟩
          rw [HRR.out] at ho8
          obtain ⟨q8, c8, rfl⟩ := own_sliceV ho8
          have HB8 : Hid (Below W1.heap.size W1 w8) := HB7.out.trans (b8.mono HB7.out.size)
          have HT8 : Hid (IR w8 (.slice q ts.length cq) ts) := IR.keep HT7.out b8 (Nat.le_refl _)
          have HO8 : Hid (IR w8 (.slice q8 ts.length c8) ts) := IO.row ho8
          clear b8 ho8 v0
          go_wp2_with fail
          refine (sameInts_c _ _ ts w8 HRL.out HT8.out HO8.out).mono ?_
          rintro e w9 ⟨rfl, b9⟩
          have HB9 : Hid (Below W1.heap.size W1 w9) := HB8.out.trans (b9.mono HB8.out.size)
          clear b9
          go_wp2
          go_ret
          exact ⟨rfl, HDN.out _ HB9.out⟩

end Go.Proofs.Ytdhbhifgmbppjaa
