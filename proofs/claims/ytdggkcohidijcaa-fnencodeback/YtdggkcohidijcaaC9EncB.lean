/- The law FnEncodeBack, walked. -/
import Derived.Test.YtdggkcohidijcaaJV
import Derived.Test.YtdggkcohidijcaaC9Draw
import Derived.Test.YtdggkcohidijcaaJB
import Derived.Test.YtdggkcohidijcaaT8De
import Derived.Test.YtdggkcohidijcaaT8En
namespace Go.Proofs.Ytdggkcohidijcaa
open Go.RowKit
set_option linter.unusedVariables false
set_option linter.unusedSimpArgs false

set_option maxRecDepth 20000 in
set_option maxHeartbeats 8000000 in
theorem encback_law (w : World) (ao : Option Addr) (len cap : Nat) (zs : List Int) (hrow : IsRow w ao len cap zs) :
    Calls Try.prog 3 #[.slice ao len cap] w fun e w' => e = .returned (.bool true) ∧ Below w.heap.size w w' := by
  obtain ⟨i0, hi, hz0, hz1, hz2⟩ := info_parts infoInt
  have HC : Hid (CodeAt w w.heap.size ao len zs) := hrow.code
  have HZ : Hid (∀ j, 0 ≤ zs.getD j 0 ∧ zs.getD j 0 ≤ 255) := hrow.range
  have hlm := hrow.len
  clear hrow
  by_cases hbig : (1048576 : Int) < len
  · go_enter Try.func3, Try.ntmps3
    go_wp2_with fail
    refine (big_c w ao len cap true (decide_eq_true hbig)).mono ?_
    rintro e wz ⟨rfl, hw⟩
    replace hw := hw.symm
    subst hw
    go_wp2
    go_ret
    exact ⟨rfl, Below.refl _ _⟩
  have HL : Hid (len ≤ 1048576) := by show _ ≤ _; omega
  go_enter Try.func3, Try.ntmps3
  go_wp2_with fail
  refine (big_c w ao len cap false (decide_eq_false (by omega))).mono ?_
  rintro e wz ⟨rfl, hw⟩
  replace hw := hw.symm
  subst hw
  clear hbig
  go_wp2_with fail
  refine (drawEnc_c w len cap ao zs HC.out HL.out HZ.out).mono ?_
  rintro e w1 ⟨L, p, c, s, rfl, hLl, hsl, hown, b1⟩
  have HLl : Hid (L.length ≤ 1048576) := by show _ ≤ _; omega
  have HSl : Hid (s.size ≤ 300000) := hsl
  have HB1 : Hid (Below w.heap.size w w1) := b1
  have HO1 : Hid (RowR w1 (.slice p L.length c) L.length 2 (rPair L)) := RowR.own hown
  obtain ⟨W1, hW1⟩ : ∃ W, W = w1.alloc (.cells #[.slice p L.length c] 26) := ⟨_, rfl⟩
  have HW1 : Hid (w1.alloc (.cells #[.slice p L.length c] 26) = W1) := hW1.symm
  have HBW : Hid (Below w1.heap.size w1 W1) := by rw [hW1]; exact (Below.refl _ _).alloc (Nat.le_refl _) _
  have HX1 : Hid (W1.heap[w1.heap.size]? = some (.cells #[.slice p L.length c] 26)) := by rw [hW1]; exact alloc_last _ _
  have HBu : Hid (Below w.heap.size w W1) := HB1.out.trans (HBW.out.mono HB1.out.size)
  have HRV : Hid (∀ W, Below W1.heap.size W1 W → RowR W (.slice p L.length c) L.length 2 (rPair L)) := fun W hb => (HO1.out.keep HBW.out (Nat.le_refl _)).keep hb (Nat.le_refl _)
  have HXV : Hid (∀ W, Below W1.heap.size W1 W → W.cell? ⟨w1.heap.size, 0, none⟩ = some (.slice p L.length c)) := fun W hb => box1 ((hb.block _ (lt_of_some HX1.out)).trans HX1.out)
  have HDN : Hid (∀ W, Below W1.heap.size W1 W → Below w.heap.size w W) := fun W hb => HBu.out.trans (hb.mono HBu.out.size)
  clear hLl hown b1 hW1
  have v0 := HXV.out W1 (Below.refl _ _)
  have hsz := HSl.out
  go_wp2_with fail
  rw [HW1.out]
  refine (implEnc_c L p c s W1 HLl.out (by omega) (HRV.out _ (Below.refl _ _))).mono ?_
  rintro e w2 ⟨vt, rfl, hot, b2⟩
  have HTLE : Hid ((encF L s).length ≤ 1000) := encF_len L s
  obtain ⟨T, hT⟩ : ∃ T, encF L s = T := ⟨_, rfl⟩
  have HTE : Hid (encF L s = T) := hT
  rw [hT] at hot HTLE
  obtain ⟨q, cq, rfl⟩ := own_sliceV hot
  have HB2 : Hid (Below W1.heap.size W1 w2) := b2
  have HI2 : Hid (IR w2 (.slice q T.length cq) T) := IO.row hot
  clear b2 hot hT v0
  have v0 := HXV.out w2 HB2.out
  go_wp2_with fail
  refine (specVok_c L p c w2 HLl.out (HRV.out _ HB2.out)).mono ?_
  rintro e w3 ⟨rfl, b3⟩
  have HB3 : Hid (Below W1.heap.size W1 w3) := HB2.out.trans (b3.mono HB2.out.size)
  have HI3 : Hid (IR w3 (.slice q T.length cq) T) := IR.keep HI2.out b3 (Nat.le_refl _)
  clear b3 v0
  by_cases hok : okV L
  rotate_left
  · obtain ⟨h1, h2⟩ := encF_bad (s := s) hok
    have hT0 : (T.length : Int) = 0 := by rw [← HTE.out, h1]; rfl
    rw [decide_eq_false hok, h2]
    clear hok h1 h2
    go_wp2
    go_ret
    exact ⟨rfl, HDN.out _ HB3.out⟩
  rw [decide_eq_true hok]
  by_cases hbig : (1000 : Int) < (s.size : Int)
  · obtain ⟨h1, h2⟩ := encF_large (s := s) hok (by omega)
    have hT0 : (T.length : Int) = 0 := by rw [← HTE.out, h1]; rfl
    rw [h2]
    clear hok h1 h2
    go_wp2
    go_ret
    exact ⟨rfl, HDN.out _ HB3.out⟩
  have h1000 : s.size ≤ 1000 := by omega
  have HOT := enc_ok hok h1000
  have HC0 := (encF_yes hok h1000).2
  rw [HTE.out] at HOT
  rw [HC0]
  have HOK : Hid (okT L T) := HOT.1
  have HDE : Hid (deB L T = s) := HOT.2
  have HEN := ends_ok HOT.1
  rw [HOT.2] at HEN
  have HNT : Hid (T.length = 0 → s.size = 0) := fun h => by have := no_toks HOK.out h; rw [HDE.out] at this; exact this
  clear hok HOT HC0 HTE
  obtain ⟨R, hR⟩ : ∃ R, enB L T = R := ⟨_, rfl⟩
  have HRE : Hid (enB L T = R) := hR
  rw [hR] at HEN
  have HRI : Hid (Rise R (s.size : Int)) := HEN.1
  have HRL : Hid (R.length = T.length) := HEN.2
  clear HEN hR
  have v0 := HXV.out w3 HB3.out
  go_wp2_with fail
  refine (implDe_c L p c T q cq w3 HLl.out (by have := HTLE.out; omega) (HRV.out _ HB3.out) HI3.out).mono ?_
  rintro e w4 ⟨rfl, b4⟩
  rw [HDE.out, decide_eq_true HOK.out]
  have HB4 : Hid (Below W1.heap.size W1 w4) := HB3.out.trans (b4.mono HB3.out.size)
  have HI4 : Hid (IR w4 (.slice q T.length cq) T) := IR.keep HI3.out b4 (Nat.le_refl _)
  clear b4 v0
  have v0 := HXV.out w4 HB4.out
  go_wp2_with fail
  refine (implEn_c L p c T q cq w4 HLl.out (by have := HTLE.out; omega) (HRV.out _ HB4.out) HI4.out).mono ?_
  rintro e w5 ⟨ve, rfl, hoe, b5⟩
  rw [decide_eq_true HOK.out]
  rw [HRE.out] at hoe
  obtain ⟨qe, ce, rfl⟩ := own_sliceV hoe
  have HB5 : Hid (Below W1.heap.size W1 w5) := HB4.out.trans (b5.mono HB4.out.size)
  have HIE0 : IR w5 (.slice qe R.length ce) R := IO.row hoe
  clear b5 hoe v0
  obtain ⟨n, hn⟩ : ∃ n, T.length = n := ⟨_, rfl⟩
  have HNn : Hid (T.length = n) := hn
  have HRN : Hid (R.length = n) := by show _ = _; rw [HRL.out, hn]
  rw [HRN.out] at HIE0 ⊢
  rw [hn] at HNT HTLE ⊢
  have hn1 : n ≤ 1000 := HTLE.out
  clear hn
  by_cases hn0 : n = 0
  · have hs0 := HNT.out hn0
    have hse : s = ⟨#[]⟩ := ByteArray.ext (Array.eq_empty_of_size_eq_zero hs0)
    have HNN : Hid (n = 0) := hn0
    subst hn0
    subst hse
    clear hs0 hsz hbig h1000
    go_wp2_with fail
    go_loopw [11] (fun iv wr => iv = .int .i64 1 ∧ wr = w5) (fun _ _ => 0)
    case atStart => exact ⟨rfl, rfl⟩
    case round =>
      obtain ⟨rfl, rfl⟩ := hrel
      go_wp2
      go_ret
      exact ⟨rfl, HDN.out _ HB5.out⟩
  have HIE : Hid (∃ b off, qe = some ⟨b, off, none⟩ ∧ b < w5.heap.size ∧ ∀ j (hj : j < R.length), w5.cell? ⟨b, off + j, none⟩ = some (.int .i64 R[j])) := by
    refine IR.cells (cap := ce) ?_ (by rw [HRN.out]; omega)
    rw [HRN.out]
    exact HIE0
  obtain ⟨b, off, rfl, hb, hc⟩ := HIE.out
  have HCc : Hid (∀ j (hj : j < R.length), w5.cell? ⟨b, off + j, none⟩ = some (.int .i64 R[j])) := hc
  clear hc HIE HIE0
  have hnp : (0 : Int) < (n : Int) := by omega
  go_wp2_with fail
  go_loopw [11] (fun iv wr => ∃ i : Nat, iv = .int .i64 (i : Int) ∧ 1 ≤ i ∧ i ≤ n ∧ Hid (Below w5.heap.size w5 wr)) (fun iv _ => n - (intOf iv).toNat)
  case atStart => exact ⟨1, rfl, Nat.le_refl _, by omega, Below.refl _ _⟩
  case round =>
    obtain ⟨i, rfl, hi1, hin, HBr⟩ := hrel
    by_cases hlt : i < n
    · have hlt' : (i : Int) < n := by omega
      have hiR : i < R.length := by have := HRN.out; omega
      obtain ⟨j, hj1, hj2⟩ : ∃ j : Nat, i = j + 1 ∧ j < R.length := ⟨i - 1, by omega, by omega⟩
      have c0 : wr.cell? ⟨b, off + i, none⟩ = some (.int .i64 R[i]) := by rw [HBr.out.cell (by exact hb)]; exact HCc.out i hiR
      have d0 : wr.cell? ⟨b, off + j, none⟩ = some (.int .i64 R[j]) := by rw [HBr.out.cell (by exact hb)]; exact HCc.out j hj2
      have hlo : R[j] < R[i] := HRI.out.1 j _ _ (List.getElem?_eq_getElem hj2) (by rw [← hj1]; exact List.getElem?_eq_getElem hiR)
      have ej : ((i : Int) - 1).toNat = j := by omega
      have ej2 : i - 1 = j := by omega
      have hi1' : (1 : Int) ≤ (i : Int) := by omega
      have hi0 : (0 : Int) ≤ (i : Int) - 1 := by omega
      generalize R[i] = X at c0 hlo
      generalize R[j] = Y at d0 hlo
      clear hj1
      have hle : decide (X ≤ Y) = false := decide_eq_false (by omega)
      go_wp2_with fail
      go_quiet (fail)
      go_wp2
      go_roundw
      case rel => exact ⟨i + 1, by go_num, by omega, by omega, bel_drewN HBr.out _⟩
      case measure => simp [intOf]; omega
    · have hlt' : ¬ (i : Int) < n := by omega
      have hlR : n - 1 < R.length := by have := HRN.out; omega
      have c0 : wr.cell? ⟨b, off + (n - 1), none⟩ = some (.int .i64 (s.size : Int)) := by
        rw [HBr.out.cell (by exact hb)]
        have h1 := HCc.out (n - 1) hlR
        have h2 := HRI.out.2 R[n - 1] (by rw [HRN.out]; exact List.getElem?_eq_getElem hlR)
        rw [h1, h2]
      have hn9 : ¬ (n : Int) = 0 := by omega
      have en0 : ((n : Int) == 0) = false := beq_false_of_ne hn9
      have en1 : ((n : Int) - 1).toNat = n - 1 := by omega
      go_wp2
      go_ret
      exact ⟨rfl, HDN.out _ (HB5.out.trans (HBr.out.mono HB5.out.size))⟩

end Go.Proofs.Ytdggkcohidijcaa
