/- The law FnCut, walked. -/
import Derived.Test.YtdggkcohidijcaaJV
import Derived.Test.YtdggkcohidijcaaC9DrawC
import Derived.Test.YtdggkcohidijcaaJB
import Derived.Test.YtdggkcohidijcaaC9ESpec
namespace Go.Proofs.Ytdggkcohidijcaa
open Go.RowKit
set_option linter.unusedVariables false
set_option linter.unusedSimpArgs false

theorem catB_le : ∀ (l : List ByteArray), (∀ b ∈ l, b.size ≤ 64) → (catB l).size ≤ 64 * l.length
  | [], _ => Nat.le_refl _
  | b :: l, h => by
    have h1 := catB_le l (fun c hc => h c (List.mem_cons_of_mem _ hc))
    have h2 := h b List.mem_cons_self
    rw [catB_cons9, ByteArray.size_append, List.length_cons]
    omega

theorem catB_take (W : List ByteArray) (i : Nat) (h : i < W.length) : catB (W.take (i + 1)) = catB (W.take i) ++ W[i] := by
  rw [take_snoc W i h, catB_snoc]

theorem bpF_bad {L : List S_Pair} {s : ByteArray} (h : ¬ okV L) : bpF L s = [] := if_neg fun g => h g.1

set_option maxRecDepth 20000 in
set_option maxHeartbeats 8000000 in
theorem cut9_law (w : World) (ao : Option Addr) (len cap : Nat) (zs : List Int) (hrow : IsRow w ao len cap zs) :
    Calls Try.prog 4 #[.slice ao len cap] w fun e w' => e = .returned (.bool true) ∧ Below w.heap.size w w' := by
  obtain ⟨i0, hi, hz0, hz1, hz2⟩ := info_parts infoInt
  have HC : Hid (CodeAt w w.heap.size ao len zs) := hrow.code
  have HZ : Hid (∀ j, 0 ≤ zs.getD j 0 ∧ zs.getD j 0 ≤ 255) := hrow.range
  have hlm := hrow.len
  clear hrow
  by_cases hbig : (1048576 : Int) < len
  · go_enter Try.func4, Try.ntmps4
    go_wp2_with fail
    refine (big_c w ao len cap true (decide_eq_true hbig)).mono ?_
    rintro e wz ⟨rfl, hw⟩
    replace hw := hw.symm
    subst hw
    go_wp2
    go_ret
    exact ⟨rfl, Below.refl _ _⟩
  have HL : Hid (len ≤ 1048576) := by show _ ≤ _; omega
  go_enter Try.func4, Try.ntmps4
  go_wp2_with fail
  refine (big_c w ao len cap false (decide_eq_false (by omega))).mono ?_
  rintro e wz ⟨rfl, hw⟩
  replace hw := hw.symm
  subst hw
  clear hbig
  go_wp2_with fail
  refine (drawCut_c w len cap ao zs HC.out HL.out HZ.out).mono ?_
  rintro e w1 ⟨s, rfl, hsl, b1⟩
  have HB1 : Hid (Below w.heap.size w w1) := b1
  have HSM : Hid (s.size ≤ maxLen) := by show _ ≤ _; unfold maxLen; omega
  clear b1
  by_cases hbig : (1000 : Int) < (s.size : Int)
  · go_wp2_with fail
    refine (implCut_c s w1 HSM.out).mono ?_
    rintro e w2 ⟨v2, rfl, ho2, b2⟩
    have e0 : cutF s = [] := by unfold cutF; rw [if_neg (by omega)]
    rw [e0] at ho2
    obtain ⟨p2, c2, rfl⟩ : ∃ p c, v2 = .slice p 0 c := own_sliceV ho2
    have HB2 : Hid (Below w.heap.size w w2) := HB1.out.trans (b2.mono HB1.out.size)
    clear e0 ho2 b2
    go_wp2
    go_ret
    exact ⟨rfl, HB2.out⟩
  have h1000 : s.size ≤ 1000 := by omega
  go_wp2_with fail
  refine (drawCanon_c w1 len cap ao zs (codeBel HC.out HB1.out) HL.out HZ.out).mono ?_
  rintro e w3 ⟨L, p, c, rfl, hLl, hown, b3⟩
  have HN : Hid (L.length ≤ 1048576) := by show _ ≤ _; omega
  obtain ⟨W0, hW0⟩ : ∃ W, W = w3.alloc (.cells #[.slice p L.length c] 26) := ⟨_, rfl⟩
  have HW0 : Hid (w3.alloc (.cells #[.slice p L.length c] 26) = W0) := hW0.symm
  have hb0 : Below w3.heap.size w3 W0 := by rw [hW0]; exact (Below.refl _ _).alloc (Nat.le_refl _) _
  have HX0 : Hid (W0.heap[w3.heap.size]? = some (.cells #[.slice p L.length c] 26)) := by rw [hW0]; exact alloc_last _ _
  have HR0 : Hid (RowR W0 (.slice p L.length c) L.length 2 (rPair L)) := (RowR.own hown).keep hb0 (Nat.le_refl _)
  have HX : Hid (∀ W, Below W0.heap.size W0 W → W.cell? ⟨w3.heap.size, 0, none⟩ = some (.slice p L.length c)) := fun W hb => box1 ((hb.block _ (lt_of_some HX0.out)).trans HX0.out)
  have HB3 : Hid (Below w.heap.size w W0) := (HB1.out.trans (b3.mono HB1.out.size)).trans (hb0.mono (Nat.le_trans HB1.out.size b3.size))
  have HDN : Hid (∀ W, Below W0.heap.size W0 W → Below w.heap.size w W) := fun W hb => HB3.out.trans (hb.mono HB3.out.size)
  clear hLl hown b3 hb0 hW0
  go_wp2_with fail
  rw [HW0.out]
  refine (implCut_c s W0 HSM.out).mono ?_
  rintro e w7 ⟨v2, rfl, ho2, b7⟩
  have HC7 : Hid (Below W0.heap.size W0 w7) := b7
  have HLW : Hid ((cutF s).length ≤ 1000) := cutF_len s
  have HAW : Hid (∀ w ∈ cutF s, 1 ≤ w.size ∧ w.size ≤ 64) := cutF_all s
  have HSW : Hid (∀ w ∈ cutF s, cutF w = [w]) := cutF_self s
  have HEW : Hid (∀ i, (enW L (cutF s) i).length ≤ 1000) := enW_le L s
  have HCW : Hid (catB (cutF s) = s) := cat_cutF h1000
  have HF : Hid (okV L → encF L s = enW L (cutF s) (cutF s).length ∧ enC L s = 0) := fun h => encF_yes h h1000
  unfold OwnS at ho2
  obtain ⟨q2, c2, rfl⟩ := own_sliceV ho2
  obtain ⟨W, hW⟩ : ∃ W, cutF s = W := ⟨_, rfl⟩
  rw [hW] at HF HLW HAW HEW HSW HCW ho2 ⊢
  clear hW b7
  obtain ⟨n, hn⟩ : ∃ n, W.length = n := ⟨_, rfl⟩
  have HNW : Hid (W.length = n) := hn
  rw [hn] at ho2 HLW HF ⊢
  have hn1 : n ≤ 1000 := HLW.out
  clear hn
  have HO2 : Hid (w7.ownsRow W0.heap.size 9 1 (.slice q2 n c2) n (W.map Value.string)) := ho2
  clear ho2
  obtain ⟨W8, hW8⟩ : ∃ W, W = w7.alloc (.cells #[] 3) := ⟨_, rfl⟩
  have HW8 : Hid (w7.alloc (.cells #[] 3) = W8) := hW8.symm
  have HM0 : Hid (W8.ownsRow w7.heap.size 3 1 (.slice (some ⟨w7.heap.size, 0, none⟩) 0 0) 0 []) := by
    rw [hW8]
    exact World.ownsRow_made w7 #[] 0 (Nat.le_refl _) (by decide) rfl
  have HB8 : Hid (Below w7.heap.size w7 W8) := by rw [hW8]; exact (Below.refl _ _).alloc (Nat.le_refl _) _
  clear hW8
  go_wp2_with fail
  rw [HW8.out]
  go_loopw [6, 7, 8] (fun sv tv iv wr => ∃ i : Nat, iv = .int .i64 (i : Int) ∧ i ≤ n ∧ sv = .string (catB (W.take i)) ∧ Hid (wr.ownsRow w7.heap.size 3 1 tv (enW L W i).length (rI (enW L W i))) ∧ Hid (Below w7.heap.size w7 wr)) (fun _ _ iv _ => n - (intOf iv).toNat)
  case atStart => exact ⟨0, rfl, Nat.zero_le _, rfl, HM0.out, HB8.out⟩
  case round =>
    obtain ⟨i, rfl, hin, rfl, HOV, HBr⟩ := hrel
    have HBr0 : Hid (Below W0.heap.size W0 wr) := HC7.out.trans (HBr.out.mono HC7.out.size)
    have d := HX.out wr HBr0.out
    by_cases hlt : i < n
    rotate_left
    · have hie : i = n := by omega
      have hlt' : ¬ (i : Int) < n := by omega
      have hcat : catB (W.take i) = s := by rw [hie, ← HNW.out, List.take_length]; exact HCW.out
      have HV : Hid (IR wr u7 (enW L W n)) := by have h := HOV.out; rw [hie] at h; exact IO.row h
      have HVL : Hid ((enW L W n).length ≤ 1000) := HEW.out n
      rw [hcat]
      clear hie HOV hcat
      go_wp2_with fail
      refine (implEnc_c L p c s wr HN.out (by omega) (RowR.keep HR0.out HBr0.out (Nat.le_refl _))).mono ?_
      rintro e wa ⟨va, rfl, hoa, ba⟩
      have HBa : Hid (Below W0.heap.size W0 wa) := HBr0.out.trans (ba.mono HBr0.out.size)
      have HVa : Hid (IR wa u7 (enW L W n)) := IR.keep HV.out ba (Nat.le_refl _)
      clear d
      have d := HX.out wa HBa.out
      by_cases hok : okV L
      rotate_left
      · rw [(encF_bad hok).2]
        have HK : Hid (¬ okV L) := hok
        clear hok ba hoa
        go_wp2_with fail
        refine (specVok_c L p c wa HN.out (RowR.keep HR0.out HBa.out (Nat.le_refl _))).mono ?_
        rintro e wb ⟨rfl, bb⟩
        rw [decide_eq_false HK.out]
        have HBb : Hid (Below W0.heap.size W0 wb) := HBa.out.trans (bb.mono HBa.out.size)
        clear bb d
        go_wp2
        go_ret
        exact ⟨rfl, HDN.out _ HBb.out⟩
      have HK : Hid (okV L) := hok
      rw [(HF.out hok).2]
      rw [(HF.out hok).1] at hoa
      have HOa : Hid (IR wa va (enW L W n)) := IO.row hoa
      clear hok ba hoa
      go_wp2_with fail
      refine (specVok_c L p c wa HN.out (RowR.keep HR0.out HBa.out (Nat.le_refl _))).mono ?_
      rintro e wb ⟨rfl, bb⟩
      rw [decide_eq_true HK.out]
      have HBb : Hid (Below W0.heap.size W0 wb) := HBa.out.trans (bb.mono HBa.out.size)
      have HVb : Hid (IR wb u7 (enW L W n)) := IR.keep HVa.out bb (Nat.le_refl _)
      have HOb : Hid (IR wb va (enW L W n)) := IR.keep HOa.out bb (Nat.le_refl _)
      clear bb d
      go_wp2_with fail
      refine (sameInts_c va u7 (enW L W n) wb (by have := HVL.out; omega) HOb.out HVb.out).mono ?_
      rintro e wc ⟨rfl, bc⟩
      have HBc : Hid (Below W0.heap.size W0 wc) := HBb.out.trans (bc.mono HBb.out.size)
      clear bc
      go_wp2
      go_ret
      exact ⟨rfl, HDN.out _ HBc.out⟩
    have hlt' : (i : Int) < n := by omega
    have hiW : i < W.length := by have := HNW.out; omega
    obtain ⟨g, rfl, hg, hc⟩ := ownS_cells HO2.out (by omega) HNW.out
    have HY : Hid (1 ≤ W[i].size ∧ W[i].size ≤ 64 ∧ (bpF L W[i]).length ≤ 1000) := ⟨(HAW.out _ (List.getElem_mem hiW)).1, (HAW.out _ (List.getElem_mem hiW)).2, bpF_len L _⟩
    have HC0 : Hid (∀ W', Below w7.heap.size w7 W' → W'.cell? ⟨g, i, none⟩ = some (.string W[i])) := fun W' hb => by rw [hb.cell (by exact hg)]; exact hc i hiW
    have HMO : Hid (enW L W (i + 1) = enW L W i ++ bpF L W[i]) := enW_more L W i hiW
    have HCM : Hid (catB (W.take (i + 1)) = catB (W.take i) ++ W[i]) := catB_take W i hiW
    have HEL : Hid ((enW L W i).length ≤ 1000) := HEW.out i
    have HSY : Hid (cutF W[i] = [W[i]]) := HSW.out _ (List.getElem_mem hiW)
    have HCL : Hid ((catB (W.take i)).size ≤ 64000) := by
      have h1 := catB_le (W.take i) (fun b hb => (HAW.out b (List.mem_of_mem_take hb)).2)
      rw [List.length_take] at h1
      show _ ≤ _
      omega
    clear hc
    generalize W[i] = Y at HC0 HMO HY HCM HSY
    generalize enW L W i = T at HMO HEL HOV
    generalize catB (W.take i) = C at HCM HCL ⊢
    have c0 := HC0.out wr HBr.out
    have hy1 := HY.out.1
    have hy2 := HY.out.2.1
    go_wp2_with fail
    refine (implCut_c Y wr (by have := HY.out.2.1; unfold maxLen; omega)).mono ?_
    rintro e wx ⟨v1, rfl, ho1, bx⟩
    rw [HSY.out] at ho1
    unfold OwnS at ho1
    obtain ⟨q1, c1, rfl⟩ : ∃ q c, v1 = .slice q 1 c := own_sliceV ho1
    obtain ⟨g1, rfl, hg1, hcc⟩ := ownS_cells (W := [Y]) ho1 (by omega) rfl
    have k0 : wx.cell? ⟨g1, 0, none⟩ = some (.string Y) := hcc 0 (Nat.lt_succ_self 0)
    have HBx : Hid (Below w7.heap.size w7 wx) := HBr.out.trans (bx.mono HBr.out.size)
    have HOx : Hid (wx.ownsRow w7.heap.size 3 1 u7 T.length (rI T)) := own_bel HOV.out bx (Nat.le_refl _)
    clear c0 ho1 bx hcc HOV d
    have c0 := HC0.out wx HBx.out
    have y0 : ((Y.size : Int) == 0) = false := beq_false_of_ne (by omega)
    have y64 : decide ((64 : Int) < (Y.size : Int)) = false := decide_eq_false (by omega)
    go_wp2_with fail
    go_quiet (fail)
    have had : ∀ W, (Op.stringOp .add C Y).run Try.prog W = .ok (.string (C ++ Y)) W := fun W => run_string_add_sum W _ _ (by have := HCL.out; omega)
    clear k0 y0 y64 hg1
    go_upto_region 17 with fail
    refine wp_genW (fun W => Hid (Below w7.heap.size w7 W) ∧ Hid (W.ownsRow w7.heap.size 3 1 u7 T.length (rI T))) ⟨bel_drewN HBx.out _, own_bel HOx.out (bel_drewN (Below.refl _ _) _) (Nat.le_refl _)⟩ ?_
    rintro w9 ⟨HB9, HO9⟩
    clear HBx HOx c0 had
    have HC9 : Hid (Below W0.heap.size W0 w9) := HC7.out.trans (HB9.out.mono HC7.out.size)
    have HR9 : Hid (RowR w9.drew (.slice p L.length c) L.length 2 (rPair L)) := RowR.keep HR0.out HC9.out.drew (Nat.le_refl _)
    obtain ⟨vp, vc, rfl⟩ := own_sliceV HO9.out
    refine wp_region_L [⟨6, fun W => ∀ j u, ([.slice p L.length c] : List Value)[j]? = some u → W.cell? ((⟨w3.heap.size, 0, none⟩ : Addr).add j) = some u⟩, ⟨6, fun W => W.cell? ⟨g, i, none⟩ = some (.string Y)⟩] (by kernel_rfl) (fun f hf => by
      simp only [List.mem_cons, List.not_mem_nil, or_false] at hf
      rcases hf with rfl | rfl
      · exact cell1E (HX.out _ HC9.out.drew)
      · exact HC0.out _ HB9.out.drew) ?_
    refine At.take 0 (some 74) (.slice vp T.length vc) rfl rfl (by kernel_rfl) (by kernel_rfl) (by kernel_rfl) (by kernel_rfl) (fun _ _ _ h => h) (yl_pure (by kernel_rfl) (fun _ => by kernel_rfl)) ?_
    refine At.take 1 (some 75) (.agg #[.slice p L.length c]) rfl rfl (by kernel_rfl) (by kernel_rfl) (by kernel_rfl) (by kernel_rfl) (fun _ _ _ h => h) (yl_loads 6 ⟨w3.heap.size, 0, none⟩ [.slice p L.length c] (List.mem_cons_self) [6] (by kernel_rfl) rfl (by kernel_rfl) (fun _ => by kernel_rfl)) ?_
    refine At.take 2 (some 76) (.slice (some ⟨g, 0, none⟩) n c2) rfl rfl (by kernel_rfl) (by kernel_rfl) (by kernel_rfl) (by kernel_rfl) (fun _ _ _ h => h) (yl_pure (by kernel_rfl) (fun _ => by kernel_rfl)) ?_
    refine At.take 3 (some 77) (.int .i64 (i : Int)) rfl rfl (by kernel_rfl) (by kernel_rfl) (by kernel_rfl) (by kernel_rfl) (fun _ _ _ h => h) (yl_pure (by kernel_rfl) (fun _ => by kernel_rfl)) ?_
    refine At.take 4 (some 78) (.pointer (some ⟨g, i, none⟩)) rfl rfl (by kernel_rfl) (by kernel_rfl) (by kernel_rfl) (by kernel_rfl) (fun _ _ _ h => h) (yl_pure (by kernel_rfl) (fun W => by go_simp)) ?_
    refine At.take 5 (some 79) (.string Y) rfl rfl (by kernel_rfl) (by kernel_rfl) (by kernel_rfl) (by kernel_rfl) (fun _ _ _ h => h) (yl_load 6 ⟨g, i, none⟩ (.string Y) (List.mem_cons_of_mem _ (List.mem_cons_self)) [6] (by kernel_rfl) rfl (by kernel_rfl) (fun _ => by kernel_rfl)) ?_
    refine At.step 6 (some 80) rfl rfl (by kernel_rfl) (by kernel_rfl) (fun u W => IO W w9.drew.heap.size u (bpF L Y) ∧ Below w9.drew.heap.size w9.drew W) (gives_call (by kernel_rfl) ((implBpe_c L p c Y w9.drew HN.out (by have := HY.out.2.1; omega) HR9.out).mono fun e w' ⟨v, he, ho, hb⟩ => ⟨_, he, ho, hb⟩)) ?_
    rintro u Z1 ⟨ho, b3⟩
    obtain ⟨pt, ct, rfl⟩ := own_sliceV ho
    have hZ := bel_undrewE b3
    have hB1 : Below w7.heap.size w7 Z1 := HB9.out.trans (hZ.mono HB9.out.size)
    refine ⟨held_cons (.inl (by kernel_rfl)) (held_cons (.inl (by kernel_rfl)) (held_nil)), ?_⟩
    obtain ⟨v', c', W2, hrun, hown, hbl⟩ := app_ints (n := T.length) (m := (bpF L Y).length) rfl rfl (own_bel HO9.out hZ (Nat.le_refl _)) ho.row hB1.size (by have := HEL.out; have := HY.out.2.2; omega)
    refine At.step 7 (some 81) rfl rfl (by kernel_rfl) (by kernel_rfl) (fun u W => u = .slice v' (T.length + (bpF L Y).length) c' ∧ W = W2) (gives_append (fun _ => by kernel_rfl) hrun) ?_
    rintro u W3 ⟨rfl, rfl⟩
    refine ⟨held_cons (.inl (by kernel_rfl)) (held_cons (.inl (by kernel_rfl)) (held_nil)), ?_⟩
    refine At.take 8 (some 7) (.slice v' (T.length + (bpF L Y).length) c') rfl rfl (by kernel_rfl) (by kernel_rfl) (by kernel_rfl) (by kernel_rfl) (fun _ _ _ h => h) (yl_pure (by kernel_rfl) (fun _ => by kernel_rfl)) ?_
    refine At.done (by kernel_rfl) ?_
    simp only [Act.put, List.setIfInBounds_toArray, List.set_cons_zero, List.set_cons_succ]
    have R1 : Hid (W3.ownsRow w7.heap.size 3 1 (.slice v' (T.length + (bpF L Y).length) c') (enW L W (i + 1)).length (rI (enW L W (i + 1)))) := by
      show World.ownsRow _ _ _ _ _ _ _
      rw [HMO.out, List.length_append]
      exact hown
    have R2 : Hid (Below w7.heap.size w7 W3) := hB1.trans hbl
    clear hrun hown hbl ho b3 hZ hB1
    generalize Value.slice v' (T.length + (bpF L Y).length) c' = nv at R1 ⊢
    rw [← HCM.out]
    go_wp2
    go_roundw
    case rel => exact ⟨i + 1, by go_num, by omega, rfl, R1, R2⟩
    case measure => simp [intOf]; omega

end Go.Proofs.Ytdggkcohidijcaa
