/- Encode of the specification. -/
import Derived.Test.YtdggkcohidijcaaJT
import Derived.Test.YtdggkcohidijcaaJC
import Derived.Test.YtdggkcohidijcaaJM
import Derived.Test.YtdggkcohidijcaaRgHeld
namespace Go.Proofs.Ytdggkcohidijcaa
open Go.RowKit
set_option linter.unusedVariables false
set_option linter.unusedSimpArgs false

set_option maxRecDepth 20000 in
set_option maxHeartbeats 4000000 in
theorem specEnc_c (L : List S_Pair) (p : Option Addr) (cap : Nat) (s : ByteArray) (w : World) (hn : L.length ≤ 1048576) (hm : s.size ≤ 1048576) (hr : RowR w (.slice p L.length cap) L.length 2 (rPair L)) :
    Calls Try.prog 26 #[.agg #[.slice p L.length cap], .string s] w fun e w' => ∃ v, e = .returned (.tuple #[v, .int .i64 (enC L s)]) ∧ IO w' w.heap.size v (encF L s) ∧ Below w.heap.size w w' := by
  obtain ⟨i0, hi, hz0, hz1, hz2⟩ := info_parts infoInt
  have hn' : (L.length : Int) ≤ 1048576 := by omega
  have hm' : (s.size : Int) ≤ 1048576 := by omega
  have HN : Hid (L.length ≤ 1048576) := hn
  have HM : Hid (s.size ≤ maxLen) := by show _ ≤ _; unfold maxLen; omega
  have HR : Hid (RowR w (.slice p L.length cap) L.length 2 (rPair L)) := hr
  obtain ⟨W0, hW0⟩ : ∃ W, W = w.alloc (.cells #[.slice p L.length cap] 26) := ⟨_, rfl⟩
  have HW0 : Hid (w.alloc (.cells #[.slice p L.length cap] 26) = W0) := hW0.symm
  have HZ0 : Hid (W0.heap.size = w.heap.size + 1) := by show _ = _; rw [hW0]; simp
  have HB0 : Hid (Below w.heap.size w W0) := by rw [hW0]; exact (Below.refl _ _).alloc (Nat.le_refl _) _
  have HX : Hid (∀ W', Below W0.heap.size W0 W' → W'.cell? ⟨w.heap.size, 0, none⟩ = some (.slice p L.length cap)) := fun W' hW => by
    have hk : W'.heap[w.heap.size]? = some (.cells #[.slice p L.length cap] 26) := by rw [hW.block _ (by rw [HZ0.out]; exact Nat.lt_succ_self _), hW0]; exact alloc_last _ _
    exact box1 hk
  have d := HX.out W0 (Below.refl _ _)
  have HR0 : Hid (RowR W0 (.slice p L.length cap) L.length 2 (rPair L)) := RowR.keep HR.out HB0.out (Nat.le_refl _)
  have HDN : Hid (∀ W', Below W0.heap.size W0 W' → Below w.heap.size w W') := fun W' hbel => HB0.out.trans (hbel.mono (by rw [HZ0.out]; exact Nat.le_succ _))
  have HLOW : Hid (w.heap.size ≤ W0.heap.size) := by show _ ≤ _; rw [HZ0.out]; exact Nat.le_succ _
  clear hr hW0 hn hm
  go_enter Try.func26, Try.ntmps26
  obtain ⟨W1, hW1⟩ : ∃ W, W = W0.alloc (.cells #[] 3) := ⟨_, rfl⟩
  have HW1 : Hid (W0.alloc (.cells #[] 3) = W1) := hW1.symm
  have HM0 : Hid (W1.ownsRow W0.heap.size 3 1 (.slice (some ⟨w.heap.size + 1, 0, none⟩) 0 0) 0 []) := by
    have h := World.ownsRow_made (base := W0.heap.size) (e := 3) (size := 1) W0 #[] 0 (Nat.le_refl _) (by decide) rfl
    rw [HZ0.out] at h
    rw [hW1, HZ0.out]
    exact h
  have HC0 : Hid (Below W0.heap.size W0 W1) := by rw [hW1]; exact (Below.refl _ _).alloc (Nat.le_refl _) _
  clear hW1 d
  have d := HX.out W1 HC0.out
  go_wp2_with fail
  rw [HW0.out, HW1.out]
  go_wp2_with fail
  refine (specVok_c L p cap W1 HN.out (RowR.keep HR0.out HC0.out (Nat.le_refl _))).mono ?_
  rintro e w1 ⟨rfl, b1⟩
  have HC1 : Hid (Below W0.heap.size W0 w1) := HC0.out.trans (b1.mono HC0.out.size)
  have HM1 : Hid (w1.ownsRow W0.heap.size 3 1 (.slice (some ⟨w.heap.size + 1, 0, none⟩) 0 0) 0 []) := own_bel HM0.out b1 (Nat.le_refl _)
  clear b1 d
  by_cases hok : okV L
  rotate_left
  · have HF := encF_bad (s := s) hok
    rw [decide_eq_false hok]
    clear hok
    go_wp2
    go_ret2
    exact ⟨_, by rw [HF.2]; rfl, by rw [HF.1]; exact own_low HM1.out HLOW.out, HDN.out _ HC1.out⟩
  have HOK : Hid (okV L) := hok
  rw [decide_eq_true hok]
  by_cases hbig : (1000 : Int) < (s.size : Int)
  · have HF := encF_large (s := s) hok (by omega)
    clear hok
    go_wp2
    go_ret2
    exact ⟨_, by rw [HF.2]; rfl, by rw [HF.1]; exact own_low HM1.out HLOW.out, HDN.out _ HC1.out⟩
  have hs1 : s.size ≤ 1000 := by omega
  have HF : Hid (encF L s = enW L (cutF s) (cutF s).length ∧ enC L s = 0) := encF_yes hok hs1
  clear hok
  go_wp2_with fail
  refine (specCut_c s w1 HM.out).mono ?_
  rintro e w2 ⟨v2, rfl, ho2, b2⟩
  have HC2 : Hid (Below W0.heap.size W0 w2) := HC1.out.trans (b2.mono HC1.out.size)
  have HLW : Hid ((cutF s).length ≤ 1000) := cutF_len s
  have HAW : Hid (∀ w ∈ cutF s, 1 ≤ w.size ∧ w.size ≤ 64) := cutF_all s
  have HEW : Hid (∀ i, (enW L (cutF s) i).length ≤ 1000) := enW_le L s
  unfold OwnS at ho2
  obtain ⟨q2, c2, rfl⟩ := own_sliceV ho2
  have HM2 : Hid (w2.ownsRow W0.heap.size 3 1 (.slice (some ⟨w.heap.size + 1, 0, none⟩) 0 0) 0 []) := own_bel HM1.out b2 (Nat.le_refl _)
  clear b2
  obtain ⟨W, hW⟩ : ∃ W, cutF s = W := ⟨_, rfl⟩
  rw [hW] at HF HLW HAW HEW ho2 ⊢
  clear hW
  obtain ⟨n, hn⟩ : ∃ n, W.length = n := ⟨_, rfl⟩
  have HNW : Hid (W.length = n) := hn
  rw [hn] at ho2 HLW HF ⊢
  have hn1 : n ≤ 1000 := HLW.out
  clear hn
  have HO2 : Hid (w2.ownsRow w1.heap.size 9 1 (.slice q2 n c2) n (W.map Value.string)) := ho2
  clear ho2
  go_wp2_with fail
  go_loopw [6, 8] (fun tv iv wr => ∃ i : Nat, iv = .int .i64 (i : Int) ∧ i ≤ n ∧ Hid (wr.ownsRow W0.heap.size 3 1 tv (enW L W i).length (rI (enW L W i))) ∧ Hid (Below W0.heap.size W0 wr) ∧ Hid (wr.ownsRow w1.heap.size 9 1 (.slice q2 n c2) n (W.map Value.string))) (fun _ iv _ => n - (intOf iv).toNat)
  case atStart => exact ⟨0, rfl, Nat.zero_le _, HM2.out, HC2.out, HO2.out⟩
  case round =>
    obtain ⟨i, rfl, hin, HOV, HBr, HBr2⟩ := hrel
    by_cases hlt : i < n
    rotate_left
    · have hie : i = n := by omega
      have hlt' : ¬ (i : Int) < n := by omega
      have HV : Hid (IO wr w.heap.size u6 (encF L s)) := by
        show IO _ _ _ _
        rw [HF.out.1, ← hie]
        exact own_low HOV.out HLOW.out
      clear hie HOV
      go_wp2
      go_ret2
      exact ⟨_, by rw [HF.out.2]; rfl, HV.out, HDN.out _ HBr.out⟩
    have hlt' : (i : Int) < n := by omega
    have hiW : i < W.length := by have := HNW.out; omega
    obtain ⟨g, rfl, hg, hc⟩ := ownS_cells HBr2.out (by omega) HNW.out
    have HY : Hid (W[i].size ≤ 64 ∧ (bpF L W[i]).length ≤ 1000) := ⟨(HAW.out _ (List.getElem_mem hiW)).2, bpF_len L _⟩
    have c0 : wr.cell? ⟨g, i, none⟩ = some (.string W[i]) := hc i hiW
    have HMO : Hid (enW L W (i + 1) = enW L W i ++ bpF L W[i]) := enW_more L W i hiW
    have HEL : Hid ((enW L W i).length ≤ 1000) := HEW.out i
    clear hc
    generalize W[i] = Y at c0 HMO HY
    generalize enW L W i = T at HMO HEL HOV
    have HRr : Hid (RowR wr (.slice p L.length cap) L.length 2 (rPair L)) := RowR.keep HR0.out HBr.out (Nat.le_refl _)
    have HXr : Hid (∀ W', Below W0.heap.size W0 W' → ∀ j u, ([.slice p L.length cap] : List Value)[j]? = some u → W'.cell? ((⟨w.heap.size, 0, none⟩ : Addr).add j) = some u) := fun W' hb => cell1E (HX.out _ hb)
    have HC0r : Hid (wr.cell? ⟨g, i, none⟩ = some (.string Y)) := c0
    have HOK64 : Hid (bpF L Y = bpeL L (bpI Y)) := if_pos ⟨HOK.out, HY.out.1⟩
    obtain ⟨vp, vc, rfl⟩ := own_sliceV HOV.out
    clear c0
    go_upto_region 10 with fail
    refine wp_region_L [⟨6, fun W => ∀ j u, ([.slice p L.length cap] : List Value)[j]? = some u → W.cell? ((⟨w.heap.size, 0, none⟩ : Addr).add j) = some u⟩, ⟨6, fun W => W.cell? ⟨g, i, none⟩ = some (.string Y)⟩] (by kernel_rfl) (fun f hf => by
      simp only [List.mem_cons, List.not_mem_nil, or_false] at hf
      rcases hf with rfl | rfl
      · exact HXr.out _ HBr.out.drew
      · exact HC0r.out) ?_
    refine At.take 0 (some 26) (.slice vp T.length vc) rfl rfl (by kernel_rfl) (by kernel_rfl) (by kernel_rfl) (by kernel_rfl) (fun _ _ _ h => h) (yl_pure (by kernel_rfl) (fun _ => by kernel_rfl)) ?_
    refine At.take 1 (some 27) (.agg #[.slice p L.length cap]) rfl rfl (by kernel_rfl) (by kernel_rfl) (by kernel_rfl) (by kernel_rfl) (fun _ _ _ h => h) (yl_loads 6 ⟨w.heap.size, 0, none⟩ [.slice p L.length cap] (List.mem_cons_self) [6] (by kernel_rfl) rfl (by kernel_rfl) (fun _ => by kernel_rfl)) ?_
    refine At.take 2 (some 28) (.slice (some ⟨g, 0, none⟩) n c2) rfl rfl (by kernel_rfl) (by kernel_rfl) (by kernel_rfl) (by kernel_rfl) (fun _ _ _ h => h) (yl_pure (by kernel_rfl) (fun _ => by kernel_rfl)) ?_
    refine At.take 3 (some 29) (.int .i64 (i : Int)) rfl rfl (by kernel_rfl) (by kernel_rfl) (by kernel_rfl) (by kernel_rfl) (fun _ _ _ h => h) (yl_pure (by kernel_rfl) (fun _ => by kernel_rfl)) ?_
    refine At.take 4 (some 30) (.pointer (some ⟨g, i, none⟩)) rfl rfl (by kernel_rfl) (by kernel_rfl) (by kernel_rfl) (by kernel_rfl) (fun _ _ _ h => h) (yl_pure (by kernel_rfl) (fun W => by go_simp)) ?_
    refine At.take 5 (some 31) (.string Y) rfl rfl (by kernel_rfl) (by kernel_rfl) (by kernel_rfl) (by kernel_rfl) (fun _ _ _ h => h) (yl_load 6 ⟨g, i, none⟩ (.string Y) (List.mem_cons_of_mem _ (List.mem_cons_self)) [6] (by kernel_rfl) rfl (by kernel_rfl) (fun _ => by kernel_rfl)) ?_
    refine At.step 6 (some 32) rfl rfl (by kernel_rfl) (by kernel_rfl) (fun u W => IO W wr.drew.heap.size u (bpF L Y) ∧ Below wr.drew.heap.size wr.drew W) (gives_call (by kernel_rfl) ((l8Bpe_c L p cap Y wr.drew HN.out (by have := HY.out.1; omega) (RowR.keep HRr.out (Below.refl _ _).drew (Nat.le_refl _)) HY.out.1).mono fun e w' ⟨v, he, ho, hb⟩ => ⟨_, he, by rw [HOK64.out]; exact ho, hb⟩)) ?_
    rintro u Z1 ⟨ho, b3⟩
    obtain ⟨pt, ct, rfl⟩ := own_sliceV ho
    have hZ := bel_undrewE b3
    have hB1 : Below W0.heap.size W0 Z1 := HBr.out.trans (hZ.mono HBr.out.size)
    have hB2 : Z1.ownsRow w1.heap.size 9 1 (.slice (some ⟨g, 0, none⟩) n c2) n (W.map Value.string) := own_bel HBr2.out hZ (Nat.le_refl _)
    refine ⟨held_cons (.inl (by kernel_rfl)) (held_cons (.inl (by kernel_rfl)) (held_nil)), ?_⟩
    have hTo : Z1.ownsRow W0.heap.size 3 1 (.slice vp T.length vc) T.length (rI T) := own_bel HOV.out hZ (Nat.le_refl _)
    obtain ⟨v', c', W2, hrun, hown, hbl, hgr⟩ := app_intsG (n := T.length) (m := (bpF L Y).length) rfl rfl hTo ho.row hB1.size (by have := HEL.out; have := HY.out.2; omega)
    refine At.step 7 (some 33) rfl rfl (by kernel_rfl) (by kernel_rfl) (fun u W => u = .slice v' (T.length + (bpF L Y).length) c' ∧ W = W2) (gives_append (fun _ => by kernel_rfl) hrun) ?_
    rintro u W3 ⟨rfl, rfl⟩
    refine ⟨held_cons (.inl (by kernel_rfl)) (held_cons (.inl (by kernel_rfl)) (held_nil)), ?_⟩
    refine At.take 8 (some 6) (.slice v' (T.length + (bpF L Y).length) c') rfl rfl (by kernel_rfl) (by kernel_rfl) (by kernel_rfl) (by kernel_rfl) (fun _ _ _ h => h) (yl_pure (by kernel_rfl) (fun _ => by kernel_rfl)) ?_
    refine At.done (by kernel_rfl) ?_
    simp only [Act.put, List.setIfInBounds_toArray, List.set_cons_zero, List.set_cons_succ]
    have R1 : Hid (W3.ownsRow W0.heap.size 3 1 (.slice v' (T.length + (bpF L Y).length) c') (enW L W (i + 1)).length (rI (enW L W (i + 1)))) := by
      show World.ownsRow _ _ _ _ _ _ _
      rw [HMO.out, List.length_append]
      exact hown
    have R2 : Hid (Below W0.heap.size W0 W3) := hB1.trans hbl
    have R3 : Hid (W3.ownsRow w1.heap.size 9 1 (.slice (some ⟨g, 0, none⟩) n c2) n (W.map Value.string)) := hB2.kept hgr (rows_apartE hB2 hTo (by decide))
    clear hrun hown hbl ho b3 hZ hB1 hB2 hgr hTo
    generalize Value.slice v' (T.length + (bpF L Y).length) c' = nv at R1 ⊢
    go_wp2
    go_roundw
    case rel => exact ⟨i + 1, by go_num, by omega, R1, R2, R3⟩
    case measure => simp [intOf]; omega

end Go.Proofs.Ytdggkcohidijcaa
