/- Bpe of the specification. -/
import Derived.Test.YtdggkcohidijcaaM8Bpe
import Derived.Test.YtdggkcohidijcaaM8Spec
import Derived.Test.YtdggkcohidijcaaM8Place
import Derived.Test.YtdggkcohidijcaaL8Cap
import Derived.Test.YtdggkcohidijcaaVcOk
namespace Go.Proofs.Ytdggkcohidijcaa
open Go.RowKit
set_option linter.unusedVariables false
set_option linter.unusedSimpArgs false

theorem ixB (s : ByteArray) (k : Nat) (h : k < s.size) : ∀ W, (Instr.index 9 (.string s) (.int .i64 (k : Int))).run Try.prog W = .ok (.int .u8 (byteAt s k)) W := fun W => by
  rw [run_index_string (P := Try.prog) W 9 s .i64 (k : Int) Try.underlying9, dif_pos (by omega), byteAt_eq s k h]
  simp

theorem byteAt_rng (s : ByteArray) (k : Nat) : 0 ≤ byteAt s k ∧ byteAt s k ≤ 255 := by
  unfold byteAt
  have := (s.data[k]?.getD 0).toNat_lt
  omega

set_option maxRecDepth 20000 in
set_option maxHeartbeats 4000000 in
theorem l8Bpe_c (L : List S_Pair) (p : Option Addr) (cap : Nat) (s : ByteArray) (w : World) (hn : L.length ≤ 1048576) (hm : s.size ≤ 1048576) (hr : RowR w (.slice p L.length cap) L.length 2 (rPair L)) (h64 : s.size ≤ 64) :
    Calls Try.prog 56 #[.agg #[.slice p L.length cap], .string s] w fun e w' => ∃ v, e = .returned v ∧ IO w' w.heap.size v (bpeL L (bpI s)) ∧ Below w.heap.size w w' := by
  obtain ⟨i0, hi, hz0, hz1, hz2⟩ := info_parts infoInt
  have hn' : (L.length : Int) ≤ 1048576 := by omega
  have hm' : (s.size : Int) ≤ 1048576 := by omega
  have HN : Hid (L.length ≤ 1048576) := hn
  have HR : Hid (RowR w (.slice p L.length cap) L.length 2 (rPair L)) := hr
  obtain ⟨W0, hW0⟩ : ∃ W, W = w.alloc (.cells #[.slice p L.length cap] 26) := ⟨_, rfl⟩
  have HW0 : Hid (w.alloc (.cells #[.slice p L.length cap] 26) = W0) := hW0.symm
  have HZ0 : Hid (W0.heap.size = w.heap.size + 1) := by show _ = _; rw [hW0]; simp
  have HB0 : Hid (Below w.heap.size w W0) := by rw [hW0]; exact (Below.refl _ _).alloc (Nat.le_refl _) _
  have HX : Hid (∀ W', Below W0.heap.size W0 W' → W'.cell? ⟨w.heap.size, 0, none⟩ = some (.slice p L.length cap)) := fun W' hW => by
    have hk : W'.heap[w.heap.size]? = some (.cells #[.slice p L.length cap] 26) := by rw [hW.block _ (by rw [HZ0.out]; exact Nat.lt_succ_self _), hW0]; exact alloc_last _ _
    exact box1 hk
  have d := HX.out W0 (Below.refl _ _)
  have HR0 : Hid (RowR W0 (.slice p L.length cap) L.length 2 (rPair L)) := RowR.keep HR.out HB0.out (Nat.le_refl _)
  have HDN : Hid (∀ W', Below W0.heap.size W0 W' → Below w.heap.size w W') := fun W' hbel => HB0.out.trans (hbel.mono (by rw [HZ0.out]; exact Nat.le_succ _))
  clear hr hW0 hn hm
  go_enter Try.func56, Try.ntmps56
  have HLOW : Hid (w.heap.size ≤ W0.heap.size) := by show _ ≤ _; rw [HZ0.out]; exact Nat.le_succ _
  obtain ⟨W1, hW1⟩ : ∃ W, W = W0.alloc (.cells #[] 3) := ⟨_, rfl⟩
  have HW1 : Hid (W0.alloc (.cells #[] 3) = W1) := hW1.symm
  have HM0 : Hid (W1.ownsRow W0.heap.size 3 1 (.slice (some ⟨w.heap.size + 1, 0, none⟩) 0 0) 0 []) := by
    have h := World.ownsRow_made (base := W0.heap.size) (e := 3) (size := 1) W0 #[] 0 (Nat.le_refl _) (by decide) rfl
    rw [HZ0.out] at h
    rw [hW1, HZ0.out]
    exact h
  have HC0 : Hid (Below W0.heap.size W0 W1) := by rw [hW1]; exact (Below.refl _ _).alloc (Nat.le_refl _) _
  clear hW1
  go_wp2_with fail
  rw [HW0.out, HW1.out]
  clear d
  go_loopw [5, 6] (fun ov iv wr => ∃ k : Nat, k ≤ s.size ∧ iv = .int .i64 (k : Int) ∧ Hid (wr.ownsRow W0.heap.size 3 1 ov ((bpI s).take k).length (rI ((bpI s).take k))) ∧ Hid (Below W0.heap.size W0 wr)) (fun _ iv _ => s.size - (intOf iv).toNat)
  case atStart => exact ⟨0, Nat.zero_le _, rfl, HM0.out, HC0.out⟩
  case round =>
    obtain ⟨k, hk, rfl, HOV, HBr⟩ := hrel
    by_cases hlt : k < s.size
    · have hlt' : (k : Int) < s.size := by omega
      have hix := ixB s k hlt
      have HSN : Hid ((bpI s).take (k + 1) = (bpI s).take k ++ [byteAt s k]) := bpI_take s k hlt
      have HKL : Hid (((bpI s).take k).length ≤ 1000) := by show _ ≤ _; rw [List.length_take, bpI_len]; omega
      have hbr := byteAt_rng s k
      have ew : IntKind.i64.wrap (byteAt s k) = byteAt s k := IntWalk.i64_in _ (by omega)
      generalize (bpI s).take k = P at HSN HKL HOV
      generalize byteAt s k = bb at hix HSN hbr ew
      have hsz1 := HBr.out.size
      have hml : (1048577 : Nat) ≤ maxLen := by unfold maxLen; omega
      have hPl := HKL.out
      have hown4 := HOV.out
      go_wp2_with (at_builtin; refine wpList_append_own _ rfl _ _ 29 rfl W0.heap.size 3 i0 (.int .i64 0) 1 8 Try.underlying29 hi hz0 hz1 hz2 rfl (by decide) _ _ _ rfl (hown4.alloc _) ⟨wr.heap.size, 0, none⟩ 1 1 [.int .i64 bb] rfl rfl (cell_one_new _ _ _) (by intro u hu; simp at hu; subst hu; rfl) (by omega) (by omega) (by simp; omega) ?_)
      intro v' w5 hown5 hgrow _
      have R1 : w5.ownsRow W0.heap.size 3 1 v' (P ++ [bb]).length (rI (P ++ [bb])) := by
        have := hown5
        unfold rI at this ⊢
        simpa using this
      have R2 := below_append HBr.out (Nat.le_refl _) hown4 hgrow
      rw [← HSN.out] at R1
      clear hown5 hgrow hown4 HBr HOV
      go_wp2
      go_roundw
      case rel => first | exact ⟨k + 1, by omega, by go_num, R1, R2⟩ | ((repeat apply Exists.intro); exact ⟨⟨k + 1, by omega, by go_num, R1, R2⟩, rfl⟩)
      case measure => simp [intOf]; omega
    · have hke : k = s.size := by omega
      subst hke
      have HV : Hid (wr.ownsRow W0.heap.size 3 1 u5 (bpI s).length (rI (bpI s))) := by
        have h := HOV.out
        rw [List.take_of_length_le (by rw [bpI_len]; exact Nat.le_refl _)] at h
        exact h
      clear HOV
      obtain ⟨pv, cv, hpv⟩ := own_sliceV HV.out
      have HBL : Hid ((bpI s).length = s.size) := bpI_len s
      have HCV : Hid ((bpI s).length ≤ cv) := by have h := HV.out; rw [hpv] at h; exact ioCap h
      have hpv' : u5 = .slice pv s.size cv := by rw [hpv, bpI_len]
      subst hpv'
      have h64' : (s.size : Int) ≤ 64 := by omega
      go_wp2_with fail
      go_loopw [5, 7] (fun tv iv wq => ∃ (k : Nat) (ts : List Int) (q : Option Addr) (n cq : Nat), k ≤ s.size ∧ iv = .int .i64 (k : Int) ∧ tv = .slice q n cq ∧ n ≤ 64 ∧ Hid (ts.length = n) ∧ Hid (n ≤ cq) ∧ Hid (wq.ownsRow W0.heap.size 3 1 (.slice q n cq) n (rI ts)) ∧ Hid (Below W0.heap.size W0 wq) ∧ Hid (bpeN L (s.size - k) ts = bpeL L (bpI s))) (fun _ iv _ => s.size - (intOf iv).toNat)
      case atStart => exact ⟨0, bpI s, pv, s.size, cv, Nat.zero_le _, rfl, rfl, h64, HBL, by have h1 := HCV.out; have h2 := HBL.out; show _ ≤ _; omega, by have h := HV.out; rw [bpI_len] at h; exact h, HBr, by show bpeN L (s.size - 0) (bpI s) = bpeN L (bpI s).length (bpI s); rw [bpI_len, Nat.sub_zero]⟩
      case round =>
        clear HV HBr HCV
        obtain ⟨k, ts, q, n, cq, hk, rfl, rfl, hn64, HTN, HNC, HO, HBr, HEQ⟩ := hrel
        have hn64' : (n : Int) ≤ 64 := by omega
        by_cases hlt : k < s.size
        rotate_left
        · have hke : k = s.size := by omega
          have HE : Hid (ts = bpeL L (bpI s)) := by have h := HEQ.out; rw [hke, Nat.sub_self] at h; exact h
          have HF : Hid (IO wr w.heap.size (.slice q n cq) (bpeL L (bpI s))) := by
            rw [← HE.out]
            unfold IO
            rw [HTN.out]
            exact own_low HO.out HLOW.out
          have hlt' : ¬ (k : Int) < s.size := by omega
          clear hke
          go_wp2
          go_ret
          exact ⟨_, rfl, HF.out, HDN.out _ HBr.out⟩
        have hlt' : (k : Int) < s.size := by omega
        have d := HX.out wr HBr.out
        have HT : Hid (IR wr (.slice q ts.length cq) ts) := by have h := RowR.own HO.out; show RowR _ _ _ _ _; rw [HTN.out]; exact h
        have HPL := l8Place_c L p cap ts q cq wr HN.out (by have := HTN.out; omega) (RowR.keep HR0.out HBr.out (Nat.le_refl _)) HT.out
        rw [HTN.out] at HPL
        go_wp2_with fail
        refine HPL.mono ?_
        clear HPL
        rintro e w2 ⟨rfl, b2⟩
        have HC2 : Hid (Below W0.heap.size W0 w2) := HBr.out.trans (b2.mono HBr.out.size)
        have HO2 : Hid (w2.ownsRow W0.heap.size 3 1 (.slice q n cq) n (rI ts)) := own_bel HO.out b2 (Nat.le_refl _)
        clear b2 d
        rcases hp : placeF L ts with _ | ⟨i, r⟩
        · have HE : Hid (ts = bpeL L (bpI s)) := by have h := HEQ.out; rw [bpeN_none hp] at h; exact h
          have HF : Hid (IO w2 w.heap.size (.slice q n cq) (bpeL L (bpI s))) := by
            rw [← HE.out]
            unfold IO
            rw [HTN.out]
            exact own_low HO2.out HLOW.out
          rw [show pl1 none = -1 from rfl, show pl2 none = -1 from rfl]
          clear hp
          go_wp2
          go_ret
          exact ⟨_, rfl, HF.out, HDN.out _ HC2.out⟩
        · have hm := matB_lt (place_is hp)
          have HML : Hid (r < L.length ∧ i + 1 < ts.length) := hm
          have HEQ2 : Hid (bpeN L (s.size - (k + 1)) (mgT ts i r) = bpeL L (bpI s)) := by
            have h := HEQ.out
            rw [show s.size - k = (s.size - (k + 1)) + 1 by omega, bpeN_some hp] at h
            exact h
          rw [show pl1 (some (i, r)) = (i : Int) from rfl, show pl2 (some (i, r)) = (r : Int) from rfl]
          have hi0 : ¬ (i : Int) < 0 := by omega
          have HMG := l8Merged_c ts q cq i r w2 (by have := HTN.out; omega) (by have h1 := HTN.out; have h2 := HNC.out; omega) (by have h := RowR.own HO2.out; show RowR _ _ _ _ _; rw [HTN.out]; exact h) hm.2 (by have := hm.1; have := HN.out; omega)
          rw [HTN.out] at HMG
          clear hp hm
          go_wp2_with fail
          refine HMG.mono ?_
          clear HMG
          rintro e w3 ⟨v, rfl, ho, b3⟩
          obtain ⟨q3, c3, rfl⟩ := own_sliceV ho
          have HB3 : Hid (Below W0.heap.size W0 w3) := HC2.out.trans (b3.mono HC2.out.size)
          have HML2 := mgT_len (r := r) HML.out.2
          have HTN3 : Hid ((mgT ts i r).length = (mgT ts i r).length) := rfl
          have HCAP3 : Hid ((mgT ts i r).length ≤ c3) := ioCap ho
          have HO3 : Hid (w3.ownsRow W0.heap.size 3 1 (.slice q3 (mgT ts i r).length c3) (mgT ts i r).length (rI (mgT ts i r))) := own_low ho HC2.out.size
          have hl3 : (mgT ts i r).length ≤ 64 := by have := HTN.out; omega
          clear ho b3 HML2
          generalize mgT ts i r = ts3 at HTN3 HCAP3 HO3 hl3 HEQ2 ⊢
          obtain ⟨n3, hn3⟩ : ∃ n3, ts3.length = n3 := ⟨_, rfl⟩
          rw [hn3] at HCAP3 HO3 hl3 ⊢
          have HTN4 : Hid (ts3.length = n3) := hn3
          clear hn3 HTN3
          go_wp2
          go_roundw
          case rel => exact ⟨k + 1, ts3, q3, n3, c3, by omega, by go_num, rfl, hl3, HTN4, HCAP3, HO3, HB3, HEQ2⟩
          case measure => simp [intOf]; omega

end Go.Proofs.Ytdggkcohidijcaa
