/- Canon of the specification. -/
import Derived.Test.YtdhbhifgmbppjaaDoorVkMath
namespace Go.Proofs.YtdhbhifgmbppjaaDoor
open Go.RowKit
set_option linter.unusedVariables false
set_option linter.unusedSimpArgs false

set_option maxRecDepth 20000 in
set_option maxHeartbeats 4000000 in
theorem specCanon_c (L : List S_Pair) (p : Option Addr) (cap : Nat) (w : World) (hn : L.length ≤ 1048576) (hr : RowR w (.slice p L.length cap) L.length 2 (rPair L)) :
    Calls Tryd.prog 30 #[.agg #[.slice p L.length cap]] w fun e w' => e = .returned (.string (canT L)) ∧ Below w.heap.size w w' := by
  have HN : Hid (L.length ≤ 1048576) := hn
  have HR : Hid (RowR w (.slice p L.length cap) L.length 2 (rPair L)) := hr
  obtain ⟨W0, hW0⟩ : ∃ W, W = w.alloc (.cells #[.slice p L.length cap] 26) := ⟨_, rfl⟩
  have HW0 : Hid (w.alloc (.cells #[.slice p L.length cap] 26) = W0) := hW0.symm
  have HZ0 : Hid (W0.heap.size = w.heap.size + 1) := by show _ = _; rw [hW0]; simp
  have HB0 : Hid (Below w.heap.size w W0) := by rw [hW0]; exact (Below.refl _ _).alloc (Nat.le_refl _) _
  have HX : Hid (∀ W', Below W0.heap.size W0 W' → W'.cell? ⟨w.heap.size, 0, none⟩ = some (.slice p L.length cap)) := fun W' hW => by
    have hk : W'.heap[w.heap.size]? = some (.cells #[.slice p L.length cap] 26) := by rw [hW.block _ (by rw [HZ0.out]; exact Nat.lt_succ_self _), hW0]; exact alloc_last _ _
    exact box1 hk
  have d := HX.out W0 (Below.refl _ _)
  have HR0 : Hid (RowR W0 (.slice p L.length cap) L.length 2 (rPair L)) := RowR.keep HR.out HB0.out (Nat.le_refl _)
  clear hn hr hW0
  go_enter Tryd.func30, Tryd.ntmps30
  go_wp2_with fail
  rw [HW0.out]
  refine (specVok_c L p cap W0 HN.out HR0.out).mono ?_
  rintro e w1 ⟨rfl, b1⟩
  have HC1 : Hid (Below W0.heap.size W0 w1) := b1
  have HB1 : Hid (Below w.heap.size w w1) := HB0.out.trans (b1.mono (by rw [HZ0.out]; omega))
  clear b1 d
  by_cases hok : okV L
  rotate_left
  · have HF : Hid (canT L = ⟨#[]⟩) := if_neg hok
    rw [decide_eq_false hok]
    go_wp2
    go_ret
    exact ⟨by rw [HF.out]; rfl, HB1.out⟩
  rw [decide_eq_true hok]
  have HOK : Hid (okV L) := hok
  have HWT : Hid (canT L = canP L L.length) := if_pos hok
  have hn60 : (L.length : Int) ≤ 60 := by have := okV_len hok; omega
  clear hok
  have d := HX.out w1 HC1.out
  have HNZ : Hid (0 ≤ (L.length : Int) ∧ (L.length : Int) ≤ 400) := ⟨by omega, by omega⟩
  have hadd : ∀ W : World, (Op.stringOp .add ⟨#[98, 112, 101]⟩ (vrV L.length)).run Tryd.prog W = .ok (.string (canP L 0)) W := fun W => run_string_add_sum W _ _ (by have a := vrV_size L.length (by omega); have e : (⟨#[98, 112, 101]⟩ : ByteArray).size = 3 := rfl; omega)
  go_wp2_with fail
  refine (svarV L.length w1 HNZ.out.1 HNZ.out.2).mono ?_
  rintro e w2 ⟨rfl, b2⟩
  have HC2 : Hid (Below W0.heap.size W0 w2) := HC1.out.trans (b2.mono HC1.out.size)
  clear b2 d
  go_wp2_with fail
  go_loopw [3, 4] (fun sv iv wr => ∃ k : Nat, k ≤ L.length ∧ iv = .int .i64 (k : Int) ∧ sv = .string (canP L k) ∧ Hid (Below W0.heap.size W0 wr)) (fun _ iv _ => L.length - (intOf iv).toNat)
  case atStart => exact ⟨0, Nat.zero_le _, rfl, rfl, HC2⟩
  case round =>
    obtain ⟨k, hk, rfl, rfl, HBr⟩ := hrel
    have d := HX.out wr HBr.out
    have HB : Hid (Below w.heap.size w wr) := HB0.out.trans (HBr.out.mono (by rw [HZ0.out]; omega))
    clear hadd
    by_cases hlt : k < L.length
    · skip
      have hlt' : (k : Int) < L.length := by omega
      obtain ⟨b, off, cap', hv, hb, hc⟩ := HR.out.some (by omega) (by decide)
      simp only [Value.slice.injEq, true_and] at hv
      obtain ⟨rfl, rfl⟩ := hv
      have c : ∀ q, q < 2 → wr.cell? ⟨b, off + (k * 2 + q), none⟩ = (cPair L[k])[q]? := fun q hq => by
        rw [HB.out.cell (by exact hb), hc (k * 2 + q) (by omega)]
        exact flat_at cPair 2 cPair_len L k q hlt hq
      have c0 : wr.cell? ⟨b, off + k * 2, none⟩ = some (.int .i64 (L[k]).f0) := by have := c 0 (by decide); rw [← Nat.add_assoc] at this; exact this
      have c1 : wr.cell? ⟨b, off + k * 2 + 1, none⟩ = some (.int .i64 (L[k]).f1) := by have := c 1 (by decide); rw [← Nat.add_assoc] at this; exact this
      have HRG : Hid ((0 ≤ L[k].f0 ∧ L[k].f0 ≤ 400) ∧ (0 ≤ L[k].f1 ∧ L[k].f1 ≤ 400)) := okV_range HOK.out k hlt
      have HK1 : Hid (canP L k ++ vrV L[k].f0 ++ vrV L[k].f1 = canP L (k + 1)) := (canP_at L k hlt).symm
      have HPS : Hid ((canP L k).size ≤ 300) := by have := canP_size HOK.out k hk; have := okV_len HOK.out; show _ ≤ _; omega
      clear c hc
      generalize L[k] = X at c0 c1 HRG HK1
      go_upto_region 7 with fail
      refine wp_region_told (fun W => Below wr.heap.size wr W) (by kernel_rfl) (by kernel_rfl) ((Below.refl wr.heap.size wr).drew) ?_
      refine told_pure (some 20) (.string (canP L k)) rfl (by kernel_rfl) (fun _ => by kernel_rfl) ?_
      refine told_pure (some 21) (.pointer (some ⟨w.heap.size, 0, none⟩)) rfl (by kernel_rfl) (fun _ => by kernel_rfl) ?_
      refine told_load (some 22) ⟨w.heap.size, 0, none⟩ (.slice (some ⟨b, off, none⟩) L.length cap) rfl (by kernel_rfl) (fun _ => by kernel_rfl) (fun _ hS => atB hS d) ?_
      refine told_pure (some 23) (.int .i64 (k : Int)) rfl (by kernel_rfl) (fun _ => by kernel_rfl) ?_
      refine told_pure (some 24) (.pointer (some ⟨b, off + k * 2, none⟩)) rfl (by kernel_rfl) (fun w => by go_simp) ?_
      refine told_pure (some 25) (.pointer (some ⟨b, off + k * 2, none⟩)) rfl (by kernel_rfl) (fun _ => by kernel_rfl) ?_
      refine told_load (some 26) ⟨b, off + k * 2, none⟩ (.int .i64 X.f0) rfl (by kernel_rfl) (fun _ => by kernel_rfl) (fun _ hS => atB hS c0) ?_
      refine told_call (some 27) (.string (vrV X.f0)) 47 #[.int .i64 X.f0] rfl (by kernel_rfl) (fun _ => by kernel_rfl) (fun W hS => below_S (svarV X.f0 W HRG.out.1.1 HRG.out.1.2) hS) ?_
      refine told_run (some 28) (.string (canP L k ++ vrV X.f0)) (Op.stringOp .add (canP L k) (vrV X.f0)) rfl (by kernel_rfl) (fun _ => by kernel_rfl) (fun W _ => run_string_add_sum W _ _ (by have a := vrV_size X.f0 (by have := HRG.out; omega); have b := vrV_size X.f1 (by have := HRG.out; omega); have c := HPS.out; omega)) ?_
      refine told_pure (some 29) (.pointer (some ⟨w.heap.size, 0, none⟩)) rfl (by kernel_rfl) (fun _ => by kernel_rfl) ?_
      refine told_load (some 30) ⟨w.heap.size, 0, none⟩ (.slice (some ⟨b, off, none⟩) L.length cap) rfl (by kernel_rfl) (fun _ => by kernel_rfl) (fun _ hS => atB hS d) ?_
      refine told_pure (some 31) (.int .i64 (k : Int)) rfl (by kernel_rfl) (fun _ => by kernel_rfl) ?_
      refine told_pure (some 32) (.pointer (some ⟨b, off + k * 2, none⟩)) rfl (by kernel_rfl) (fun w => by go_simp) ?_
      refine told_pure (some 33) (.pointer (some ⟨b, off + k * 2 + 1, none⟩)) rfl (by kernel_rfl) (fun _ => by kernel_rfl) ?_
      refine told_load (some 34) ⟨b, off + k * 2 + 1, none⟩ (.int .i64 X.f1) rfl (by kernel_rfl) (fun _ => by kernel_rfl) (fun _ hS => atB hS c1) ?_
      refine told_call (some 35) (.string (vrV X.f1)) 47 #[.int .i64 X.f1] rfl (by kernel_rfl) (fun _ => by kernel_rfl) (fun W hS => below_S (svarV X.f1 W HRG.out.2.1 HRG.out.2.2) hS) ?_
      refine told_run (some 36) (.string (canP L k ++ vrV X.f0 ++ vrV X.f1)) (Op.stringOp .add (canP L k ++ vrV X.f0) (vrV X.f1)) rfl (by kernel_rfl) (fun _ => by kernel_rfl) (fun W _ => run_string_add_sum W _ _ (by have a := vrV_size X.f0 (by have := HRG.out; omega); have b := vrV_size X.f1 (by have := HRG.out; omega); have c := HPS.out; rw [ByteArray.size_append]; omega)) ?_
      refine told_pure (some 3) (.string (canP L k ++ vrV X.f0 ++ vrV X.f1)) rfl (by kernel_rfl) (fun _ => by kernel_rfl) ?_
      refine told_nil ?_
      intro w3 hS3
      simp only [Act.put, List.setIfInBounds_toArray, List.set_cons_zero, List.set_cons_succ]
      rw [HK1.out]
      have HB3 : Hid (Below W0.heap.size W0 w3) := HBr.out.trans (Below.mono hS3 HBr.out.size)
      clear hS3 d c0 c1 HK1
      go_wp2
      go_roundw
      case rel => exact ⟨k + 1, by omega, by go_num, rfl, HB3⟩
      case measure => simp [intOf]; omega
    · have hke : k = L.length := by omega
      subst hke
      go_wp2
      go_ret
      exact ⟨by rw [HWT.out]; rfl, HB.out⟩

end Go.Proofs.YtdhbhifgmbppjaaDoor
