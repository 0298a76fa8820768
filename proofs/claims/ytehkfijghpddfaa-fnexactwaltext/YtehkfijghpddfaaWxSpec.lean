/- WalText of the specification. -/
import Derived.Test.YtehkfijghpddfaaWxMath
namespace Go.Proofs.Ytehkfijghpddfaa
open Go.RowKit
set_option linter.unusedVariables false
set_option linter.unusedSimpArgs false

set_option maxRecDepth 20000 in
set_option maxHeartbeats 4000000 in
theorem specWalText_c (x : S_Wal) (p : Option Addr) (cap : Nat) (w : World) (hn : x.f4.length ≤ 1048576) (hs : ∀ y ∈ x.f4, sEntry y) (hr : RowR w (.slice p x.f4.length cap) x.f4.length 2 (rEntry x.f4)) :
    Calls Try.prog 25 #[.agg #[.int .i64 x.f0, .int .i64 x.f1, .int .i64 x.f2, .int .i64 x.f3, .slice p x.f4.length cap]] w fun e w' => e = .returned (.string (walT x)) ∧ Below w.heap.size w w' := by
  obtain ⟨W0, hW0⟩ : ∃ W, W = (w.alloc (.cells #[.int .i64 x.f0, .int .i64 x.f1, .int .i64 x.f2, .int .i64 x.f3, .slice p x.f4.length cap] 26)) := ⟨_, rfl⟩
  have HW0 : Hid ((w.alloc (.cells #[.int .i64 x.f0, .int .i64 x.f1, .int .i64 x.f2, .int .i64 x.f3, .slice p x.f4.length cap] 26)) = W0) := hW0.symm
  have HZ0 : Hid (W0.heap.size = w.heap.size + 1) := by show _ = _; rw [hW0]; simp
  have HB0 : Hid (Below w.heap.size w W0) := by rw [hW0]; exact (Below.refl _ _).alloc (Nat.le_refl _) _
  have HX : Hid (∀ W', Below W0.heap.size W0 W' → W'.cell? ⟨w.heap.size, 0, none⟩ = some (.int .i64 x.f0) ∧ W'.cell? ⟨w.heap.size, 1, none⟩ = some (.int .i64 x.f1) ∧ W'.cell? ⟨w.heap.size, 2, none⟩ = some (.int .i64 x.f2) ∧ W'.cell? ⟨w.heap.size, 3, none⟩ = some (.int .i64 x.f3) ∧ W'.cell? ⟨w.heap.size, 4, none⟩ = some (.slice p x.f4.length cap)) := fun W' hW => by
    have hk : W'.heap[w.heap.size]? = some (.cells #[.int .i64 x.f0, .int .i64 x.f1, .int .i64 x.f2, .int .i64 x.f3, .slice p x.f4.length cap] 26) := by rw [hW.block _ (by rw [HZ0.out]; exact Nat.lt_succ_self _), hW0]; exact alloc_last _ _
    exact box5 hk
  have HS : Hid (∀ y ∈ x.f4, sEntry y) := hs
  have HR : Hid (RowR w (.slice p x.f4.length cap) x.f4.length 2 (rEntry x.f4)) := hr
  have HN : Hid (x.f4.length ≤ 1048576) := hn
  have hn' : (x.f4.length : Int) ≤ 1048576 := by omega
  obtain ⟨d0, d1, d2, d3, d4⟩ := HX.out W0 (Below.refl _ _)
  clear hs hr hW0
  go_enter Try.func25, Try.ntmps25
  go_wp2_with fail
  rw [HW0.out]
  refine (specWalOk_c x p cap W0 HN.out HS.out (RowR.keep HR.out HB0.out (Nat.le_refl _))).mono ?_
  rintro e w1 ⟨rfl, b1⟩
  have HB1 : Hid (Below W0.heap.size W0 w1) := b1
  have HE1 : Hid (Below w.heap.size w w1) := HB0.out.trans (b1.mono (by rw [HZ0.out]; omega))
  clear b1 d0 d1 d2 d3 d4
  by_cases hok : okW x
  rotate_left
  · have HF : Hid (walT x = ⟨#[]⟩) := by show _ = _; unfold walT; rw [if_neg hok]
    rw [decide_eq_false hok]
    go_wp2
    go_ret
    exact ⟨by rw [HF.out]; rfl, HE1.out⟩
  rw [decide_eq_true hok]
  have HOK : Hid (okW x) := hok
  have HWT : Hid (walT x = walP x x.f4.length) := by show _ = _; unfold walT; rw [if_pos hok]
  clear hok
  obtain ⟨d0, d1, d2, d3, d4⟩ := HX.out w1 HB1.out
  go_upto_region 3 with fail
  refine wp_region_told (fun W => Below w1.heap.size w1 W) (by kernel_rfl) (by kernel_rfl) ((Below.refl w1.heap.size w1).drew) ?_
  refine told_pure (some 8) (.pointer (some ⟨w.heap.size, 3, none⟩)) rfl (by kernel_rfl) (fun _ => by kernel_rfl) ?_
  refine told_load (some 9) ⟨w.heap.size, 3, none⟩ (.int .i64 x.f3) rfl (by kernel_rfl) (fun _ => by kernel_rfl) (fun _ hS => atB hS d3) ?_
  refine told_pure (some 10) (.pointer (some ⟨w.heap.size, 2, none⟩)) rfl (by kernel_rfl) (fun _ => by kernel_rfl) ?_
  refine told_load (some 11) ⟨w.heap.size, 2, none⟩ (.int .i64 x.f2) rfl (by kernel_rfl) (fun _ => by kernel_rfl) (fun _ hS => atB hS d2) ?_
  refine told_pure (some 12) (.agg #[.int .i64 4, .int .i64 x.f3, .int .i64 x.f2, .int .i64 0, .string ⟨#[]⟩]) rfl (by kernel_rfl) (fun _ => by kernel_rfl) ?_
  refine told_call (some 13) (.string (recT (bsRec x))) 53 #[.agg #[.int .i64 4, .int .i64 x.f3, .int .i64 x.f2, .int .i64 0, .string ⟨#[]⟩]] rfl (by kernel_rfl) (fun _ => by kernel_rfl) (fun W hS => below_S (specShow_c (bsRec x) W (Nat.zero_le _)) hS) ?_
  refine told_call (some 14) (.string (frR (bsRec x))) 52 #[.string (recT (bsRec x))] rfl (by kernel_rfl) (fun _ => by kernel_rfl) (fun W hS => below_S (sframe_c (bsRec x) W (okR_bs HOK.out)) hS) ?_
  refine told_pure (some 15) (.pointer (some ⟨w.heap.size, 0, none⟩)) rfl (by kernel_rfl) (fun _ => by kernel_rfl) ?_
  refine told_load (some 16) ⟨w.heap.size, 0, none⟩ (.int .i64 x.f0) rfl (by kernel_rfl) (fun _ => by kernel_rfl) (fun _ hS => atB hS d0) ?_
  refine told_pure (some 17) (.pointer (some ⟨w.heap.size, 1, none⟩)) rfl (by kernel_rfl) (fun _ => by kernel_rfl) ?_
  refine told_load (some 18) ⟨w.heap.size, 1, none⟩ (.int .i64 x.f1) rfl (by kernel_rfl) (fun _ => by kernel_rfl) (fun _ hS => atB hS d1) ?_
  refine told_pure (some 19) (.agg #[.int .i64 1, .int .i64 x.f0, .int .i64 0, .int .i64 x.f1, .string ⟨#[]⟩]) rfl (by kernel_rfl) (fun _ => by kernel_rfl) ?_
  refine told_call (some 20) (.string (recT (hdRec x))) 53 #[.agg #[.int .i64 1, .int .i64 x.f0, .int .i64 0, .int .i64 x.f1, .string ⟨#[]⟩]] rfl (by kernel_rfl) (fun _ => by kernel_rfl) (fun W hS => below_S (specShow_c (hdRec x) W (Nat.zero_le _)) hS) ?_
  refine told_call (some 21) (.string (frR (hdRec x))) 52 #[.string (recT (hdRec x))] rfl (by kernel_rfl) (fun _ => by kernel_rfl) (fun W hS => below_S (sframe_c (hdRec x) W (okR_hd HOK.out)) hS) ?_
  refine told_run (some 22) (.string (frR (bsRec x) ++ frR (hdRec x))) (Op.stringOp .add (frR (bsRec x)) (frR (hdRec x))) rfl (by kernel_rfl) (fun _ => by kernel_rfl) (fun W _ => run_string_add_sum W _ _ (by have a := frR_size (okR_bs HOK.out); have b := frR_size (okR_hd HOK.out); omega)) ?_
  refine told_pure (some 3) (.string (frR (bsRec x) ++ frR (hdRec x))) rfl (by kernel_rfl) (fun _ => by kernel_rfl) ?_
  refine told_nil ?_
  intro w2 hS2
  simp only [Act.put, List.setIfInBounds_toArray, List.set_cons_zero, List.set_cons_succ]
  have HK0 : Hid (frR (bsRec x) ++ frR (hdRec x) = walP x 0) := rfl
  have HB2 : Hid (Below W0.heap.size W0 w2) := HB1.out.trans (Below.mono hS2 HB1.out.size)
  clear hS2 d0 d1 d2 d3 d4
  go_wp2_with fail
  go_loopw [3, 4] (fun sv iv wr => ∃ k : Nat, k ≤ x.f4.length ∧ iv = .int .i64 (k : Int) ∧ sv = .string (walP x k) ∧ Hid (Below W0.heap.size W0 wr)) (fun _ iv _ => x.f4.length - (intOf iv).toNat)
  case atStart => exact ⟨0, Nat.zero_le _, rfl, by rw [HK0.out], HB2⟩
  case round =>
    obtain ⟨k, hk, rfl, rfl, HBr⟩ := hrel
    obtain ⟨d0, d1, d2, d3, d4⟩ := HX.out wr HBr.out
    have HB : Hid (Below w.heap.size w wr) := HB0.out.trans (HBr.out.mono (by rw [HZ0.out]; omega))
    by_cases hlt : k < x.f4.length
    · have hlt' : (k : Int) < x.f4.length := by omega
      obtain ⟨b, off, cap', hv, hb, hc⟩ := HR.out.some (by omega) (by decide)
      simp only [Value.slice.injEq, true_and] at hv
      obtain ⟨rfl, rfl⟩ := hv
      have HC : Hid (∀ j, j < x.f4.length * 2 → w.cell? ⟨b, off + j, none⟩ = (rEntry x.f4)[j]?) := hc
      clear hc
      have c : ∀ q, q < 2 → wr.cell? ⟨b, off + (k * 2 + q), none⟩ = (cEntry x.f4[k])[q]? := fun q hq => by
        rw [HB.out.cell (by exact hb), HC.out (k * 2 + q) (by omega)]
        exact flat_at cEntry 2 cEntry_len x.f4 k q hlt hq
      have c0 : wr.cell? ⟨b, off + k * 2, none⟩ = some (.int .i64 (x.f4[k]).f0) := by have := c 0 (by decide); rw [← Nat.add_assoc] at this; exact this
      have c1 : wr.cell? ⟨b, off + k * 2 + 1, none⟩ = some (.string (x.f4[k]).f1) := by have := c 1 (by decide); rw [← Nat.add_assoc] at this; exact this
      clear c
      have HWR : Hid (IntKind.i64.wrap (x.f2 + 1) = x.f2 + 1 ∧ IntKind.i64.wrap (x.f2 + 1 + (k : Int)) = x.f2 + 1 + (k : Int)) := by
        have h2 := okW_base HOK.out
        exact ⟨IntWalk.i64_in _ (by omega), IntWalk.i64_in _ (by omega)⟩
      have HK1 : Hid (walP x k ++ frR ⟨2, x.f4[k].f0, x.f2 + 1 + k, 0, x.f4[k].f1⟩ = walP x (k + 1)) := by show _ = walP x k ++ frR (enRec x k); rw [en_at hlt]
      go_upto_region 7 with fail
      refine wp_region_told (fun W => Below wr.heap.size wr W) (by kernel_rfl) (by kernel_rfl) ((Below.refl wr.heap.size wr).drew) ?_
      refine told_pure (some 30) (.string (walP x k)) rfl (by kernel_rfl) (fun _ => by kernel_rfl) ?_
      refine told_pure (some 31) (.pointer (some ⟨w.heap.size, 4, none⟩)) rfl (by kernel_rfl) (fun _ => by kernel_rfl) ?_
      refine told_load (some 32) ⟨w.heap.size, 4, none⟩ (.slice (some ⟨b, off, none⟩) x.f4.length cap) rfl (by kernel_rfl) (fun _ => by kernel_rfl) (fun _ hS => atB hS d4) ?_
      refine told_pure (some 33) (.int .i64 (k : Int)) rfl (by kernel_rfl) (fun _ => by kernel_rfl) ?_
      refine told_pure (some 34) (.pointer (some ⟨b, off + k * 2, none⟩)) rfl (by kernel_rfl) (fun w => by go_simp) ?_
      refine told_pure (some 35) (.pointer (some ⟨b, off + k * 2, none⟩)) rfl (by kernel_rfl) (fun _ => by kernel_rfl) ?_
      refine told_load (some 36) ⟨b, off + k * 2, none⟩ (.int .i64 x.f4[k].f0) rfl (by kernel_rfl) (fun _ => by kernel_rfl) (fun _ hS => atB hS c0) ?_
      refine told_pure (some 37) (.pointer (some ⟨w.heap.size, 2, none⟩)) rfl (by kernel_rfl) (fun _ => by kernel_rfl) ?_
      refine told_load (some 38) ⟨w.heap.size, 2, none⟩ (.int .i64 x.f2) rfl (by kernel_rfl) (fun _ => by kernel_rfl) (fun _ hS => atB hS d2) ?_
      refine told_is (some 39) (.int .i64 (IntKind.i64.wrap (x.f2 + 1))) (.int .i64 (x.f2 + 1)) (by rw [HWR.out.1]) rfl (by kernel_rfl) (fun _ => by kernel_rfl) ?_
      refine told_pure (some 40) (.int .i64 (k : Int)) rfl (by kernel_rfl) (fun _ => by kernel_rfl) ?_
      refine told_is (some 41) (.int .i64 (IntKind.i64.wrap (x.f2 + 1 + (k : Int)))) (.int .i64 (x.f2 + 1 + (k : Int))) (by rw [HWR.out.2]) rfl (by kernel_rfl) (fun _ => by kernel_rfl) ?_
      refine told_pure (some 42) (.pointer (some ⟨w.heap.size, 4, none⟩)) rfl (by kernel_rfl) (fun _ => by kernel_rfl) ?_
      refine told_load (some 43) ⟨w.heap.size, 4, none⟩ (.slice (some ⟨b, off, none⟩) x.f4.length cap) rfl (by kernel_rfl) (fun _ => by kernel_rfl) (fun _ hS => atB hS d4) ?_
      refine told_pure (some 44) (.int .i64 (k : Int)) rfl (by kernel_rfl) (fun _ => by kernel_rfl) ?_
      refine told_pure (some 45) (.pointer (some ⟨b, off + k * 2, none⟩)) rfl (by kernel_rfl) (fun w => by go_simp) ?_
      refine told_pure (some 46) (.pointer (some ⟨b, off + k * 2 + 1, none⟩)) rfl (by kernel_rfl) (fun _ => by kernel_rfl) ?_
      refine told_load (some 47) ⟨b, off + k * 2 + 1, none⟩ (.string x.f4[k].f1) rfl (by kernel_rfl) (fun _ => by kernel_rfl) (fun _ hS => atB hS c1) ?_
      refine told_pure (some 48) (.agg #[.int .i64 2, .int .i64 x.f4[k].f0, .int .i64 (x.f2 + 1 + (k : Int)), .int .i64 0, .string x.f4[k].f1]) rfl (by kernel_rfl) (fun _ => by kernel_rfl) ?_
      refine told_call (some 49) (.string (recT ⟨2, x.f4[k].f0, x.f2 + 1 + k, 0, x.f4[k].f1⟩)) 53 #[.agg #[.int .i64 2, .int .i64 x.f4[k].f0, .int .i64 (x.f2 + 1 + (k : Int)), .int .i64 0, .string x.f4[k].f1]] rfl (by kernel_rfl) (fun _ => by kernel_rfl) (fun W hS => below_S (specShow_c ⟨2, x.f4[k].f0, x.f2 + 1 + k, 0, x.f4[k].f1⟩ W (by have := okR_data (okR_en HOK.out hlt); omega)) hS) ?_
      refine told_call (some 50) (.string (frR ⟨2, x.f4[k].f0, x.f2 + 1 + k, 0, x.f4[k].f1⟩)) 52 #[.string (recT ⟨2, x.f4[k].f0, x.f2 + 1 + k, 0, x.f4[k].f1⟩)] rfl (by kernel_rfl) (fun _ => by kernel_rfl) (fun W hS => below_S (sframe_c ⟨2, x.f4[k].f0, x.f2 + 1 + k, 0, x.f4[k].f1⟩ W (okR_en HOK.out hlt)) hS) ?_
      refine told_run (some 51) (.string (walP x k ++ frR ⟨2, x.f4[k].f0, x.f2 + 1 + k, 0, x.f4[k].f1⟩)) (Op.stringOp .add (walP x k) (frR ⟨2, x.f4[k].f0, x.f2 + 1 + k, 0, x.f4[k].f1⟩)) rfl (by kernel_rfl) (fun _ => by kernel_rfl) (fun W _ => run_string_add_sum W _ _ (by have a := walP_small HOK.out k hk; have b := frR_size (okR_en HOK.out hlt); omega)) ?_
      refine told_pure (some 3) (.string (walP x k ++ frR ⟨2, x.f4[k].f0, x.f2 + 1 + k, 0, x.f4[k].f1⟩)) rfl (by kernel_rfl) (fun _ => by kernel_rfl) ?_
      refine told_nil ?_
      intro w3 hS3
      simp only [Act.put, List.setIfInBounds_toArray, List.set_cons_zero, List.set_cons_succ]
      rw [HK1.out]
      have HB3 : Hid (Below W0.heap.size W0 w3) := HBr.out.trans (Below.mono hS3 HBr.out.size)
      clear hS3 d0 d1 d2 d3 d4 c0 c1 HK1 HWR HC
      go_wp2
      go_roundw
      case rel => exact ⟨k + 1, by omega, by go_num, rfl, HB3⟩
      case measure => simp [intOf]; omega
    · have hke : k = x.f4.length := by omega
      subst hke
      go_wp2
      go_ret
      exact ⟨by rw [HWT.out]; rfl, HB.out⟩

end Go.Proofs.Ytehkfijghpddfaa
