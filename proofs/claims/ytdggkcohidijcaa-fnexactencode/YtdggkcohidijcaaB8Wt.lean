/- A word's bytes as tokens. -/
import Derived.Test.YtdggkcohidijcaaB8Spec
namespace Go.Proofs.Ytdggkcohidijcaa
open Go.RowKit
set_option linter.unusedVariables false
set_option linter.unusedSimpArgs false

set_option maxRecDepth 20000 in
set_option maxHeartbeats 4000000 in
theorem wordToks_c (s : ByteArray) (w : World) (h64 : s.size ≤ 64) :
    Calls Try.prog 48 #[.string s] w fun e w' => ∃ v, e = .returned v ∧ IO w' w.heap.size v (bpI s) ∧ Below w.heap.size w w' := by
  obtain ⟨i0, hi, hz0, hz1, hz2⟩ := info_parts infoInt
  have hm' : (s.size : Int) ≤ 64 := by omega
  go_enter Try.func48, Try.ntmps48
  go_wp2_with fail
  go_loopw [3, 7] (fun ov iv wr => ∃ k : Nat, k ≤ s.size ∧ iv = .int .i64 (k : Int) ∧ Hid (wr.ownsRow w.heap.size 3 1 ov ((bpI s).take k).length (rI ((bpI s).take k))) ∧ Hid (Below w.heap.size w wr)) (fun _ iv _ => s.size - (intOf iv).toNat)
  case atStart => exact ⟨0, Nat.zero_le _, rfl, World.ownsRow_nil _ _ _ _, Below.refl _ _⟩
  case round =>
    obtain ⟨k, hk, rfl, HOV, HBr⟩ := hrel
    by_cases hlt : k < s.size
    · have hlt' : (k : Int) < s.size := by omega
      have hix := ixB s k hlt
      have HSN : Hid ((bpI s).take (k + 1) = (bpI s).take k ++ [byteAt s k]) := bpI_take s k hlt
      have HKL : Hid (((bpI s).take k).length ≤ 1000) := by show _ ≤ _; rw [List.length_take, bpI_len]; omega
      have hbr := byteAt_rng s k
      have ew : IntKind.i64.wrap (byteAt s k) = byteAt s k := IntWalk.i64_in _ (by omega)
      generalize (bpI s).take k = P at HSN HKL HOV
      generalize byteAt s k = bb at hix HSN hbr ew
      have hsz1 := HBr.out.size
      have hml : (1048577 : Nat) ≤ maxLen := by unfold maxLen; omega
      have hPl := HKL.out
      have hown4 := HOV.out
      go_wp2_with (at_builtin; refine wpList_append_own _ rfl _ _ 29 rfl w.heap.size 3 i0 (.int .i64 0) 1 8 Try.underlying29 hi hz0 hz1 hz2 rfl (by decide) _ _ _ rfl (hown4.alloc _) ⟨wr.heap.size, 0, none⟩ 1 1 [.int .i64 bb] rfl rfl (cell_one_new _ _ _) (by intro u hu; simp at hu; subst hu; rfl) (by omega) (by omega) (by simp; omega) ?_)
      intro v' w5 hown5 hgrow _
      have R1 : w5.ownsRow w.heap.size 3 1 v' (P ++ [bb]).length (rI (P ++ [bb])) := by
        have := hown5
        unfold rI at this ⊢
        simpa using this
      have R2 := below_append HBr.out (Nat.le_refl _) hown4 hgrow
      rw [← HSN.out] at R1
      clear hown5 hgrow hown4 HBr HOV
      go_wp2
      go_roundw
      case rel => first | exact ⟨k + 1, by omega, by go_num, R1, R2⟩ | ((repeat apply Exists.intro); exact ⟨⟨k + 1, by omega, by go_num, R1, R2⟩, rfl⟩)
      case measure => simp [intOf]; omega
    · have hke : k = s.size := by omega
      subst hke
      have HV : Hid (wr.ownsRow w.heap.size 3 1 u3 (bpI s).length (rI (bpI s))) := by
        have h := HOV.out
        rw [List.take_of_length_le (by rw [bpI_len]; exact Nat.le_refl _)] at h
        exact h
      clear HOV
      go_wp2
      go_ret
      exact ⟨_, rfl, HV.out, HBr.out⟩

end Go.Proofs.Ytdggkcohidijcaa
