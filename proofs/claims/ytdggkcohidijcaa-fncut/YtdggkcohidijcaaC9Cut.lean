/- How the program cuts a text. -/
import Derived.Test.YtdggkcohidijcaaJC
import Derived.Test.YtdggkcohidijcaaFrClone
namespace Go.Proofs.Ytdggkcohidijcaa
open Go.RowKit
set_option linter.unusedVariables false
set_option linter.unusedSimpArgs false

set_option maxRecDepth 20000 in
set_option maxHeartbeats 4000000 in
theorem implCut_c (s : ByteArray) (w : World) (hm : s.size ≤ maxLen) : Calls Try.prog 15 #[.string s] w fun e w' => ∃ v, e = .returned v ∧ OwnS w' w.heap.size v (cutF s) ∧ Below w.heap.size w w' := by
  obtain ⟨i0, hi, hz0, hz1, hz2⟩ := info_parts infoS
  have hm' := hm
  unfold maxLen at hm'
  have HM : Hid (s.size ≤ maxLen) := hm
  clear hm
  go_enter Try.func15, Try.ntmps15
  by_cases hbig : (1000 : Int) < s.size
  · have HF : Hid (cutF s = []) := by show _ = _; unfold cutF; rw [if_neg (by omega)]
    go_wp2
    go_ret
    exact ⟨_, rfl, by rw [HF.out]; exact World.ownsRow_nil _ _ _ _, Below.refl _ _⟩
  have h1000 : s.size ≤ 1000 := by omega
  have HF : Hid (cutF s = cutA s 0) := by show _ = _; unfold cutF; rw [if_pos h1000]
  go_wp2_with fail
  go_loopw [3, 4] (fun ov kv wr => ∃ (acc : List ByteArray) (k : Nat), kv = .int .i64 (k : Int) ∧ k ≤ s.size ∧ acc.length ≤ k ∧ Hid (OwnS wr w.heap.size ov acc) ∧ Hid (Below w.heap.size w wr) ∧ Hid (UpW s k acc)) (fun _ kv _ => s.size - (intOf kv).toNat)
  case atStart => exact ⟨[], 0, rfl, Nat.zero_le _, Nat.zero_le _, World.ownsRow_nil _ _ _ _, Below.refl _ _, upW_zero s⟩
  case round =>
    obtain ⟨acc, k, rfl, hk, hal, HO, HBr, HU⟩ := hrel
    by_cases hlt : k < s.size
    rotate_left
    · have hke : k = s.size := by omega
      have HR : Hid (OwnS wr w.heap.size u3 (cutF s)) := by
        have h := HU.out
        rw [hke] at h
        have h2 := HO.out
        rw [upW_end h, ← HF.out] at h2
        exact h2
      have hT0 : ¬ (k : Int) < s.size := by omega
      clear hke HU HO
      go_wp2
      go_ret
      exact ⟨_, rfl, HR.out, HBr.out⟩
    have hlt' : (k : Int) < s.size := by omega
    have hin := neE_in hlt
    have HWE := wordEnd_c s k wr HM.out hlt
    have HU2 : Hid (UpW s (neE s k) (acc ++ [s.extract k (neE s k)])) := upW_more HU.out hlt
    obtain ⟨k2, hk2⟩ : ∃ k2, neE s k = k2 := ⟨_, rfl⟩
    rw [hk2] at hin HWE HU2
    obtain ⟨Y, hY⟩ : ∃ Y, s.extract k k2 = Y := ⟨_, rfl⟩
    have hsl : ∀ W, (Instr.slice 9 (.string s) (some (.int .i64 (k : Int))) (some (.int .i64 (k2 : Int))) none).run Try.prog W = .ok (.string Y) W := by rw [← hY]; exact sl_mid s k k2 (by omega) hin.2.1
    have HYS : Hid (Y.size ≤ 281474976710656) := by have := size_rest s k k2 hin.2.1; rw [hY] at this; show _ ≤ _; omega
    rw [hY] at HU2
    have HWE' : Hid (Calls Try.prog 46 #[.string s, .int .i64 (k : Int)] wr fun e w' => e = .returned (.int .i64 (k2 : Int)) ∧ w' = wr) := HWE
    clear hk2 HU HWE hY
    go_wp2_with fail
    refine HWE'.out.mono ?_
    rintro e wz ⟨rfl, hw⟩
    replace hw := hw.symm
    subst hw
    go_wp2_with fail
    refine (clone_c Y wr HYS.out).mono ?_
    rintro e w1 ⟨rfl, b1⟩
    have hown1 : OwnS w1 w.heap.size _ acc := OwnS.keep HO.out b1
    unfold OwnS at hown1
    have hbel1 : Below w.heap.size w w1 := HBr.out.trans (b1.mono HBr.out.size)
    have hsz1 := hbel1.size
    have hml : (1048577 : Nat) ≤ maxLen := by unfold maxLen; omega
    clear b1 HO HBr
    go_wp2_with (at_builtin; refine wpList_append_own _ rfl _ _ 38 rfl w.heap.size 9 i0 (.string ⟨#[]⟩) 1 16 Try.underlying38 hi hz0 hz1 hz2 rfl (by decide) _ _ _ rfl (hown1.alloc _) ⟨w1.heap.size, 0, none⟩ 1 1 [.string Y] rfl rfl (cell_one_new _ _ _) (by intro u hu; simp at hu; subst hu; rfl) (by omega) (by omega) (by simp; omega) ?_)
    intro v' w2 hown2 hgrow _
    have R1 := own_snocS hown2
    have R2 := below_append hbel1 (Nat.le_refl _) hown1 hgrow
    have R1' : Hid (OwnS w2 w.heap.size v' (acc ++ [Y])) := R1
    have R2' : Hid (Below w.heap.size w w2) := R2
    clear hown2 hgrow hown1 hbel1 R1 R2
    go_wp2
    go_roundw
    case rel => exact ⟨acc ++ [Y], k2, rfl, hin.2.1, by simp; omega, R1', R2', HU2⟩
    case measure => simp [intOf]; omega

end Go.Proofs.Ytdggkcohidijcaa
