/- How the specification cuts a text. -/
import Derived.Test.YtdggkcohidijcaaC9Next
import Derived.Test.YtdggkcohidijcaaStWalk
namespace Go.Proofs.Ytdggkcohidijcaa
open Go.RowKit
set_option linter.unusedVariables false
set_option linter.unusedSimpArgs false

set_option maxRecDepth 20000 in
set_option maxHeartbeats 4000000 in
theorem specCut_c (s : ByteArray) (w : World) (hm : s.size ≤ maxLen) : Calls Try.prog 21 #[.string s] w fun e w' => ∃ v, e = .returned v ∧ OwnS w' w.heap.size v (cutF s) ∧ Below w.heap.size w w' := by
  obtain ⟨i0, hi, hz0, hz1, hz2⟩ := info_parts infoS
  have hm' := hm
  unfold maxLen at hm'
  go_enter Try.func21, Try.ntmps21
  have HM0 : Hid (OwnS (w.alloc (.cells #[] 9)) w.heap.size (.slice (some ⟨w.heap.size, 0, none⟩) 0 0) []) := World.ownsRow_made w _ 0 (Nat.le_refl _) (by decide) (by simp)
  have HB0 : Hid (Below w.heap.size w (w.alloc (.cells #[] 9))) := (Below.refl _ _).alloc (Nat.le_refl _) _
  by_cases hbig : (1000 : Int) < s.size
  · have HF : Hid (cutF s = []) := by show _ = _; unfold cutF; rw [if_neg (by omega)]
    go_wp2
    go_ret
    exact ⟨_, rfl, by rw [HF.out]; exact HM0.out, HB0.out⟩
  have h1000 : s.size ≤ 1000 := by omega
  have HF : Hid (cutF s = cutA s 0) := by show _ = _; unfold cutF; rw [if_pos h1000]
  go_wp2_with fail
  go_loopw [0, 3] (fun sv ov wr => ∃ (T : ByteArray) (acc : List ByteArray) (k : Nat), sv = .string T ∧ k ≤ s.size ∧ T.size = s.size - k ∧ Hid (s.extract k s.size = T) ∧ acc.length ≤ k ∧ Hid (OwnS wr w.heap.size ov acc) ∧ Hid (Below w.heap.size w wr) ∧ Hid (UpW s k acc)) (fun sv _ _ => match sv with | .string t => t.size | _ => 0)
  case atStart => exact ⟨s, [], 0, rfl, Nat.zero_le _, rfl, by apply ByteArray.ext; simp, Nat.zero_le _, HM0.out, HB0.out, upW_zero s⟩
  case round =>
    obtain ⟨T, acc, k, rfl, hk, hTs, HT, hal, HO, HBr, HU⟩ := hrel
    by_cases hlt : k < s.size
    rotate_left
    · have hke : k = s.size := by omega
      have HR : Hid (OwnS wr w.heap.size u3 (cutF s)) := by
        have h := HU.out
        rw [hke] at h
        have h2 := HO.out
        rw [upW_end h, ← HF.out] at h2
        exact h2
      have hT0 : ¬ (0 : Int) < T.size := by omega
      clear hke HU HO
      go_wp2
      go_ret
      exact ⟨_, rfl, HR.out, HBr.out⟩
    have hT0 : (0 : Int) < T.size := by omega
    have hT1 : 0 < T.size := by omega
    have hTm : T.size ≤ 1000 := by omega
    have hin := neE_in hlt
    have hre := neE_rest s k hlt
    rw [HT.out] at hre
    obtain ⟨n, hn⟩ : ∃ n, neE T 0 = n := ⟨_, rfl⟩
    rw [hn] at hre
    have HNE : Hid (neE T 0 = n) := hn
    obtain ⟨Y, hY⟩ : ∃ Y, T.extract 0 n = Y := ⟨_, rfl⟩
    obtain ⟨U, hU⟩ : ∃ U, T.extract n T.size = U := ⟨_, rfl⟩
    have hnT : n ≤ T.size := by omega
    have hs1 : ∀ W, (Instr.slice 9 (.string T) none (some (.int .i64 (n : Int))) none).run Try.prog W = .ok (.string Y) W := by rw [← hY]; exact sl_hd T n _ rfl hnT
    have hs2 : ∀ W, (Instr.slice 9 (.string T) (some (.int .i64 (n : Int))) none none).run Try.prog W = .ok (.string U) W := by rw [← hU]; exact sl_one T n _ rfl hnT
    have HY : Hid (Y = s.extract k (neE s k)) := by show _ = _; rw [← hY, ← HT.out, ext_head s k n (by omega), hre]
    have HUe : Hid (s.extract (neE s k) s.size = U) := by show _ = _; rw [← hU, ← HT.out, ext_rest s k n (by omega), hre]
    have hUs : U.size = s.size - neE s k := by rw [← HUe.out]; exact size_rest s _ _ (Nat.le_refl _)
    have HU2 : Hid (UpW s (neE s k) (acc ++ [Y])) := by have h := upW_more HU.out hlt; rw [← HY.out] at h; exact h
    obtain ⟨k2, hk2⟩ : ∃ k2, neE s k = k2 := ⟨_, rfl⟩
    rw [hk2] at hin HUe hUs HU2 hre
    clear hn hY hU hk2 HU HY
    go_wp2_with fail
    refine (specNext_c T wr hTm hT1).mono ?_
    rintro e w1 ⟨rfl, b1⟩
    rw [HNE.out]
    have hown1 : OwnS w1 w.heap.size _ acc := OwnS.keep HO.out b1
    unfold OwnS at hown1
    have hbel1 : Below w.heap.size w w1 := HBr.out.trans (b1.mono HBr.out.size)
    have hsz1 := hbel1.size
    have hml : (1048577 : Nat) ≤ maxLen := by unfold maxLen; omega
    clear b1 HO HBr HNE
    go_wp2_with (at_builtin; refine wpList_append_own _ rfl _ _ 38 rfl w.heap.size 9 i0 (.string ⟨#[]⟩) 1 16 Try.underlying38 hi hz0 hz1 hz2 rfl (by decide) _ _ _ rfl (hown1.alloc _) ⟨w1.heap.size, 0, none⟩ 1 1 [.string Y] rfl rfl (cell_one_new _ _ _) (by intro u hu; simp at hu; subst hu; rfl) (by omega) (by omega) (by simp; omega) ?_)
    intro v' w2 hown2 hgrow _
    have R1 := own_snocS hown2
    have R2 := below_append hbel1 (Nat.le_refl _) hown1 hgrow
    have R1' : Hid (OwnS w2 w.heap.size v' (acc ++ [Y])) := R1
    have R2' : Hid (Below w.heap.size w w2) := R2
    clear hown2 hgrow hown1 hbel1 R1 R2
    go_wp2
    go_roundw
    case rel => exact ⟨U, acc ++ [Y], k2, rfl, hin.2.1, hUs, HUe, by simp; omega, R1', R2', HU2⟩
    case measure => simp; omega

end Go.Proofs.Ytdggkcohidijcaa
