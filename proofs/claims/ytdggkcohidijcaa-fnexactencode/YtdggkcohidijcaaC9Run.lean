/- The specification's run. -/
import Derived.Test.YtdggkcohidijcaaC9Class
import Derived.Test.YtdggkcohidijcaaC9End
namespace Go.Proofs.Ytdggkcohidijcaa
open Go.RowKit
set_option linter.unusedVariables false
set_option linter.unusedSimpArgs false

theorem ext_rest (s : ByteArray) (k n : Nat) (h : k + n ≤ s.size) : (s.extract k s.size).extract n (s.extract k s.size).size = s.extract (k + n) s.size := by
  have hz := size_rest s k s.size (Nat.le_refl _)
  rw [hz]
  apply ByteArray.ext
  simp only [ByteArray.data_extract, Array.extract_extract]
  congr 1
  omega

theorem ext_head (s : ByteArray) (k n : Nat) (h : k + n ≤ s.size) : (s.extract k s.size).extract 0 n = s.extract k (k + n) := by
  apply ByteArray.ext
  simp only [ByteArray.data_extract, Array.extract_extract]
  congr 1
  omega

theorem sl_one (s : ByteArray) (a : Nat) (x : Int) (hx : x = (a : Int)) (h : a ≤ s.size) : ∀ W, (Instr.slice 9 (.string s) (some (.int .i64 x)) none none).run Try.prog W = .ok (.string (s.extract a s.size)) W := fun W => by
  subst hx
  rw [run_slice_string_l (P := Try.prog) W 9 s Try.underlying9 .i64 (a : Int) (by omega) (by omega)]
  rw [Int.toNat_natCast]

theorem sl_hd (s : ByteArray) (b : Nat) (x : Int) (hx : x = (b : Int)) (h : b ≤ s.size) : ∀ W, (Instr.slice 9 (.string s) none (some (.int .i64 x)) none).run Try.prog W = .ok (.string (s.extract 0 b)) W := fun W => by
  subst hx
  rw [run_slice_string_h (P := Try.prog) W 9 s Try.underlying9 .i64 (b : Int) (by omega) (by omega)]
  rw [Int.toNat_natCast]

theorem sl_mid (s : ByteArray) (a b : Nat) (h1 : a ≤ b) (h2 : b ≤ s.size) : ∀ W, (Instr.slice 9 (.string s) (some (.int .i64 (a : Int))) (some (.int .i64 (b : Int))) none).run Try.prog W = .ok (.string (s.extract a b)) W := fun W => by
  rw [run_slice_string (P := Try.prog) W 9 s .i64 .i64 (a : Int) (b : Int) Try.underlying9 (by omega) (by omega) (by omega)]
  rw [Int.toNat_natCast, Int.toNat_natCast]

set_option maxRecDepth 20000 in
set_option maxHeartbeats 4000000 in
theorem specRun_c (s : ByteArray) (w : World) (hm : s.size ≤ maxLen) (h0 : 0 < s.size) : Calls Try.prog 77 #[.string s] w fun e w' => e = .returned (.int .i64 ((rnE s 0 : Nat) : Int)) ∧ Below w.heap.size w w' := by
  have hm' := hm
  unfold maxLen at hm'
  have H0 : Hid (0 < s.size) := h0
  obtain ⟨b0, hb0⟩ : ∃ b0, byteAt s 0 = b0 := ⟨_, rfl⟩
  have HB0 : Hid (cl s 0 = clF b0) := by show clF (byteAt s 0) = _; rw [hb0]
  have hix0 := ixC s 0 h0
  have hbr0 := byteAt_rngC s 0
  have ew0 : IntKind.i64.wrap (byteAt s 0) = byteAt s 0 := IntWalk.i64_in _ (by omega)
  rw [hb0] at hix0 hbr0 ew0
  have hix1 : ∀ W, (Instr.index 9 (.string s) (.int .i64 0)).run Try.prog W = .ok (.int .u8 b0) W := hix0
  clear hb0 hix0
  obtain ⟨c, hc⟩ : ∃ c, clF b0 = c := ⟨_, rfl⟩
  have HC : Hid (cl s 0 = c) := by show _ = _; rw [HB0.out, hc]
  have HCB : Hid (clF b0 = c) := hc
  clear hc hm
  have HCA : ∀ W, Calls Try.prog 19 #[.int .i64 b0] W fun e w' => e = .returned (.int .i64 c) ∧ w' = W := fun W => by rw [← HCB.out]; exact specClass_c b0 W
  have HCA' : Hid (∀ W, Calls Try.prog 19 #[.int .i64 b0] W fun e w' => e = .returned (.int .i64 c) ∧ w' = W) := HCA
  clear HCA
  go_enter Try.func77, Try.ntmps77
  go_wp2
  go_loopw [3] (fun v wr => ∃ k : Nat, v = .int .i64 (k : Int) ∧ k ≤ s.size ∧ Hid (Below w.heap.size w wr) ∧ Hid (∀ j, 0 ≤ j → j < k → cl s j = c)) (fun v _ => s.size - (intOf v).toNat)
  case atStart => exact ⟨0, rfl, Nat.zero_le _, Below.refl _ _, fun j h1 h2 => absurd h2 (by omega)⟩
  case round =>
    obtain ⟨k, rfl, hk, HBr, HA⟩ := hrel
    by_cases hlt : k < s.size
    rotate_left
    · have hlt' : ¬ (k : Int) < s.size := by omega
      have hdl : decide ((k : Int) < (s.size : Int)) = false := decide_eq_false hlt'
      have HF : Hid (k = rnE s 0) := (show RunE s c 0 k from ⟨Nat.zero_le _, hk, HA.out, fun h => absurd h hlt⟩).uniq (by rw [← HC.out]; exact rnE_is s 0 (Nat.zero_le _))
      clear HA
      go_wp2_with fail
      go_quiet (fail)
      go_wp2
      go_ret
      exact ⟨by rw [HF.out]; rfl, bel_drewN HBr.out _⟩
    have hlt' : (k : Int) < s.size := by omega
    have hdl : decide ((k : Int) < (s.size : Int)) = true := decide_eq_true hlt'
    have hix := ixC s k hlt
    have hbr := byteAt_rngC s k
    have ew : IntKind.i64.wrap (byteAt s k) = byteAt s k := IntWalk.i64_in _ (by omega)
    obtain ⟨bb, hbb⟩ : ∃ bb, byteAt s k = bb := ⟨_, rfl⟩
    obtain ⟨d, hd0⟩ : ∃ d, clF bb = d := ⟨_, rfl⟩
    have HD : Hid (cl s k = d) := by show clF (byteAt s k) = _; rw [hbb, hd0]
    rw [hbb] at hix hbr ew
    have HDB : Hid (∀ W, Calls Try.prog 19 #[.int .i64 bb] W fun e w' => e = .returned (.int .i64 d) ∧ w' = W) := fun W => by rw [← hd0]; exact specClass_c bb W
    have HDE : Hid (clF bb = d) := hd0
    clear hbb hd0
    by_cases hd : d = c
    · have HA2 : Hid (∀ j, 0 ≤ j → j < k + 1 → cl s j = c) := fun j h1 h2 => by
        rcases Nat.lt_or_ge j k with h3 | h3
        · exact HA.out j h1 h3
        · rw [show j = k by omega, HD.out]; exact hd
      have qd : (clF bb == clF b0) = true := beq_iff_eq.2 (by rw [HDE.out, HCB.out]; exact hd)
      clear hd HA HD
      go_wp2_with fail
      go_quiet ((go_at_call 19; exact Calls.quiet_of_same (specClass_c _ _)))
      go_wp2
      go_roundw
      case rel => exact ⟨k + 1, by go_num, by omega, bel_drewN HBr.out _, HA2⟩
      case measure => simp [intOf]; omega
    · have qd : (clF bb == clF b0) = false := beq_false_of_ne (by rw [HDE.out, HCB.out]; exact hd)
      have HF : Hid (k = rnE s 0) := (show RunE s c 0 k from ⟨Nat.zero_le _, hk, HA.out, fun h => by rw [HD.out]; exact hd⟩).uniq (by rw [← HC.out]; exact rnE_is s 0 (Nat.zero_le _))
      clear hd HA HD
      go_wp2_with fail
      go_quiet ((go_at_call 19; exact Calls.quiet_of_same (specClass_c _ _)))
      go_wp2
      go_ret
      exact ⟨by rw [HF.out]; rfl, bel_drewN HBr.out _⟩

end Go.Proofs.Ytdggkcohidijcaa
