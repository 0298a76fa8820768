/- Where a word ends: the program's scan. -/
import Derived.Test.YtdggkcohidijcaaC9Class
import Derived.ScopeJumps
import Derived.WalkMore
namespace Go.Proofs.Ytdggkcohidijcaa
open Go.RowKit
set_option linter.unusedVariables false
set_option linter.unusedSimpArgs false

theorem ixC (s : ByteArray) (k : Nat) (h : k < s.size) : ∀ W, (Instr.index 9 (.string s) (.int .i64 (k : Int))).run Try.prog W = .ok (.int .u8 (byteAt s k)) W := fun W => by
  rw [run_index_string (P := Try.prog) W 9 s .i64 (k : Int) Try.underlying9, dif_pos (by omega), byteAt_eq s k h]
  simp

theorem byteAt_rngC (s : ByteArray) (k : Nat) : 0 ≤ byteAt s k ∧ byteAt s k ≤ 255 := by
  have := byteAt_range s k
  omega

theorem scan_lt {s : ByteArray} {a n : Nat} (h : a < s.size) (hs : ScanE s (cl s a) a a n) : a < n := by
  have e := hs.is (rnE_is s a (by omega))
  have := rnE_lt s a h
  have : 3 ≤ lim9 (cl s a) := by unfold lim9; split <;> omega
  omega

set_option maxRecDepth 20000 in
set_option maxHeartbeats 4000000 in
theorem implDrb_c (s : ByteArray) (k : Nat) (w : World) (hm : s.size ≤ maxLen) (hk : k ≤ s.size) : Calls Try.prog 71 #[.string s, .int .i64 (k : Int)] w fun e w' => e = .returned (.bool (decide (k < s.size ∧ (cl s k = 1 ∨ cl s k = 4)))) ∧ w' = w := by
  have hm' := hm
  unfold maxLen at hm'
  by_cases hlt : k < s.size
  rotate_left
  · obtain rfl : k = s.size := by omega
    have HF : Hid (decide (s.size < s.size ∧ (cl s s.size = 1 ∨ cl s s.size = 4)) = false) := decide_eq_false (fun h => by omega)
    go_enter Try.func71, Try.ntmps71
    go_wp2
    go_ret
    exact ⟨by rw [HF.out]; rfl, rfl⟩
  have hne : ((k : Int) == (s.size : Int)) = false := beq_false_of_ne (by omega)
  have hix := ixC s k hlt
  have hbr := byteAt_rngC s k
  have ew : IntKind.i64.wrap (byteAt s k) = byteAt s k := IntWalk.i64_in _ (by omega)
  have HL : Hid (k < s.size) := hlt
  have HD : Hid (cl s k = clF (byteAt s k)) := rfl
  have HR := cl_rng s k
  rw [HD.out] at HR ⊢
  generalize byteAt s k = bb at hix hbr ew HD HR ⊢
  clear HD hlt
  go_enter Try.func71, Try.ntmps71
  go_wp2_with fail
  refine (implClass_c bb w).mono ?_
  rintro e wz ⟨rfl, hw⟩
  replace hw := hw.symm
  subst hw
  rcases HR with h | h | h | h
  · have HF : Hid (decide (k < s.size ∧ (clF bb = 1 ∨ clF bb = 4)) = true) := by exact decide_eq_true ⟨HL.out, .inl h⟩
    rw [h]
    clear h
    go_wp2
    go_ret
    exact ⟨by rw [HF.out]; rfl, rfl⟩
  · have HF : Hid (decide (k < s.size ∧ (clF bb = 1 ∨ clF bb = 4)) = false) := by refine decide_eq_false (fun h2 => ?_); rw [h] at h2; omega
    rw [h]
    clear h
    go_wp2
    go_ret
    exact ⟨by rw [HF.out]; rfl, rfl⟩
  · have HF : Hid (decide (k < s.size ∧ (clF bb = 1 ∨ clF bb = 4)) = false) := by refine decide_eq_false (fun h2 => ?_); rw [h] at h2; omega
    rw [h]
    clear h
    go_wp2
    go_ret
    exact ⟨by rw [HF.out]; rfl, rfl⟩
  · have HF : Hid (decide (k < s.size ∧ (clF bb = 1 ∨ clF bb = 4)) = true) := by exact decide_eq_true ⟨HL.out, .inr h⟩
    rw [h]
    clear h
    go_wp2
    go_ret
    exact ⟨by rw [HF.out]; rfl, rfl⟩

theorem lim9_ge (c : Int) : 1 ≤ lim9 c := by unfold lim9; split <;> omega

set_option maxRecDepth 20000 in
set_option maxHeartbeats 4000000 in
theorem wordEnd_c (s : ByteArray) (a : Nat) (w : World) (hm : s.size ≤ maxLen) (ha : a < s.size) : Calls Try.prog 46 #[.string s, .int .i64 (a : Int)] w fun e w' => e = .returned (.int .i64 ((neE s a : Nat) : Int)) ∧ w' = w := by
  have hm' := hm
  unfold maxLen at hm'
  have HM : Hid (s.size ≤ maxLen) := hm
  have HA0 : Hid (a < s.size) := ha
  clear hm
  go_enter Try.func46, Try.ntmps46
  go_wp2
  refine wp_scope_jumps 0 (fun a' w' => w' = w ∧ ∃ b : Nat, Hid (b = a + 1 ∧ Draws s a ∧ rnE s a = a + 1) ∧ ∃ (x2 x3 x4 x6 x7 x8 x9 x10 x11 x12 x13 x14 x15 x16 x17 x18 x19 x20 x21 x22 x23 x24 x25 x26 x27 x28 x29 x30 x31 x32 x33 x34 x35 x36 x37 x38 x39 x40 x41 x42 x43 x44 x45 x46 x47 x48 x49 x50 x51 x52 x53 x54 x55 x56 x57 x58 x59 x60 x61 : Value), a' = { tmps := #[.string s, .int .i64 (a : Int), x2, x3, x4, .int .i64 (b : Int), x6, x7, x8, x9, x10, x11, x12, x13, x14, x15, x16, x17, x18, x19, x20, x21, x22, x23, x24, x25, x26, x27, x28, x29, x30, x31, x32, x33, x34, x35, x36, x37, x38, x39, x40, x41, x42, x43, x44, x45, x46, x47, x48, x49, x50, x51, x52, x53, x54, x55, x56, x57, x58, x59, x60, x61], defers := [] }) (fun _ _ => 0) rfl ?_ ?_
  · go_wp2
    go_step3
    have hix0 := ixC s a (by omega)
    have hbr0 := byteAt_rngC s a
    have ew0 : IntKind.i64.wrap (byteAt s a) = byteAt s a := IntWalk.i64_in _ (by omega)
    obtain ⟨c0, hc0⟩ : ∃ c0, byteAt s a = c0 := ⟨_, rfl⟩
    have HC0 : Hid (cl s a = clF c0) := by show cl s a = _; rw [← hc0]; rfl
    rw [hc0] at hix0 hbr0 ew0
    clear hc0
    go_wp2_with fail
    refine (implClass_c c0 w).mono ?_
    rintro e wz ⟨rfl, hw⟩
    replace hw := hw.symm
    subst hw
    obtain ⟨c, hc⟩ : ∃ c, clF c0 = c := ⟨_, rfl⟩
    have HC : Hid (cl s a = c) := by show _ = _; rw [HC0.out, hc]
    rw [hc]
    clear hc HC0 hix0 ew0
    go_wp2
    go_step3
    go_wp2
    go_loop [5] (fun v => ∃ k : Nat, v = .int .i64 (k : Int) ∧ a ≤ k ∧ k ≤ s.size ∧ Hid (k ≤ a + lim9 c) ∧ Hid (∀ j, a ≤ j → j < k → cl s j = c)) (fun v => s.size - (intOf v).toNat)
    case atStart => exact ⟨a, rfl, Nat.le_refl _, by omega, by have := lim9_ge c; show _ ≤ _; omega, fun j h1 h2 => absurd h2 (by omega)⟩
    case round =>
      obtain ⟨k, rfl, hk1, hk2, HL, HAL⟩ := hrel
      by_cases hlt : k < s.size
      rotate_left
      · have hlt' : ¬ (k : Int) < s.size := by omega
        have HS : Hid (ScanE s c a a k) := ⟨hk1, hk2, HL.out, HAL.out, .inl (by omega)⟩
        clear HL HAL
        have hkl : a < k := scan_lt HA0.out (by rw [HC.out]; exact HS.out)
        have hks : k ≤ s.size := HS.out.sz
        have HS2 : Hid (ScanE s (cl s a) a a k) := by show ScanE _ _ _ _ _; rw [HC.out]; exact HS.out
        have hix2 : ∀ W, (Instr.index 9 (.string s) (.int .i64 ((k : Int) - 1))).run Try.prog W = .ok (.int .u8 (byteAt s (k - 1))) W := by
          have := ixC s (k - 1) (by omega)
          rw [show (((k - 1 : Nat)) : Int) = (k : Int) - 1 by omega] at this
          exact this
        have hb2 := byteAt_rngC s (k - 1)
        have HBB : Hid (byteAt s (k - 1) = byteAt s (k - 1)) := rfl
        obtain ⟨b2, hb2e⟩ : ∃ b2, byteAt s (k - 1) = b2 := ⟨_, rfl⟩
        have HB2 : Hid (byteAt s (k - 1) = b2) := hb2e
        rw [hb2e] at hix2 hb2
        clear HBB hb2e
        by_cases h3 : c = 3
        rotate_left
        · have q3 : (c == (3 : Int)) = false := beq_false_of_ne h3
          have HF : Hid (k = neE s a) := scan_word HA0.out HS2.out (fun h => h3 (by rw [← HC.out]; exact h.1))
          clear hix2 h3
          go_wp2
          try simp only [Exit.jump]
          go_ret
          exact ⟨by rw [HF.out]; rfl, rfl⟩
        have q3 : (c == (3 : Int)) = true := beq_iff_eq.2 h3
        by_cases h32 : b2 = 32
        rotate_left
        · have q32 : (b2 == (32 : Int)) = false := beq_false_of_ne h32
          have HF : Hid (k = neE s a) := scan_word HA0.out HS2.out (fun h => h32 (by rw [← HB2.out]; exact h.2.1))
          clear h3 h32
          go_wp2
          try simp only [Exit.jump]
          go_ret
          exact ⟨by rw [HF.out]; rfl, rfl⟩
        have q32 : (b2 == (32 : Int)) = true := beq_iff_eq.2 h32
        by_cases hdr : k < s.size ∧ (cl s k = 1 ∨ cl s k = 4)
        rotate_left
        · have HF : Hid (k = neE s a) := scan_word HA0.out HS2.out (fun h => hdr h.2.2)
          have HDD : Hid (decide (k < s.size ∧ (cl s k = 1 ∨ cl s k = 4)) = false) := decide_eq_false hdr
          clear h3 h32 hdr
          go_wp2_with fail
          refine (implDrb_c s k w HM.out hks).mono ?_
          rintro e wz ⟨rfl, hw⟩
          replace hw := hw.symm
          subst hw
          rw [HDD.out]
          go_wp2
          try simp only [Exit.jump]
          go_ret
          exact ⟨by rw [HF.out]; rfl, rfl⟩
        have HDD : Hid (decide (k < s.size ∧ (cl s k = 1 ∨ cl s k = 4)) = true) := decide_eq_true hdr
        have HDR : Hid (k = rnE s a ∧ Draws s a ∧ k ≤ a + 64) := scan_draws HA0.out HS2.out (by rw [HC.out]; exact h3) (by rw [HB2.out]; exact h32) hdr.1 hdr.2
        clear h3 h32 hdr
        by_cases h1 : k = a + 1
        · have q1 : ((k : Int) - (a : Int) == 1) = true := beq_iff_eq.2 (by omega)
          have HJ : Hid (k = a + 1 ∧ Draws s a ∧ rnE s a = a + 1) := ⟨h1, HDR.out.2.1, by rw [← HDR.out.1]; exact h1⟩
          clear h1
          go_wp2_with fail
          refine (implDrb_c s k w HM.out hks).mono ?_
          rintro e wz ⟨rfl, hw⟩
          replace hw := hw.symm
          subst hw
          rw [HDD.out]
          go_wp2
          go_step3
          exact ⟨rfl, rfl, k, HJ, _, _, _, _, _, _, _, _, _, _, _, _, _, _, _, _, _, _, _, _, _, _, _, _, _, _, _, _, _, _, _, _, _, _, _, _, _, _, _, _, _, _, _, _, _, _, _, _, _, _, _, _, _, _, _, _, _, _, _, rfl⟩
        have q1 : ((k : Int) - (a : Int) == 1) = false := beq_false_of_ne (by omega)
        have HF : Hid (((k : Int) - 1) = ((neE s a : Nat) : Int)) := by
          have h5 := scan_back HDR.out.2.1 (by rw [← HDR.out.1]; exact h1) (by rw [← HDR.out.1]; exact HDR.out.2.2)
          have h6 := HDR.out.1
          show _ = _
          omega
        clear h1
        go_wp2_with fail
        refine (implDrb_c s k w HM.out hks).mono ?_
        rintro e wz ⟨rfl, hw⟩
        replace hw := hw.symm
        subst hw
        rw [HDD.out]
        go_wp2
        try simp only [Exit.jump]
        go_ret
        exact ⟨by rw [← HF.out]; rfl, rfl⟩
      have hlt' : (k : Int) < s.size := by omega
      have hix := ixC s k hlt
      have hbr := byteAt_rngC s k
      have ew : IntKind.i64.wrap (byteAt s k) = byteAt s k := IntWalk.i64_in _ (by omega)
      have HD : Hid (cl s k = clF (byteAt s k)) := rfl
      obtain ⟨bb, hbb⟩ : ∃ bb, byteAt s k = bb := ⟨_, rfl⟩
      rw [hbb] at hix hbr ew HD
      clear hbb
      go_wp2_with fail
      refine (implClass_c bb w).mono ?_
      rintro e wz ⟨rfl, hw⟩
      replace hw := hw.symm
      subst hw
      obtain ⟨d, hd0⟩ : ∃ d, clF bb = d := ⟨_, rfl⟩
      rw [hd0] at HD ⊢
      clear hd0
      by_cases hd : d = c
      rotate_left
      · have qd : (d == c) = false := beq_false_of_ne hd
        have HS : Hid (ScanE s c a a k) := ⟨hk1, hk2, HL.out, HAL.out, .inr (.inl (by rw [HD.out]; exact hd))⟩
        clear HL HAL hd HD hix ew
        have hkl : a < k := scan_lt HA0.out (by rw [HC.out]; exact HS.out)
        have hks : k ≤ s.size := HS.out.sz
        have HS2 : Hid (ScanE s (cl s a) a a k) := by show ScanE _ _ _ _ _; rw [HC.out]; exact HS.out
        have hix2 : ∀ W, (Instr.index 9 (.string s) (.int .i64 ((k : Int) - 1))).run Try.prog W = .ok (.int .u8 (byteAt s (k - 1))) W := by
          have := ixC s (k - 1) (by omega)
          rw [show (((k - 1 : Nat)) : Int) = (k : Int) - 1 by omega] at this
          exact this
        have hb2 := byteAt_rngC s (k - 1)
        have HBB : Hid (byteAt s (k - 1) = byteAt s (k - 1)) := rfl
        obtain ⟨b2, hb2e⟩ : ∃ b2, byteAt s (k - 1) = b2 := ⟨_, rfl⟩
        have HB2 : Hid (byteAt s (k - 1) = b2) := hb2e
        rw [hb2e] at hix2 hb2
        clear HBB hb2e
        by_cases h3 : c = 3
        rotate_left
        · have q3 : (c == (3 : Int)) = false := beq_false_of_ne h3
          have HF : Hid (k = neE s a) := scan_word HA0.out HS2.out (fun h => h3 (by rw [← HC.out]; exact h.1))
          clear hix2 h3
          go_wp2
          try simp only [Exit.jump]
          go_ret
          exact ⟨by rw [HF.out]; rfl, rfl⟩
        have q3 : (c == (3 : Int)) = true := beq_iff_eq.2 h3
        by_cases h32 : b2 = 32
        rotate_left
        · have q32 : (b2 == (32 : Int)) = false := beq_false_of_ne h32
          have HF : Hid (k = neE s a) := scan_word HA0.out HS2.out (fun h => h32 (by rw [← HB2.out]; exact h.2.1))
          clear h3 h32
          go_wp2
          try simp only [Exit.jump]
          go_ret
          exact ⟨by rw [HF.out]; rfl, rfl⟩
        have q32 : (b2 == (32 : Int)) = true := beq_iff_eq.2 h32
        by_cases hdr : k < s.size ∧ (cl s k = 1 ∨ cl s k = 4)
        rotate_left
        · have HF : Hid (k = neE s a) := scan_word HA0.out HS2.out (fun h => hdr h.2.2)
          have HDD : Hid (decide (k < s.size ∧ (cl s k = 1 ∨ cl s k = 4)) = false) := decide_eq_false hdr
          clear h3 h32 hdr
          go_wp2_with fail
          refine (implDrb_c s k w HM.out hks).mono ?_
          rintro e wz ⟨rfl, hw⟩
          replace hw := hw.symm
          subst hw
          rw [HDD.out]
          go_wp2
          try simp only [Exit.jump]
          go_ret
          exact ⟨by rw [HF.out]; rfl, rfl⟩
        have HDD : Hid (decide (k < s.size ∧ (cl s k = 1 ∨ cl s k = 4)) = true) := decide_eq_true hdr
        have HDR : Hid (k = rnE s a ∧ Draws s a ∧ k ≤ a + 64) := scan_draws HA0.out HS2.out (by rw [HC.out]; exact h3) (by rw [HB2.out]; exact h32) hdr.1 hdr.2
        clear h3 h32 hdr
        by_cases h1 : k = a + 1
        · have q1 : ((k : Int) - (a : Int) == 1) = true := beq_iff_eq.2 (by omega)
          have HJ : Hid (k = a + 1 ∧ Draws s a ∧ rnE s a = a + 1) := ⟨h1, HDR.out.2.1, by rw [← HDR.out.1]; exact h1⟩
          clear h1
          go_wp2_with fail
          refine (implDrb_c s k w HM.out hks).mono ?_
          rintro e wz ⟨rfl, hw⟩
          replace hw := hw.symm
          subst hw
          rw [HDD.out]
          go_wp2
          go_step3
          exact ⟨rfl, rfl, k, HJ, _, _, _, _, _, _, _, _, _, _, _, _, _, _, _, _, _, _, _, _, _, _, _, _, _, _, _, _, _, _, _, _, _, _, _, _, _, _, _, _, _, _, _, _, _, _, _, _, _, _, _, _, _, _, _, _, _, _, _, rfl⟩
        have q1 : ((k : Int) - (a : Int) == 1) = false := beq_false_of_ne (by omega)
        have HF : Hid (((k : Int) - 1) = ((neE s a : Nat) : Int)) := by
          have h5 := scan_back HDR.out.2.1 (by rw [← HDR.out.1]; exact h1) (by rw [← HDR.out.1]; exact HDR.out.2.2)
          have h6 := HDR.out.1
          show _ = _
          omega
        clear h1
        go_wp2_with fail
        refine (implDrb_c s k w HM.out hks).mono ?_
        rintro e wz ⟨rfl, hw⟩
        replace hw := hw.symm
        subst hw
        rw [HDD.out]
        go_wp2
        try simp only [Exit.jump]
        go_ret
        exact ⟨by rw [← HF.out]; rfl, rfl⟩
      rw [hd] at HD ⊢
      clear hd
      have HA2 : Hid (∀ j, a ≤ j → j < k + 1 → cl s j = c) := fun j h1 h2 => by
        rcases Nat.lt_or_ge j k with h3 | h3
        · exact HAL.out j h1 h3
        · rw [show j = k by omega]; exact HD.out
      clear HD hix ew
      by_cases h2 : c = 2
      · have q2 : (c == (2 : Int)) = true := beq_iff_eq.2 h2
        have hl3 : k ≤ a + 3 := by have h := HL.out; unfold lim9 at h; rw [if_pos h2] at h; exact h
        by_cases h33 : k = a + 3
        · have q33 : ((k : Int) - (a : Int) == 3) = true := beq_iff_eq.2 (by omega)
          have HS : Hid (ScanE s c a a k) := ⟨hk1, hk2, HL.out, HAL.out, .inr (.inr (by unfold lim9; rw [if_pos h2]; exact h33))⟩
          clear HL HAL h2 h33 HA2
          have hkl : a < k := scan_lt HA0.out (by rw [HC.out]; exact HS.out)
          have hks : k ≤ s.size := HS.out.sz
          have HS2 : Hid (ScanE s (cl s a) a a k) := by show ScanE _ _ _ _ _; rw [HC.out]; exact HS.out
          have hix2 : ∀ W, (Instr.index 9 (.string s) (.int .i64 ((k : Int) - 1))).run Try.prog W = .ok (.int .u8 (byteAt s (k - 1))) W := by
            have := ixC s (k - 1) (by omega)
            rw [show (((k - 1 : Nat)) : Int) = (k : Int) - 1 by omega] at this
            exact this
          have hb2 := byteAt_rngC s (k - 1)
          have HBB : Hid (byteAt s (k - 1) = byteAt s (k - 1)) := rfl
          obtain ⟨b2, hb2e⟩ : ∃ b2, byteAt s (k - 1) = b2 := ⟨_, rfl⟩
          have HB2 : Hid (byteAt s (k - 1) = b2) := hb2e
          rw [hb2e] at hix2 hb2
          clear HBB hb2e
          by_cases h3 : c = 3
          rotate_left
          · have q3 : (c == (3 : Int)) = false := beq_false_of_ne h3
            have HF : Hid (k = neE s a) := scan_word HA0.out HS2.out (fun h => h3 (by rw [← HC.out]; exact h.1))
            clear hix2 h3
            go_wp2
            try simp only [Exit.jump]
            go_ret
            exact ⟨by rw [HF.out]; rfl, rfl⟩
          have q3 : (c == (3 : Int)) = true := beq_iff_eq.2 h3
          by_cases h32 : b2 = 32
          rotate_left
          · have q32 : (b2 == (32 : Int)) = false := beq_false_of_ne h32
            have HF : Hid (k = neE s a) := scan_word HA0.out HS2.out (fun h => h32 (by rw [← HB2.out]; exact h.2.1))
            clear h3 h32
            go_wp2
            try simp only [Exit.jump]
            go_ret
            exact ⟨by rw [HF.out]; rfl, rfl⟩
          have q32 : (b2 == (32 : Int)) = true := beq_iff_eq.2 h32
          by_cases hdr : k < s.size ∧ (cl s k = 1 ∨ cl s k = 4)
          rotate_left
          · have HF : Hid (k = neE s a) := scan_word HA0.out HS2.out (fun h => hdr h.2.2)
            have HDD : Hid (decide (k < s.size ∧ (cl s k = 1 ∨ cl s k = 4)) = false) := decide_eq_false hdr
            clear h3 h32 hdr
            go_wp2_with fail
            refine (implDrb_c s k w HM.out hks).mono ?_
            rintro e wz ⟨rfl, hw⟩
            replace hw := hw.symm
            subst hw
            rw [HDD.out]
            go_wp2
            try simp only [Exit.jump]
            go_ret
            exact ⟨by rw [HF.out]; rfl, rfl⟩
          have HDD : Hid (decide (k < s.size ∧ (cl s k = 1 ∨ cl s k = 4)) = true) := decide_eq_true hdr
          have HDR : Hid (k = rnE s a ∧ Draws s a ∧ k ≤ a + 64) := scan_draws HA0.out HS2.out (by rw [HC.out]; exact h3) (by rw [HB2.out]; exact h32) hdr.1 hdr.2
          clear h3 h32 hdr
          by_cases h1 : k = a + 1
          · have q1 : ((k : Int) - (a : Int) == 1) = true := beq_iff_eq.2 (by omega)
            have HJ : Hid (k = a + 1 ∧ Draws s a ∧ rnE s a = a + 1) := ⟨h1, HDR.out.2.1, by rw [← HDR.out.1]; exact h1⟩
            clear h1
            go_wp2_with fail
            refine (implDrb_c s k w HM.out hks).mono ?_
            rintro e wz ⟨rfl, hw⟩
            replace hw := hw.symm
            subst hw
            rw [HDD.out]
            go_wp2
            go_step3
            exact ⟨rfl, rfl, k, HJ, _, _, _, _, _, _, _, _, _, _, _, _, _, _, _, _, _, _, _, _, _, _, _, _, _, _, _, _, _, _, _, _, _, _, _, _, _, _, _, _, _, _, _, _, _, _, _, _, _, _, _, _, _, _, _, _, _, _, _, rfl⟩
          have q1 : ((k : Int) - (a : Int) == 1) = false := beq_false_of_ne (by omega)
          have HF : Hid (((k : Int) - 1) = ((neE s a : Nat) : Int)) := by
            have h5 := scan_back HDR.out.2.1 (by rw [← HDR.out.1]; exact h1) (by rw [← HDR.out.1]; exact HDR.out.2.2)
            have h6 := HDR.out.1
            show _ = _
            omega
          clear h1
          go_wp2_with fail
          refine (implDrb_c s k w HM.out hks).mono ?_
          rintro e wz ⟨rfl, hw⟩
          replace hw := hw.symm
          subst hw
          rw [HDD.out]
          go_wp2
          try simp only [Exit.jump]
          go_ret
          exact ⟨by rw [← HF.out]; rfl, rfl⟩
        have q33 : ((k : Int) - (a : Int) == 3) = false := beq_false_of_ne (by omega)
        have q64 : ((k : Int) - (a : Int) == 64) = false := beq_false_of_ne (by omega)
        have HL2 : Hid (k + 1 ≤ a + lim9 c) := by show _ ≤ _; unfold lim9; rw [if_pos h2]; omega
        clear HL HAL h2 h33
        go_wp2
        go_round
        case rel => exact ⟨k + 1, by go_num, by omega, by omega, HL2, HA2⟩
        case measure => simp [intOf]; omega
      · have q2 : (c == (2 : Int)) = false := beq_false_of_ne h2
        have hl64 : k ≤ a + 64 := by have h := HL.out; unfold lim9 at h; rw [if_neg h2] at h; exact h
        by_cases h64 : k = a + 64
        · have q64 : ((k : Int) - (a : Int) == 64) = true := beq_iff_eq.2 (by omega)
          have HS : Hid (ScanE s c a a k) := ⟨hk1, hk2, HL.out, HAL.out, .inr (.inr (by unfold lim9; rw [if_neg h2]; exact h64))⟩
          clear HL HAL h2 h64 HA2
          have hkl : a < k := scan_lt HA0.out (by rw [HC.out]; exact HS.out)
          have hks : k ≤ s.size := HS.out.sz
          have HS2 : Hid (ScanE s (cl s a) a a k) := by show ScanE _ _ _ _ _; rw [HC.out]; exact HS.out
          have hix2 : ∀ W, (Instr.index 9 (.string s) (.int .i64 ((k : Int) - 1))).run Try.prog W = .ok (.int .u8 (byteAt s (k - 1))) W := by
            have := ixC s (k - 1) (by omega)
            rw [show (((k - 1 : Nat)) : Int) = (k : Int) - 1 by omega] at this
            exact this
          have hb2 := byteAt_rngC s (k - 1)
          have HBB : Hid (byteAt s (k - 1) = byteAt s (k - 1)) := rfl
          obtain ⟨b2, hb2e⟩ : ∃ b2, byteAt s (k - 1) = b2 := ⟨_, rfl⟩
          have HB2 : Hid (byteAt s (k - 1) = b2) := hb2e
          rw [hb2e] at hix2 hb2
          clear HBB hb2e
          by_cases h3 : c = 3
          rotate_left
          · have q3 : (c == (3 : Int)) = false := beq_false_of_ne h3
            have HF : Hid (k = neE s a) := scan_word HA0.out HS2.out (fun h => h3 (by rw [← HC.out]; exact h.1))
            clear hix2 h3
            go_wp2
            try simp only [Exit.jump]
            go_ret
            exact ⟨by rw [HF.out]; rfl, rfl⟩
          have q3 : (c == (3 : Int)) = true := beq_iff_eq.2 h3
          by_cases h32 : b2 = 32
          rotate_left
          · have q32 : (b2 == (32 : Int)) = false := beq_false_of_ne h32
            have HF : Hid (k = neE s a) := scan_word HA0.out HS2.out (fun h => h32 (by rw [← HB2.out]; exact h.2.1))
            clear h3 h32
            go_wp2
            try simp only [Exit.jump]
            go_ret
            exact ⟨by rw [HF.out]; rfl, rfl⟩
          have q32 : (b2 == (32 : Int)) = true := beq_iff_eq.2 h32
          by_cases hdr : k < s.size ∧ (cl s k = 1 ∨ cl s k = 4)
          rotate_left
          · have HF : Hid (k = neE s a) := scan_word HA0.out HS2.out (fun h => hdr h.2.2)
            have HDD : Hid (decide (k < s.size ∧ (cl s k = 1 ∨ cl s k = 4)) = false) := decide_eq_false hdr
            clear h3 h32 hdr
            go_wp2_with fail
            refine (implDrb_c s k w HM.out hks).mono ?_
            rintro e wz ⟨rfl, hw⟩
            replace hw := hw.symm
            subst hw
            rw [HDD.out]
            go_wp2
            try simp only [Exit.jump]
            go_ret
            exact ⟨by rw [HF.out]; rfl, rfl⟩
          have HDD : Hid (decide (k < s.size ∧ (cl s k = 1 ∨ cl s k = 4)) = true) := decide_eq_true hdr
          have HDR : Hid (k = rnE s a ∧ Draws s a ∧ k ≤ a + 64) := scan_draws HA0.out HS2.out (by rw [HC.out]; exact h3) (by rw [HB2.out]; exact h32) hdr.1 hdr.2
          clear h3 h32 hdr
          by_cases h1 : k = a + 1
          · have q1 : ((k : Int) - (a : Int) == 1) = true := beq_iff_eq.2 (by omega)
            have HJ : Hid (k = a + 1 ∧ Draws s a ∧ rnE s a = a + 1) := ⟨h1, HDR.out.2.1, by rw [← HDR.out.1]; exact h1⟩
            clear h1
            go_wp2_with fail
            refine (implDrb_c s k w HM.out hks).mono ?_
            rintro e wz ⟨rfl, hw⟩
            replace hw := hw.symm
            subst hw
            rw [HDD.out]
            go_wp2
            go_step3
            exact ⟨rfl, rfl, k, HJ, _, _, _, _, _, _, _, _, _, _, _, _, _, _, _, _, _, _, _, _, _, _, _, _, _, _, _, _, _, _, _, _, _, _, _, _, _, _, _, _, _, _, _, _, _, _, _, _, _, _, _, _, _, _, _, _, _, _, _, rfl⟩
          have q1 : ((k : Int) - (a : Int) == 1) = false := beq_false_of_ne (by omega)
          have HF : Hid (((k : Int) - 1) = ((neE s a : Nat) : Int)) := by
            have h5 := scan_back HDR.out.2.1 (by rw [← HDR.out.1]; exact h1) (by rw [← HDR.out.1]; exact HDR.out.2.2)
            have h6 := HDR.out.1
            show _ = _
            omega
          clear h1
          go_wp2_with fail
          refine (implDrb_c s k w HM.out hks).mono ?_
          rintro e wz ⟨rfl, hw⟩
          replace hw := hw.symm
          subst hw
          rw [HDD.out]
          go_wp2
          try simp only [Exit.jump]
          go_ret
          exact ⟨by rw [← HF.out]; rfl, rfl⟩
        have q64 : ((k : Int) - (a : Int) == 64) = false := beq_false_of_ne (by omega)
        have HL2 : Hid (k + 1 ≤ a + lim9 c) := by show _ ≤ _; unfold lim9; rw [if_neg h2]; omega
        clear HL HAL h2 h64
        go_wp2
        go_round
        case rel => exact ⟨k + 1, by go_num, by omega, by omega, HL2, HA2⟩
        case measure => simp [intOf]; omega
  · rintro a' w' ⟨hw0, b, HJ, x2, x3, x4, x6, x7, x8, x9, x10, x11, x12, x13, x14, x15, x16, x17, x18, x19, x20, x21, x22, x23, x24, x25, x26, x27, x28, x29, x30, x31, x32, x33, x34, x35, x36, x37, x38, x39, x40, x41, x42, x43, x44, x45, x46, x47, x48, x49, x50, x51, x52, x53, x54, x55, x56, x57, x58, x59, x60, x61, rfl⟩
    replace hw0 := hw0.symm
    subst hw0
    have hb1 : b ≤ a + 1 := Nat.le_of_eq HJ.out.1
    have hb0 : a + 1 ≤ b := Nat.le_of_eq HJ.out.1.symm
    have hbs : b < s.size := by have h1 := HJ.out.2.1.2.1; have h2 := HJ.out.2.2; omega
    have hix0 := ixC s b (by omega)
    have hbr0 := byteAt_rngC s b
    have ew0 : IntKind.i64.wrap (byteAt s b) = byteAt s b := IntWalk.i64_in _ (by omega)
    obtain ⟨c0, hc0⟩ : ∃ c0, byteAt s b = c0 := ⟨_, rfl⟩
    have HC0 : Hid (cl s b = clF c0) := by show cl s b = _; rw [← hc0]; rfl
    rw [hc0] at hix0 hbr0 ew0
    clear hc0
    go_wp2_with fail
    refine (implClass_c c0 w).mono ?_
    rintro e wz ⟨rfl, hw⟩
    replace hw := hw.symm
    subst hw
    obtain ⟨c, hc⟩ : ∃ c, clF c0 = c := ⟨_, rfl⟩
    have HC : Hid (cl s b = c) := by show _ = _; rw [HC0.out, hc]
    rw [hc]
    clear hc HC0 hix0 ew0
    go_wp2
    go_step3
    go_wp2
    go_loop [5] (fun v => ∃ k : Nat, v = .int .i64 (k : Int) ∧ b ≤ k ∧ k ≤ s.size ∧ Hid (k ≤ a + lim9 c) ∧ Hid (∀ j, b ≤ j → j < k → cl s j = c)) (fun v => s.size - (intOf v).toNat)
    case atStart => exact ⟨b, rfl, Nat.le_refl _, by omega, by have := lim9_ge c; show _ ≤ _; omega, fun j h1 h2 => absurd h2 (by omega)⟩
    case round =>
      obtain ⟨k, rfl, hk1, hk2, HL, HAL⟩ := hrel
      by_cases hlt : k < s.size
      rotate_left
      · have hlt' : ¬ (k : Int) < s.size := by omega
        have HS : Hid (ScanE s c a b k) := ⟨hk1, hk2, HL.out, HAL.out, .inl (by omega)⟩
        clear HL HAL
        have HT := scan_two HA0.out HJ.out.2.1 HJ.out.2.2 (by rw [← HJ.out.1, HC.out]; exact HS.out : ScanE s (cl s (a + 1)) a (a + 1) k)
        have q3 : (c == (3 : Int)) = false := beq_false_of_ne (by have h := HT.2.1; rw [← HJ.out.1, HC.out] at h; exact h)
        have HF : Hid (k = neE s a) := HT.1
        clear HT
        go_wp2
        try simp only [Exit.jump]
        go_ret
        exact ⟨by rw [HF.out]; rfl, rfl⟩
      have hlt' : (k : Int) < s.size := by omega
      have hix := ixC s k hlt
      have hbr := byteAt_rngC s k
      have ew : IntKind.i64.wrap (byteAt s k) = byteAt s k := IntWalk.i64_in _ (by omega)
      have HD : Hid (cl s k = clF (byteAt s k)) := rfl
      obtain ⟨bb, hbb⟩ : ∃ bb, byteAt s k = bb := ⟨_, rfl⟩
      rw [hbb] at hix hbr ew HD
      clear hbb
      go_wp2_with fail
      refine (implClass_c bb w).mono ?_
      rintro e wz ⟨rfl, hw⟩
      replace hw := hw.symm
      subst hw
      obtain ⟨d, hd0⟩ : ∃ d, clF bb = d := ⟨_, rfl⟩
      rw [hd0] at HD ⊢
      clear hd0
      by_cases hd : d = c
      rotate_left
      · have qd : (d == c) = false := beq_false_of_ne hd
        have HS : Hid (ScanE s c a b k) := ⟨hk1, hk2, HL.out, HAL.out, .inr (.inl (by rw [HD.out]; exact hd))⟩
        clear HL HAL hd HD hix ew
        have HT := scan_two HA0.out HJ.out.2.1 HJ.out.2.2 (by rw [← HJ.out.1, HC.out]; exact HS.out : ScanE s (cl s (a + 1)) a (a + 1) k)
        have q3 : (c == (3 : Int)) = false := beq_false_of_ne (by have h := HT.2.1; rw [← HJ.out.1, HC.out] at h; exact h)
        have HF : Hid (k = neE s a) := HT.1
        clear HT
        go_wp2
        try simp only [Exit.jump]
        go_ret
        exact ⟨by rw [HF.out]; rfl, rfl⟩
      rw [hd] at HD ⊢
      clear hd
      have HA2 : Hid (∀ j, b ≤ j → j < k + 1 → cl s j = c) := fun j h1 h2 => by
        rcases Nat.lt_or_ge j k with h3 | h3
        · exact HAL.out j h1 h3
        · rw [show j = k by omega]; exact HD.out
      clear HD hix ew
      by_cases h2 : c = 2
      · have q2 : (c == (2 : Int)) = true := beq_iff_eq.2 h2
        have hl3 : k ≤ a + 3 := by have h := HL.out; unfold lim9 at h; rw [if_pos h2] at h; exact h
        by_cases h33 : k = a + 3
        · have q33 : ((k : Int) - (a : Int) == 3) = true := beq_iff_eq.2 (by omega)
          have HS : Hid (ScanE s c a b k) := ⟨hk1, hk2, HL.out, HAL.out, .inr (.inr (by unfold lim9; rw [if_pos h2]; exact h33))⟩
          clear HL HAL h2 h33 HA2
          have HT := scan_two HA0.out HJ.out.2.1 HJ.out.2.2 (by rw [← HJ.out.1, HC.out]; exact HS.out : ScanE s (cl s (a + 1)) a (a + 1) k)
          have q3 : (c == (3 : Int)) = false := beq_false_of_ne (by have h := HT.2.1; rw [← HJ.out.1, HC.out] at h; exact h)
          have HF : Hid (k = neE s a) := HT.1
          clear HT
          go_wp2
          try simp only [Exit.jump]
          go_ret
          exact ⟨by rw [HF.out]; rfl, rfl⟩
        have q33 : ((k : Int) - (a : Int) == 3) = false := beq_false_of_ne (by omega)
        have q64 : ((k : Int) - (a : Int) == 64) = false := beq_false_of_ne (by omega)
        have HL2 : Hid (k + 1 ≤ a + lim9 c) := by show _ ≤ _; unfold lim9; rw [if_pos h2]; omega
        clear HL HAL h2 h33
        go_wp2
        go_round
        case rel => exact ⟨k + 1, by go_num, by omega, by omega, HL2, HA2⟩
        case measure => simp [intOf]; omega
      · have q2 : (c == (2 : Int)) = false := beq_false_of_ne h2
        have hl64 : k ≤ a + 64 := by have h := HL.out; unfold lim9 at h; rw [if_neg h2] at h; exact h
        by_cases h64 : k = a + 64
        · have q64 : ((k : Int) - (a : Int) == 64) = true := beq_iff_eq.2 (by omega)
          have HS : Hid (ScanE s c a b k) := ⟨hk1, hk2, HL.out, HAL.out, .inr (.inr (by unfold lim9; rw [if_neg h2]; exact h64))⟩
          clear HL HAL h2 h64 HA2
          have HT := scan_two HA0.out HJ.out.2.1 HJ.out.2.2 (by rw [← HJ.out.1, HC.out]; exact HS.out : ScanE s (cl s (a + 1)) a (a + 1) k)
          have q3 : (c == (3 : Int)) = false := beq_false_of_ne (by have h := HT.2.1; rw [← HJ.out.1, HC.out] at h; exact h)
          have HF : Hid (k = neE s a) := HT.1
          clear HT
          go_wp2
          try simp only [Exit.jump]
          go_ret
          exact ⟨by rw [HF.out]; rfl, rfl⟩
        have q64 : ((k : Int) - (a : Int) == 64) = false := beq_false_of_ne (by omega)
        have HL2 : Hid (k + 1 ≤ a + lim9 c) := by show _ ≤ _; unfold lim9; rw [if_neg h2]; omega
        clear HL HAL h2 h64
        go_wp2
        go_round
        case rel => exact ⟨k + 1, by go_num, by omega, by omega, HL2, HA2⟩
        case measure => simp [intOf]; omega

end Go.Proofs.Ytdggkcohidijcaa
