/- The specification's next word. -/
import Derived.Test.YtdggkcohidijcaaC9Run
namespace Go.Proofs.Ytdggkcohidijcaa
open Go.RowKit
set_option linter.unusedVariables false
set_option linter.unusedSimpArgs false

set_option maxRecDepth 20000 in
set_option maxHeartbeats 4000000 in
theorem specNext_c (s : ByteArray) (w : World) (hm : s.size ≤ 1000) (h0 : 0 < s.size) : Calls Try.prog 53 #[.string s] w fun e w' => e = .returned (.int .i64 ((neE s 0 : Nat) : Int)) ∧ Below w.heap.size w w' := by
  have HM : Hid (s.size ≤ maxLen) := by show _ ≤ _; unfold maxLen; omega
  have H0 : Hid (0 < s.size) := h0
  obtain ⟨b0, hb0⟩ : ∃ b0, byteAt s 0 = b0 := ⟨_, rfl⟩
  have HB0 : Hid (cl s 0 = clF b0) := by show clF (byteAt s 0) = _; rw [hb0]
  have hix0 := ixC s 0 h0
  have hbr0 := byteAt_rngC s 0
  have ew0 : IntKind.i64.wrap (byteAt s 0) = byteAt s 0 := IntWalk.i64_in _ (by omega)
  rw [hb0] at hix0 hbr0 ew0
  have hix1 : ∀ W, (Instr.index 9 (.string s) (.int .i64 0)).run Try.prog W = .ok (.int .u8 b0) W := hix0
  clear hb0 hix0
  obtain ⟨c, hc⟩ : ∃ c, clF b0 = c := ⟨_, rfl⟩
  have HC : Hid (cl s 0 = c) := by show _ = _; rw [HB0.out, hc]
  have HCA : Hid (∀ W, Calls Try.prog 19 #[.int .i64 b0] W fun e w' => e = .returned (.int .i64 c) ∧ w' = W) := fun W => by rw [← hc]; exact specClass_c b0 W
  clear hc
  have HRI := rnE_is s 0 (Nat.zero_le _)
  have hn0 := rnE_lt s 0 h0
  have hn1 := HRI.sz
  obtain ⟨n, hn⟩ : ∃ n, rnE s 0 = n := ⟨_, rfl⟩
  have HN : Hid (rnE s 0 = n) := hn
  rw [hn] at hn0 hn1
  clear HRI
  go_enter Try.func53, Try.ntmps53
  go_wp2_with fail
  refine (specRun_c s w HM.out H0.out).mono ?_
  rintro e w1 ⟨rfl, b1⟩
  have HB1 : Hid (Below w.heap.size w w1) := b1
  clear b1
  rw [HN.out]
  clear hn
  go_wp2_with fail
  refine (HCA.out w1).mono ?_
  rintro e wz ⟨rfl, hw⟩
  replace hw := hw.symm
  subst hw
  by_cases h2 : c = 2
  · have q2 : (c == (2 : Int)) = true := beq_iff_eq.2 h2
    have HP : Hid (preE s 0 = min n 3) := by show _ = _; rw [preE_dig (HC.out.trans h2), HN.out]
    clear h2
    by_cases h3 : 3 < n
    · have HF : Hid (neE s 0 = 3) := by have h := HP.out; show _ = _; unfold neE; omega
      go_wp2
      go_ret
      exact ⟨by rw [HF.out]; rfl, HB1.out⟩
    · have HF : Hid (n = neE s 0) := by have h := HP.out; show _ = _; unfold neE; omega
      go_wp2
      go_ret
      exact ⟨by rw [← HF.out]; rfl, HB1.out⟩
  have q2 : (c == (2 : Int)) = false := beq_false_of_ne h2
  have HC2 : Hid (cl s 0 ≠ 2) := by show _ ≠ _; rw [HC.out]; exact h2
  by_cases h3 : c = 3
  rotate_left
  · have q3 : (c == (3 : Int)) = false := beq_false_of_ne h3
    have HP : Hid (preE s 0 = n) := by show _ = _; rw [preE_no HC2.out (fun h => h3 (by rw [← HC.out]; exact h.1)), HN.out]
    clear h2 h3
    by_cases h64 : 64 < n
    · have HF : Hid (neE s 0 = 64) := by have h := HP.out; show _ = _; unfold neE; omega
      go_wp2
      go_ret
      exact ⟨by rw [HF.out]; rfl, HB1.out⟩
    have h64' : ¬ 64 < (n : Nat) := h64
    have HF : Hid (n = neE s 0) := by have h := HP.out; show _ = _; unfold neE; omega
    go_wp2
    go_ret
    exact ⟨by rw [← HF.out]; rfl, HB1.out⟩
  have q3 : (c == (3 : Int)) = true := beq_iff_eq.2 h3
  have HC3 : Hid (cl s 0 = 3) := by show _ = _; rw [HC.out]; exact h3
  clear h2 h3
  by_cases hlt : n < s.size
  rotate_left
  · have hlt' : ¬ (n : Int) < s.size := by omega
    have HP : Hid (preE s 0 = n) := by show _ = _; rw [preE_no HC2.out (fun h => by have h2 := h.2.1; rw [HN.out] at h2; omega), HN.out]
    clear hlt
    by_cases h64 : 64 < n
    · have HF : Hid (neE s 0 = 64) := by have h := HP.out; show _ = _; unfold neE; omega
      go_wp2
      go_ret
      exact ⟨by rw [HF.out]; rfl, HB1.out⟩
    have h64' : ¬ 64 < (n : Nat) := h64
    have HF : Hid (n = neE s 0) := by have h := HP.out; show _ = _; unfold neE; omega
    go_wp2
    go_ret
    exact ⟨by rw [← HF.out]; rfl, HB1.out⟩
  have hlt' : (n : Int) < s.size := by omega
  have hix := ixC s n hlt
  have hbr := byteAt_rngC s n
  have ew : IntKind.i64.wrap (byteAt s n) = byteAt s n := IntWalk.i64_in _ (by omega)
  obtain ⟨bb, hbb⟩ : ∃ bb, byteAt s n = bb := ⟨_, rfl⟩
  obtain ⟨d, hd0⟩ : ∃ d, clF bb = d := ⟨_, rfl⟩
  have HD : Hid (cl s n = d) := by show clF (byteAt s n) = _; rw [hbb, hd0]
  rw [hbb] at hix hbr ew
  have hsn : ((s[n]'hlt).toNat : Int) = bb := by rw [← byteAt_eq s n hlt]; exact hbb
  have HCD : Hid (clF (wrap64 ((s[n]'hlt).toNat : Int)) = d) := by
    show _ = _
    rw [hsn, ← hd0]
    congr 1
    unfold wrap64
    omega
  clear hbb hd0 hsn hix
  by_cases hd2 : d = 2
  · have qd : (d != (2 : Int)) = false := by simp [hd2]
    have HP : Hid (preE s 0 = n) := by show _ = _; rw [preE_no HC2.out (fun h => by have h2 := h.2.2.1; rw [HN.out, HD.out] at h2; exact h2 hd2), HN.out]
    clear hd2
    go_wp2_with fail
    refine (specClass_c _ w1).mono ?_
    rintro e wz ⟨rfl, hw⟩
    replace hw := hw.symm
    subst hw
    rw [HCD.out]
    by_cases h64 : 64 < n
    · have HF : Hid (neE s 0 = 64) := by have h := HP.out; show _ = _; unfold neE; omega
      go_wp2
      go_ret
      exact ⟨by rw [HF.out]; rfl, HB1.out⟩
    have h64' : ¬ 64 < (n : Nat) := h64
    have HF : Hid (n = neE s 0) := by have h := HP.out; show _ = _; unfold neE; omega
    go_wp2
    go_ret
    exact ⟨by rw [← HF.out]; rfl, HB1.out⟩
  have qd : (d != (2 : Int)) = true := by simp [hd2]
  have HD2 : Hid (d ≠ 2) := hd2
  clear hd2
  have hix2 : ∀ W, (Instr.index 9 (.string s) (.int .i64 ((n : Int) - 1))).run Try.prog W = .ok (.int .u8 (byteAt s (n - 1))) W := by
    have := ixC s (n - 1) (by omega)
    rw [show (((n - 1 : Nat)) : Int) = (n : Int) - 1 by omega] at this
    exact this
  have hbr2 := byteAt_rngC s (n - 1)
  obtain ⟨b2, hb2⟩ : ∃ b2, byteAt s (n - 1) = b2 := ⟨_, rfl⟩
  have HB2 : Hid (byteAt s (n - 1) = b2) := hb2
  rw [hb2] at hix2 hbr2
  have hsn2 : ((s[n - 1]'(by omega)).toNat : Int) = b2 := by rw [← byteAt_eq s (n - 1) (by omega)]; exact hb2
  clear hb2
  by_cases h32 : b2 = 32
  rotate_left
  · have q32 : (((s[n - 1]'(by omega)).toNat : Int) == (32 : Int)) = false := beq_false_of_ne (by rw [hsn2]; exact h32)
    clear hsn2 hix2
    have HP : Hid (preE s 0 = n) := by show _ = _; rw [preE_no HC2.out (fun h => by have h2 := h.2.2.2; rw [HN.out, HB2.out] at h2; exact h32 h2), HN.out]
    clear h32
    go_wp2_with fail
    refine (specClass_c _ w1).mono ?_
    rintro e wz ⟨rfl, hw⟩
    replace hw := hw.symm
    subst hw
    rw [HCD.out]
    by_cases h64 : 64 < n
    · have HF : Hid (neE s 0 = 64) := by have h := HP.out; show _ = _; unfold neE; omega
      go_wp2
      go_ret
      exact ⟨by rw [HF.out]; rfl, HB1.out⟩
    have h64' : ¬ 64 < (n : Nat) := h64
    have HF : Hid (n = neE s 0) := by have h := HP.out; show _ = _; unfold neE; omega
    go_wp2
    go_ret
    exact ⟨by rw [← HF.out]; rfl, HB1.out⟩
  have q32 : (((s[n - 1]'(by omega)).toNat : Int) == (32 : Int)) = true := beq_iff_eq.2 (by rw [hsn2]; exact h32)
  clear hsn2 hix2
  have HDR : Hid (Draws s 0) := ⟨HC3.out, by rw [HN.out]; exact hlt, by rw [HN.out, HD.out]; exact HD2.out, by rw [HN.out, HB2.out]; exact h32⟩
  clear h32
  by_cases h1 : n = 1
  rotate_left
  · have q1 : ((n : Int) == 1) = false := beq_false_of_ne (by omega)
    obtain ⟨m, hma, hmb⟩ : ∃ m : Nat, m + 1 ≤ n ∧ n ≤ m + 1 := ⟨n - 1, by omega, by omega⟩
    have HP : Hid (preE s 0 = m) := by show _ = _; rw [preE_more HDR.out (by rw [HN.out]; exact h1), HN.out]; omega
    clear h1
    go_wp2_with fail
    refine (specClass_c _ w1).mono ?_
    rintro e wz ⟨rfl, hw⟩
    replace hw := hw.symm
    subst hw
    rw [HCD.out]
    by_cases h64 : 64 < m
    · have HF : Hid (neE s 0 = 64) := by have h := HP.out; show _ = _; unfold neE; omega
      go_wp2
      go_ret
      exact ⟨by rw [HF.out]; rfl, HB1.out⟩
    have h64' : ¬ 64 < (m : Nat) := h64
    have HF : Hid (((n : Int) - 1) = ((neE s 0 : Nat) : Int)) := by have h := HP.out; show _ = _; unfold neE; omega
    go_wp2
    go_ret
    exact ⟨by rw [← HF.out]; rfl, HB1.out⟩
  have q1 : ((n : Int) == 1) = true := beq_iff_eq.2 (by omega)
  have HN1 : Hid (n = 1) := h1
  obtain ⟨T, hT⟩ : ∃ T, s.extract 1 s.size = T := ⟨_, rfl⟩
  have hsl : ∀ W, (Instr.slice 9 (.string s) (some (.int .i64 1)) none none).run Try.prog W = .ok (.string T) W := by rw [← hT]; exact sl_one s 1 1 rfl (by omega)
  have HTS : Hid (T.size = s.size - 1) := by show _ = _; rw [← hT]; exact size_rest s 1 s.size (Nat.le_refl _)
  obtain ⟨r, hr⟩ : ∃ r, rnE T 0 = r := ⟨_, rfl⟩
  have HRR : Hid (rnE T 0 = r) := hr
  have HP : Hid (preE s 0 = 1 + r) := by
    have h5 := rnE_rest s 1 0 (by omega)
    rw [hT, hr] at h5
    show _ = _
    rw [preE_one HDR.out (by rw [HN.out]; exact h1)]
    exact h5.symm
  have hr2 : r ≤ 1000 := by have h5 := (rnE_is T 0 (Nat.zero_le _)).sz; rw [hr] at h5; have h6 := HTS.out; omega
  have HTL : Hid (T.size ≤ maxLen ∧ 0 < T.size) := by have h6 := HTS.out; exact ⟨by unfold maxLen; omega, by omega⟩
  clear h1 hT hr
  go_wp2_with fail
  refine (specClass_c _ w1).mono ?_
  rintro e wz ⟨rfl, hw⟩
  replace hw := hw.symm
  subst hw
  rw [HCD.out]
  go_wp2_with fail
  refine (specRun_c T w1 HTL.out.1 HTL.out.2).mono ?_
  rintro e w2 ⟨rfl, b2'⟩
  have HB3 : Hid (Below w.heap.size w w2) := HB1.out.trans (b2'.mono HB1.out.size)
  rw [HRR.out]
  clear b2'
  by_cases h64 : 64 < 1 + r
  · have HF : Hid (neE s 0 = 64) := by have h := HP.out; show _ = _; unfold neE; omega
    go_wp2
    go_ret
    exact ⟨by rw [HF.out]; rfl, HB3.out⟩
  have h64' : ¬ 64 < (1 + r : Nat) := h64
  have HF : Hid (1 + r = neE s 0) := by have h := HP.out; show _ = _; unfold neE; omega
  go_wp2
  go_ret
  exact ⟨by rw [← HF.out]; rfl, HB3.out⟩

end Go.Proofs.Ytdggkcohidijcaa
