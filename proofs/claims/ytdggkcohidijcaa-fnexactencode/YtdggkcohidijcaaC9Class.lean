/- Class of both sides. -/
import Derived.Test.YtdggkcohidijcaaVcWalk
import Derived.Test.YtdggkcohidijcaaC9Math
namespace Go.Proofs.Ytdggkcohidijcaa
open Go.RowKit
set_option linter.unusedVariables false
set_option linter.unusedSimpArgs false

set_option maxRecDepth 20000 in
set_option maxHeartbeats 4000000 in
theorem specClass_c (b : Int) (w : World) : Calls Try.prog 19 #[.int .i64 b] w fun e w' => e = .returned (.int .i64 (clF b)) ∧ w' = w := by
  by_cases h : 0 ≤ b ∧ b ≤ 255
  rotate_left
  · have e0 : clF b = 0 := by unfold clF; rw [if_pos (by omega)]
    rw [e0]
    go_enter Try.func19, Try.ntmps19
    go_wp2_with fail
    refine (sinV_no b 0 255 w h).mono ?_
    rintro e wz ⟨rfl, hw⟩
    replace hw := hw.symm
    subst hw
    go_wp2
    go_ret
    exact ⟨rfl, rfl⟩
  obtain ⟨h0, h255⟩ := h
  have hc : (97 ≤ b ∧ b ≤ 122) ∨ (65 ≤ b ∧ b ≤ 90) ∨ (128 ≤ b ∧ b ≤ 255) ∨ (48 ≤ b ∧ b ≤ 57) ∨ b = 9 ∨ b = 10 ∨ b = 13 ∨ b = 32 ∨ (91 ≤ b ∧ b ≤ 96) ∨ (123 ≤ b ∧ b ≤ 127) ∨ (58 ≤ b ∧ b ≤ 64) ∨ (33 ≤ b ∧ b ≤ 47) ∨ (14 ≤ b ∧ b ≤ 31) ∨ (11 ≤ b ∧ b ≤ 12) ∨ (0 ≤ b ∧ b ≤ 8) := by omega
  rcases hc with ⟨h1, h2⟩ | ⟨h1, h2⟩ | ⟨h1, h2⟩ | ⟨h1, h2⟩ | rfl | rfl | rfl | rfl | ⟨h1, h2⟩ | ⟨h1, h2⟩ | ⟨h1, h2⟩ | ⟨h1, h2⟩ | ⟨h1, h2⟩ | ⟨h1, h2⟩ | ⟨h1, h2⟩
  · have e0 : clF b = 1 := by unfold clF; rw [if_neg (by omega), if_pos (by omega)]
    rw [e0]
    go_enter Try.func19, Try.ntmps19
    have d0 : decide ((97 : Int) ≤ b) = true := decide_eq_true (by omega)
    have d1 : decide ((65 : Int) ≤ b) = true := decide_eq_true (by omega)
    have d2 : decide ((128 : Int) ≤ b) = false := decide_eq_false (by omega)
    have d3 : decide ((48 : Int) ≤ b) = true := decide_eq_true (by omega)
    have d4 : decide (b ≤ (122 : Int)) = true := decide_eq_true (by omega)
    have d5 : decide (b ≤ (90 : Int)) = false := decide_eq_false (by omega)
    have d6 : decide (b ≤ (57 : Int)) = false := decide_eq_false (by omega)
    have d7 : (b == (9 : Int)) = false := beq_false_of_ne (by omega)
    have d8 : (b == (10 : Int)) = false := beq_false_of_ne (by omega)
    have d9 : (b == (13 : Int)) = false := beq_false_of_ne (by omega)
    have d10 : (b == (32 : Int)) = false := beq_false_of_ne (by omega)
    go_wp2_with fail
    refine (sinV_yes b 0 255 w (by omega) (by omega)).mono ?_
    rintro e wz ⟨rfl, hw⟩
    replace hw := hw.symm
    subst hw
    go_wp2
    go_ret
    exact ⟨rfl, rfl⟩
  · have e0 : clF b = 1 := by unfold clF; rw [if_neg (by omega), if_pos (by omega)]
    rw [e0]
    go_enter Try.func19, Try.ntmps19
    have d0 : decide ((97 : Int) ≤ b) = false := decide_eq_false (by omega)
    have d1 : decide ((65 : Int) ≤ b) = true := decide_eq_true (by omega)
    have d2 : decide ((128 : Int) ≤ b) = false := decide_eq_false (by omega)
    have d3 : decide ((48 : Int) ≤ b) = true := decide_eq_true (by omega)
    have d4 : decide (b ≤ (122 : Int)) = true := decide_eq_true (by omega)
    have d5 : decide (b ≤ (90 : Int)) = true := decide_eq_true (by omega)
    have d6 : decide (b ≤ (57 : Int)) = false := decide_eq_false (by omega)
    have d7 : (b == (9 : Int)) = false := beq_false_of_ne (by omega)
    have d8 : (b == (10 : Int)) = false := beq_false_of_ne (by omega)
    have d9 : (b == (13 : Int)) = false := beq_false_of_ne (by omega)
    have d10 : (b == (32 : Int)) = false := beq_false_of_ne (by omega)
    go_wp2_with fail
    refine (sinV_yes b 0 255 w (by omega) (by omega)).mono ?_
    rintro e wz ⟨rfl, hw⟩
    replace hw := hw.symm
    subst hw
    go_wp2
    go_ret
    exact ⟨rfl, rfl⟩
  · have e0 : clF b = 1 := by unfold clF; rw [if_neg (by omega), if_pos (by omega)]
    rw [e0]
    go_enter Try.func19, Try.ntmps19
    have d0 : decide ((97 : Int) ≤ b) = true := decide_eq_true (by omega)
    have d1 : decide ((65 : Int) ≤ b) = true := decide_eq_true (by omega)
    have d2 : decide ((128 : Int) ≤ b) = true := decide_eq_true (by omega)
    have d3 : decide ((48 : Int) ≤ b) = true := decide_eq_true (by omega)
    have d4 : decide (b ≤ (122 : Int)) = false := decide_eq_false (by omega)
    have d5 : decide (b ≤ (90 : Int)) = false := decide_eq_false (by omega)
    have d6 : decide (b ≤ (57 : Int)) = false := decide_eq_false (by omega)
    have d7 : (b == (9 : Int)) = false := beq_false_of_ne (by omega)
    have d8 : (b == (10 : Int)) = false := beq_false_of_ne (by omega)
    have d9 : (b == (13 : Int)) = false := beq_false_of_ne (by omega)
    have d10 : (b == (32 : Int)) = false := beq_false_of_ne (by omega)
    go_wp2_with fail
    refine (sinV_yes b 0 255 w (by omega) (by omega)).mono ?_
    rintro e wz ⟨rfl, hw⟩
    replace hw := hw.symm
    subst hw
    go_wp2
    go_ret
    exact ⟨rfl, rfl⟩
  · have e0 : clF b = 2 := by unfold clF; rw [if_neg (by omega), if_neg (by omega), if_pos (by omega)]
    rw [e0]
    go_enter Try.func19, Try.ntmps19
    have d0 : decide ((97 : Int) ≤ b) = false := decide_eq_false (by omega)
    have d1 : decide ((65 : Int) ≤ b) = false := decide_eq_false (by omega)
    have d2 : decide ((128 : Int) ≤ b) = false := decide_eq_false (by omega)
    have d3 : decide ((48 : Int) ≤ b) = true := decide_eq_true (by omega)
    have d4 : decide (b ≤ (122 : Int)) = true := decide_eq_true (by omega)
    have d5 : decide (b ≤ (90 : Int)) = true := decide_eq_true (by omega)
    have d6 : decide (b ≤ (57 : Int)) = true := decide_eq_true (by omega)
    have d7 : (b == (9 : Int)) = false := beq_false_of_ne (by omega)
    have d8 : (b == (10 : Int)) = false := beq_false_of_ne (by omega)
    have d9 : (b == (13 : Int)) = false := beq_false_of_ne (by omega)
    have d10 : (b == (32 : Int)) = false := beq_false_of_ne (by omega)
    go_wp2_with fail
    refine (sinV_yes b 0 255 w (by omega) (by omega)).mono ?_
    rintro e wz ⟨rfl, hw⟩
    replace hw := hw.symm
    subst hw
    go_wp2
    go_ret
    exact ⟨rfl, rfl⟩
  · have e0 : clF 9 = 3 := by rfl
    rw [e0]
    go_enter Try.func19, Try.ntmps19
    go_wp2_with fail
    refine (sinV_yes 9 0 255 w (by omega) (by omega)).mono ?_
    rintro e wz ⟨rfl, hw⟩
    replace hw := hw.symm
    subst hw
    go_wp2
    go_ret
    exact ⟨rfl, rfl⟩
  · have e0 : clF 10 = 3 := by rfl
    rw [e0]
    go_enter Try.func19, Try.ntmps19
    go_wp2_with fail
    refine (sinV_yes 10 0 255 w (by omega) (by omega)).mono ?_
    rintro e wz ⟨rfl, hw⟩
    replace hw := hw.symm
    subst hw
    go_wp2
    go_ret
    exact ⟨rfl, rfl⟩
  · have e0 : clF 13 = 3 := by rfl
    rw [e0]
    go_enter Try.func19, Try.ntmps19
    go_wp2_with fail
    refine (sinV_yes 13 0 255 w (by omega) (by omega)).mono ?_
    rintro e wz ⟨rfl, hw⟩
    replace hw := hw.symm
    subst hw
    go_wp2
    go_ret
    exact ⟨rfl, rfl⟩
  · have e0 : clF 32 = 3 := by rfl
    rw [e0]
    go_enter Try.func19, Try.ntmps19
    go_wp2_with fail
    refine (sinV_yes 32 0 255 w (by omega) (by omega)).mono ?_
    rintro e wz ⟨rfl, hw⟩
    replace hw := hw.symm
    subst hw
    go_wp2
    go_ret
    exact ⟨rfl, rfl⟩
  · have e0 : clF b = 4 := by unfold clF; rw [if_neg (by omega), if_neg (by omega), if_neg (by omega), if_neg (by omega)]
    rw [e0]
    go_enter Try.func19, Try.ntmps19
    have d0 : decide ((97 : Int) ≤ b) = false := decide_eq_false (by omega)
    have d1 : decide ((65 : Int) ≤ b) = true := decide_eq_true (by omega)
    have d2 : decide ((128 : Int) ≤ b) = false := decide_eq_false (by omega)
    have d3 : decide ((48 : Int) ≤ b) = true := decide_eq_true (by omega)
    have d4 : decide (b ≤ (122 : Int)) = true := decide_eq_true (by omega)
    have d5 : decide (b ≤ (90 : Int)) = false := decide_eq_false (by omega)
    have d6 : decide (b ≤ (57 : Int)) = false := decide_eq_false (by omega)
    have d7 : (b == (9 : Int)) = false := beq_false_of_ne (by omega)
    have d8 : (b == (10 : Int)) = false := beq_false_of_ne (by omega)
    have d9 : (b == (13 : Int)) = false := beq_false_of_ne (by omega)
    have d10 : (b == (32 : Int)) = false := beq_false_of_ne (by omega)
    go_wp2_with fail
    refine (sinV_yes b 0 255 w (by omega) (by omega)).mono ?_
    rintro e wz ⟨rfl, hw⟩
    replace hw := hw.symm
    subst hw
    go_wp2
    go_ret
    exact ⟨rfl, rfl⟩
  · have e0 : clF b = 4 := by unfold clF; rw [if_neg (by omega), if_neg (by omega), if_neg (by omega), if_neg (by omega)]
    rw [e0]
    go_enter Try.func19, Try.ntmps19
    have d0 : decide ((97 : Int) ≤ b) = true := decide_eq_true (by omega)
    have d1 : decide ((65 : Int) ≤ b) = true := decide_eq_true (by omega)
    have d2 : decide ((128 : Int) ≤ b) = false := decide_eq_false (by omega)
    have d3 : decide ((48 : Int) ≤ b) = true := decide_eq_true (by omega)
    have d4 : decide (b ≤ (122 : Int)) = false := decide_eq_false (by omega)
    have d5 : decide (b ≤ (90 : Int)) = false := decide_eq_false (by omega)
    have d6 : decide (b ≤ (57 : Int)) = false := decide_eq_false (by omega)
    have d7 : (b == (9 : Int)) = false := beq_false_of_ne (by omega)
    have d8 : (b == (10 : Int)) = false := beq_false_of_ne (by omega)
    have d9 : (b == (13 : Int)) = false := beq_false_of_ne (by omega)
    have d10 : (b == (32 : Int)) = false := beq_false_of_ne (by omega)
    go_wp2_with fail
    refine (sinV_yes b 0 255 w (by omega) (by omega)).mono ?_
    rintro e wz ⟨rfl, hw⟩
    replace hw := hw.symm
    subst hw
    go_wp2
    go_ret
    exact ⟨rfl, rfl⟩
  · have e0 : clF b = 4 := by unfold clF; rw [if_neg (by omega), if_neg (by omega), if_neg (by omega), if_neg (by omega)]
    rw [e0]
    go_enter Try.func19, Try.ntmps19
    have d0 : decide ((97 : Int) ≤ b) = false := decide_eq_false (by omega)
    have d1 : decide ((65 : Int) ≤ b) = false := decide_eq_false (by omega)
    have d2 : decide ((128 : Int) ≤ b) = false := decide_eq_false (by omega)
    have d3 : decide ((48 : Int) ≤ b) = true := decide_eq_true (by omega)
    have d4 : decide (b ≤ (122 : Int)) = true := decide_eq_true (by omega)
    have d5 : decide (b ≤ (90 : Int)) = true := decide_eq_true (by omega)
    have d6 : decide (b ≤ (57 : Int)) = false := decide_eq_false (by omega)
    have d7 : (b == (9 : Int)) = false := beq_false_of_ne (by omega)
    have d8 : (b == (10 : Int)) = false := beq_false_of_ne (by omega)
    have d9 : (b == (13 : Int)) = false := beq_false_of_ne (by omega)
    have d10 : (b == (32 : Int)) = false := beq_false_of_ne (by omega)
    go_wp2_with fail
    refine (sinV_yes b 0 255 w (by omega) (by omega)).mono ?_
    rintro e wz ⟨rfl, hw⟩
    replace hw := hw.symm
    subst hw
    go_wp2
    go_ret
    exact ⟨rfl, rfl⟩
  · have e0 : clF b = 4 := by unfold clF; rw [if_neg (by omega), if_neg (by omega), if_neg (by omega), if_neg (by omega)]
    rw [e0]
    go_enter Try.func19, Try.ntmps19
    have d0 : decide ((97 : Int) ≤ b) = false := decide_eq_false (by omega)
    have d1 : decide ((65 : Int) ≤ b) = false := decide_eq_false (by omega)
    have d2 : decide ((128 : Int) ≤ b) = false := decide_eq_false (by omega)
    have d3 : decide ((48 : Int) ≤ b) = false := decide_eq_false (by omega)
    have d4 : decide (b ≤ (122 : Int)) = true := decide_eq_true (by omega)
    have d5 : decide (b ≤ (90 : Int)) = true := decide_eq_true (by omega)
    have d6 : decide (b ≤ (57 : Int)) = true := decide_eq_true (by omega)
    have d7 : (b == (9 : Int)) = false := beq_false_of_ne (by omega)
    have d8 : (b == (10 : Int)) = false := beq_false_of_ne (by omega)
    have d9 : (b == (13 : Int)) = false := beq_false_of_ne (by omega)
    have d10 : (b == (32 : Int)) = false := beq_false_of_ne (by omega)
    go_wp2_with fail
    refine (sinV_yes b 0 255 w (by omega) (by omega)).mono ?_
    rintro e wz ⟨rfl, hw⟩
    replace hw := hw.symm
    subst hw
    go_wp2
    go_ret
    exact ⟨rfl, rfl⟩
  · have e0 : clF b = 4 := by unfold clF; rw [if_neg (by omega), if_neg (by omega), if_neg (by omega), if_neg (by omega)]
    rw [e0]
    go_enter Try.func19, Try.ntmps19
    have d0 : decide ((97 : Int) ≤ b) = false := decide_eq_false (by omega)
    have d1 : decide ((65 : Int) ≤ b) = false := decide_eq_false (by omega)
    have d2 : decide ((128 : Int) ≤ b) = false := decide_eq_false (by omega)
    have d3 : decide ((48 : Int) ≤ b) = false := decide_eq_false (by omega)
    have d4 : decide (b ≤ (122 : Int)) = true := decide_eq_true (by omega)
    have d5 : decide (b ≤ (90 : Int)) = true := decide_eq_true (by omega)
    have d6 : decide (b ≤ (57 : Int)) = true := decide_eq_true (by omega)
    have d7 : (b == (9 : Int)) = false := beq_false_of_ne (by omega)
    have d8 : (b == (10 : Int)) = false := beq_false_of_ne (by omega)
    have d9 : (b == (13 : Int)) = false := beq_false_of_ne (by omega)
    have d10 : (b == (32 : Int)) = false := beq_false_of_ne (by omega)
    go_wp2_with fail
    refine (sinV_yes b 0 255 w (by omega) (by omega)).mono ?_
    rintro e wz ⟨rfl, hw⟩
    replace hw := hw.symm
    subst hw
    go_wp2
    go_ret
    exact ⟨rfl, rfl⟩
  · have e0 : clF b = 4 := by unfold clF; rw [if_neg (by omega), if_neg (by omega), if_neg (by omega), if_neg (by omega)]
    rw [e0]
    go_enter Try.func19, Try.ntmps19
    have d0 : decide ((97 : Int) ≤ b) = false := decide_eq_false (by omega)
    have d1 : decide ((65 : Int) ≤ b) = false := decide_eq_false (by omega)
    have d2 : decide ((128 : Int) ≤ b) = false := decide_eq_false (by omega)
    have d3 : decide ((48 : Int) ≤ b) = false := decide_eq_false (by omega)
    have d4 : decide (b ≤ (122 : Int)) = true := decide_eq_true (by omega)
    have d5 : decide (b ≤ (90 : Int)) = true := decide_eq_true (by omega)
    have d6 : decide (b ≤ (57 : Int)) = true := decide_eq_true (by omega)
    have d7 : (b == (9 : Int)) = false := beq_false_of_ne (by omega)
    have d8 : (b == (10 : Int)) = false := beq_false_of_ne (by omega)
    have d9 : (b == (13 : Int)) = false := beq_false_of_ne (by omega)
    have d10 : (b == (32 : Int)) = false := beq_false_of_ne (by omega)
    go_wp2_with fail
    refine (sinV_yes b 0 255 w (by omega) (by omega)).mono ?_
    rintro e wz ⟨rfl, hw⟩
    replace hw := hw.symm
    subst hw
    go_wp2
    go_ret
    exact ⟨rfl, rfl⟩
  · have e0 : clF b = 4 := by unfold clF; rw [if_neg (by omega), if_neg (by omega), if_neg (by omega), if_neg (by omega)]
    rw [e0]
    go_enter Try.func19, Try.ntmps19
    have d0 : decide ((97 : Int) ≤ b) = false := decide_eq_false (by omega)
    have d1 : decide ((65 : Int) ≤ b) = false := decide_eq_false (by omega)
    have d2 : decide ((128 : Int) ≤ b) = false := decide_eq_false (by omega)
    have d3 : decide ((48 : Int) ≤ b) = false := decide_eq_false (by omega)
    have d4 : decide (b ≤ (122 : Int)) = true := decide_eq_true (by omega)
    have d5 : decide (b ≤ (90 : Int)) = true := decide_eq_true (by omega)
    have d6 : decide (b ≤ (57 : Int)) = true := decide_eq_true (by omega)
    have d7 : (b == (9 : Int)) = false := beq_false_of_ne (by omega)
    have d8 : (b == (10 : Int)) = false := beq_false_of_ne (by omega)
    have d9 : (b == (13 : Int)) = false := beq_false_of_ne (by omega)
    have d10 : (b == (32 : Int)) = false := beq_false_of_ne (by omega)
    go_wp2_with fail
    refine (sinV_yes b 0 255 w (by omega) (by omega)).mono ?_
    rintro e wz ⟨rfl, hw⟩
    replace hw := hw.symm
    subst hw
    go_wp2
    go_ret
    exact ⟨rfl, rfl⟩

set_option maxRecDepth 20000 in
set_option maxHeartbeats 4000000 in
theorem implClass_c (b : Int) (w : World) : Calls Try.prog 20 #[.int .i64 b] w fun e w' => e = .returned (.int .i64 (clF b)) ∧ w' = w := by
  by_cases h : 0 ≤ b ∧ b ≤ 255
  rotate_left
  · have e0 : clF b = 0 := by unfold clF; rw [if_pos (by omega)]
    rw [e0]
    go_enter Try.func20, Try.ntmps20
    go_wp2_with fail
    refine (winV_no b 0 255 w h).mono ?_
    rintro e wz ⟨rfl, hw⟩
    replace hw := hw.symm
    subst hw
    go_wp2
    go_ret
    exact ⟨rfl, rfl⟩
  obtain ⟨h0, h255⟩ := h
  have hc : (97 ≤ b ∧ b ≤ 122) ∨ (65 ≤ b ∧ b ≤ 90) ∨ (128 ≤ b ∧ b ≤ 255) ∨ (48 ≤ b ∧ b ≤ 57) ∨ b = 9 ∨ b = 10 ∨ b = 13 ∨ b = 32 ∨ (91 ≤ b ∧ b ≤ 96) ∨ (123 ≤ b ∧ b ≤ 127) ∨ (58 ≤ b ∧ b ≤ 64) ∨ (33 ≤ b ∧ b ≤ 47) ∨ (14 ≤ b ∧ b ≤ 31) ∨ (11 ≤ b ∧ b ≤ 12) ∨ (0 ≤ b ∧ b ≤ 8) := by omega
  rcases hc with ⟨h1, h2⟩ | ⟨h1, h2⟩ | ⟨h1, h2⟩ | ⟨h1, h2⟩ | rfl | rfl | rfl | rfl | ⟨h1, h2⟩ | ⟨h1, h2⟩ | ⟨h1, h2⟩ | ⟨h1, h2⟩ | ⟨h1, h2⟩ | ⟨h1, h2⟩ | ⟨h1, h2⟩
  · have e0 : clF b = 1 := by unfold clF; rw [if_neg (by omega), if_pos (by omega)]
    rw [e0]
    go_enter Try.func20, Try.ntmps20
    have d0 : decide ((128 : Int) ≤ b) = false := decide_eq_false (by omega)
    have d1 : (b == (9 : Int)) = false := beq_false_of_ne (by omega)
    have d2 : (b == (10 : Int)) = false := beq_false_of_ne (by omega)
    have d3 : (b == (13 : Int)) = false := beq_false_of_ne (by omega)
    have d4 : (b == (32 : Int)) = false := beq_false_of_ne (by omega)
    go_wp2_with fail
    refine (winV_yes b 0 255 w (by omega) (by omega)).mono ?_
    rintro e wz ⟨rfl, hw⟩
    replace hw := hw.symm
    subst hw
    go_wp2_with fail
    refine (winV_yes b 97 122 w (by omega) (by omega)).mono ?_
    rintro e wz ⟨rfl, hw⟩
    replace hw := hw.symm
    subst hw
    go_wp2
    go_ret
    exact ⟨rfl, rfl⟩
  · have e0 : clF b = 1 := by unfold clF; rw [if_neg (by omega), if_pos (by omega)]
    rw [e0]
    go_enter Try.func20, Try.ntmps20
    have d0 : decide ((128 : Int) ≤ b) = false := decide_eq_false (by omega)
    have d1 : (b == (9 : Int)) = false := beq_false_of_ne (by omega)
    have d2 : (b == (10 : Int)) = false := beq_false_of_ne (by omega)
    have d3 : (b == (13 : Int)) = false := beq_false_of_ne (by omega)
    have d4 : (b == (32 : Int)) = false := beq_false_of_ne (by omega)
    go_wp2_with fail
    refine (winV_yes b 0 255 w (by omega) (by omega)).mono ?_
    rintro e wz ⟨rfl, hw⟩
    replace hw := hw.symm
    subst hw
    go_wp2_with fail
    refine (winV_no b 97 122 w (by omega)).mono ?_
    rintro e wz ⟨rfl, hw⟩
    replace hw := hw.symm
    subst hw
    go_wp2_with fail
    refine (winV_yes b 65 90 w (by omega) (by omega)).mono ?_
    rintro e wz ⟨rfl, hw⟩
    replace hw := hw.symm
    subst hw
    go_wp2
    go_ret
    exact ⟨rfl, rfl⟩
  · have e0 : clF b = 1 := by unfold clF; rw [if_neg (by omega), if_pos (by omega)]
    rw [e0]
    go_enter Try.func20, Try.ntmps20
    have d0 : decide ((128 : Int) ≤ b) = true := decide_eq_true (by omega)
    have d1 : (b == (9 : Int)) = false := beq_false_of_ne (by omega)
    have d2 : (b == (10 : Int)) = false := beq_false_of_ne (by omega)
    have d3 : (b == (13 : Int)) = false := beq_false_of_ne (by omega)
    have d4 : (b == (32 : Int)) = false := beq_false_of_ne (by omega)
    go_wp2_with fail
    refine (winV_yes b 0 255 w (by omega) (by omega)).mono ?_
    rintro e wz ⟨rfl, hw⟩
    replace hw := hw.symm
    subst hw
    go_wp2_with fail
    refine (winV_no b 97 122 w (by omega)).mono ?_
    rintro e wz ⟨rfl, hw⟩
    replace hw := hw.symm
    subst hw
    go_wp2_with fail
    refine (winV_no b 65 90 w (by omega)).mono ?_
    rintro e wz ⟨rfl, hw⟩
    replace hw := hw.symm
    subst hw
    go_wp2
    go_ret
    exact ⟨rfl, rfl⟩
  · have e0 : clF b = 2 := by unfold clF; rw [if_neg (by omega), if_neg (by omega), if_pos (by omega)]
    rw [e0]
    go_enter Try.func20, Try.ntmps20
    have d0 : decide ((128 : Int) ≤ b) = false := decide_eq_false (by omega)
    have d1 : (b == (9 : Int)) = false := beq_false_of_ne (by omega)
    have d2 : (b == (10 : Int)) = false := beq_false_of_ne (by omega)
    have d3 : (b == (13 : Int)) = false := beq_false_of_ne (by omega)
    have d4 : (b == (32 : Int)) = false := beq_false_of_ne (by omega)
    go_wp2_with fail
    refine (winV_yes b 0 255 w (by omega) (by omega)).mono ?_
    rintro e wz ⟨rfl, hw⟩
    replace hw := hw.symm
    subst hw
    go_wp2_with fail
    refine (winV_no b 97 122 w (by omega)).mono ?_
    rintro e wz ⟨rfl, hw⟩
    replace hw := hw.symm
    subst hw
    go_wp2_with fail
    refine (winV_no b 65 90 w (by omega)).mono ?_
    rintro e wz ⟨rfl, hw⟩
    replace hw := hw.symm
    subst hw
    go_wp2_with fail
    refine (winV_yes b 48 57 w (by omega) (by omega)).mono ?_
    rintro e wz ⟨rfl, hw⟩
    replace hw := hw.symm
    subst hw
    go_wp2
    go_ret
    exact ⟨rfl, rfl⟩
  · have e0 : clF 9 = 3 := by rfl
    rw [e0]
    go_enter Try.func20, Try.ntmps20
    go_wp2_with fail
    refine (winV_yes 9 0 255 w (by omega) (by omega)).mono ?_
    rintro e wz ⟨rfl, hw⟩
    replace hw := hw.symm
    subst hw
    go_wp2_with fail
    refine (winV_no 9 97 122 w (by omega)).mono ?_
    rintro e wz ⟨rfl, hw⟩
    replace hw := hw.symm
    subst hw
    go_wp2_with fail
    refine (winV_no 9 65 90 w (by omega)).mono ?_
    rintro e wz ⟨rfl, hw⟩
    replace hw := hw.symm
    subst hw
    go_wp2_with fail
    refine (winV_no 9 48 57 w (by omega)).mono ?_
    rintro e wz ⟨rfl, hw⟩
    replace hw := hw.symm
    subst hw
    go_wp2
    go_ret
    exact ⟨rfl, rfl⟩
  · have e0 : clF 10 = 3 := by rfl
    rw [e0]
    go_enter Try.func20, Try.ntmps20
    go_wp2_with fail
    refine (winV_yes 10 0 255 w (by omega) (by omega)).mono ?_
    rintro e wz ⟨rfl, hw⟩
    replace hw := hw.symm
    subst hw
    go_wp2_with fail
    refine (winV_no 10 97 122 w (by omega)).mono ?_
    rintro e wz ⟨rfl, hw⟩
    replace hw := hw.symm
    subst hw
    go_wp2_with fail
    refine (winV_no 10 65 90 w (by omega)).mono ?_
    rintro e wz ⟨rfl, hw⟩
    replace hw := hw.symm
    subst hw
    go_wp2_with fail
    refine (winV_no 10 48 57 w (by omega)).mono ?_
    rintro e wz ⟨rfl, hw⟩
    replace hw := hw.symm
    subst hw
    go_wp2
    go_ret
    exact ⟨rfl, rfl⟩
  · have e0 : clF 13 = 3 := by rfl
    rw [e0]
    go_enter Try.func20, Try.ntmps20
    go_wp2_with fail
    refine (winV_yes 13 0 255 w (by omega) (by omega)).mono ?_
    rintro e wz ⟨rfl, hw⟩
    replace hw := hw.symm
    subst hw
    go_wp2_with fail
    refine (winV_no 13 97 122 w (by omega)).mono ?_
    rintro e wz ⟨rfl, hw⟩
    replace hw := hw.symm
    subst hw
    go_wp2_with fail
    refine (winV_no 13 65 90 w (by omega)).mono ?_
    rintro e wz ⟨rfl, hw⟩
    replace hw := hw.symm
    subst hw
    go_wp2_with fail
    refine (winV_no 13 48 57 w (by omega)).mono ?_
    rintro e wz ⟨rfl, hw⟩
    replace hw := hw.symm
    subst hw
    go_wp2
    go_ret
    exact ⟨rfl, rfl⟩
  · have e0 : clF 32 = 3 := by rfl
    rw [e0]
    go_enter Try.func20, Try.ntmps20
    go_wp2_with fail
    refine (winV_yes 32 0 255 w (by omega) (by omega)).mono ?_
    rintro e wz ⟨rfl, hw⟩
    replace hw := hw.symm
    subst hw
    go_wp2_with fail
    refine (winV_no 32 97 122 w (by omega)).mono ?_
    rintro e wz ⟨rfl, hw⟩
    replace hw := hw.symm
    subst hw
    go_wp2_with fail
    refine (winV_no 32 65 90 w (by omega)).mono ?_
    rintro e wz ⟨rfl, hw⟩
    replace hw := hw.symm
    subst hw
    go_wp2_with fail
    refine (winV_no 32 48 57 w (by omega)).mono ?_
    rintro e wz ⟨rfl, hw⟩
    replace hw := hw.symm
    subst hw
    go_wp2
    go_ret
    exact ⟨rfl, rfl⟩
  · have e0 : clF b = 4 := by unfold clF; rw [if_neg (by omega), if_neg (by omega), if_neg (by omega), if_neg (by omega)]
    rw [e0]
    go_enter Try.func20, Try.ntmps20
    have d0 : decide ((128 : Int) ≤ b) = false := decide_eq_false (by omega)
    have d1 : (b == (9 : Int)) = false := beq_false_of_ne (by omega)
    have d2 : (b == (10 : Int)) = false := beq_false_of_ne (by omega)
    have d3 : (b == (13 : Int)) = false := beq_false_of_ne (by omega)
    have d4 : (b == (32 : Int)) = false := beq_false_of_ne (by omega)
    go_wp2_with fail
    refine (winV_yes b 0 255 w (by omega) (by omega)).mono ?_
    rintro e wz ⟨rfl, hw⟩
    replace hw := hw.symm
    subst hw
    go_wp2_with fail
    refine (winV_no b 97 122 w (by omega)).mono ?_
    rintro e wz ⟨rfl, hw⟩
    replace hw := hw.symm
    subst hw
    go_wp2_with fail
    refine (winV_no b 65 90 w (by omega)).mono ?_
    rintro e wz ⟨rfl, hw⟩
    replace hw := hw.symm
    subst hw
    go_wp2_with fail
    refine (winV_no b 48 57 w (by omega)).mono ?_
    rintro e wz ⟨rfl, hw⟩
    replace hw := hw.symm
    subst hw
    go_wp2
    go_ret
    exact ⟨rfl, rfl⟩
  · have e0 : clF b = 4 := by unfold clF; rw [if_neg (by omega), if_neg (by omega), if_neg (by omega), if_neg (by omega)]
    rw [e0]
    go_enter Try.func20, Try.ntmps20
    have d0 : decide ((128 : Int) ≤ b) = false := decide_eq_false (by omega)
    have d1 : (b == (9 : Int)) = false := beq_false_of_ne (by omega)
    have d2 : (b == (10 : Int)) = false := beq_false_of_ne (by omega)
    have d3 : (b == (13 : Int)) = false := beq_false_of_ne (by omega)
    have d4 : (b == (32 : Int)) = false := beq_false_of_ne (by omega)
    go_wp2_with fail
    refine (winV_yes b 0 255 w (by omega) (by omega)).mono ?_
    rintro e wz ⟨rfl, hw⟩
    replace hw := hw.symm
    subst hw
    go_wp2_with fail
    refine (winV_no b 97 122 w (by omega)).mono ?_
    rintro e wz ⟨rfl, hw⟩
    replace hw := hw.symm
    subst hw
    go_wp2_with fail
    refine (winV_no b 65 90 w (by omega)).mono ?_
    rintro e wz ⟨rfl, hw⟩
    replace hw := hw.symm
    subst hw
    go_wp2_with fail
    refine (winV_no b 48 57 w (by omega)).mono ?_
    rintro e wz ⟨rfl, hw⟩
    replace hw := hw.symm
    subst hw
    go_wp2
    go_ret
    exact ⟨rfl, rfl⟩
  · have e0 : clF b = 4 := by unfold clF; rw [if_neg (by omega), if_neg (by omega), if_neg (by omega), if_neg (by omega)]
    rw [e0]
    go_enter Try.func20, Try.ntmps20
    have d0 : decide ((128 : Int) ≤ b) = false := decide_eq_false (by omega)
    have d1 : (b == (9 : Int)) = false := beq_false_of_ne (by omega)
    have d2 : (b == (10 : Int)) = false := beq_false_of_ne (by omega)
    have d3 : (b == (13 : Int)) = false := beq_false_of_ne (by omega)
    have d4 : (b == (32 : Int)) = false := beq_false_of_ne (by omega)
    go_wp2_with fail
    refine (winV_yes b 0 255 w (by omega) (by omega)).mono ?_
    rintro e wz ⟨rfl, hw⟩
    replace hw := hw.symm
    subst hw
    go_wp2_with fail
    refine (winV_no b 97 122 w (by omega)).mono ?_
    rintro e wz ⟨rfl, hw⟩
    replace hw := hw.symm
    subst hw
    go_wp2_with fail
    refine (winV_no b 65 90 w (by omega)).mono ?_
    rintro e wz ⟨rfl, hw⟩
    replace hw := hw.symm
    subst hw
    go_wp2_with fail
    refine (winV_no b 48 57 w (by omega)).mono ?_
    rintro e wz ⟨rfl, hw⟩
    replace hw := hw.symm
    subst hw
    go_wp2
    go_ret
    exact ⟨rfl, rfl⟩
  · have e0 : clF b = 4 := by unfold clF; rw [if_neg (by omega), if_neg (by omega), if_neg (by omega), if_neg (by omega)]
    rw [e0]
    go_enter Try.func20, Try.ntmps20
    have d0 : decide ((128 : Int) ≤ b) = false := decide_eq_false (by omega)
    have d1 : (b == (9 : Int)) = false := beq_false_of_ne (by omega)
    have d2 : (b == (10 : Int)) = false := beq_false_of_ne (by omega)
    have d3 : (b == (13 : Int)) = false := beq_false_of_ne (by omega)
    have d4 : (b == (32 : Int)) = false := beq_false_of_ne (by omega)
    go_wp2_with fail
    refine (winV_yes b 0 255 w (by omega) (by omega)).mono ?_
    rintro e wz ⟨rfl, hw⟩
    replace hw := hw.symm
    subst hw
    go_wp2_with fail
    refine (winV_no b 97 122 w (by omega)).mono ?_
    rintro e wz ⟨rfl, hw⟩
    replace hw := hw.symm
    subst hw
    go_wp2_with fail
    refine (winV_no b 65 90 w (by omega)).mono ?_
    rintro e wz ⟨rfl, hw⟩
    replace hw := hw.symm
    subst hw
    go_wp2_with fail
    refine (winV_no b 48 57 w (by omega)).mono ?_
    rintro e wz ⟨rfl, hw⟩
    replace hw := hw.symm
    subst hw
    go_wp2
    go_ret
    exact ⟨rfl, rfl⟩
  · have e0 : clF b = 4 := by unfold clF; rw [if_neg (by omega), if_neg (by omega), if_neg (by omega), if_neg (by omega)]
    rw [e0]
    go_enter Try.func20, Try.ntmps20
    have d0 : decide ((128 : Int) ≤ b) = false := decide_eq_false (by omega)
    have d1 : (b == (9 : Int)) = false := beq_false_of_ne (by omega)
    have d2 : (b == (10 : Int)) = false := beq_false_of_ne (by omega)
    have d3 : (b == (13 : Int)) = false := beq_false_of_ne (by omega)
    have d4 : (b == (32 : Int)) = false := beq_false_of_ne (by omega)
    go_wp2_with fail
    refine (winV_yes b 0 255 w (by omega) (by omega)).mono ?_
    rintro e wz ⟨rfl, hw⟩
    replace hw := hw.symm
    subst hw
    go_wp2_with fail
    refine (winV_no b 97 122 w (by omega)).mono ?_
    rintro e wz ⟨rfl, hw⟩
    replace hw := hw.symm
    subst hw
    go_wp2_with fail
    refine (winV_no b 65 90 w (by omega)).mono ?_
    rintro e wz ⟨rfl, hw⟩
    replace hw := hw.symm
    subst hw
    go_wp2_with fail
    refine (winV_no b 48 57 w (by omega)).mono ?_
    rintro e wz ⟨rfl, hw⟩
    replace hw := hw.symm
    subst hw
    go_wp2
    go_ret
    exact ⟨rfl, rfl⟩
  · have e0 : clF b = 4 := by unfold clF; rw [if_neg (by omega), if_neg (by omega), if_neg (by omega), if_neg (by omega)]
    rw [e0]
    go_enter Try.func20, Try.ntmps20
    have d0 : decide ((128 : Int) ≤ b) = false := decide_eq_false (by omega)
    have d1 : (b == (9 : Int)) = false := beq_false_of_ne (by omega)
    have d2 : (b == (10 : Int)) = false := beq_false_of_ne (by omega)
    have d3 : (b == (13 : Int)) = false := beq_false_of_ne (by omega)
    have d4 : (b == (32 : Int)) = false := beq_false_of_ne (by omega)
    go_wp2_with fail
    refine (winV_yes b 0 255 w (by omega) (by omega)).mono ?_
    rintro e wz ⟨rfl, hw⟩
    replace hw := hw.symm
    subst hw
    go_wp2_with fail
    refine (winV_no b 97 122 w (by omega)).mono ?_
    rintro e wz ⟨rfl, hw⟩
    replace hw := hw.symm
    subst hw
    go_wp2_with fail
    refine (winV_no b 65 90 w (by omega)).mono ?_
    rintro e wz ⟨rfl, hw⟩
    replace hw := hw.symm
    subst hw
    go_wp2_with fail
    refine (winV_no b 48 57 w (by omega)).mono ?_
    rintro e wz ⟨rfl, hw⟩
    replace hw := hw.symm
    subst hw
    go_wp2
    go_ret
    exact ⟨rfl, rfl⟩
  · have e0 : clF b = 4 := by unfold clF; rw [if_neg (by omega), if_neg (by omega), if_neg (by omega), if_neg (by omega)]
    rw [e0]
    go_enter Try.func20, Try.ntmps20
    have d0 : decide ((128 : Int) ≤ b) = false := decide_eq_false (by omega)
    have d1 : (b == (9 : Int)) = false := beq_false_of_ne (by omega)
    have d2 : (b == (10 : Int)) = false := beq_false_of_ne (by omega)
    have d3 : (b == (13 : Int)) = false := beq_false_of_ne (by omega)
    have d4 : (b == (32 : Int)) = false := beq_false_of_ne (by omega)
    go_wp2_with fail
    refine (winV_yes b 0 255 w (by omega) (by omega)).mono ?_
    rintro e wz ⟨rfl, hw⟩
    replace hw := hw.symm
    subst hw
    go_wp2_with fail
    refine (winV_no b 97 122 w (by omega)).mono ?_
    rintro e wz ⟨rfl, hw⟩
    replace hw := hw.symm
    subst hw
    go_wp2_with fail
    refine (winV_no b 65 90 w (by omega)).mono ?_
    rintro e wz ⟨rfl, hw⟩
    replace hw := hw.symm
    subst hw
    go_wp2_with fail
    refine (winV_no b 48 57 w (by omega)).mono ?_
    rintro e wz ⟨rfl, hw⟩
    replace hw := hw.symm
    subst hw
    go_wp2
    go_ret
    exact ⟨rfl, rfl⟩

end Go.Proofs.Ytdggkcohidijcaa
