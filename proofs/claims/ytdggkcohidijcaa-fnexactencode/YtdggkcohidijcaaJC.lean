/- Class of both sides. -/
import Derived.Test.YtdggkcohidijcaaVcWalk
import Derived.Test.YtdggkcohidijcaaC9Math
import Derived.ScopeJumps
import Derived.WalkMore
import Derived.Test.YtdggkcohidijcaaJT
namespace Go.Proofs.Ytdggkcohidijcaa
open Go.RowKit
set_option linter.unusedVariables false
set_option linter.unusedSimpArgs false

set_option maxRecDepth 20000 in
set_option maxHeartbeats 4000000 in
theorem specClass_c (b : Int) (w : World) : Calls Try.prog 19 #[.int .i64 b] w fun e w' => e = .returned (.int .i64 (clF b)) ∧ w' = w := by
  by_cases h : 0 ≤ b ∧ b ≤ 255
  rotate_left
  · have e0 : clF b = 0 := by unfold clF; rw [if_pos (by omega)]
    rw [e0]
    go_enter Try.func19, Try.ntmps19
    go_wp2_with fail
    refine (sinV_no b 0 255 w h).mono ?_
    rintro e wz ⟨rfl, hw⟩
    replace hw := hw.symm
    subst hw
    go_wp2
    go_ret
    exact ⟨rfl, rfl⟩
  obtain ⟨h0, h255⟩ := h
  have hc : (97 ≤ b ∧ b ≤ 122) ∨ (65 ≤ b ∧ b ≤ 90) ∨ (128 ≤ b ∧ b ≤ 255) ∨ (48 ≤ b ∧ b ≤ 57) ∨ b = 9 ∨ b = 10 ∨ b = 13 ∨ b = 32 ∨ (91 ≤ b ∧ b ≤ 96) ∨ (123 ≤ b ∧ b ≤ 127) ∨ (58 ≤ b ∧ b ≤ 64) ∨ (33 ≤ b ∧ b ≤ 47) ∨ (14 ≤ b ∧ b ≤ 31) ∨ (11 ≤ b ∧ b ≤ 12) ∨ (0 ≤ b ∧ b ≤ 8) := by omega
  rcases hc with ⟨h1, h2⟩ | ⟨h1, h2⟩ | ⟨h1, h2⟩ | ⟨h1, h2⟩ | rfl | rfl | rfl | rfl | ⟨h1, h2⟩ | ⟨h1, h2⟩ | ⟨h1, h2⟩ | ⟨h1, h2⟩ | ⟨h1, h2⟩ | ⟨h1, h2⟩ | ⟨h1, h2⟩
  · have e0 : clF b = 1 := by unfold clF; rw [if_neg (by omega), if_pos (by omega)]
    rw [e0]
    go_enter Try.func19, Try.ntmps19
    have d0 : decide ((97 : Int) ≤ b) = true := decide_eq_true (by omega)
    have d1 : decide ((65 : Int) ≤ b) = true := decide_eq_true (by omega)
    have d2 : decide ((128 : Int) ≤ b) = false := decide_eq_false (by omega)
    have d3 : decide ((48 : Int) ≤ b) = true := decide_eq_true (by omega)
    have d4 : decide (b ≤ (122 : Int)) = true := decide_eq_true (by omega)
    have d5 : decide (b ≤ (90 : Int)) = false := decide_eq_false (by omega)
    have d6 : decide (b ≤ (57 : Int)) = false := decide_eq_false (by omega)
    have d7 : (b == (9 : Int)) = false := beq_false_of_ne (by omega)
    have d8 : (b == (10 : Int)) = false := beq_false_of_ne (by omega)
    have d9 : (b == (13 : Int)) = false := beq_false_of_ne (by omega)
    have d10 : (b == (32 : Int)) = false := beq_false_of_ne (by omega)
    go_wp2_with fail
    refine (sinV_yes b 0 255 w (by omega) (by omega)).mono ?_
    rintro e wz ⟨rfl, hw⟩
    replace hw := hw.symm
    subst hw
    go_wp2
    go_ret
    exact ⟨rfl, rfl⟩
  · have e0 : clF b = 1 := by unfold clF; rw [if_neg (by omega), if_pos (by omega)]
    rw [e0]
    go_enter Try.func19, Try.ntmps19
    have d0 : decide ((97 : Int) ≤ b) = false := decide_eq_false (by omega)
    have d1 : decide ((65 : Int) ≤ b) = true := decide_eq_true (by omega)
    have d2 : decide ((128 : Int) ≤ b) = false := decide_eq_false (by omega)
    have d3 : decide ((48 : Int) ≤ b) = true := decide_eq_true (by omega)
    have d4 : decide (b ≤ (122 : Int)) = true := decide_eq_true (by omega)
    have d5 : decide (b ≤ (90 : Int)) = true := decide_eq_true (by omega)
    have d6 : decide (b ≤ (57 : Int)) = false := decide_eq_false (by omega)
    have d7 : (b == (9 : Int)) = false := beq_false_of_ne (by omega)
    have d8 : (b == (10 : Int)) = false := beq_false_of_ne (by omega)
    have d9 : (b == (13 : Int)) = false := beq_false_of_ne (by omega)
    have d10 : (b == (32 : Int)) = false := beq_false_of_ne (by omega)
    go_wp2_with fail
    refine (sinV_yes b 0 255 w (by omega) (by omega)).mono ?_
    rintro e wz ⟨rfl, hw⟩
    replace hw := hw.symm
    subst hw
    go_wp2
    go_ret
    exact ⟨rfl, rfl⟩
  · have e0 : clF b = 1 := by unfold clF; rw [if_neg (by omega), if_pos (by omega)]
    rw [e0]
    go_enter Try.func19, Try.ntmps19
    have d0 : decide ((97 : Int) ≤ b) = true := decide_eq_true (by omega)
    have d1 : decide ((65 : Int) ≤ b) = true := decide_eq_true (by omega)
    have d2 : decide ((128 : Int) ≤ b) = true := decide_eq_true (by omega)
    have d3 : decide ((48 : Int) ≤ b) = true := decide_eq_true (by omega)
    have d4 : decide (b ≤ (122 : Int)) = false := decide_eq_false (by omega)
    have d5 : decide (b ≤ (90 : Int)) = false := decide_eq_false (by omega)
    have d6 : decide (b ≤ (57 : Int)) = false := decide_eq_false (by omega)
    have d7 : (b == (9 : Int)) = false := beq_false_of_ne (by omega)
    have d8 : (b == (10 : Int)) = false := beq_false_of_ne (by omega)
    have d9 : (b == (13 : Int)) = false := beq_false_of_ne (by omega)
    have d10 : (b == (32 : Int)) = false := beq_false_of_ne (by omega)
    go_wp2_with fail
    refine (sinV_yes b 0 255 w (by omega) (by omega)).mono ?_
    rintro e wz ⟨rfl, hw⟩
    replace hw := hw.symm
    subst hw
    go_wp2
    go_ret
    exact ⟨rfl, rfl⟩
  · have e0 : clF b = 2 := by unfold clF; rw [if_neg (by omega), if_neg (by omega), if_pos (by omega)]
    rw [e0]
    go_enter Try.func19, Try.ntmps19
    have d0 : decide ((97 : Int) ≤ b) = false := decide_eq_false (by omega)
    have d1 : decide ((65 : Int) ≤ b) = false := decide_eq_false (by omega)
    have d2 : decide ((128 : Int) ≤ b) = false := decide_eq_false (by omega)
    have d3 : decide ((48 : Int) ≤ b) = true := decide_eq_true (by omega)
    have d4 : decide (b ≤ (122 : Int)) = true := decide_eq_true (by omega)
    have d5 : decide (b ≤ (90 : Int)) = true := decide_eq_true (by omega)
    have d6 : decide (b ≤ (57 : Int)) = true := decide_eq_true (by omega)
    have d7 : (b == (9 : Int)) = false := beq_false_of_ne (by omega)
    have d8 : (b == (10 : Int)) = false := beq_false_of_ne (by omega)
    have d9 : (b == (13 : Int)) = false := beq_false_of_ne (by omega)
    have d10 : (b == (32 : Int)) = false := beq_false_of_ne (by omega)
    go_wp2_with fail
    refine (sinV_yes b 0 255 w (by omega) (by omega)).mono ?_
    rintro e wz ⟨rfl, hw⟩
    replace hw := hw.symm
    subst hw
    go_wp2
    go_ret
    exact ⟨rfl, rfl⟩
  · have e0 : clF 9 = 3 := by rfl
    rw [e0]
    go_enter Try.func19, Try.ntmps19
    go_wp2_with fail
    refine (sinV_yes 9 0 255 w (by omega) (by omega)).mono ?_
    rintro e wz ⟨rfl, hw⟩
    replace hw := hw.symm
    subst hw
    go_wp2
    go_ret
    exact ⟨rfl, rfl⟩
  · have e0 : clF 10 = 3 := by rfl
    rw [e0]
    go_enter Try.func19, Try.ntmps19
    go_wp2_with fail
    refine (sinV_yes 10 0 255 w (by omega) (by omega)).mono ?_
    rintro e wz ⟨rfl, hw⟩
    replace hw := hw.symm
    subst hw
    go_wp2
    go_ret
    exact ⟨rfl, rfl⟩
  · have e0 : clF 13 = 3 := by rfl
    rw [e0]
    go_enter Try.func19, Try.ntmps19
    go_wp2_with fail
    refine (sinV_yes 13 0 255 w (by omega) (by omega)).mono ?_
    rintro e wz ⟨rfl, hw⟩
    replace hw := hw.symm
    subst hw
    go_wp2
    go_ret
    exact ⟨rfl, rfl⟩
  · have e0 : clF 32 = 3 := by rfl
    rw [e0]
    go_enter Try.func19, Try.ntmps19
    go_wp2_with fail
    refine (sinV_yes 32 0 255 w (by omega) (by omega)).mono ?_
    rintro e wz ⟨rfl, hw⟩
    replace hw := hw.symm
    subst hw
    go_wp2
    go_ret
    exact ⟨rfl, rfl⟩
  · have e0 : clF b = 4 := by unfold clF; rw [if_neg (by omega), if_neg (by omega), if_neg (by omega), if_neg (by omega)]
    rw [e0]
    go_enter Try.func19, Try.ntmps19
    have d0 : decide ((97 : Int) ≤ b) = false := decide_eq_false (by omega)
    have d1 : decide ((65 : Int) ≤ b) = true := decide_eq_true (by omega)
    have d2 : decide ((128 : Int) ≤ b) = false := decide_eq_false (by omega)
    have d3 : decide ((48 : Int) ≤ b) = true := decide_eq_true (by omega)
    have d4 : decide (b ≤ (122 : Int)) = true := decide_eq_true (by omega)
    have d5 : decide (b ≤ (90 : Int)) = false := decide_eq_false (by omega)
    have d6 : decide (b ≤ (57 : Int)) = false := decide_eq_false (by omega)
    have d7 : (b == (9 : Int)) = false := beq_false_of_ne (by omega)
    have d8 : (b == (10 : Int)) = false := beq_false_of_ne (by omega)
    have d9 : (b == (13 : Int)) = false := beq_false_of_ne (by omega)
    have d10 : (b == (32 : Int)) = false := beq_false_of_ne (by omega)
    go_wp2_with fail
    refine (sinV_yes b 0 255 w (by omega) (by omega)).mono ?_
    rintro e wz ⟨rfl, hw⟩
    replace hw := hw.symm
    subst hw
    go_wp2
    go_ret
    exact ⟨rfl, rfl⟩
  · have e0 : clF b = 4 := by unfold clF; rw [if_neg (by omega), if_neg (by omega), if_neg (by omega), if_neg (by omega)]
    rw [e0]
    go_enter Try.func19, Try.ntmps19
    have d0 : decide ((97 : Int) ≤ b) = true := decide_eq_true (by omega)
    have d1 : decide ((65 : Int) ≤ b) = true := decide_eq_true (by omega)
    have d2 : decide ((128 : Int) ≤ b) = false := decide_eq_false (by omega)
    have d3 : decide ((48 : Int) ≤ b) = true := decide_eq_true (by omega)
    have d4 : decide (b ≤ (122 : Int)) = false := decide_eq_false (by omega)
    have d5 : decide (b ≤ (90 : Int)) = false := decide_eq_false (by omega)
    have d6 : decide (b ≤ (57 : Int)) = false := decide_eq_false (by omega)
    have d7 : (b == (9 : Int)) = false := beq_false_of_ne (by omega)
    have d8 : (b == (10 : Int)) = false := beq_false_of_ne (by omega)
    have d9 : (b == (13 : Int)) = false := beq_false_of_ne (by omega)
    have d10 : (b == (32 : Int)) = false := beq_false_of_ne (by omega)
    go_wp2_with fail
    refine (sinV_yes b 0 255 w (by omega) (by omega)).mono ?_
    rintro e wz ⟨rfl, hw⟩
    replace hw := hw.symm
    subst hw
    go_wp2
    go_ret
    exact ⟨rfl, rfl⟩
  · have e0 : clF b = 4 := by unfold clF; rw [if_neg (by omega), if_neg (by omega), if_neg (by omega), if_neg (by omega)]
    rw [e0]
    go_enter Try.func19, Try.ntmps19
    have d0 : decide ((97 : Int) ≤ b) = false := decide_eq_false (by omega)
    have d1 : decide ((65 : Int) ≤ b) = false := decide_eq_false (by omega)
    have d2 : decide ((128 : Int) ≤ b) = false := decide_eq_false (by omega)
    have d3 : decide ((48 : Int) ≤ b) = true := decide_eq_true (by omega)
    have d4 : decide (b ≤ (122 : Int)) = true := decide_eq_true (by omega)
    have d5 : decide (b ≤ (90 : Int)) = true := decide_eq_true (by omega)
    have d6 : decide (b ≤ (57 : Int)) = false := decide_eq_false (by omega)
    have d7 : (b == (9 : Int)) = false := beq_false_of_ne (by omega)
    have d8 : (b == (10 : Int)) = false := beq_false_of_ne (by omega)
    have d9 : (b == (13 : Int)) = false := beq_false_of_ne (by omega)
    have d10 : (b == (32 : Int)) = false := beq_false_of_ne (by omega)
    go_wp2_with fail
    refine (sinV_yes b 0 255 w (by omega) (by omega)).mono ?_
    rintro e wz ⟨rfl, hw⟩
    replace hw := hw.symm
    subst hw
    go_wp2
    go_ret
    exact ⟨rfl, rfl⟩
  · have e0 : clF b = 4 := by unfold clF; rw [if_neg (by omega), if_neg (by omega), if_neg (by omega), if_neg (by omega)]
    rw [e0]
    go_enter Try.func19, Try.ntmps19
    have d0 : decide ((97 : Int) ≤ b) = false := decide_eq_false (by omega)
    have d1 : decide ((65 : Int) ≤ b) = false := decide_eq_false (by omega)
    have d2 : decide ((128 : Int) ≤ b) = false := decide_eq_false (by omega)
    have d3 : decide ((48 : Int) ≤ b) = false := decide_eq_false (by omega)
    have d4 : decide (b ≤ (122 : Int)) = true := decide_eq_true (by omega)
    have d5 : decide (b ≤ (90 : Int)) = true := decide_eq_true (by omega)
    have d6 : decide (b ≤ (57 : Int)) = true := decide_eq_true (by omega)
    have d7 : (b == (9 : Int)) = false := beq_false_of_ne (by omega)
    have d8 : (b == (10 : Int)) = false := beq_false_of_ne (by omega)
    have d9 : (b == (13 : Int)) = false := beq_false_of_ne (by omega)
    have d10 : (b == (32 : Int)) = false := beq_false_of_ne (by omega)
    go_wp2_with fail
    refine (sinV_yes b 0 255 w (by omega) (by omega)).mono ?_
    rintro e wz ⟨rfl, hw⟩
    replace hw := hw.symm
    subst hw
    go_wp2
    go_ret
    exact ⟨rfl, rfl⟩
  · have e0 : clF b = 4 := by unfold clF; rw [if_neg (by omega), if_neg (by omega), if_neg (by omega), if_neg (by omega)]
    rw [e0]
    go_enter Try.func19, Try.ntmps19
    have d0 : decide ((97 : Int) ≤ b) = false := decide_eq_false (by omega)
    have d1 : decide ((65 : Int) ≤ b) = false := decide_eq_false (by omega)
    have d2 : decide ((128 : Int) ≤ b) = false := decide_eq_false (by omega)
    have d3 : decide ((48 : Int) ≤ b) = false := decide_eq_false (by omega)
    have d4 : decide (b ≤ (122 : Int)) = true := decide_eq_true (by omega)
    have d5 : decide (b ≤ (90 : Int)) = true := decide_eq_true (by omega)
    have d6 : decide (b ≤ (57 : Int)) = true := decide_eq_true (by omega)
    have d7 : (b == (9 : Int)) = false := beq_false_of_ne (by omega)
    have d8 : (b == (10 : Int)) = false := beq_false_of_ne (by omega)
    have d9 : (b == (13 : Int)) = false := beq_false_of_ne (by omega)
    have d10 : (b == (32 : Int)) = false := beq_false_of_ne (by omega)
    go_wp2_with fail
    refine (sinV_yes b 0 255 w (by omega) (by omega)).mono ?_
    rintro e wz ⟨rfl, hw⟩
    replace hw := hw.symm
    subst hw
    go_wp2
    go_ret
    exact ⟨rfl, rfl⟩
  · have e0 : clF b = 4 := by unfold clF; rw [if_neg (by omega), if_neg (by omega), if_neg (by omega), if_neg (by omega)]
    rw [e0]
    go_enter Try.func19, Try.ntmps19
    have d0 : decide ((97 : Int) ≤ b) = false := decide_eq_false (by omega)
    have d1 : decide ((65 : Int) ≤ b) = false := decide_eq_false (by omega)
    have d2 : decide ((128 : Int) ≤ b) = false := decide_eq_false (by omega)
    have d3 : decide ((48 : Int) ≤ b) = false := decide_eq_false (by omega)
    have d4 : decide (b ≤ (122 : Int)) = true := decide_eq_true (by omega)
    have d5 : decide (b ≤ (90 : Int)) = true := decide_eq_true (by omega)
    have d6 : decide (b ≤ (57 : Int)) = true := decide_eq_true (by omega)
    have d7 : (b == (9 : Int)) = false := beq_false_of_ne (by omega)
    have d8 : (b == (10 : Int)) = false := beq_false_of_ne (by omega)
    have d9 : (b == (13 : Int)) = false := beq_false_of_ne (by omega)
    have d10 : (b == (32 : Int)) = false := beq_false_of_ne (by omega)
    go_wp2_with fail
    refine (sinV_yes b 0 255 w (by omega) (by omega)).mono ?_
    rintro e wz ⟨rfl, hw⟩
    replace hw := hw.symm
    subst hw
    go_wp2
    go_ret
    exact ⟨rfl, rfl⟩
  · have e0 : clF b = 4 := by unfold clF; rw [if_neg (by omega), if_neg (by omega), if_neg (by omega), if_neg (by omega)]
    rw [e0]
    go_enter Try.func19, Try.ntmps19
    have d0 : decide ((97 : Int) ≤ b) = false := decide_eq_false (by omega)
    have d1 : decide ((65 : Int) ≤ b) = false := decide_eq_false (by omega)
    have d2 : decide ((128 : Int) ≤ b) = false := decide_eq_false (by omega)
    have d3 : decide ((48 : Int) ≤ b) = false := decide_eq_false (by omega)
    have d4 : decide (b ≤ (122 : Int)) = true := decide_eq_true (by omega)
    have d5 : decide (b ≤ (90 : Int)) = true := decide_eq_true (by omega)
    have d6 : decide (b ≤ (57 : Int)) = true := decide_eq_true (by omega)
    have d7 : (b == (9 : Int)) = false := beq_false_of_ne (by omega)
    have d8 : (b == (10 : Int)) = false := beq_false_of_ne (by omega)
    have d9 : (b == (13 : Int)) = false := beq_false_of_ne (by omega)
    have d10 : (b == (32 : Int)) = false := beq_false_of_ne (by omega)
    go_wp2_with fail
    refine (sinV_yes b 0 255 w (by omega) (by omega)).mono ?_
    rintro e wz ⟨rfl, hw⟩
    replace hw := hw.symm
    subst hw
    go_wp2
    go_ret
    exact ⟨rfl, rfl⟩

set_option maxRecDepth 20000 in
set_option maxHeartbeats 4000000 in
theorem implClass_c (b : Int) (w : World) : Calls Try.prog 20 #[.int .i64 b] w fun e w' => e = .returned (.int .i64 (clF b)) ∧ w' = w := by
  by_cases h : 0 ≤ b ∧ b ≤ 255
  rotate_left
  · have e0 : clF b = 0 := by unfold clF; rw [if_pos (by omega)]
    rw [e0]
    go_enter Try.func20, Try.ntmps20
    go_wp2_with fail
    refine (winV_no b 0 255 w h).mono ?_
    rintro e wz ⟨rfl, hw⟩
    replace hw := hw.symm
    subst hw
    go_wp2
    go_ret
    exact ⟨rfl, rfl⟩
  obtain ⟨h0, h255⟩ := h
  have hc : (97 ≤ b ∧ b ≤ 122) ∨ (65 ≤ b ∧ b ≤ 90) ∨ (128 ≤ b ∧ b ≤ 255) ∨ (48 ≤ b ∧ b ≤ 57) ∨ b = 9 ∨ b = 10 ∨ b = 13 ∨ b = 32 ∨ (91 ≤ b ∧ b ≤ 96) ∨ (123 ≤ b ∧ b ≤ 127) ∨ (58 ≤ b ∧ b ≤ 64) ∨ (33 ≤ b ∧ b ≤ 47) ∨ (14 ≤ b ∧ b ≤ 31) ∨ (11 ≤ b ∧ b ≤ 12) ∨ (0 ≤ b ∧ b ≤ 8) := by omega
  rcases hc with ⟨h1, h2⟩ | ⟨h1, h2⟩ | ⟨h1, h2⟩ | ⟨h1, h2⟩ | rfl | rfl | rfl | rfl | ⟨h1, h2⟩ | ⟨h1, h2⟩ | ⟨h1, h2⟩ | ⟨h1, h2⟩ | ⟨h1, h2⟩ | ⟨h1, h2⟩ | ⟨h1, h2⟩
  · have e0 : clF b = 1 := by unfold clF; rw [if_neg (by omega), if_pos (by omega)]
    rw [e0]
    go_enter Try.func20, Try.ntmps20
    have d0 : decide ((128 : Int) ≤ b) = false := decide_eq_false (by omega)
    have d1 : (b == (9 : Int)) = false := beq_false_of_ne (by omega)
    have d2 : (b == (10 : Int)) = false := beq_false_of_ne (by omega)
    have d3 : (b == (13 : Int)) = false := beq_false_of_ne (by omega)
    have d4 : (b == (32 : Int)) = false := beq_false_of_ne (by omega)
    go_wp2_with fail
    refine (winV_yes b 0 255 w (by omega) (by omega)).mono ?_
    rintro e wz ⟨rfl, hw⟩
    replace hw := hw.symm
    subst hw
    go_wp2_with fail
    refine (winV_yes b 97 122 w (by omega) (by omega)).mono ?_
    rintro e wz ⟨rfl, hw⟩
    replace hw := hw.symm
    subst hw
    go_wp2
    go_ret
    exact ⟨rfl, rfl⟩
  · have e0 : clF b = 1 := by unfold clF; rw [if_neg (by omega), if_pos (by omega)]
    rw [e0]
    go_enter Try.func20, Try.ntmps20
    have d0 : decide ((128 : Int) ≤ b) = false := decide_eq_false (by omega)
    have d1 : (b == (9 : Int)) = false := beq_false_of_ne (by omega)
    have d2 : (b == (10 : Int)) = false := beq_false_of_ne (by omega)
    have d3 : (b == (13 : Int)) = false := beq_false_of_ne (by omega)
    have d4 : (b == (32 : Int)) = false := beq_false_of_ne (by omega)
    go_wp2_with fail
    refine (winV_yes b 0 255 w (by omega) (by omega)).mono ?_
    rintro e wz ⟨rfl, hw⟩
    replace hw := hw.symm
    subst hw
    go_wp2_with fail
    refine (winV_no b 97 122 w (by omega)).mono ?_
    rintro e wz ⟨rfl, hw⟩
    replace hw := hw.symm
    subst hw
    go_wp2_with fail
    refine (winV_yes b 65 90 w (by omega) (by omega)).mono ?_
    rintro e wz ⟨rfl, hw⟩
    replace hw := hw.symm
    subst hw
    go_wp2
    go_ret
    exact ⟨rfl, rfl⟩
  · have e0 : clF b = 1 := by unfold clF; rw [if_neg (by omega), if_pos (by omega)]
    rw [e0]
    go_enter Try.func20, Try.ntmps20
    have d0 : decide ((128 : Int) ≤ b) = true := decide_eq_true (by omega)
    have d1 : (b == (9 : Int)) = false := beq_false_of_ne (by omega)
    have d2 : (b == (10 : Int)) = false := beq_false_of_ne (by omega)
    have d3 : (b == (13 : Int)) = false := beq_false_of_ne (by omega)
    have d4 : (b == (32 : Int)) = false := beq_false_of_ne (by omega)
    go_wp2_with fail
    refine (winV_yes b 0 255 w (by omega) (by omega)).mono ?_
    rintro e wz ⟨rfl, hw⟩
    replace hw := hw.symm
    subst hw
    go_wp2_with fail
    refine (winV_no b 97 122 w (by omega)).mono ?_
    rintro e wz ⟨rfl, hw⟩
    replace hw := hw.symm
    subst hw
    go_wp2_with fail
    refine (winV_no b 65 90 w (by omega)).mono ?_
    rintro e wz ⟨rfl, hw⟩
    replace hw := hw.symm
    subst hw
    go_wp2
    go_ret
    exact ⟨rfl, rfl⟩
  · have e0 : clF b = 2 := by unfold clF; rw [if_neg (by omega), if_neg (by omega), if_pos (by omega)]
    rw [e0]
    go_enter Try.func20, Try.ntmps20
    have d0 : decide ((128 : Int) ≤ b) = false := decide_eq_false (by omega)
    have d1 : (b == (9 : Int)) = false := beq_false_of_ne (by omega)
    have d2 : (b == (10 : Int)) = false := beq_false_of_ne (by omega)
    have d3 : (b == (13 : Int)) = false := beq_false_of_ne (by omega)
    have d4 : (b == (32 : Int)) = false := beq_false_of_ne (by omega)
    go_wp2_with fail
    refine (winV_yes b 0 255 w (by omega) (by omega)).mono ?_
    rintro e wz ⟨rfl, hw⟩
    replace hw := hw.symm
    subst hw
    go_wp2_with fail
    refine (winV_no b 97 122 w (by omega)).mono ?_
    rintro e wz ⟨rfl, hw⟩
    replace hw := hw.symm
    subst hw
    go_wp2_with fail
    refine (winV_no b 65 90 w (by omega)).mono ?_
    rintro e wz ⟨rfl, hw⟩
    replace hw := hw.symm
    subst hw
    go_wp2_with fail
    refine (winV_yes b 48 57 w (by omega) (by omega)).mono ?_
    rintro e wz ⟨rfl, hw⟩
    replace hw := hw.symm
    subst hw
    go_wp2
    go_ret
    exact ⟨rfl, rfl⟩
  · have e0 : clF 9 = 3 := by rfl
    rw [e0]
    go_enter Try.func20, Try.ntmps20
    go_wp2_with fail
    refine (winV_yes 9 0 255 w (by omega) (by omega)).mono ?_
    rintro e wz ⟨rfl, hw⟩
    replace hw := hw.symm
    subst hw
    go_wp2_with fail
    refine (winV_no 9 97 122 w (by omega)).mono ?_
    rintro e wz ⟨rfl, hw⟩
    replace hw := hw.symm
    subst hw
    go_wp2_with fail
    refine (winV_no 9 65 90 w (by omega)).mono ?_
    rintro e wz ⟨rfl, hw⟩
    replace hw := hw.symm
    subst hw
    go_wp2_with fail
    refine (winV_no 9 48 57 w (by omega)).mono ?_
    rintro e wz ⟨rfl, hw⟩
    replace hw := hw.symm
    subst hw
    go_wp2
    go_ret
    exact ⟨rfl, rfl⟩
  · have e0 : clF 10 = 3 := by rfl
    rw [e0]
    go_enter Try.func20, Try.ntmps20
    go_wp2_with fail
    refine (winV_yes 10 0 255 w (by omega) (by omega)).mono ?_
    rintro e wz ⟨rfl, hw⟩
    replace hw := hw.symm
    subst hw
    go_wp2_with fail
    refine (winV_no 10 97 122 w (by omega)).mono ?_
    rintro e wz ⟨rfl, hw⟩
    replace hw := hw.symm
    subst hw
    go_wp2_with fail
    refine (winV_no 10 65 90 w (by omega)).mono ?_
    rintro e wz ⟨rfl, hw⟩
    replace hw := hw.symm
    subst hw
    go_wp2_with fail
    refine (winV_no 10 48 57 w (by omega)).mono ?_
    rintro e wz ⟨rfl, hw⟩
    replace hw := hw.symm
    subst hw
    go_wp2
    go_ret
    exact ⟨rfl, rfl⟩
  · have e0 : clF 13 = 3 := by rfl
    rw [e0]
    go_enter Try.func20, Try.ntmps20
    go_wp2_with fail
    refine (winV_yes 13 0 255 w (by omega) (by omega)).mono ?_
    rintro e wz ⟨rfl, hw⟩
    replace hw := hw.symm
    subst hw
    go_wp2_with fail
    refine (winV_no 13 97 122 w (by omega)).mono ?_
    rintro e wz ⟨rfl, hw⟩
    replace hw := hw.symm
    subst hw
    go_wp2_with fail
    refine (winV_no 13 65 90 w (by omega)).mono ?_
    rintro e wz ⟨rfl, hw⟩
    replace hw := hw.symm
    subst hw
    go_wp2_with fail
    refine (winV_no 13 48 57 w (by omega)).mono ?_
    rintro e wz ⟨rfl, hw⟩
    replace hw := hw.symm
    subst hw
    go_wp2
    go_ret
    exact ⟨rfl, rfl⟩
  · have e0 : clF 32 = 3 := by rfl
    rw [e0]
    go_enter Try.func20, Try.ntmps20
    go_wp2_with fail
    refine (winV_yes 32 0 255 w (by omega) (by omega)).mono ?_
    rintro e wz ⟨rfl, hw⟩
    replace hw := hw.symm
    subst hw
    go_wp2_with fail
    refine (winV_no 32 97 122 w (by omega)).mono ?_
    rintro e wz ⟨rfl, hw⟩
    replace hw := hw.symm
    subst hw
    go_wp2_with fail
    refine (winV_no 32 65 90 w (by omega)).mono ?_
    rintro e wz ⟨rfl, hw⟩
    replace hw := hw.symm
    subst hw
    go_wp2_with fail
    refine (winV_no 32 48 57 w (by omega)).mono ?_
    rintro e wz ⟨rfl, hw⟩
    replace hw := hw.symm
    subst hw
    go_wp2
    go_ret
    exact ⟨rfl, rfl⟩
  · have e0 : clF b = 4 := by unfold clF; rw [if_neg (by omega), if_neg (by omega), if_neg (by omega), if_neg (by omega)]
    rw [e0]
    go_enter Try.func20, Try.ntmps20
    have d0 : decide ((128 : Int) ≤ b) = false := decide_eq_false (by omega)
    have d1 : (b == (9 : Int)) = false := beq_false_of_ne (by omega)
    have d2 : (b == (10 : Int)) = false := beq_false_of_ne (by omega)
    have d3 : (b == (13 : Int)) = false := beq_false_of_ne (by omega)
    have d4 : (b == (32 : Int)) = false := beq_false_of_ne (by omega)
    go_wp2_with fail
    refine (winV_yes b 0 255 w (by omega) (by omega)).mono ?_
    rintro e wz ⟨rfl, hw⟩
    replace hw := hw.symm
    subst hw
    go_wp2_with fail
    refine (winV_no b 97 122 w (by omega)).mono ?_
    rintro e wz ⟨rfl, hw⟩
    replace hw := hw.symm
    subst hw
    go_wp2_with fail
    refine (winV_no b 65 90 w (by omega)).mono ?_
    rintro e wz ⟨rfl, hw⟩
    replace hw := hw.symm
    subst hw
    go_wp2_with fail
    refine (winV_no b 48 57 w (by omega)).mono ?_
    rintro e wz ⟨rfl, hw⟩
    replace hw := hw.symm
    subst hw
    go_wp2
    go_ret
    exact ⟨rfl, rfl⟩
  · have e0 : clF b = 4 := by unfold clF; rw [if_neg (by omega), if_neg (by omega), if_neg (by omega), if_neg (by omega)]
    rw [e0]
    go_enter Try.func20, Try.ntmps20
    have d0 : decide ((128 : Int) ≤ b) = false := decide_eq_false (by omega)
    have d1 : (b == (9 : Int)) = false := beq_false_of_ne (by omega)
    have d2 : (b == (10 : Int)) = false := beq_false_of_ne (by omega)
    have d3 : (b == (13 : Int)) = false := beq_false_of_ne (by omega)
    have d4 : (b == (32 : Int)) = false := beq_false_of_ne (by omega)
    go_wp2_with fail
    refine (winV_yes b 0 255 w (by omega) (by omega)).mono ?_
    rintro e wz ⟨rfl, hw⟩
    replace hw := hw.symm
    subst hw
    go_wp2_with fail
    refine (winV_no b 97 122 w (by omega)).mono ?_
    rintro e wz ⟨rfl, hw⟩
    replace hw := hw.symm
    subst hw
    go_wp2_with fail
    refine (winV_no b 65 90 w (by omega)).mono ?_
    rintro e wz ⟨rfl, hw⟩
    replace hw := hw.symm
    subst hw
    go_wp2_with fail
    refine (winV_no b 48 57 w (by omega)).mono ?_
    rintro e wz ⟨rfl, hw⟩
    replace hw := hw.symm
    subst hw
    go_wp2
    go_ret
    exact ⟨rfl, rfl⟩
  · have e0 : clF b = 4 := by unfold clF; rw [if_neg (by omega), if_neg (by omega), if_neg (by omega), if_neg (by omega)]
    rw [e0]
    go_enter Try.func20, Try.ntmps20
    have d0 : decide ((128 : Int) ≤ b) = false := decide_eq_false (by omega)
    have d1 : (b == (9 : Int)) = false := beq_false_of_ne (by omega)
    have d2 : (b == (10 : Int)) = false := beq_false_of_ne (by omega)
    have d3 : (b == (13 : Int)) = false := beq_false_of_ne (by omega)
    have d4 : (b == (32 : Int)) = false := beq_false_of_ne (by omega)
    go_wp2_with fail
    refine (winV_yes b 0 255 w (by omega) (by omega)).mono ?_
    rintro e wz ⟨rfl, hw⟩
    replace hw := hw.symm
    subst hw
    go_wp2_with fail
    refine (winV_no b 97 122 w (by omega)).mono ?_
    rintro e wz ⟨rfl, hw⟩
    replace hw := hw.symm
    subst hw
    go_wp2_with fail
    refine (winV_no b 65 90 w (by omega)).mono ?_
    rintro e wz ⟨rfl, hw⟩
    replace hw := hw.symm
    subst hw
    go_wp2_with fail
    refine (winV_no b 48 57 w (by omega)).mono ?_
    rintro e wz ⟨rfl, hw⟩
    replace hw := hw.symm
    subst hw
    go_wp2
    go_ret
    exact ⟨rfl, rfl⟩
  · have e0 : clF b = 4 := by unfold clF; rw [if_neg (by omega), if_neg (by omega), if_neg (by omega), if_neg (by omega)]
    rw [e0]
    go_enter Try.func20, Try.ntmps20
    have d0 : decide ((128 : Int) ≤ b) = false := decide_eq_false (by omega)
    have d1 : (b == (9 : Int)) = false := beq_false_of_ne (by omega)
    have d2 : (b == (10 : Int)) = false := beq_false_of_ne (by omega)
    have d3 : (b == (13 : Int)) = false := beq_false_of_ne (by omega)
    have d4 : (b == (32 : Int)) = false := beq_false_of_ne (by omega)
    go_wp2_with fail
    refine (winV_yes b 0 255 w (by omega) (by omega)).mono ?_
    rintro e wz ⟨rfl, hw⟩
    replace hw := hw.symm
    subst hw
    go_wp2_with fail
    refine (winV_no b 97 122 w (by omega)).mono ?_
    rintro e wz ⟨rfl, hw⟩
    replace hw := hw.symm
    subst hw
    go_wp2_with fail
    refine (winV_no b 65 90 w (by omega)).mono ?_
    rintro e wz ⟨rfl, hw⟩
    replace hw := hw.symm
    subst hw
    go_wp2_with fail
    refine (winV_no b 48 57 w (by omega)).mono ?_
    rintro e wz ⟨rfl, hw⟩
    replace hw := hw.symm
    subst hw
    go_wp2
    go_ret
    exact ⟨rfl, rfl⟩
  · have e0 : clF b = 4 := by unfold clF; rw [if_neg (by omega), if_neg (by omega), if_neg (by omega), if_neg (by omega)]
    rw [e0]
    go_enter Try.func20, Try.ntmps20
    have d0 : decide ((128 : Int) ≤ b) = false := decide_eq_false (by omega)
    have d1 : (b == (9 : Int)) = false := beq_false_of_ne (by omega)
    have d2 : (b == (10 : Int)) = false := beq_false_of_ne (by omega)
    have d3 : (b == (13 : Int)) = false := beq_false_of_ne (by omega)
    have d4 : (b == (32 : Int)) = false := beq_false_of_ne (by omega)
    go_wp2_with fail
    refine (winV_yes b 0 255 w (by omega) (by omega)).mono ?_
    rintro e wz ⟨rfl, hw⟩
    replace hw := hw.symm
    subst hw
    go_wp2_with fail
    refine (winV_no b 97 122 w (by omega)).mono ?_
    rintro e wz ⟨rfl, hw⟩
    replace hw := hw.symm
    subst hw
    go_wp2_with fail
    refine (winV_no b 65 90 w (by omega)).mono ?_
    rintro e wz ⟨rfl, hw⟩
    replace hw := hw.symm
    subst hw
    go_wp2_with fail
    refine (winV_no b 48 57 w (by omega)).mono ?_
    rintro e wz ⟨rfl, hw⟩
    replace hw := hw.symm
    subst hw
    go_wp2
    go_ret
    exact ⟨rfl, rfl⟩
  · have e0 : clF b = 4 := by unfold clF; rw [if_neg (by omega), if_neg (by omega), if_neg (by omega), if_neg (by omega)]
    rw [e0]
    go_enter Try.func20, Try.ntmps20
    have d0 : decide ((128 : Int) ≤ b) = false := decide_eq_false (by omega)
    have d1 : (b == (9 : Int)) = false := beq_false_of_ne (by omega)
    have d2 : (b == (10 : Int)) = false := beq_false_of_ne (by omega)
    have d3 : (b == (13 : Int)) = false := beq_false_of_ne (by omega)
    have d4 : (b == (32 : Int)) = false := beq_false_of_ne (by omega)
    go_wp2_with fail
    refine (winV_yes b 0 255 w (by omega) (by omega)).mono ?_
    rintro e wz ⟨rfl, hw⟩
    replace hw := hw.symm
    subst hw
    go_wp2_with fail
    refine (winV_no b 97 122 w (by omega)).mono ?_
    rintro e wz ⟨rfl, hw⟩
    replace hw := hw.symm
    subst hw
    go_wp2_with fail
    refine (winV_no b 65 90 w (by omega)).mono ?_
    rintro e wz ⟨rfl, hw⟩
    replace hw := hw.symm
    subst hw
    go_wp2_with fail
    refine (winV_no b 48 57 w (by omega)).mono ?_
    rintro e wz ⟨rfl, hw⟩
    replace hw := hw.symm
    subst hw
    go_wp2
    go_ret
    exact ⟨rfl, rfl⟩
  · have e0 : clF b = 4 := by unfold clF; rw [if_neg (by omega), if_neg (by omega), if_neg (by omega), if_neg (by omega)]
    rw [e0]
    go_enter Try.func20, Try.ntmps20
    have d0 : decide ((128 : Int) ≤ b) = false := decide_eq_false (by omega)
    have d1 : (b == (9 : Int)) = false := beq_false_of_ne (by omega)
    have d2 : (b == (10 : Int)) = false := beq_false_of_ne (by omega)
    have d3 : (b == (13 : Int)) = false := beq_false_of_ne (by omega)
    have d4 : (b == (32 : Int)) = false := beq_false_of_ne (by omega)
    go_wp2_with fail
    refine (winV_yes b 0 255 w (by omega) (by omega)).mono ?_
    rintro e wz ⟨rfl, hw⟩
    replace hw := hw.symm
    subst hw
    go_wp2_with fail
    refine (winV_no b 97 122 w (by omega)).mono ?_
    rintro e wz ⟨rfl, hw⟩
    replace hw := hw.symm
    subst hw
    go_wp2_with fail
    refine (winV_no b 65 90 w (by omega)).mono ?_
    rintro e wz ⟨rfl, hw⟩
    replace hw := hw.symm
    subst hw
    go_wp2_with fail
    refine (winV_no b 48 57 w (by omega)).mono ?_
    rintro e wz ⟨rfl, hw⟩
    replace hw := hw.symm
    subst hw
    go_wp2
    go_ret
    exact ⟨rfl, rfl⟩

end Go.Proofs.Ytdggkcohidijcaa

/- Where a word ends: the program's scan. -/
namespace Go.Proofs.Ytdggkcohidijcaa
open Go.RowKit
set_option linter.unusedVariables false
set_option linter.unusedSimpArgs false

theorem ixC (s : ByteArray) (k : Nat) (h : k < s.size) : ∀ W, (Instr.index 9 (.string s) (.int .i64 (k : Int))).run Try.prog W = .ok (.int .u8 (byteAt s k)) W := fun W => by
  rw [run_index_string (P := Try.prog) W 9 s .i64 (k : Int) Try.underlying9, dif_pos (by omega), byteAt_eq s k h]
  simp

theorem byteAt_rngC (s : ByteArray) (k : Nat) : 0 ≤ byteAt s k ∧ byteAt s k ≤ 255 := by
  have := byteAt_range s k
  omega

theorem scan_lt {s : ByteArray} {a n : Nat} (h : a < s.size) (hs : ScanE s (cl s a) a a n) : a < n := by
  have e := hs.is (rnE_is s a (by omega))
  have := rnE_lt s a h
  have : 3 ≤ lim9 (cl s a) := by unfold lim9; split <;> omega
  omega

set_option maxRecDepth 20000 in
set_option maxHeartbeats 4000000 in
theorem implDrb_c (s : ByteArray) (k : Nat) (w : World) (hm : s.size ≤ maxLen) (hk : k ≤ s.size) : Calls Try.prog 71 #[.string s, .int .i64 (k : Int)] w fun e w' => e = .returned (.bool (decide (k < s.size ∧ (cl s k = 1 ∨ cl s k = 4)))) ∧ w' = w := by
  have hm' := hm
  unfold maxLen at hm'
  by_cases hlt : k < s.size
  rotate_left
  · obtain rfl : k = s.size := by omega
    have HF : Hid (decide (s.size < s.size ∧ (cl s s.size = 1 ∨ cl s s.size = 4)) = false) := decide_eq_false (fun h => by omega)
    go_enter Try.func71, Try.ntmps71
    go_wp2
    go_ret
    exact ⟨by rw [HF.out]; rfl, rfl⟩
  have hne : ((k : Int) == (s.size : Int)) = false := beq_false_of_ne (by omega)
  have hix := ixC s k hlt
  have hbr := byteAt_rngC s k
  have ew : IntKind.i64.wrap (byteAt s k) = byteAt s k := IntWalk.i64_in _ (by omega)
  have HL : Hid (k < s.size) := hlt
  have HD : Hid (cl s k = clF (byteAt s k)) := rfl
  have HR := cl_rng s k
  rw [HD.out] at HR ⊢
  generalize byteAt s k = bb at hix hbr ew HD HR ⊢
  clear HD hlt
  go_enter Try.func71, Try.ntmps71
  go_wp2_with fail
  refine (implClass_c bb w).mono ?_
  rintro e wz ⟨rfl, hw⟩
  replace hw := hw.symm
  subst hw
  rcases HR with h | h | h | h
  · have HF : Hid (decide (k < s.size ∧ (clF bb = 1 ∨ clF bb = 4)) = true) := by exact decide_eq_true ⟨HL.out, .inl h⟩
    rw [h]
    clear h
    go_wp2
    go_ret
    exact ⟨by rw [HF.out]; rfl, rfl⟩
  · have HF : Hid (decide (k < s.size ∧ (clF bb = 1 ∨ clF bb = 4)) = false) := by refine decide_eq_false (fun h2 => ?_); rw [h] at h2; omega
    rw [h]
    clear h
    go_wp2
    go_ret
    exact ⟨by rw [HF.out]; rfl, rfl⟩
  · have HF : Hid (decide (k < s.size ∧ (clF bb = 1 ∨ clF bb = 4)) = false) := by refine decide_eq_false (fun h2 => ?_); rw [h] at h2; omega
    rw [h]
    clear h
    go_wp2
    go_ret
    exact ⟨by rw [HF.out]; rfl, rfl⟩
  · have HF : Hid (decide (k < s.size ∧ (clF bb = 1 ∨ clF bb = 4)) = true) := by exact decide_eq_true ⟨HL.out, .inr h⟩
    rw [h]
    clear h
    go_wp2
    go_ret
    exact ⟨by rw [HF.out]; rfl, rfl⟩

theorem lim9_ge (c : Int) : 1 ≤ lim9 c := by unfold lim9; split <;> omega

set_option maxRecDepth 20000 in
set_option maxHeartbeats 4000000 in
theorem wordEnd_c (s : ByteArray) (a : Nat) (w : World) (hm : s.size ≤ maxLen) (ha : a < s.size) : Calls Try.prog 46 #[.string s, .int .i64 (a : Int)] w fun e w' => e = .returned (.int .i64 ((neE s a : Nat) : Int)) ∧ w' = w := by
  have hm' := hm
  unfold maxLen at hm'
  have HM : Hid (s.size ≤ maxLen) := hm
  have HA0 : Hid (a < s.size) := ha
  clear hm
  go_enter Try.func46, Try.ntmps46
  go_wp2
  refine wp_scope_jumps 0 (fun a' w' => w' = w ∧ ∃ b : Nat, Hid (b = a + 1 ∧ Draws s a ∧ rnE s a = a + 1) ∧ ∃ (x2 x3 x4 x6 x7 x8 x9 x10 x11 x12 x13 x14 x15 x16 x17 x18 x19 x20 x21 x22 x23 x24 x25 x26 x27 x28 x29 x30 x31 x32 x33 x34 x35 x36 x37 x38 x39 x40 x41 x42 x43 x44 x45 x46 x47 x48 x49 x50 x51 x52 x53 x54 x55 x56 x57 x58 x59 x60 x61 : Value), a' = { tmps := #[.string s, .int .i64 (a : Int), x2, x3, x4, .int .i64 (b : Int), x6, x7, x8, x9, x10, x11, x12, x13, x14, x15, x16, x17, x18, x19, x20, x21, x22, x23, x24, x25, x26, x27, x28, x29, x30, x31, x32, x33, x34, x35, x36, x37, x38, x39, x40, x41, x42, x43, x44, x45, x46, x47, x48, x49, x50, x51, x52, x53, x54, x55, x56, x57, x58, x59, x60, x61], defers := [] }) (fun _ _ => 0) rfl ?_ ?_
  · go_wp2
    go_step3
    have hix0 := ixC s a (by omega)
    have hbr0 := byteAt_rngC s a
    have ew0 : IntKind.i64.wrap (byteAt s a) = byteAt s a := IntWalk.i64_in _ (by omega)
    obtain ⟨c0, hc0⟩ : ∃ c0, byteAt s a = c0 := ⟨_, rfl⟩
    have HC0 : Hid (cl s a = clF c0) := by show cl s a = _; rw [← hc0]; rfl
    rw [hc0] at hix0 hbr0 ew0
    clear hc0
    go_wp2_with fail
    refine (implClass_c c0 w).mono ?_
    rintro e wz ⟨rfl, hw⟩
    replace hw := hw.symm
    subst hw
    obtain ⟨c, hc⟩ : ∃ c, clF c0 = c := ⟨_, rfl⟩
    have HC : Hid (cl s a = c) := by show _ = _; rw [HC0.out, hc]
    rw [hc]
    clear hc HC0 hix0 ew0
    go_wp2
    go_step3
    go_wp2
    go_loop [5] (fun v => ∃ k : Nat, v = .int .i64 (k : Int) ∧ a ≤ k ∧ k ≤ s.size ∧ Hid (k ≤ a + lim9 c) ∧ Hid (∀ j, a ≤ j → j < k → cl s j = c)) (fun v => s.size - (intOf v).toNat)
    case atStart => exact ⟨a, rfl, Nat.le_refl _, by omega, by have := lim9_ge c; show _ ≤ _; omega, fun j h1 h2 => absurd h2 (by omega)⟩
    case round =>
      obtain ⟨k, rfl, hk1, hk2, HL, HAL⟩ := hrel
      by_cases hlt : k < s.size
      rotate_left
      · have hlt' : ¬ (k : Int) < s.size := by omega
        have HS : Hid (ScanE s c a a k) := ⟨hk1, hk2, HL.out, HAL.out, .inl (by omega)⟩
        clear HL HAL
        have hkl : a < k := scan_lt HA0.out (by rw [HC.out]; exact HS.out)
        have hks : k ≤ s.size := HS.out.sz
        have HS2 : Hid (ScanE s (cl s a) a a k) := by show ScanE _ _ _ _ _; rw [HC.out]; exact HS.out
        have hix2 : ∀ W, (Instr.index 9 (.string s) (.int .i64 ((k : Int) - 1))).run Try.prog W = .ok (.int .u8 (byteAt s (k - 1))) W := by
          have := ixC s (k - 1) (by omega)
          rw [show (((k - 1 : Nat)) : Int) = (k : Int) - 1 by omega] at this
          exact this
        have hb2 := byteAt_rngC s (k - 1)
        have HBB : Hid (byteAt s (k - 1) = byteAt s (k - 1)) := rfl
        obtain ⟨b2, hb2e⟩ : ∃ b2, byteAt s (k - 1) = b2 := ⟨_, rfl⟩
        have HB2 : Hid (byteAt s (k - 1) = b2) := hb2e
        rw [hb2e] at hix2 hb2
        clear HBB hb2e
        by_cases h3 : c = 3
        rotate_left
        · have q3 : (c == (3 : Int)) = false := beq_false_of_ne h3
          have HF : Hid (k = neE s a) := scan_word HA0.out HS2.out (fun h => h3 (by rw [← HC.out]; exact h.1))
          clear hix2 h3
          go_wp2
          try simp only [Exit.jump]
          go_ret
          exact ⟨by rw [HF.out]; rfl, rfl⟩
        have q3 : (c == (3 : Int)) = true := beq_iff_eq.2 h3
        by_cases h32 : b2 = 32
        rotate_left
        · have q32 : (b2 == (32 : Int)) = false := beq_false_of_ne h32
          have HF : Hid (k = neE s a) := scan_word HA0.out HS2.out (fun h => h32 (by rw [← HB2.out]; exact h.2.1))
          clear h3 h32
          go_wp2
          try simp only [Exit.jump]
          go_ret
          exact ⟨by rw [HF.out]; rfl, rfl⟩
        have q32 : (b2 == (32 : Int)) = true := beq_iff_eq.2 h32
        by_cases hdr : k < s.size ∧ (cl s k = 1 ∨ cl s k = 4)
        rotate_left
        · have HF : Hid (k = neE s a) := scan_word HA0.out HS2.out (fun h => hdr h.2.2)
          have HDD : Hid (decide (k < s.size ∧ (cl s k = 1 ∨ cl s k = 4)) = false) := decide_eq_false hdr
          clear h3 h32 hdr
          go_wp2_with fail
          refine (implDrb_c s k w HM.out hks).mono ?_
          rintro e wz ⟨rfl, hw⟩
          replace hw := hw.symm
          subst hw
          rw [HDD.out]
          go_wp2
          try simp only [Exit.jump]
          go_ret
          exact ⟨by rw [HF.out]; rfl, rfl⟩
        have HDD : Hid (decide (k < s.size ∧ (cl s k = 1 ∨ cl s k = 4)) = true) := decide_eq_true hdr
        have HDR : Hid (k = rnE s a ∧ Draws s a ∧ k ≤ a + 64) := scan_draws HA0.out HS2.out (by rw [HC.out]; exact h3) (by rw [HB2.out]; exact h32) hdr.1 hdr.2
        clear h3 h32 hdr
        by_cases h1 : k = a + 1
        · have q1 : ((k : Int) - (a : Int) == 1) = true := beq_iff_eq.2 (by omega)
          have HJ : Hid (k = a + 1 ∧ Draws s a ∧ rnE s a = a + 1) := ⟨h1, HDR.out.2.1, by rw [← HDR.out.1]; exact h1⟩
          clear h1
          go_wp2_with fail
          refine (implDrb_c s k w HM.out hks).mono ?_
          rintro e wz ⟨rfl, hw⟩
          replace hw := hw.symm
          subst hw
          rw [HDD.out]
          go_wp2
          go_step3
          exact ⟨rfl, rfl, k, HJ, _, _, _, _, _, _, _, _, _, _, _, _, _, _, _, _, _, _, _, _, _, _, _, _, _, _, _, _, _, _, _, _, _, _, _, _, _, _, _, _, _, _, _, _, _, _, _, _, _, _, _, _, _, _, _, _, _, _, _, rfl⟩
        have q1 : ((k : Int) - (a : Int) == 1) = false := beq_false_of_ne (by omega)
        have HF : Hid (((k : Int) - 1) = ((neE s a : Nat) : Int)) := by
          have h5 := scan_back HDR.out.2.1 (by rw [← HDR.out.1]; exact h1) (by rw [← HDR.out.1]; exact HDR.out.2.2)
          have h6 := HDR.out.1
          show _ = _
          omega
        clear h1
        go_wp2_with fail
        refine (implDrb_c s k w HM.out hks).mono ?_
        rintro e wz ⟨rfl, hw⟩
        replace hw := hw.symm
        subst hw
        rw [HDD.out]
        go_wp2
        try simp only [Exit.jump]
        go_ret
        exact ⟨by rw [← HF.out]; rfl, rfl⟩
      have hlt' : (k : Int) < s.size := by omega
      have hix := ixC s k hlt
      have hbr := byteAt_rngC s k
      have ew : IntKind.i64.wrap (byteAt s k) = byteAt s k := IntWalk.i64_in _ (by omega)
      have HD : Hid (cl s k = clF (byteAt s k)) := rfl
      obtain ⟨bb, hbb⟩ : ∃ bb, byteAt s k = bb := ⟨_, rfl⟩
      rw [hbb] at hix hbr ew HD
      clear hbb
      go_wp2_with fail
      refine (implClass_c bb w).mono ?_
      rintro e wz ⟨rfl, hw⟩
      replace hw := hw.symm
      subst hw
      obtain ⟨d, hd0⟩ : ∃ d, clF bb = d := ⟨_, rfl⟩
      rw [hd0] at HD ⊢
      clear hd0
      by_cases hd : d = c
      rotate_left
      · have qd : (d == c) = false := beq_false_of_ne hd
        have HS : Hid (ScanE s c a a k) := ⟨hk1, hk2, HL.out, HAL.out, .inr (.inl (by rw [HD.out]; exact hd))⟩
        clear HL HAL hd HD hix ew
        have hkl : a < k := scan_lt HA0.out (by rw [HC.out]; exact HS.out)
        have hks : k ≤ s.size := HS.out.sz
        have HS2 : Hid (ScanE s (cl s a) a a k) := by show ScanE _ _ _ _ _; rw [HC.out]; exact HS.out
        have hix2 : ∀ W, (Instr.index 9 (.string s) (.int .i64 ((k : Int) - 1))).run Try.prog W = .ok (.int .u8 (byteAt s (k - 1))) W := by
          have := ixC s (k - 1) (by omega)
          rw [show (((k - 1 : Nat)) : Int) = (k : Int) - 1 by omega] at this
          exact this
        have hb2 := byteAt_rngC s (k - 1)
        have HBB : Hid (byteAt s (k - 1) = byteAt s (k - 1)) := rfl
        obtain ⟨b2, hb2e⟩ : ∃ b2, byteAt s (k - 1) = b2 := ⟨_, rfl⟩
        have HB2 : Hid (byteAt s (k - 1) = b2) := hb2e
        rw [hb2e] at hix2 hb2
        clear HBB hb2e
        by_cases h3 : c = 3
        rotate_left
        · have q3 : (c == (3 : Int)) = false := beq_false_of_ne h3
          have HF : Hid (k = neE s a) := scan_word HA0.out HS2.out (fun h => h3 (by rw [← HC.out]; exact h.1))
          clear hix2 h3
          go_wp2
          try simp only [Exit.jump]
          go_ret
          exact ⟨by rw [HF.out]; rfl, rfl⟩
        have q3 : (c == (3 : Int)) = true := beq_iff_eq.2 h3
        by_cases h32 : b2 = 32
        rotate_left
        · have q32 : (b2 == (32 : Int)) = false := beq_false_of_ne h32
          have HF : Hid (k = neE s a) := scan_word HA0.out HS2.out (fun h => h32 (by rw [← HB2.out]; exact h.2.1))
          clear h3 h32
          go_wp2
          try simp only [Exit.jump]
          go_ret
          exact ⟨by rw [HF.out]; rfl, rfl⟩
        have q32 : (b2 == (32 : Int)) = true := beq_iff_eq.2 h32
        by_cases hdr : k < s.size ∧ (cl s k = 1 ∨ cl s k = 4)
        rotate_left
        · have HF : Hid (k = neE s a) := scan_word HA0.out HS2.out (fun h => hdr h.2.2)
          have HDD : Hid (decide (k < s.size ∧ (cl s k = 1 ∨ cl s k = 4)) = false) := decide_eq_false hdr
          clear h3 h32 hdr
          go_wp2_with fail
          refine (implDrb_c s k w HM.out hks).mono ?_
          rintro e wz ⟨rfl, hw⟩
          replace hw := hw.symm
          subst hw
          rw [HDD.out]
          go_wp2
          try simp only [Exit.jump]
          go_ret
          exact ⟨by rw [HF.out]; rfl, rfl⟩
        have HDD : Hid (decide (k < s.size ∧ (cl s k = 1 ∨ cl s k = 4)) = true) := decide_eq_true hdr
        have HDR : Hid (k = rnE s a ∧ Draws s a ∧ k ≤ a + 64) := scan_draws HA0.out HS2.out (by rw [HC.out]; exact h3) (by rw [HB2.out]; exact h32) hdr.1 hdr.2
        clear h3 h32 hdr
        by_cases h1 : k = a + 1
        · have q1 : ((k : Int) - (a : Int) == 1) = true := beq_iff_eq.2 (by omega)
          have HJ : Hid (k = a + 1 ∧ Draws s a ∧ rnE s a = a + 1) := ⟨h1, HDR.out.2.1, by rw [← HDR.out.1]; exact h1⟩
          clear h1
          go_wp2_with fail
          refine (implDrb_c s k w HM.out hks).mono ?_
          rintro e wz ⟨rfl, hw⟩
          replace hw := hw.symm
          subst hw
          rw [HDD.out]
          go_wp2
          go_step3
          exact ⟨rfl, rfl, k, HJ, _, _, _, _, _, _, _, _, _, _, _, _, _, _, _, _, _, _, _, _, _, _, _, _, _, _, _, _, _, _, _, _, _, _, _, _, _, _, _, _, _, _, _, _, _, _, _, _, _, _, _, _, _, _, _, _, _, _, _, rfl⟩
        have q1 : ((k : Int) - (a : Int) == 1) = false := beq_false_of_ne (by omega)
        have HF : Hid (((k : Int) - 1) = ((neE s a : Nat) : Int)) := by
          have h5 := scan_back HDR.out.2.1 (by rw [← HDR.out.1]; exact h1) (by rw [← HDR.out.1]; exact HDR.out.2.2)
          have h6 := HDR.out.1
          show _ = _
          omega
        clear h1
        go_wp2_with fail
        refine (implDrb_c s k w HM.out hks).mono ?_
        rintro e wz ⟨rfl, hw⟩
        replace hw := hw.symm
        subst hw
        rw [HDD.out]
        go_wp2
        try simp only [Exit.jump]
        go_ret
        exact ⟨by rw [← HF.out]; rfl, rfl⟩
      rw [hd] at HD ⊢
      clear hd
      have HA2 : Hid (∀ j, a ≤ j → j < k + 1 → cl s j = c) := fun j h1 h2 => by
        rcases Nat.lt_or_ge j k with h3 | h3
        · exact HAL.out j h1 h3
        · rw [show j = k by omega]; exact HD.out
      clear HD hix ew
      by_cases h2 : c = 2
      · have q2 : (c == (2 : Int)) = true := beq_iff_eq.2 h2
        have hl3 : k ≤ a + 3 := by have h := HL.out; unfold lim9 at h; rw [if_pos h2] at h; exact h
        by_cases h33 : k = a + 3
        · have q33 : ((k : Int) - (a : Int) == 3) = true := beq_iff_eq.2 (by omega)
          have HS : Hid (ScanE s c a a k) := ⟨hk1, hk2, HL.out, HAL.out, .inr (.inr (by unfold lim9; rw [if_pos h2]; exact h33))⟩
          clear HL HAL h2 h33 HA2
          have hkl : a < k := scan_lt HA0.out (by rw [HC.out]; exact HS.out)
          have hks : k ≤ s.size := HS.out.sz
          have HS2 : Hid (ScanE s (cl s a) a a k) := by show ScanE _ _ _ _ _; rw [HC.out]; exact HS.out
          have hix2 : ∀ W, (Instr.index 9 (.string s) (.int .i64 ((k : Int) - 1))).run Try.prog W = .ok (.int .u8 (byteAt s (k - 1))) W := by
            have := ixC s (k - 1) (by omega)
            rw [show (((k - 1 : Nat)) : Int) = (k : Int) - 1 by omega] at this
            exact this
          have hb2 := byteAt_rngC s (k - 1)
          have HBB : Hid (byteAt s (k - 1) = byteAt s (k - 1)) := rfl
          obtain ⟨b2, hb2e⟩ : ∃ b2, byteAt s (k - 1) = b2 := ⟨_, rfl⟩
          have HB2 : Hid (byteAt s (k - 1) = b2) := hb2e
          rw [hb2e] at hix2 hb2
          clear HBB hb2e
          by_cases h3 : c = 3
          rotate_left
          · have q3 : (c == (3 : Int)) = false := beq_false_of_ne h3
            have HF : Hid (k = neE s a) := scan_word HA0.out HS2.out (fun h => h3 (by rw [← HC.out]; exact h.1))
            clear hix2 h3
            go_wp2
            try simp only [Exit.jump]
            go_ret
            exact ⟨by rw [HF.out]; rfl, rfl⟩
          have q3 : (c == (3 : Int)) = true := beq_iff_eq.2 h3
          by_cases h32 : b2 = 32
          rotate_left
          · have q32 : (b2 == (32 : Int)) = false := beq_false_of_ne h32
            have HF : Hid (k = neE s a) := scan_word HA0.out HS2.out (fun h => h32 (by rw [← HB2.out]; exact h.2.1))
            clear h3 h32
            go_wp2
            try simp only [Exit.jump]
            go_ret
            exact ⟨by rw [HF.out]; rfl, rfl⟩
          have q32 : (b2 == (32 : Int)) = true := beq_iff_eq.2 h32
          by_cases hdr : k < s.size ∧ (cl s k = 1 ∨ cl s k = 4)
          rotate_left
          · have HF : Hid (k = neE s a) := scan_word HA0.out HS2.out (fun h => hdr h.2.2)
            have HDD : Hid (decide (k < s.size ∧ (cl s k = 1 ∨ cl s k = 4)) = false) := decide_eq_false hdr
            clear h3 h32 hdr
            go_wp2_with fail
            refine (implDrb_c s k w HM.out hks).mono ?_
            rintro e wz ⟨rfl, hw⟩
            replace hw := hw.symm
            subst hw
            rw [HDD.out]
            go_wp2
            try simp only [Exit.jump]
            go_ret
            exact ⟨by rw [HF.out]; rfl, rfl⟩
          have HDD : Hid (decide (k < s.size ∧ (cl s k = 1 ∨ cl s k = 4)) = true) := decide_eq_true hdr
          have HDR : Hid (k = rnE s a ∧ Draws s a ∧ k ≤ a + 64) := scan_draws HA0.out HS2.out (by rw [HC.out]; exact h3) (by rw [HB2.out]; exact h32) hdr.1 hdr.2
          clear h3 h32 hdr
          by_cases h1 : k = a + 1
          · have q1 : ((k : Int) - (a : Int) == 1) = true := beq_iff_eq.2 (by omega)
            have HJ : Hid (k = a + 1 ∧ Draws s a ∧ rnE s a = a + 1) := ⟨h1, HDR.out.2.1, by rw [← HDR.out.1]; exact h1⟩
            clear h1
            go_wp2_with fail
            refine (implDrb_c s k w HM.out hks).mono ?_
            rintro e wz ⟨rfl, hw⟩
            replace hw := hw.symm
            subst hw
            rw [HDD.out]
            go_wp2
            go_step3
            exact ⟨rfl, rfl, k, HJ, _, _, _, _, _, _, _, _, _, _, _, _, _, _, _, _, _, _, _, _, _, _, _, _, _, _, _, _, _, _, _, _, _, _, _, _, _, _, _, _, _, _, _, _, _, _, _, _, _, _, _, _, _, _, _, _, _, _, _, rfl⟩
          have q1 : ((k : Int) - (a : Int) == 1) = false := beq_false_of_ne (by omega)
          have HF : Hid (((k : Int) - 1) = ((neE s a : Nat) : Int)) := by
            have h5 := scan_back HDR.out.2.1 (by rw [← HDR.out.1]; exact h1) (by rw [← HDR.out.1]; exact HDR.out.2.2)
            have h6 := HDR.out.1
            show _ = _
            omega
          clear h1
          go_wp2_with fail
          refine (implDrb_c s k w HM.out hks).mono ?_
          rintro e wz ⟨rfl, hw⟩
          replace hw := hw.symm
          subst hw
          rw [HDD.out]
          go_wp2
          try simp only [Exit.jump]
          go_ret
          exact ⟨by rw [← HF.out]; rfl, rfl⟩
        have q33 : ((k : Int) - (a : Int) == 3) = false := beq_false_of_ne (by omega)
        have q64 : ((k : Int) - (a : Int) == 64) = false := beq_false_of_ne (by omega)
        have HL2 : Hid (k + 1 ≤ a + lim9 c) := by show _ ≤ _; unfold lim9; rw [if_pos h2]; omega
        clear HL HAL h2 h33
        go_wp2
        go_round
        case rel => exact ⟨k + 1, by go_num, by omega, by omega, HL2, HA2⟩
        case measure => simp [intOf]; omega
      · have q2 : (c == (2 : Int)) = false := beq_false_of_ne h2
        have hl64 : k ≤ a + 64 := by have h := HL.out; unfold lim9 at h; rw [if_neg h2] at h; exact h
        by_cases h64 : k = a + 64
        · have q64 : ((k : Int) - (a : Int) == 64) = true := beq_iff_eq.2 (by omega)
          have HS : Hid (ScanE s c a a k) := ⟨hk1, hk2, HL.out, HAL.out, .inr (.inr (by unfold lim9; rw [if_neg h2]; exact h64))⟩
          clear HL HAL h2 h64 HA2
          have hkl : a < k := scan_lt HA0.out (by rw [HC.out]; exact HS.out)
          have hks : k ≤ s.size := HS.out.sz
          have HS2 : Hid (ScanE s (cl s a) a a k) := by show ScanE _ _ _ _ _; rw [HC.out]; exact HS.out
          have hix2 : ∀ W, (Instr.index 9 (.string s) (.int .i64 ((k : Int) - 1))).run Try.prog W = .ok (.int .u8 (byteAt s (k - 1))) W := by
            have := ixC s (k - 1) (by omega)
            rw [show (((k - 1 : Nat)) : Int) = (k : Int) - 1 by omega] at this
            exact this
          have hb2 := byteAt_rngC s (k - 1)
          have HBB : Hid (byteAt s (k - 1) = byteAt s (k - 1)) := rfl
          obtain ⟨b2, hb2e⟩ : ∃ b2, byteAt s (k - 1) = b2 := ⟨_, rfl⟩
          have HB2 : Hid (byteAt s (k - 1) = b2) := hb2e
          rw [hb2e] at hix2 hb2
          clear HBB hb2e
          by_cases h3 : c = 3
          rotate_left
          · have q3 : (c == (3 : Int)) = false := beq_false_of_ne h3
            have HF : Hid (k = neE s a) := scan_word HA0.out HS2.out (fun h => h3 (by rw [← HC.out]; exact h.1))
            clear hix2 h3
            go_wp2
            try simp only [Exit.jump]
            go_ret
            exact ⟨by rw [HF.out]; rfl, rfl⟩
          have q3 : (c == (3 : Int)) = true := beq_iff_eq.2 h3
          by_cases h32 : b2 = 32
          rotate_left
          · have q32 : (b2 == (32 : Int)) = false := beq_false_of_ne h32
            have HF : Hid (k = neE s a) := scan_word HA0.out HS2.out (fun h => h32 (by rw [← HB2.out]; exact h.2.1))
            clear h3 h32
            go_wp2
            try simp only [Exit.jump]
            go_ret
            exact ⟨by rw [HF.out]; rfl, rfl⟩
          have q32 : (b2 == (32 : Int)) = true := beq_iff_eq.2 h32
          by_cases hdr : k < s.size ∧ (cl s k = 1 ∨ cl s k = 4)
          rotate_left
          · have HF : Hid (k = neE s a) := scan_word HA0.out HS2.out (fun h => hdr h.2.2)
            have HDD : Hid (decide (k < s.size ∧ (cl s k = 1 ∨ cl s k = 4)) = false) := decide_eq_false hdr
            clear h3 h32 hdr
            go_wp2_with fail
            refine (implDrb_c s k w HM.out hks).mono ?_
            rintro e wz ⟨rfl, hw⟩
            replace hw := hw.symm
            subst hw
            rw [HDD.out]
            go_wp2
            try simp only [Exit.jump]
            go_ret
            exact ⟨by rw [HF.out]; rfl, rfl⟩
          have HDD : Hid (decide (k < s.size ∧ (cl s k = 1 ∨ cl s k = 4)) = true) := decide_eq_true hdr
          have HDR : Hid (k = rnE s a ∧ Draws s a ∧ k ≤ a + 64) := scan_draws HA0.out HS2.out (by rw [HC.out]; exact h3) (by rw [HB2.out]; exact h32) hdr.1 hdr.2
          clear h3 h32 hdr
          by_cases h1 : k = a + 1
          · have q1 : ((k : Int) - (a : Int) == 1) = true := beq_iff_eq.2 (by omega)
            have HJ : Hid (k = a + 1 ∧ Draws s a ∧ rnE s a = a + 1) := ⟨h1, HDR.out.2.1, by rw [← HDR.out.1]; exact h1⟩
            clear h1
            go_wp2_with fail
            refine (implDrb_c s k w HM.out hks).mono ?_
            rintro e wz ⟨rfl, hw⟩
            replace hw := hw.symm
            subst hw
            rw [HDD.out]
            go_wp2
            go_step3
            exact ⟨rfl, rfl, k, HJ, _, _, _, _, _, _, _, _, _, _, _, _, _, _, _, _, _, _, _, _, _, _, _, _, _, _, _, _, _, _, _, _, _, _, _, _, _, _, _, _, _, _, _, _, _, _, _, _, _, _, _, _, _, _, _, _, _, _, _, rfl⟩
          have q1 : ((k : Int) - (a : Int) == 1) = false := beq_false_of_ne (by omega)
          have HF : Hid (((k : Int) - 1) = ((neE s a : Nat) : Int)) := by
            have h5 := scan_back HDR.out.2.1 (by rw [← HDR.out.1]; exact h1) (by rw [← HDR.out.1]; exact HDR.out.2.2)
            have h6 := HDR.out.1
            show _ = _
            omega
          clear h1
          go_wp2_with fail
          refine (implDrb_c s k w HM.out hks).mono ?_
          rintro e wz ⟨rfl, hw⟩
          replace hw := hw.symm
          subst hw
          rw [HDD.out]
          go_wp2
          try simp only [Exit.jump]
          go_ret
          exact ⟨by rw [← HF.out]; rfl, rfl⟩
        have q64 : ((k : Int) - (a : Int) == 64) = false := beq_false_of_ne (by omega)
        have HL2 : Hid (k + 1 ≤ a + lim9 c) := by show _ ≤ _; unfold lim9; rw [if_neg h2]; omega
        clear HL HAL h2 h64
        go_wp2
        go_round
        case rel => exact ⟨k + 1, by go_num, by omega, by omega, HL2, HA2⟩
        case measure => simp [intOf]; omega
  · rintro a' w' ⟨hw0, b, HJ, x2, x3, x4, x6, x7, x8, x9, x10, x11, x12, x13, x14, x15, x16, x17, x18, x19, x20, x21, x22, x23, x24, x25, x26, x27, x28, x29, x30, x31, x32, x33, x34, x35, x36, x37, x38, x39, x40, x41, x42, x43, x44, x45, x46, x47, x48, x49, x50, x51, x52, x53, x54, x55, x56, x57, x58, x59, x60, x61, rfl⟩
    replace hw0 := hw0.symm
    subst hw0
    have hb1 : b ≤ a + 1 := Nat.le_of_eq HJ.out.1
    have hb0 : a + 1 ≤ b := Nat.le_of_eq HJ.out.1.symm
    have hbs : b < s.size := by have h1 := HJ.out.2.1.2.1; have h2 := HJ.out.2.2; omega
    have hix0 := ixC s b (by omega)
    have hbr0 := byteAt_rngC s b
    have ew0 : IntKind.i64.wrap (byteAt s b) = byteAt s b := IntWalk.i64_in _ (by omega)
    obtain ⟨c0, hc0⟩ : ∃ c0, byteAt s b = c0 := ⟨_, rfl⟩
    have HC0 : Hid (cl s b = clF c0) := by show cl s b = _; rw [← hc0]; rfl
    rw [hc0] at hix0 hbr0 ew0
    clear hc0
    go_wp2_with fail
    refine (implClass_c c0 w).mono ?_
    rintro e wz ⟨rfl, hw⟩
    replace hw := hw.symm
    subst hw
    obtain ⟨c, hc⟩ : ∃ c, clF c0 = c := ⟨_, rfl⟩
    have HC : Hid (cl s b = c) := by show _ = _; rw [HC0.out, hc]
    rw [hc]
    clear hc HC0 hix0 ew0
    go_wp2
    go_step3
    go_wp2
    go_loop [5] (fun v => ∃ k : Nat, v = .int .i64 (k : Int) ∧ b ≤ k ∧ k ≤ s.size ∧ Hid (k ≤ a + lim9 c) ∧ Hid (∀ j, b ≤ j → j < k → cl s j = c)) (fun v => s.size - (intOf v).toNat)
    case atStart => exact ⟨b, rfl, Nat.le_refl _, by omega, by have := lim9_ge c; show _ ≤ _; omega, fun j h1 h2 => absurd h2 (by omega)⟩
    case round =>
      obtain ⟨k, rfl, hk1, hk2, HL, HAL⟩ := hrel
      by_cases hlt : k < s.size
      rotate_left
      · have hlt' : ¬ (k : Int) < s.size := by omega
        have HS : Hid (ScanE s c a b k) := ⟨hk1, hk2, HL.out, HAL.out, .inl (by omega)⟩
        clear HL HAL
        have HT := scan_two HA0.out HJ.out.2.1 HJ.out.2.2 (by rw [← HJ.out.1, HC.out]; exact HS.out : ScanE s (cl s (a + 1)) a (a + 1) k)
        have q3 : (c == (3 : Int)) = false := beq_false_of_ne (by have h := HT.2.1; rw [← HJ.out.1, HC.out] at h; exact h)
        have HF : Hid (k = neE s a) := HT.1
        clear HT
        go_wp2
        try simp only [Exit.jump]
        go_ret
        exact ⟨by rw [HF.out]; rfl, rfl⟩
      have hlt' : (k : Int) < s.size := by omega
      have hix := ixC s k hlt
      have hbr := byteAt_rngC s k
      have ew : IntKind.i64.wrap (byteAt s k) = byteAt s k := IntWalk.i64_in _ (by omega)
      have HD : Hid (cl s k = clF (byteAt s k)) := rfl
      obtain ⟨bb, hbb⟩ : ∃ bb, byteAt s k = bb := ⟨_, rfl⟩
      rw [hbb] at hix hbr ew HD
      clear hbb
      go_wp2_with fail
      refine (implClass_c bb w).mono ?_
      rintro e wz ⟨rfl, hw⟩
      replace hw := hw.symm
      subst hw
      obtain ⟨d, hd0⟩ : ∃ d, clF bb = d := ⟨_, rfl⟩
      rw [hd0] at HD ⊢
      clear hd0
      by_cases hd : d = c
      rotate_left
      · have qd : (d == c) = false := beq_false_of_ne hd
        have HS : Hid (ScanE s c a b k) := ⟨hk1, hk2, HL.out, HAL.out, .inr (.inl (by rw [HD.out]; exact hd))⟩
        clear HL HAL hd HD hix ew
        have HT := scan_two HA0.out HJ.out.2.1 HJ.out.2.2 (by rw [← HJ.out.1, HC.out]; exact HS.out : ScanE s (cl s (a + 1)) a (a + 1) k)
        have q3 : (c == (3 : Int)) = false := beq_false_of_ne (by have h := HT.2.1; rw [← HJ.out.1, HC.out] at h; exact h)
        have HF : Hid (k = neE s a) := HT.1
        clear HT
        go_wp2
        try simp only [Exit.jump]
        go_ret
        exact ⟨by rw [HF.out]; rfl, rfl⟩
      rw [hd] at HD ⊢
      clear hd
      have HA2 : Hid (∀ j, b ≤ j → j < k + 1 → cl s j = c) := fun j h1 h2 => by
        rcases Nat.lt_or_ge j k with h3 | h3
        · exact HAL.out j h1 h3
        · rw [show j = k by omega]; exact HD.out
      clear HD hix ew
      by_cases h2 : c = 2
      · have q2 : (c == (2 : Int)) = true := beq_iff_eq.2 h2
        have hl3 : k ≤ a + 3 := by have h := HL.out; unfold lim9 at h; rw [if_pos h2] at h; exact h
        by_cases h33 : k = a + 3
        · have q33 : ((k : Int) - (a : Int) == 3) = true := beq_iff_eq.2 (by omega)
          have HS : Hid (ScanE s c a b k) := ⟨hk1, hk2, HL.out, HAL.out, .inr (.inr (by unfold lim9; rw [if_pos h2]; exact h33))⟩
          clear HL HAL h2 h33 HA2
          have HT := scan_two HA0.out HJ.out.2.1 HJ.out.2.2 (by rw [← HJ.out.1, HC.out]; exact HS.out : ScanE s (cl s (a + 1)) a (a + 1) k)
          have q3 : (c == (3 : Int)) = false := beq_false_of_ne (by have h := HT.2.1; rw [← HJ.out.1, HC.out] at h; exact h)
          have HF : Hid (k = neE s a) := HT.1
          clear HT
          go_wp2
          try simp only [Exit.jump]
          go_ret
          exact ⟨by rw [HF.out]; rfl, rfl⟩
        have q33 : ((k : Int) - (a : Int) == 3) = false := beq_false_of_ne (by omega)
        have q64 : ((k : Int) - (a : Int) == 64) = false := beq_false_of_ne (by omega)
        have HL2 : Hid (k + 1 ≤ a + lim9 c) := by show _ ≤ _; unfold lim9; rw [if_pos h2]; omega
        clear HL HAL h2 h33
        go_wp2
        go_round
        case rel => exact ⟨k + 1, by go_num, by omega, by omega, HL2, HA2⟩
        case measure => simp [intOf]; omega
      · have q2 : (c == (2 : Int)) = false := beq_false_of_ne h2
        have hl64 : k ≤ a + 64 := by have h := HL.out; unfold lim9 at h; rw [if_neg h2] at h; exact h
        by_cases h64 : k = a + 64
        · have q64 : ((k : Int) - (a : Int) == 64) = true := beq_iff_eq.2 (by omega)
          have HS : Hid (ScanE s c a b k) := ⟨hk1, hk2, HL.out, HAL.out, .inr (.inr (by unfold lim9; rw [if_neg h2]; exact h64))⟩
          clear HL HAL h2 h64 HA2
          have HT := scan_two HA0.out HJ.out.2.1 HJ.out.2.2 (by rw [← HJ.out.1, HC.out]; exact HS.out : ScanE s (cl s (a + 1)) a (a + 1) k)
          have q3 : (c == (3 : Int)) = false := beq_false_of_ne (by have h := HT.2.1; rw [← HJ.out.1, HC.out] at h; exact h)
          have HF : Hid (k = neE s a) := HT.1
          clear HT
          go_wp2
          try simp only [Exit.jump]
          go_ret
          exact ⟨by rw [HF.out]; rfl, rfl⟩
        have q64 : ((k : Int) - (a : Int) == 64) = false := beq_false_of_ne (by omega)
        have HL2 : Hid (k + 1 ≤ a + lim9 c) := by show _ ≤ _; unfold lim9; rw [if_neg h2]; omega
        clear HL HAL h2 h64
        go_wp2
        go_round
        case rel => exact ⟨k + 1, by go_num, by omega, by omega, HL2, HA2⟩
        case measure => simp [intOf]; omega

end Go.Proofs.Ytdggkcohidijcaa

/- The specification's run. -/
namespace Go.Proofs.Ytdggkcohidijcaa
open Go.RowKit
set_option linter.unusedVariables false
set_option linter.unusedSimpArgs false

theorem ext_rest (s : ByteArray) (k n : Nat) (h : k + n ≤ s.size) : (s.extract k s.size).extract n (s.extract k s.size).size = s.extract (k + n) s.size := by
  have hz := size_rest s k s.size (Nat.le_refl _)
  rw [hz]
  apply ByteArray.ext
  simp only [ByteArray.data_extract, Array.extract_extract]
  congr 1
  omega

theorem ext_head (s : ByteArray) (k n : Nat) (h : k + n ≤ s.size) : (s.extract k s.size).extract 0 n = s.extract k (k + n) := by
  apply ByteArray.ext
  simp only [ByteArray.data_extract, Array.extract_extract]
  congr 1
  omega

theorem sl_one (s : ByteArray) (a : Nat) (x : Int) (hx : x = (a : Int)) (h : a ≤ s.size) : ∀ W, (Instr.slice 9 (.string s) (some (.int .i64 x)) none none).run Try.prog W = .ok (.string (s.extract a s.size)) W := fun W => by
  subst hx
  rw [run_slice_string_l (P := Try.prog) W 9 s Try.underlying9 .i64 (a : Int) (by omega) (by omega)]
  rw [Int.toNat_natCast]

theorem sl_hd (s : ByteArray) (b : Nat) (x : Int) (hx : x = (b : Int)) (h : b ≤ s.size) : ∀ W, (Instr.slice 9 (.string s) none (some (.int .i64 x)) none).run Try.prog W = .ok (.string (s.extract 0 b)) W := fun W => by
  subst hx
  rw [run_slice_string_h (P := Try.prog) W 9 s Try.underlying9 .i64 (b : Int) (by omega) (by omega)]
  rw [Int.toNat_natCast]

theorem sl_mid (s : ByteArray) (a b : Nat) (h1 : a ≤ b) (h2 : b ≤ s.size) : ∀ W, (Instr.slice 9 (.string s) (some (.int .i64 (a : Int))) (some (.int .i64 (b : Int))) none).run Try.prog W = .ok (.string (s.extract a b)) W := fun W => by
  rw [run_slice_string (P := Try.prog) W 9 s .i64 .i64 (a : Int) (b : Int) Try.underlying9 (by omega) (by omega) (by omega)]
  rw [Int.toNat_natCast, Int.toNat_natCast]

set_option maxRecDepth 20000 in
set_option maxHeartbeats 4000000 in
theorem specRun_c (s : ByteArray) (w : World) (hm : s.size ≤ maxLen) (h0 : 0 < s.size) : Calls Try.prog 77 #[.string s] w fun e w' => e = .returned (.int .i64 ((rnE s 0 : Nat) : Int)) ∧ Below w.heap.size w w' := by
  have hm' := hm
  unfold maxLen at hm'
  have H0 : Hid (0 < s.size) := h0
  obtain ⟨b0, hb0⟩ : ∃ b0, byteAt s 0 = b0 := ⟨_, rfl⟩
  have HB0 : Hid (cl s 0 = clF b0) := by show clF (byteAt s 0) = _; rw [hb0]
  have hix0 := ixC s 0 h0
  have hbr0 := byteAt_rngC s 0
  have ew0 : IntKind.i64.wrap (byteAt s 0) = byteAt s 0 := IntWalk.i64_in _ (by omega)
  rw [hb0] at hix0 hbr0 ew0
  have hix1 : ∀ W, (Instr.index 9 (.string s) (.int .i64 0)).run Try.prog W = .ok (.int .u8 b0) W := hix0
  clear hb0 hix0
  obtain ⟨c, hc⟩ : ∃ c, clF b0 = c := ⟨_, rfl⟩
  have HC : Hid (cl s 0 = c) := by show _ = _; rw [HB0.out, hc]
  have HCB : Hid (clF b0 = c) := hc
  clear hc hm
  have HCA : ∀ W, Calls Try.prog 19 #[.int .i64 b0] W fun e w' => e = .returned (.int .i64 c) ∧ w' = W := fun W => by rw [← HCB.out]; exact specClass_c b0 W
  have HCA' : Hid (∀ W, Calls Try.prog 19 #[.int .i64 b0] W fun e w' => e = .returned (.int .i64 c) ∧ w' = W) := HCA
  clear HCA
  go_enter Try.func77, Try.ntmps77
  go_wp2
  go_loopw [3] (fun v wr => ∃ k : Nat, v = .int .i64 (k : Int) ∧ k ≤ s.size ∧ Hid (Below w.heap.size w wr) ∧ Hid (∀ j, 0 ≤ j → j < k → cl s j = c)) (fun v _ => s.size - (intOf v).toNat)
  case atStart => exact ⟨0, rfl, Nat.zero_le _, Below.refl _ _, fun j h1 h2 => absurd h2 (by omega)⟩
  case round =>
    obtain ⟨k, rfl, hk, HBr, HA⟩ := hrel
    by_cases hlt : k < s.size
    rotate_left
    · have hlt' : ¬ (k : Int) < s.size := by omega
      have hdl : decide ((k : Int) < (s.size : Int)) = false := decide_eq_false hlt'
      have HF : Hid (k = rnE s 0) := (show RunE s c 0 k from ⟨Nat.zero_le _, hk, HA.out, fun h => absurd h hlt⟩).uniq (by rw [← HC.out]; exact rnE_is s 0 (Nat.zero_le _))
      clear HA
      go_wp2_with fail
      go_quiet (fail)
      go_wp2
      go_ret
      exact ⟨by rw [HF.out]; rfl, bel_drewN HBr.out _⟩
    have hlt' : (k : Int) < s.size := by omega
    have hdl : decide ((k : Int) < (s.size : Int)) = true := decide_eq_true hlt'
    have hix := ixC s k hlt
    have hbr := byteAt_rngC s k
    have ew : IntKind.i64.wrap (byteAt s k) = byteAt s k := IntWalk.i64_in _ (by omega)
    obtain ⟨bb, hbb⟩ : ∃ bb, byteAt s k = bb := ⟨_, rfl⟩
    obtain ⟨d, hd0⟩ : ∃ d, clF bb = d := ⟨_, rfl⟩
    have HD : Hid (cl s k = d) := by show clF (byteAt s k) = _; rw [hbb, hd0]
    rw [hbb] at hix hbr ew
    have HDB : Hid (∀ W, Calls Try.prog 19 #[.int .i64 bb] W fun e w' => e = .returned (.int .i64 d) ∧ w' = W) := fun W => by rw [← hd0]; exact specClass_c bb W
    have HDE : Hid (clF bb = d) := hd0
    clear hbb hd0
    by_cases hd : d = c
    · have HA2 : Hid (∀ j, 0 ≤ j → j < k + 1 → cl s j = c) := fun j h1 h2 => by
        rcases Nat.lt_or_ge j k with h3 | h3
        · exact HA.out j h1 h3
        · rw [show j = k by omega, HD.out]; exact hd
      have qd : (clF bb == clF b0) = true := beq_iff_eq.2 (by rw [HDE.out, HCB.out]; exact hd)
      clear hd HA HD
      go_wp2_with fail
      go_quiet ((go_at_call 19; exact Calls.quiet_of_same (specClass_c _ _)))
      go_wp2
      go_roundw
      case rel => exact ⟨k + 1, by go_num, by omega, bel_drewN HBr.out _, HA2⟩
      case measure => simp [intOf]; omega
    · have qd : (clF bb == clF b0) = false := beq_false_of_ne (by rw [HDE.out, HCB.out]; exact hd)
      have HF : Hid (k = rnE s 0) := (show RunE s c 0 k from ⟨Nat.zero_le _, hk, HA.out, fun h => by rw [HD.out]; exact hd⟩).uniq (by rw [← HC.out]; exact rnE_is s 0 (Nat.zero_le _))
      clear hd HA HD
      go_wp2_with fail
      go_quiet ((go_at_call 19; exact Calls.quiet_of_same (specClass_c _ _)))
      go_wp2
      go_ret
      exact ⟨by rw [HF.out]; rfl, bel_drewN HBr.out _⟩

end Go.Proofs.Ytdggkcohidijcaa

/- The specification's next word. -/
namespace Go.Proofs.Ytdggkcohidijcaa
open Go.RowKit
set_option linter.unusedVariables false
set_option linter.unusedSimpArgs false

set_option maxRecDepth 20000 in
set_option maxHeartbeats 4000000 in
theorem specNext_c (s : ByteArray) (w : World) (hm : s.size ≤ 1000) (h0 : 0 < s.size) : Calls Try.prog 53 #[.string s] w fun e w' => e = .returned (.int .i64 ((neE s 0 : Nat) : Int)) ∧ Below w.heap.size w w' := by
  have HM : Hid (s.size ≤ maxLen) := by show _ ≤ _; unfold maxLen; omega
  have H0 : Hid (0 < s.size) := h0
  obtain ⟨b0, hb0⟩ : ∃ b0, byteAt s 0 = b0 := ⟨_, rfl⟩
  have HB0 : Hid (cl s 0 = clF b0) := by show clF (byteAt s 0) = _; rw [hb0]
  have hix0 := ixC s 0 h0
  have hbr0 := byteAt_rngC s 0
  have ew0 : IntKind.i64.wrap (byteAt s 0) = byteAt s 0 := IntWalk.i64_in _ (by omega)
  rw [hb0] at hix0 hbr0 ew0
  have hix1 : ∀ W, (Instr.index 9 (.string s) (.int .i64 0)).run Try.prog W = .ok (.int .u8 b0) W := hix0
  clear hb0 hix0
  obtain ⟨c, hc⟩ : ∃ c, clF b0 = c := ⟨_, rfl⟩
  have HC : Hid (cl s 0 = c) := by show _ = _; rw [HB0.out, hc]
  have HCA : Hid (∀ W, Calls Try.prog 19 #[.int .i64 b0] W fun e w' => e = .returned (.int .i64 c) ∧ w' = W) := fun W => by rw [← hc]; exact specClass_c b0 W
  clear hc
  have HRI := rnE_is s 0 (Nat.zero_le _)
  have hn0 := rnE_lt s 0 h0
  have hn1 := HRI.sz
  obtain ⟨n, hn⟩ : ∃ n, rnE s 0 = n := ⟨_, rfl⟩
  have HN : Hid (rnE s 0 = n) := hn
  rw [hn] at hn0 hn1
  clear HRI
  go_enter Try.func53, Try.ntmps53
  go_wp2_with fail
  refine (specRun_c s w HM.out H0.out).mono ?_
  rintro e w1 ⟨rfl, b1⟩
  have HB1 : Hid (Below w.heap.size w w1) := b1
  clear b1
  rw [HN.out]
  clear hn
  go_wp2_with fail
  refine (HCA.out w1).mono ?_
  rintro e wz ⟨rfl, hw⟩
  replace hw := hw.symm
  subst hw
  by_cases h2 : c = 2
  · have q2 : (c == (2 : Int)) = true := beq_iff_eq.2 h2
    have HP : Hid (preE s 0 = min n 3) := by show _ = _; rw [preE_dig (HC.out.trans h2), HN.out]
    clear h2
    by_cases h3 : 3 < n
    · have HF : Hid (neE s 0 = 3) := by have h := HP.out; show _ = _; unfold neE; omega
      go_wp2
      go_ret
      exact ⟨by rw [HF.out]; rfl, HB1.out⟩
    · have HF : Hid (n = neE s 0) := by have h := HP.out; show _ = _; unfold neE; omega
      go_wp2
      go_ret
      exact ⟨by rw [← HF.out]; rfl, HB1.out⟩
  have q2 : (c == (2 : Int)) = false := beq_false_of_ne h2
  have HC2 : Hid (cl s 0 ≠ 2) := by show _ ≠ _; rw [HC.out]; exact h2
  by_cases h3 : c = 3
  rotate_left
  · have q3 : (c == (3 : Int)) = false := beq_false_of_ne h3
    have HP : Hid (preE s 0 = n) := by show _ = _; rw [preE_no HC2.out (fun h => h3 (by rw [← HC.out]; exact h.1)), HN.out]
    clear h2 h3
    by_cases h64 : 64 < n
    · have HF : Hid (neE s 0 = 64) := by have h := HP.out; show _ = _; unfold neE; omega
      go_wp2
      go_ret
      exact ⟨by rw [HF.out]; rfl, HB1.out⟩
    have h64' : ¬ 64 < (n : Nat) := h64
    have HF : Hid (n = neE s 0) := by have h := HP.out; show _ = _; unfold neE; omega
    go_wp2
    go_ret
    exact ⟨by rw [← HF.out]; rfl, HB1.out⟩
  have q3 : (c == (3 : Int)) = true := beq_iff_eq.2 h3
  have HC3 : Hid (cl s 0 = 3) := by show _ = _; rw [HC.out]; exact h3
  clear h2 h3
  by_cases hlt : n < s.size
  rotate_left
  · have hlt' : ¬ (n : Int) < s.size := by omega
    have HP : Hid (preE s 0 = n) := by show _ = _; rw [preE_no HC2.out (fun h => by have h2 := h.2.1; rw [HN.out] at h2; omega), HN.out]
    clear hlt
    by_cases h64 : 64 < n
    · have HF : Hid (neE s 0 = 64) := by have h := HP.out; show _ = _; unfold neE; omega
      go_wp2
      go_ret
      exact ⟨by rw [HF.out]; rfl, HB1.out⟩
    have h64' : ¬ 64 < (n : Nat) := h64
    have HF : Hid (n = neE s 0) := by have h := HP.out; show _ = _; unfold neE; omega
    go_wp2
    go_ret
    exact ⟨by rw [← HF.out]; rfl, HB1.out⟩
  have hlt' : (n : Int) < s.size := by omega
  have hix := ixC s n hlt
  have hbr := byteAt_rngC s n
  have ew : IntKind.i64.wrap (byteAt s n) = byteAt s n := IntWalk.i64_in _ (by omega)
  obtain ⟨bb, hbb⟩ : ∃ bb, byteAt s n = bb := ⟨_, rfl⟩
  obtain ⟨d, hd0⟩ : ∃ d, clF bb = d := ⟨_, rfl⟩
  have HD : Hid (cl s n = d) := by show clF (byteAt s n) = _; rw [hbb, hd0]
  rw [hbb] at hix hbr ew
  have hsn : ((s[n]'hlt).toNat : Int) = bb := by rw [← byteAt_eq s n hlt]; exact hbb
  have HCD : Hid (clF (wrap64 ((s[n]'hlt).toNat : Int)) = d) := by
    show _ = _
    rw [hsn, ← hd0]
    congr 1
    unfold wrap64
    omega
  clear hbb hd0 hsn hix
  by_cases hd2 : d = 2
  · have qd : (d != (2 : Int)) = false := by simp [hd2]
    have HP : Hid (preE s 0 = n) := by show _ = _; rw [preE_no HC2.out (fun h => by have h2 := h.2.2.1; rw [HN.out, HD.out] at h2; exact h2 hd2), HN.out]
    clear hd2
    go_wp2_with fail
    refine (specClass_c _ w1).mono ?_
    rintro e wz ⟨rfl, hw⟩
    replace hw := hw.symm
    subst hw
    rw [HCD.out]
    by_cases h64 : 64 < n
    · have HF : Hid (neE s 0 = 64) := by have h := HP.out; show _ = _; unfold neE; omega
      go_wp2
      go_ret
      exact ⟨by rw [HF.out]; rfl, HB1.out⟩
    have h64' : ¬ 64 < (n : Nat) := h64
    have HF : Hid (n = neE s 0) := by have h := HP.out; show _ = _; unfold neE; omega
    go_wp2
    go_ret
    exact ⟨by rw [← HF.out]; rfl, HB1.out⟩
  have qd : (d != (2 : Int)) = true := by simp [hd2]
  have HD2 : Hid (d ≠ 2) := hd2
  clear hd2
  have hix2 : ∀ W, (Instr.index 9 (.string s) (.int .i64 ((n : Int) - 1))).run Try.prog W = .ok (.int .u8 (byteAt s (n - 1))) W := by
    have := ixC s (n - 1) (by omega)
    rw [show (((n - 1 : Nat)) : Int) = (n : Int) - 1 by omega] at this
    exact this
  have hbr2 := byteAt_rngC s (n - 1)
  obtain ⟨b2, hb2⟩ : ∃ b2, byteAt s (n - 1) = b2 := ⟨_, rfl⟩
  have HB2 : Hid (byteAt s (n - 1) = b2) := hb2
  rw [hb2] at hix2 hbr2
  have hsn2 : ((s[n - 1]'(by omega)).toNat : Int) = b2 := by rw [← byteAt_eq s (n - 1) (by omega)]; exact hb2
  clear hb2
  by_cases h32 : b2 = 32
  rotate_left
  · have q32 : (((s[n - 1]'(by omega)).toNat : Int) == (32 : Int)) = false := beq_false_of_ne (by rw [hsn2]; exact h32)
    clear hsn2 hix2
    have HP : Hid (preE s 0 = n) := by show _ = _; rw [preE_no HC2.out (fun h => by have h2 := h.2.2.2; rw [HN.out, HB2.out] at h2; exact h32 h2), HN.out]
    clear h32
    go_wp2_with fail
    refine (specClass_c _ w1).mono ?_
    rintro e wz ⟨rfl, hw⟩
    replace hw := hw.symm
    subst hw
    rw [HCD.out]
    by_cases h64 : 64 < n
    · have HF : Hid (neE s 0 = 64) := by have h := HP.out; show _ = _; unfold neE; omega
      go_wp2
      go_ret
      exact ⟨by rw [HF.out]; rfl, HB1.out⟩
    have h64' : ¬ 64 < (n : Nat) := h64
    have HF : Hid (n = neE s 0) := by have h := HP.out; show _ = _; unfold neE; omega
    go_wp2
    go_ret
    exact ⟨by rw [← HF.out]; rfl, HB1.out⟩
  have q32 : (((s[n - 1]'(by omega)).toNat : Int) == (32 : Int)) = true := beq_iff_eq.2 (by rw [hsn2]; exact h32)
  clear hsn2 hix2
  have HDR : Hid (Draws s 0) := ⟨HC3.out, by rw [HN.out]; exact hlt, by rw [HN.out, HD.out]; exact HD2.out, by rw [HN.out, HB2.out]; exact h32⟩
  clear h32
  by_cases h1 : n = 1
  rotate_left
  · have q1 : ((n : Int) == 1) = false := beq_false_of_ne (by omega)
    obtain ⟨m, hma, hmb⟩ : ∃ m : Nat, m + 1 ≤ n ∧ n ≤ m + 1 := ⟨n - 1, by omega, by omega⟩
    have HP : Hid (preE s 0 = m) := by show _ = _; rw [preE_more HDR.out (by rw [HN.out]; exact h1), HN.out]; omega
    clear h1
    go_wp2_with fail
    refine (specClass_c _ w1).mono ?_
    rintro e wz ⟨rfl, hw⟩
    replace hw := hw.symm
    subst hw
    rw [HCD.out]
    by_cases h64 : 64 < m
    · have HF : Hid (neE s 0 = 64) := by have h := HP.out; show _ = _; unfold neE; omega
      go_wp2
      go_ret
      exact ⟨by rw [HF.out]; rfl, HB1.out⟩
    have h64' : ¬ 64 < (m : Nat) := h64
    have HF : Hid (((n : Int) - 1) = ((neE s 0 : Nat) : Int)) := by have h := HP.out; show _ = _; unfold neE; omega
    go_wp2
    go_ret
    exact ⟨by rw [← HF.out]; rfl, HB1.out⟩
  have q1 : ((n : Int) == 1) = true := beq_iff_eq.2 (by omega)
  have HN1 : Hid (n = 1) := h1
  obtain ⟨T, hT⟩ : ∃ T, s.extract 1 s.size = T := ⟨_, rfl⟩
  have hsl : ∀ W, (Instr.slice 9 (.string s) (some (.int .i64 1)) none none).run Try.prog W = .ok (.string T) W := by rw [← hT]; exact sl_one s 1 1 rfl (by omega)
  have HTS : Hid (T.size = s.size - 1) := by show _ = _; rw [← hT]; exact size_rest s 1 s.size (Nat.le_refl _)
  obtain ⟨r, hr⟩ : ∃ r, rnE T 0 = r := ⟨_, rfl⟩
  have HRR : Hid (rnE T 0 = r) := hr
  have HP : Hid (preE s 0 = 1 + r) := by
    have h5 := rnE_rest s 1 0 (by omega)
    rw [hT, hr] at h5
    show _ = _
    rw [preE_one HDR.out (by rw [HN.out]; exact h1)]
    exact h5.symm
  have hr2 : r ≤ 1000 := by have h5 := (rnE_is T 0 (Nat.zero_le _)).sz; rw [hr] at h5; have h6 := HTS.out; omega
  have HTL : Hid (T.size ≤ maxLen ∧ 0 < T.size) := by have h6 := HTS.out; exact ⟨by unfold maxLen; omega, by omega⟩
  clear h1 hT hr
  go_wp2_with fail
  refine (specClass_c _ w1).mono ?_
  rintro e wz ⟨rfl, hw⟩
  replace hw := hw.symm
  subst hw
  rw [HCD.out]
  go_wp2_with fail
  refine (specRun_c T w1 HTL.out.1 HTL.out.2).mono ?_
  rintro e w2 ⟨rfl, b2'⟩
  have HB3 : Hid (Below w.heap.size w w2) := HB1.out.trans (b2'.mono HB1.out.size)
  rw [HRR.out]
  clear b2'
  by_cases h64 : 64 < 1 + r
  · have HF : Hid (neE s 0 = 64) := by have h := HP.out; show _ = _; unfold neE; omega
    go_wp2
    go_ret
    exact ⟨by rw [HF.out]; rfl, HB3.out⟩
  have h64' : ¬ 64 < (1 + r : Nat) := h64
  have HF : Hid (1 + r = neE s 0) := by have h := HP.out; show _ = _; unfold neE; omega
  go_wp2
  go_ret
  exact ⟨by rw [← HF.out]; rfl, HB3.out⟩

end Go.Proofs.Ytdggkcohidijcaa

/- How the specification cuts a text. -/
namespace Go.Proofs.Ytdggkcohidijcaa
open Go.RowKit
set_option linter.unusedVariables false
set_option linter.unusedSimpArgs false

set_option maxRecDepth 20000 in
set_option maxHeartbeats 4000000 in
theorem specCut_c (s : ByteArray) (w : World) (hm : s.size ≤ maxLen) : Calls Try.prog 21 #[.string s] w fun e w' => ∃ v, e = .returned v ∧ OwnS w' w.heap.size v (cutF s) ∧ Below w.heap.size w w' := by
  obtain ⟨i0, hi, hz0, hz1, hz2⟩ := info_parts infoS
  have hm' := hm
  unfold maxLen at hm'
  go_enter Try.func21, Try.ntmps21
  have HM0 : Hid (OwnS (w.alloc (.cells #[] 9)) w.heap.size (.slice (some ⟨w.heap.size, 0, none⟩) 0 0) []) := World.ownsRow_made w _ 0 (Nat.le_refl _) (by decide) (by simp)
  have HB0 : Hid (Below w.heap.size w (w.alloc (.cells #[] 9))) := (Below.refl _ _).alloc (Nat.le_refl _) _
  by_cases hbig : (1000 : Int) < s.size
  · have HF : Hid (cutF s = []) := by show _ = _; unfold cutF; rw [if_neg (by omega)]
    go_wp2
    go_ret
    exact ⟨_, rfl, by rw [HF.out]; exact HM0.out, HB0.out⟩
  have h1000 : s.size ≤ 1000 := by omega
  have HF : Hid (cutF s = cutA s 0) := by show _ = _; unfold cutF; rw [if_pos h1000]
  go_wp2_with fail
  go_loopw [0, 3] (fun sv ov wr => ∃ (T : ByteArray) (acc : List ByteArray) (k : Nat), sv = .string T ∧ k ≤ s.size ∧ T.size = s.size - k ∧ Hid (s.extract k s.size = T) ∧ acc.length ≤ k ∧ Hid (OwnS wr w.heap.size ov acc) ∧ Hid (Below w.heap.size w wr) ∧ Hid (UpW s k acc)) (fun sv _ _ => match sv with | .string t => t.size | _ => 0)
  case atStart => exact ⟨s, [], 0, rfl, Nat.zero_le _, rfl, by apply ByteArray.ext; simp, Nat.zero_le _, HM0.out, HB0.out, upW_zero s⟩
  case round =>
    obtain ⟨T, acc, k, rfl, hk, hTs, HT, hal, HO, HBr, HU⟩ := hrel
    by_cases hlt : k < s.size
    rotate_left
    · have hke : k = s.size := by omega
      have HR : Hid (OwnS wr w.heap.size u3 (cutF s)) := by
        have h := HU.out
        rw [hke] at h
        have h2 := HO.out
        rw [upW_end h, ← HF.out] at h2
        exact h2
      have hT0 : ¬ (0 : Int) < T.size := by omega
      clear hke HU HO
      go_wp2
      go_ret
      exact ⟨_, rfl, HR.out, HBr.out⟩
    have hT0 : (0 : Int) < T.size := by omega
    have hT1 : 0 < T.size := by omega
    have hTm : T.size ≤ 1000 := by omega
    have hin := neE_in hlt
    have hre := neE_rest s k hlt
    rw [HT.out] at hre
    obtain ⟨n, hn⟩ : ∃ n, neE T 0 = n := ⟨_, rfl⟩
    rw [hn] at hre
    have HNE : Hid (neE T 0 = n) := hn
    obtain ⟨Y, hY⟩ : ∃ Y, T.extract 0 n = Y := ⟨_, rfl⟩
    obtain ⟨U, hU⟩ : ∃ U, T.extract n T.size = U := ⟨_, rfl⟩
    have hnT : n ≤ T.size := by omega
    have hs1 : ∀ W, (Instr.slice 9 (.string T) none (some (.int .i64 (n : Int))) none).run Try.prog W = .ok (.string Y) W := by rw [← hY]; exact sl_hd T n _ rfl hnT
    have hs2 : ∀ W, (Instr.slice 9 (.string T) (some (.int .i64 (n : Int))) none none).run Try.prog W = .ok (.string U) W := by rw [← hU]; exact sl_one T n _ rfl hnT
    have HY : Hid (Y = s.extract k (neE s k)) := by show _ = _; rw [← hY, ← HT.out, ext_head s k n (by omega), hre]
    have HUe : Hid (s.extract (neE s k) s.size = U) := by show _ = _; rw [← hU, ← HT.out, ext_rest s k n (by omega), hre]
    have hUs : U.size = s.size - neE s k := by rw [← HUe.out]; exact size_rest s _ _ (Nat.le_refl _)
    have HU2 : Hid (UpW s (neE s k) (acc ++ [Y])) := by have h := upW_more HU.out hlt; rw [← HY.out] at h; exact h
    obtain ⟨k2, hk2⟩ : ∃ k2, neE s k = k2 := ⟨_, rfl⟩
    rw [hk2] at hin HUe hUs HU2 hre
    clear hn hY hU hk2 HU HY
    go_wp2_with fail
    refine (specNext_c T wr hTm hT1).mono ?_
    rintro e w1 ⟨rfl, b1⟩
    rw [HNE.out]
    have hown1 : OwnS w1 w.heap.size _ acc := OwnS.keep HO.out b1
    unfold OwnS at hown1
    have hbel1 : Below w.heap.size w w1 := HBr.out.trans (b1.mono HBr.out.size)
    have hsz1 := hbel1.size
    have hml : (1048577 : Nat) ≤ maxLen := by unfold maxLen; omega
    clear b1 HO HBr HNE
    go_wp2_with (at_builtin; refine wpList_append_own _ rfl _ _ 38 rfl w.heap.size 9 i0 (.string ⟨#[]⟩) 1 16 Try.underlying38 hi hz0 hz1 hz2 rfl (by decide) _ _ _ rfl (hown1.alloc _) ⟨w1.heap.size, 0, none⟩ 1 1 [.string Y] rfl rfl (cell_one_new _ _ _) (by intro u hu; simp at hu; subst hu; rfl) (by omega) (by omega) (by simp; omega) ?_)
    intro v' w2 hown2 hgrow _
    have R1 := own_snocS hown2
    have R2 := below_append hbel1 (Nat.le_refl _) hown1 hgrow
    have R1' : Hid (OwnS w2 w.heap.size v' (acc ++ [Y])) := R1
    have R2' : Hid (Below w.heap.size w w2) := R2
    clear hown2 hgrow hown1 hbel1 R1 R2
    go_wp2
    go_roundw
    case rel => exact ⟨U, acc ++ [Y], k2, rfl, hin.2.1, hUs, HUe, by simp; omega, R1', R2', HU2⟩
    case measure => simp; omega

end Go.Proofs.Ytdggkcohidijcaa
