/- RecOk of both sides, and the program's records, by their contracts. -/
import Derived.Test.YthlokfcejojdhaaDoorWrMath
import Derived.Test.YthlokfcejojdhaaDoorFrClone
import Derived.Test.YthlokfcejojdhaaDoorRgHeld
namespace Go.Proofs.YthlokfcejojdhaaDoor
open Go.RowKit
set_option linter.unusedVariables false

theorem sin_yes (n a b : Int) (w : World) (h1 : a ≤ n) (h2 : n ≤ b) : Calls Tryd.prog 25 #[.int .i64 n, .int .i64 a, .int .i64 b] w fun e w' => e = .returned (.bool true) ∧ w' = w := by
  go_enter Tryd.func25, Tryd.ntmps25
  go_wp2
  go_ret
  exact ⟨rfl, rfl⟩

theorem sin_no (n a b : Int) (w : World) (h : ¬ (a ≤ n ∧ n ≤ b)) : Calls Tryd.prog 25 #[.int .i64 n, .int .i64 a, .int .i64 b] w fun e w' => e = .returned (.bool false) ∧ w' = w := by
  by_cases h1 : n < a
  · have h1' : ¬ a ≤ n := by omega
    clear h
    go_enter Tryd.func25, Tryd.ntmps25
    go_wp2
    go_ret
    exact ⟨rfl, rfl⟩
  · have h2 : ¬ n ≤ b := by omega
    have h1' : a ≤ n := by omega
    clear h h1
    go_enter Tryd.func25, Tryd.ntmps25
    go_wp2
    go_ret
    exact ⟨rfl, rfl⟩

theorem win_yes (n a b : Int) (w : World) (h1 : a ≤ n) (h2 : n ≤ b) : Calls Tryd.prog 41 #[.int .i64 n, .int .i64 a, .int .i64 b] w fun e w' => e = .returned (.bool true) ∧ w' = w := by
  go_enter Tryd.func41, Tryd.ntmps41
  go_wp2
  go_ret
  exact ⟨rfl, rfl⟩

theorem win_no (n a b : Int) (w : World) (h : ¬ (a ≤ n ∧ n ≤ b)) : Calls Tryd.prog 41 #[.int .i64 n, .int .i64 a, .int .i64 b] w fun e w' => e = .returned (.bool false) ∧ w' = w := by
  by_cases h1 : n < a
  · have h1' : ¬ a ≤ n := by omega
    clear h
    go_enter Tryd.func41, Tryd.ntmps41
    go_wp2
    go_ret
    exact ⟨rfl, rfl⟩
  · have h2 : ¬ n ≤ b := by omega
    have h1' : a ≤ n := by omega
    clear h h1
    go_enter Tryd.func41, Tryd.ntmps41
    go_wp2
    go_ret
    exact ⟨rfl, rfl⟩

def bsR (i t : Int) : Prop := (i = 0 ∧ t = 0) ∨ (i ≠ 0 ∧ (1 ≤ i ∧ i ≤ 100000) ∧ (1 ≤ t ∧ t ≤ 100000))

instance (i t : Int) : Decidable (bsR i t) := by unfold bsR; infer_instance

theorem based_c (i t : Int) (w : World) : Calls Tryd.prog 26 #[.int .i64 i, .int .i64 t] w fun e w' => e = .returned (.bool (decide (bsR i t))) ∧ w' = w := by
  by_cases h0 : i = 0
  · subst h0
    by_cases h1 : t = 0
    · go_enter Tryd.func26, Tryd.ntmps26
      go_wp2
      go_ret
      exact ⟨ret_t (by unfold bsR; omega), rfl⟩
    · go_enter Tryd.func26, Tryd.ntmps26
      go_wp2
      go_ret
      exact ⟨ret_x (by simpa using h1) (decide_eq_false (by unfold bsR; omega)), rfl⟩
  · by_cases t0 : 1 ≤ i ∧ i ≤ 100000
    · by_cases t1 : 1 ≤ t ∧ t ≤ 100000
      · go_enter Tryd.func26, Tryd.ntmps26
        go_wp2_with fail
        refine (sin_yes i 1 100000 _ t0.1 t0.2).mono ?_
        rintro e w1 ⟨rfl, hw⟩
        replace hw := hw.symm
        subst hw
        go_wp2_with fail
        refine (sin_yes t 1 100000 _ t1.1 t1.2).mono ?_
        rintro e w1 ⟨rfl, hw⟩
        replace hw := hw.symm
        subst hw
        go_wp2
        go_ret
        exact ⟨ret_t (by unfold bsR; omega), rfl⟩
      · go_enter Tryd.func26, Tryd.ntmps26
        go_wp2_with fail
        refine (sin_yes i 1 100000 _ t0.1 t0.2).mono ?_
        rintro e w1 ⟨rfl, hw⟩
        replace hw := hw.symm
        subst hw
        go_wp2_with fail
        refine (sin_no t 1 100000 _ t1).mono ?_
        rintro e w1 ⟨rfl, hw⟩
        replace hw := hw.symm
        subst hw
        go_wp2
        go_ret
        exact ⟨ret_f (by unfold bsR; omega), rfl⟩
    · go_enter Tryd.func26, Tryd.ntmps26
      go_wp2_with fail
      refine (sin_no i 1 100000 _ t0).mono ?_
      rintro e w1 ⟨rfl, hw⟩
      replace hw := hw.symm
      subst hw
      go_wp2
      go_ret
      exact ⟨ret_f (by unfold bsR; omega), rfl⟩

theorem bas_yes (i t : Int) (w : World) (h : bsR i t) : Calls Tryd.prog 26 #[.int .i64 i, .int .i64 t] w fun e w' => e = .returned (.bool true) ∧ w' = w := by
  have := based_c i t w
  rwa [decide_eq_true h] at this

theorem bas_no (i t : Int) (w : World) (h : ¬ bsR i t) : Calls Tryd.prog 26 #[.int .i64 i, .int .i64 t] w fun e w' => e = .returned (.bool false) ∧ w' = w := by
  have := based_c i t w
  rwa [decide_eq_false h] at this

set_option maxRecDepth 20000 in
set_option maxHeartbeats 1000000 in
theorem specRecOk_c (x : S_Rec) (w : World) (hz : sRec x) : Calls Tryd.prog 57 #[.agg #[.int .i64 x.f0, .int .i64 x.f1, .int .i64 x.f2, .int .i64 x.f3, .string x.f4]] w fun e w' => e = .returned (.bool (decide (okR x))) ∧ Below w.heap.size w w' := by
  unfold sRec maxLen at hz
  by_cases k1 : x.f0 = 1
  · by_cases t0 : 0 ≤ x.f1 ∧ x.f1 ≤ 100000
    · by_cases t1 : -1 ≤ x.f3 ∧ x.f3 ≤ 4
      · by_cases t2 : x.f2 = 0
        · by_cases t3 : x.f4 = ⟨#[]⟩
          · go_enter Tryd.func57, Tryd.ntmps57
            go_wp2_with fail
            refine (sin_yes x.f1 0 100000 _ t0.1 t0.2).mono ?_
            rintro e w1 ⟨rfl, hw⟩
            replace hw := hw.symm
            subst hw
            go_wp2_with fail
            refine (sin_yes x.f3 (-1) 4 _ t1.1 t1.2).mono ?_
            rintro e w1 ⟨rfl, hw⟩
            replace hw := hw.symm
            subst hw
            go_wp2
            go_ret
            exact ⟨ret_t (by exact .inl ⟨k1, t0, t1, t2, t3⟩), (Below.refl _ _).alloc (Nat.le_refl _) _⟩
          · go_enter Tryd.func57, Tryd.ntmps57
            go_wp2_with fail
            refine (sin_yes x.f1 0 100000 _ t0.1 t0.2).mono ?_
            rintro e w1 ⟨rfl, hw⟩
            replace hw := hw.symm
            subst hw
            go_wp2_with fail
            refine (sin_yes x.f3 (-1) 4 _ t1.1 t1.2).mono ?_
            rintro e w1 ⟨rfl, hw⟩
            replace hw := hw.symm
            subst hw
            go_wp2
            go_ret
            exact ⟨ret_x (empty_no t3) (decide_eq_false (by intro h; unfold okR at h; rcases h with h | h | h | h <;> first | omega | exact t3 (by first | exact h.2.1 | exact h.2.2.1 | exact h.2.2.2.1 | exact h.2.2.2.2 | omega))), (Below.refl _ _).alloc (Nat.le_refl _) _⟩
        · go_enter Tryd.func57, Tryd.ntmps57
          go_wp2_with fail
          refine (sin_yes x.f1 0 100000 _ t0.1 t0.2).mono ?_
          rintro e w1 ⟨rfl, hw⟩
          replace hw := hw.symm
          subst hw
          go_wp2_with fail
          refine (sin_yes x.f3 (-1) 4 _ t1.1 t1.2).mono ?_
          rintro e w1 ⟨rfl, hw⟩
          replace hw := hw.symm
          subst hw
          go_wp2
          go_ret
          exact ⟨ret_f (by intro h; unfold okR at h; rcases h with h | h | h | h <;> first | omega | exact t2 (by first | exact h.2.1 | exact h.2.2.1 | exact h.2.2.2.1 | exact h.2.2.2.2 | omega)), (Below.refl _ _).alloc (Nat.le_refl _) _⟩
      · go_enter Tryd.func57, Tryd.ntmps57
        go_wp2_with fail
        refine (sin_yes x.f1 0 100000 _ t0.1 t0.2).mono ?_
        rintro e w1 ⟨rfl, hw⟩
        replace hw := hw.symm
        subst hw
        go_wp2_with fail
        refine (sin_no x.f3 (-1) 4 _ t1).mono ?_
        rintro e w1 ⟨rfl, hw⟩
        replace hw := hw.symm
        subst hw
        go_wp2
        go_ret
        exact ⟨ret_f (by intro h; unfold okR at h; rcases h with h | h | h | h <;> first | omega | exact t1 (by first | exact h.2.1 | exact h.2.2.1 | exact h.2.2.2.1 | exact h.2.2.2.2 | omega)), (Below.refl _ _).alloc (Nat.le_refl _) _⟩
    · go_enter Tryd.func57, Tryd.ntmps57
      go_wp2_with fail
      refine (sin_no x.f1 0 100000 _ t0).mono ?_
      rintro e w1 ⟨rfl, hw⟩
      replace hw := hw.symm
      subst hw
      go_wp2
      go_ret
      exact ⟨ret_f (by intro h; unfold okR at h; rcases h with h | h | h | h <;> first | omega | exact t0 (by first | exact h.2.1 | exact h.2.2.1 | exact h.2.2.2.1 | exact h.2.2.2.2 | omega)), (Below.refl _ _).alloc (Nat.le_refl _) _⟩
  by_cases k2 : x.f0 = 2
  · by_cases t0 : 1 ≤ x.f1 ∧ x.f1 ≤ 100000
    · by_cases t1 : 1 ≤ x.f2 ∧ x.f2 ≤ 100000
      · by_cases t2 : x.f3 = 0
        · by_cases t3 : (x.f4.size : Int) ≤ 900
          · go_enter Tryd.func57, Tryd.ntmps57
            go_wp2_with fail
            refine (sin_yes x.f1 1 100000 _ t0.1 t0.2).mono ?_
            rintro e w1 ⟨rfl, hw⟩
            replace hw := hw.symm
            subst hw
            go_wp2_with fail
            refine (sin_yes x.f2 1 100000 _ t1.1 t1.2).mono ?_
            rintro e w1 ⟨rfl, hw⟩
            replace hw := hw.symm
            subst hw
            go_wp2
            go_ret
            exact ⟨ret_t (by have := t3; exact .inr (.inl ⟨k2, t0, t1, t2, by omega⟩)), (Below.refl _ _).alloc (Nat.le_refl _) _⟩
          · go_enter Tryd.func57, Tryd.ntmps57
            go_wp2_with fail
            refine (sin_yes x.f1 1 100000 _ t0.1 t0.2).mono ?_
            rintro e w1 ⟨rfl, hw⟩
            replace hw := hw.symm
            subst hw
            go_wp2_with fail
            refine (sin_yes x.f2 1 100000 _ t1.1 t1.2).mono ?_
            rintro e w1 ⟨rfl, hw⟩
            replace hw := hw.symm
            subst hw
            go_wp2
            go_ret
            exact ⟨ret_x (decide_eq_false (by omega)) (decide_eq_false (by intro h; unfold okR at h; rcases h with h | h | h | h <;> first | omega | exact t3 (by first | exact h.2.1 | exact h.2.2.1 | exact h.2.2.2.1 | exact h.2.2.2.2 | omega))), (Below.refl _ _).alloc (Nat.le_refl _) _⟩
        · go_enter Tryd.func57, Tryd.ntmps57
          go_wp2_with fail
          refine (sin_yes x.f1 1 100000 _ t0.1 t0.2).mono ?_
          rintro e w1 ⟨rfl, hw⟩
          replace hw := hw.symm
          subst hw
          go_wp2_with fail
          refine (sin_yes x.f2 1 100000 _ t1.1 t1.2).mono ?_
          rintro e w1 ⟨rfl, hw⟩
          replace hw := hw.symm
          subst hw
          go_wp2
          go_ret
          exact ⟨ret_f (by intro h; unfold okR at h; rcases h with h | h | h | h <;> first | omega | exact t2 (by first | exact h.2.1 | exact h.2.2.1 | exact h.2.2.2.1 | exact h.2.2.2.2 | omega)), (Below.refl _ _).alloc (Nat.le_refl _) _⟩
      · go_enter Tryd.func57, Tryd.ntmps57
        go_wp2_with fail
        refine (sin_yes x.f1 1 100000 _ t0.1 t0.2).mono ?_
        rintro e w1 ⟨rfl, hw⟩
        replace hw := hw.symm
        subst hw
        go_wp2_with fail
        refine (sin_no x.f2 1 100000 _ t1).mono ?_
        rintro e w1 ⟨rfl, hw⟩
        replace hw := hw.symm
        subst hw
        go_wp2
        go_ret
        exact ⟨ret_f (by intro h; unfold okR at h; rcases h with h | h | h | h <;> first | omega | exact t1 (by first | exact h.2.1 | exact h.2.2.1 | exact h.2.2.2.1 | exact h.2.2.2.2 | omega)), (Below.refl _ _).alloc (Nat.le_refl _) _⟩
    · go_enter Tryd.func57, Tryd.ntmps57
      go_wp2_with fail
      refine (sin_no x.f1 1 100000 _ t0).mono ?_
      rintro e w1 ⟨rfl, hw⟩
      replace hw := hw.symm
      subst hw
      go_wp2
      go_ret
      exact ⟨ret_f (by intro h; unfold okR at h; rcases h with h | h | h | h <;> first | omega | exact t0 (by first | exact h.2.1 | exact h.2.2.1 | exact h.2.2.2.1 | exact h.2.2.2.2 | omega)), (Below.refl _ _).alloc (Nat.le_refl _) _⟩
  by_cases k3 : x.f0 = 3
  · by_cases t0 : x.f1 = 0
    · by_cases t1 : 1 ≤ x.f2 ∧ x.f2 ≤ 100000
      · by_cases t2 : x.f3 = 0
        · by_cases t3 : x.f4 = ⟨#[]⟩
          · go_enter Tryd.func57, Tryd.ntmps57
            go_wp2_with fail
            refine (sin_yes x.f2 1 100000 _ t1.1 t1.2).mono ?_
            rintro e w1 ⟨rfl, hw⟩
            replace hw := hw.symm
            subst hw
            go_wp2
            go_ret
            exact ⟨ret_t (by exact .inr (.inr (.inl ⟨k3, t0, t1, t2, t3⟩))), (Below.refl _ _).alloc (Nat.le_refl _) _⟩
          · go_enter Tryd.func57, Tryd.ntmps57
            go_wp2_with fail
            refine (sin_yes x.f2 1 100000 _ t1.1 t1.2).mono ?_
            rintro e w1 ⟨rfl, hw⟩
            replace hw := hw.symm
            subst hw
            go_wp2
            go_ret
            exact ⟨ret_x (empty_no t3) (decide_eq_false (by intro h; unfold okR at h; rcases h with h | h | h | h <;> first | omega | exact t3 (by first | exact h.2.1 | exact h.2.2.1 | exact h.2.2.2.1 | exact h.2.2.2.2 | omega))), (Below.refl _ _).alloc (Nat.le_refl _) _⟩
        · go_enter Tryd.func57, Tryd.ntmps57
          go_wp2_with fail
          refine (sin_yes x.f2 1 100000 _ t1.1 t1.2).mono ?_
          rintro e w1 ⟨rfl, hw⟩
          replace hw := hw.symm
          subst hw
          go_wp2
          go_ret
          exact ⟨ret_f (by intro h; unfold okR at h; rcases h with h | h | h | h <;> first | omega | exact t2 (by first | exact h.2.1 | exact h.2.2.1 | exact h.2.2.2.1 | exact h.2.2.2.2 | omega)), (Below.refl _ _).alloc (Nat.le_refl _) _⟩
      · go_enter Tryd.func57, Tryd.ntmps57
        go_wp2_with fail
        refine (sin_no x.f2 1 100000 _ t1).mono ?_
        rintro e w1 ⟨rfl, hw⟩
        replace hw := hw.symm
        subst hw
        go_wp2
        go_ret
        exact ⟨ret_f (by intro h; unfold okR at h; rcases h with h | h | h | h <;> first | omega | exact t1 (by first | exact h.2.1 | exact h.2.2.1 | exact h.2.2.2.1 | exact h.2.2.2.2 | omega)), (Below.refl _ _).alloc (Nat.le_refl _) _⟩
    · go_enter Tryd.func57, Tryd.ntmps57
      go_wp2
      go_ret
      exact ⟨ret_f (by intro h; unfold okR at h; rcases h with h | h | h | h <;> first | omega | exact t0 (by first | exact h.2.1 | exact h.2.2.1 | exact h.2.2.2.1 | exact h.2.2.2.2 | omega)), (Below.refl _ _).alloc (Nat.le_refl _) _⟩
  by_cases k4 : x.f0 = 4
  · by_cases t0 : bsR x.f2 x.f1
    · by_cases t1 : x.f3 = 0
      · by_cases t2 : x.f4 = ⟨#[]⟩
        · go_enter Tryd.func57, Tryd.ntmps57
          go_wp2_with fail
          refine (bas_yes x.f2 x.f1 _ t0).mono ?_
          rintro e w1 ⟨rfl, hw⟩
          replace hw := hw.symm
          subst hw
          go_wp2
          go_ret
          exact ⟨ret_t (by exact .inr (.inr (.inr ⟨k4, t0, t1, t2⟩))), (Below.refl _ _).alloc (Nat.le_refl _) _⟩
        · go_enter Tryd.func57, Tryd.ntmps57
          go_wp2_with fail
          refine (bas_yes x.f2 x.f1 _ t0).mono ?_
          rintro e w1 ⟨rfl, hw⟩
          replace hw := hw.symm
          subst hw
          go_wp2
          go_ret
          exact ⟨ret_x (empty_no t2) (decide_eq_false (by intro h; unfold okR at h; rcases h with h | h | h | ⟨_, h1, h2, h3⟩ <;> first | omega | exact t2 (by first | exact h1 | exact h2 | exact h3))), (Below.refl _ _).alloc (Nat.le_refl _) _⟩
      · go_enter Tryd.func57, Tryd.ntmps57
        go_wp2_with fail
        refine (bas_yes x.f2 x.f1 _ t0).mono ?_
        rintro e w1 ⟨rfl, hw⟩
        replace hw := hw.symm
        subst hw
        go_wp2
        go_ret
        exact ⟨ret_f (by intro h; unfold okR at h; rcases h with h | h | h | ⟨_, h1, h2, h3⟩ <;> first | omega | exact t1 (by first | exact h1 | exact h2 | exact h3)), (Below.refl _ _).alloc (Nat.le_refl _) _⟩
    · go_enter Tryd.func57, Tryd.ntmps57
      go_wp2_with fail
      refine (bas_no x.f2 x.f1 _ t0).mono ?_
      rintro e w1 ⟨rfl, hw⟩
      replace hw := hw.symm
      subst hw
      go_wp2
      go_ret
      exact ⟨ret_f (by intro h; unfold okR at h; rcases h with h | h | h | ⟨_, h1, h2, h3⟩ <;> first | omega | exact t0 (by first | exact h1 | exact h2 | exact h3)), (Below.refl _ _).alloc (Nat.le_refl _) _⟩
  go_enter Tryd.func57, Tryd.ntmps57
  go_wp2
  go_ret
  exact ⟨ret_f (by unfold okR; omega), (Below.refl _ _).alloc (Nat.le_refl _) _⟩

set_option maxRecDepth 20000 in
set_option maxHeartbeats 1000000 in
theorem bounds_c (x : S_Rec) (w : World) (hz : sRec x) : Calls Tryd.prog 73 #[.agg #[.int .i64 x.f0, .int .i64 x.f1, .int .i64 x.f2, .int .i64 x.f3, .string x.f4]] w fun e w' => e = .returned (.bool (decide (bdR x))) ∧ Below w.heap.size w w' := by
  unfold sRec maxLen at hz
  by_cases k1 : x.f0 = 1
  · by_cases t0 : 0 ≤ x.f1 ∧ x.f1 ≤ 100000
    · by_cases t1 : -1 ≤ x.f3 ∧ x.f3 ≤ 4
      · go_enter Tryd.func73, Tryd.ntmps73
        go_wp2_with fail
        refine (win_yes x.f1 0 100000 _ t0.1 t0.2).mono ?_
        rintro e w1 ⟨rfl, hw⟩
        replace hw := hw.symm
        subst hw
        go_wp2_with fail
        refine (win_yes x.f3 (-1) 4 _ t1.1 t1.2).mono ?_
        rintro e w1 ⟨rfl, hw⟩
        replace hw := hw.symm
        subst hw
        go_wp2
        go_ret
        exact ⟨ret_t (by unfold bdR; omega), (Below.refl _ _).alloc (Nat.le_refl _) _⟩
      · go_enter Tryd.func73, Tryd.ntmps73
        go_wp2_with fail
        refine (win_yes x.f1 0 100000 _ t0.1 t0.2).mono ?_
        rintro e w1 ⟨rfl, hw⟩
        replace hw := hw.symm
        subst hw
        go_wp2_with fail
        refine (win_no x.f3 (-1) 4 _ t1).mono ?_
        rintro e w1 ⟨rfl, hw⟩
        replace hw := hw.symm
        subst hw
        go_wp2
        go_ret
        exact ⟨ret_f (by unfold bdR; omega), (Below.refl _ _).alloc (Nat.le_refl _) _⟩
    · go_enter Tryd.func73, Tryd.ntmps73
      go_wp2_with fail
      refine (win_no x.f1 0 100000 _ t0).mono ?_
      rintro e w1 ⟨rfl, hw⟩
      replace hw := hw.symm
      subst hw
      go_wp2
      go_ret
      exact ⟨ret_f (by unfold bdR; omega), (Below.refl _ _).alloc (Nat.le_refl _) _⟩
  by_cases k4 : x.f0 = 4
  · by_cases z0 : x.f2 = 0
    · by_cases z1 : x.f1 = 0
      · go_enter Tryd.func73, Tryd.ntmps73
        go_wp2
        go_ret
        exact ⟨ret_t (by unfold bdR; omega), (Below.refl _ _).alloc (Nat.le_refl _) _⟩
      · go_enter Tryd.func73, Tryd.ntmps73
        go_wp2
        go_ret
        exact ⟨ret_x (by simpa using z1) (decide_eq_false (by unfold bdR; omega)), (Below.refl _ _).alloc (Nat.le_refl _) _⟩
    · by_cases t0 : 1 ≤ x.f1 ∧ x.f1 ≤ 100000
      · by_cases t1 : (x.f4.size : Int) ≤ 900
        · by_cases t2 : 1 ≤ x.f2 ∧ x.f2 ≤ 100000
          · go_enter Tryd.func73, Tryd.ntmps73
            go_wp2_with fail
            refine (win_yes x.f1 1 100000 _ t0.1 t0.2).mono ?_
            rintro e w1 ⟨rfl, hw⟩
            replace hw := hw.symm
            subst hw
            go_wp2_with fail
            refine (win_yes x.f2 1 100000 _ t2.1 t2.2).mono ?_
            rintro e w1 ⟨rfl, hw⟩
            replace hw := hw.symm
            subst hw
            go_wp2
            go_ret
            exact ⟨ret_t (by unfold bdR; omega), (Below.refl _ _).alloc (Nat.le_refl _) _⟩
          · go_enter Tryd.func73, Tryd.ntmps73
            go_wp2_with fail
            refine (win_yes x.f1 1 100000 _ t0.1 t0.2).mono ?_
            rintro e w1 ⟨rfl, hw⟩
            replace hw := hw.symm
            subst hw
            go_wp2_with fail
            refine (win_no x.f2 1 100000 _ t2).mono ?_
            rintro e w1 ⟨rfl, hw⟩
            replace hw := hw.symm
            subst hw
            go_wp2
            go_ret
            exact ⟨ret_f (by unfold bdR; omega), (Below.refl _ _).alloc (Nat.le_refl _) _⟩
        · go_enter Tryd.func73, Tryd.ntmps73
          go_wp2_with fail
          refine (win_yes x.f1 1 100000 _ t0.1 t0.2).mono ?_
          rintro e w1 ⟨rfl, hw⟩
          replace hw := hw.symm
          subst hw
          go_wp2
          go_ret
          exact ⟨ret_f (by unfold bdR; omega), (Below.refl _ _).alloc (Nat.le_refl _) _⟩
      · go_enter Tryd.func73, Tryd.ntmps73
        go_wp2_with fail
        refine (win_no x.f1 1 100000 _ t0).mono ?_
        rintro e w1 ⟨rfl, hw⟩
        replace hw := hw.symm
        subst hw
        go_wp2
        go_ret
        exact ⟨ret_f (by unfold bdR; omega), (Below.refl _ _).alloc (Nat.le_refl _) _⟩
  by_cases k2 : x.f0 = 2
  · by_cases t0 : 1 ≤ x.f1 ∧ x.f1 ≤ 100000
    · by_cases t1 : (x.f4.size : Int) ≤ 900
      · by_cases t2 : 1 ≤ x.f2 ∧ x.f2 ≤ 100000
        · go_enter Tryd.func73, Tryd.ntmps73
          go_wp2_with fail
          refine (win_yes x.f1 1 100000 _ t0.1 t0.2).mono ?_
          rintro e w1 ⟨rfl, hw⟩
          replace hw := hw.symm
          subst hw
          go_wp2_with fail
          refine (win_yes x.f2 1 100000 _ t2.1 t2.2).mono ?_
          rintro e w1 ⟨rfl, hw⟩
          replace hw := hw.symm
          subst hw
          go_wp2
          go_ret
          exact ⟨ret_t (by unfold bdR; omega), (Below.refl _ _).alloc (Nat.le_refl _) _⟩
        · go_enter Tryd.func73, Tryd.ntmps73
          go_wp2_with fail
          refine (win_yes x.f1 1 100000 _ t0.1 t0.2).mono ?_
          rintro e w1 ⟨rfl, hw⟩
          replace hw := hw.symm
          subst hw
          go_wp2_with fail
          refine (win_no x.f2 1 100000 _ t2).mono ?_
          rintro e w1 ⟨rfl, hw⟩
          replace hw := hw.symm
          subst hw
          go_wp2
          go_ret
          exact ⟨ret_f (by unfold bdR; omega), (Below.refl _ _).alloc (Nat.le_refl _) _⟩
      · go_enter Tryd.func73, Tryd.ntmps73
        go_wp2_with fail
        refine (win_yes x.f1 1 100000 _ t0.1 t0.2).mono ?_
        rintro e w1 ⟨rfl, hw⟩
        replace hw := hw.symm
        subst hw
        go_wp2
        go_ret
        exact ⟨ret_f (by unfold bdR; omega), (Below.refl _ _).alloc (Nat.le_refl _) _⟩
    · go_enter Tryd.func73, Tryd.ntmps73
      go_wp2_with fail
      refine (win_no x.f1 1 100000 _ t0).mono ?_
      rintro e w1 ⟨rfl, hw⟩
      replace hw := hw.symm
      subst hw
      go_wp2
      go_ret
      exact ⟨ret_f (by unfold bdR; omega), (Below.refl _ _).alloc (Nat.le_refl _) _⟩
  by_cases k3 : x.f0 = 3
  · by_cases t0 : 1 ≤ x.f2 ∧ x.f2 ≤ 100000
    · go_enter Tryd.func73, Tryd.ntmps73
      go_wp2_with fail
      refine (win_yes x.f2 1 100000 _ t0.1 t0.2).mono ?_
      rintro e w1 ⟨rfl, hw⟩
      replace hw := hw.symm
      subst hw
      go_wp2
      go_ret
      exact ⟨ret_t (by unfold bdR; omega), (Below.refl _ _).alloc (Nat.le_refl _) _⟩
    · go_enter Tryd.func73, Tryd.ntmps73
      go_wp2_with fail
      refine (win_no x.f2 1 100000 _ t0).mono ?_
      rintro e w1 ⟨rfl, hw⟩
      replace hw := hw.symm
      subst hw
      go_wp2
      go_ret
      exact ⟨ret_f (by unfold bdR; omega), (Below.refl _ _).alloc (Nat.le_refl _) _⟩
  go_enter Tryd.func73, Tryd.ntmps73
  go_wp2
  go_ret
  exact ⟨ret_f (by unfold bdR; omega), (Below.refl _ _).alloc (Nat.le_refl _) _⟩

/-- A record as the program has it. -/
def recV (x : S_Rec) : Value :=
  if x.f0 = 1 then .iface 42 (.agg #[.int .i64 x.f1, .int .i64 x.f3]) else if x.f0 = 2 then .iface 85 (.agg #[.int .i64 x.f2, .int .i64 x.f1, .string x.f4]) else if x.f0 = 3 then .iface 91 (.agg #[.int .i64 x.f2]) else if x.f0 = 4 then .iface 40 (.agg #[.int .i64 x.f1, .int .i64 x.f2]) else .nilIface

set_option maxRecDepth 20000 in
set_option maxHeartbeats 1000000 in
theorem kindOf_c (x : S_Rec) (w : World) : Calls Tryd.prog 74 #[.agg #[.int .i64 x.f0, .int .i64 x.f1, .int .i64 x.f2, .int .i64 x.f3, .string x.f4]] w fun e w' => e = .returned (recV x) ∧ Below w.heap.size w w' := by
  by_cases k1 : x.f0 = 1
  · have HV : Hid (recV x = .iface 42 (.agg #[.int .i64 x.f1, .int .i64 x.f3])) := by show _ = _; unfold recV;  rw [if_pos k1]
    go_enter Tryd.func74, Tryd.ntmps74
    go_wp2
    go_ret
    exact ⟨by rw [HV.out]; rfl, (Below.refl _ _).alloc (Nat.le_refl _) _⟩
  by_cases k2 : x.f0 = 2
  · have HV : Hid (recV x = .iface 85 (.agg #[.int .i64 x.f2, .int .i64 x.f1, .string x.f4])) := by show _ = _; unfold recV; rw [if_neg k1]; rw [if_pos k2]
    go_enter Tryd.func74, Tryd.ntmps74
    go_wp2
    go_ret
    exact ⟨by rw [HV.out]; rfl, (Below.refl _ _).alloc (Nat.le_refl _) _⟩
  by_cases k3 : x.f0 = 3
  · have HV : Hid (recV x = .iface 91 (.agg #[.int .i64 x.f2])) := by show _ = _; unfold recV; rw [if_neg k1]; rw [if_neg k2]; rw [if_pos k3]
    go_enter Tryd.func74, Tryd.ntmps74
    go_wp2
    go_ret
    exact ⟨by rw [HV.out]; rfl, (Below.refl _ _).alloc (Nat.le_refl _) _⟩
  by_cases k4 : x.f0 = 4
  · have HV : Hid (recV x = .iface 40 (.agg #[.int .i64 x.f1, .int .i64 x.f2])) := by show _ = _; unfold recV; rw [if_neg k1]; rw [if_neg k2]; rw [if_neg k3]; rw [if_pos k4]
    go_enter Tryd.func74, Tryd.ntmps74
    go_wp2
    go_ret
    exact ⟨by rw [HV.out]; rfl, (Below.refl _ _).alloc (Nat.le_refl _) _⟩
  have HV : Hid (recV x = .nilIface) := by show _ = _; unfold recV; rw [if_neg k1, if_neg k2, if_neg k3, if_neg k4]
  go_enter Tryd.func74, Tryd.ntmps74
  go_wp2
  go_ret
  exact ⟨by rw [HV.out]; rfl, (Below.refl _ _).alloc (Nat.le_refl _) _⟩

end Go.Proofs.YthlokfcejojdhaaDoor
