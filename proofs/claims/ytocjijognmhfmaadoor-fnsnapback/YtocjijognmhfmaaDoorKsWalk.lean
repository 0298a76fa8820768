/- SnapOk of both sides. -/
import Derived.Test.YtocjijognmhfmaaDoorHaSnap
namespace Go.Proofs.YtocjijognmhfmaaDoor
open Go.RowKit
set_option linter.unusedVariables false
set_option linter.unusedSimpArgs false

/-- A snapshot that is right, or the zero one. -/
def okS (x : S_Snap) : Prop := (x.f0 = 0 ∧ x.f1 = 0 ∧ x.f2 = ⟨#[]⟩) ∨ ((1 ≤ x.f0 ∧ x.f0 ≤ 100000) ∧ (1 ≤ x.f1 ∧ x.f1 ≤ 100000) ∧ x.f2.size ≤ 8000)

instance (x : S_Snap) : Decidable (okS x) := by unfold okS; infer_instance

theorem emptyK_no {s : ByteArray} (h : ¬ s = ⟨#[]⟩) : s.toList.isEmpty = false := by
  rw [Bool.eq_false_iff]
  intro h'
  rw [List.isEmpty_iff] at h'
  apply h
  have h2 : s.data.toList = [] := by rw [← ByteArray.toList_eq]; exact h'
  cases s with | mk d => simp at h2; rw [h2]

theorem emptyK_yes {s : ByteArray} (h : s = ⟨#[]⟩) : s.toList.isEmpty = true := by
  subst h
  rw [ByteArray.toList_eq]
  rfl

theorem retK_t {p : Prop} [Decidable p] (h : p) : Ending.returned (.bool true) = .returned (.bool (decide p)) := by rw [decide_eq_true h]

theorem retK_f {p : Prop} [Decidable p] (h : ¬ p) : Ending.returned (.bool false) = .returned (.bool (decide p)) := by rw [decide_eq_false h]

theorem sinK_yes (n a b : Int) (w : World) (h1 : a ≤ n) (h2 : n ≤ b) : Calls Tryd.prog 24 #[.int .i64 n, .int .i64 a, .int .i64 b] w fun e w' => e = .returned (.bool true) ∧ w' = w := by
  go_enter Tryd.func24, Tryd.ntmps24
  go_wp2
  go_ret
  exact ⟨rfl, rfl⟩

theorem sinK_no (n a b : Int) (w : World) (h : ¬ (a ≤ n ∧ n ≤ b)) : Calls Tryd.prog 24 #[.int .i64 n, .int .i64 a, .int .i64 b] w fun e w' => e = .returned (.bool false) ∧ w' = w := by
  by_cases h1 : a ≤ n
  · have h2 : ¬ n ≤ b := fun h2 => h ⟨h1, h2⟩
    go_enter Tryd.func24, Tryd.ntmps24
    go_wp2
    go_ret
    exact ⟨rfl, rfl⟩
  · go_enter Tryd.func24, Tryd.ntmps24
    go_wp2
    go_ret
    exact ⟨rfl, rfl⟩

theorem winK_yes (n a b : Int) (w : World) (h1 : a ≤ n) (h2 : n ≤ b) : Calls Tryd.prog 33 #[.int .i64 n, .int .i64 a, .int .i64 b] w fun e w' => e = .returned (.bool true) ∧ w' = w := by
  go_enter Tryd.func33, Tryd.ntmps33
  go_wp2
  go_ret
  exact ⟨rfl, rfl⟩

theorem winK_no (n a b : Int) (w : World) (h : ¬ (a ≤ n ∧ n ≤ b)) : Calls Tryd.prog 33 #[.int .i64 n, .int .i64 a, .int .i64 b] w fun e w' => e = .returned (.bool false) ∧ w' = w := by
  by_cases h1 : a ≤ n
  · have h2 : ¬ n ≤ b := fun h2 => h ⟨h1, h2⟩
    go_enter Tryd.func33, Tryd.ntmps33
    go_wp2
    go_ret
    exact ⟨rfl, rfl⟩
  · go_enter Tryd.func33, Tryd.ntmps33
    go_wp2
    go_ret
    exact ⟨rfl, rfl⟩

set_option maxRecDepth 20000 in
set_option maxHeartbeats 1000000 in
theorem specSnapOk_c (x : S_Snap) (w : World) (hz : x.f2.size ≤ maxLen) : Calls Tryd.prog 10 #[.agg #[.int .i64 x.f0, .int .i64 x.f1, .string x.f2]] w fun e w' => e = .returned (.bool (decide (okS x))) ∧ Below w.heap.size w w' := by
  unfold maxLen at hz
  have HB0 : Hid (Below w.heap.size w (w.alloc (.cells #[.int .i64 x.f0, .int .i64 x.f1, .string x.f2] 25))) := (Below.refl _ _).alloc (Nat.le_refl _) _
  by_cases h0 : x.f0 = 0
  · have hb0 : (x.f0 == 0) = true := by rw [h0]; rfl
    by_cases h1 : x.f1 = 0
    · have hb1 : (x.f1 == 0) = true := by rw [h1]; rfl
      by_cases h2 : x.f2 = ⟨#[]⟩
      · have HF : Hid (okS x) := .inl ⟨h0, h1, h2⟩
        have he := emptyK_yes h2
        clear h0 h1 h2
        go_enter Tryd.func10, Tryd.ntmps10
        go_wp2
        go_ret
        exact ⟨retK_t HF.out, HB0.out⟩
      · have HF : Hid (¬ okS x) := fun h => h.elim (fun h => h2 h.2.2) (fun h => by omega)
        have he := emptyK_no h2
        clear h0 h1 h2
        go_enter Tryd.func10, Tryd.ntmps10
        go_wp2
        go_ret
        exact ⟨retK_f HF.out, HB0.out⟩
    · have hb1 : (x.f1 == 0) = false := by simpa using h1
      have HF : Hid (¬ okS x) := fun h => h.elim (fun h => h1 h.2.1) (fun h => by omega)
      clear h0 h1
      go_enter Tryd.func10, Tryd.ntmps10
      go_wp2
      go_ret
      exact ⟨retK_f HF.out, HB0.out⟩
  have hb0 : (x.f0 == 0) = false := by simpa using h0
  by_cases g0 : 1 ≤ x.f0 ∧ x.f0 ≤ 100000
  rotate_left
  · have HF : Hid (¬ okS x) := fun h => h.elim (fun h => h0 h.1) (fun h => g0 h.1)
    clear h0
    go_enter Tryd.func10, Tryd.ntmps10
    go_wp2_with fail
    refine (sinK_no x.f0 1 100000 _ g0).mono ?_
    rintro e _ ⟨rfl, rfl⟩
    go_wp2
    go_ret
    exact ⟨retK_f HF.out, HB0.out⟩
  by_cases g1 : 1 ≤ x.f1 ∧ x.f1 ≤ 100000
  rotate_left
  · have HF : Hid (¬ okS x) := fun h => h.elim (fun h => h0 h.1) (fun h => g1 h.2.1)
    clear h0
    go_enter Tryd.func10, Tryd.ntmps10
    go_wp2_with fail
    refine (sinK_yes x.f0 1 100000 _ g0.1 g0.2).mono ?_
    rintro e _ ⟨rfl, rfl⟩
    go_wp2_with fail
    refine (sinK_no x.f1 1 100000 _ g1).mono ?_
    rintro e _ ⟨rfl, rfl⟩
    go_wp2
    go_ret
    exact ⟨retK_f HF.out, HB0.out⟩
  by_cases g2 : (x.f2.size : Int) ≤ 8000
  · have HF : Hid (okS x) := .inr ⟨g0, g1, by omega⟩
    clear h0
    go_enter Tryd.func10, Tryd.ntmps10
    go_wp2_with fail
    refine (sinK_yes x.f0 1 100000 _ g0.1 g0.2).mono ?_
    rintro e _ ⟨rfl, rfl⟩
    go_wp2_with fail
    refine (sinK_yes x.f1 1 100000 _ g1.1 g1.2).mono ?_
    rintro e _ ⟨rfl, rfl⟩
    go_wp2
    go_ret
    exact ⟨retK_t HF.out, HB0.out⟩
  · have HF : Hid (¬ okS x) := fun h => h.elim (fun h => h0 h.1) (fun h => by omega)
    clear h0
    go_enter Tryd.func10, Tryd.ntmps10
    go_wp2_with fail
    refine (sinK_yes x.f0 1 100000 _ g0.1 g0.2).mono ?_
    rintro e _ ⟨rfl, rfl⟩
    go_wp2_with fail
    refine (sinK_yes x.f1 1 100000 _ g1.1 g1.2).mono ?_
    rintro e _ ⟨rfl, rfl⟩
    go_wp2
    go_ret
    exact ⟨by rw [decide_eq_false HF.out]; exact congrArg (fun b => Ending.returned (.bool b)) (decide_eq_false (by omega)), HB0.out⟩

theorem eqS0 (x : S_Snap) (W : World) : (binOp .eql 25 (.agg #[.int .i64 x.f0, .int .i64 x.f1, .string x.f2]) (.agg #[.int .i64 0, .int .i64 0, .string ⟨#[]⟩])).run Tryd.prog W = .ok (.bool (decide (x.f0 = 0 ∧ x.f1 = 0 ∧ x.f2 = ⟨#[]⟩))) W := by
  by_cases h : x.f0 = 0 ∧ x.f1 = 0 ∧ x.f2 = ⟨#[]⟩
  · have he := emptyK_yes h.2.2
    rw [decide_eq_true h]
    obtain ⟨h0, h1, _⟩ := h
    go_simp
  · rw [decide_eq_false h]
    by_cases h2 : x.f2 = ⟨#[]⟩
    · have he := emptyK_yes h2
      have h01 : x.f0 = 0 → ¬ x.f1 = 0 := fun a b => h ⟨a, b, h2⟩
      clear h
      go_simp
      by_cases h0 : x.f0 = 0
      · simp [h0, h01 h0]
      · simp [h0]
    · have he := emptyK_no h2
      clear h
      go_simp

set_option maxRecDepth 20000 in
set_option maxHeartbeats 1000000 in
theorem implSnapOk_c (x : S_Snap) (w : World) (hz : x.f2.size ≤ maxLen) : Calls Tryd.prog 18 #[.agg #[.int .i64 x.f0, .int .i64 x.f1, .string x.f2]] w fun e w' => e = .returned (.bool (decide (okS x))) ∧ Below w.heap.size w w' := by
  unfold maxLen at hz
  have HB0 : Hid (Below w.heap.size w (w.alloc (.cells #[.int .i64 x.f0, .int .i64 x.f1, .string x.f2] 25))) := (Below.refl _ _).alloc (Nat.le_refl _) _
  have HE := fun W => eqS0 x W
  by_cases h0 : x.f0 = 0 ∧ x.f1 = 0 ∧ x.f2 = ⟨#[]⟩
  · rw [decide_eq_true h0] at HE
    have HF : Hid (okS x) := .inl h0
    clear h0
    go_enter Tryd.func18, Tryd.ntmps18
    go_wp2
    go_ret
    exact ⟨retK_t HF.out, HB0.out⟩
  rw [decide_eq_false h0] at HE
  by_cases g0 : 1 ≤ x.f0 ∧ x.f0 ≤ 100000
  rotate_left
  · have HF : Hid (¬ okS x) := fun h => h.elim h0 (fun h => g0 h.1)
    clear h0
    go_enter Tryd.func18, Tryd.ntmps18
    go_wp2_with fail
    refine (winK_no x.f0 1 100000 _ g0).mono ?_
    rintro e _ ⟨rfl, rfl⟩
    go_wp2
    go_ret
    exact ⟨retK_f HF.out, HB0.out⟩
  by_cases g1 : 1 ≤ x.f1 ∧ x.f1 ≤ 100000
  rotate_left
  · have HF : Hid (¬ okS x) := fun h => h.elim h0 (fun h => g1 h.2.1)
    clear h0
    go_enter Tryd.func18, Tryd.ntmps18
    go_wp2_with fail
    refine (winK_yes x.f0 1 100000 _ g0.1 g0.2).mono ?_
    rintro e _ ⟨rfl, rfl⟩
    go_wp2_with fail
    refine (winK_no x.f1 1 100000 _ g1).mono ?_
    rintro e _ ⟨rfl, rfl⟩
    go_wp2
    go_ret
    exact ⟨retK_f HF.out, HB0.out⟩
  by_cases g2 : (x.f2.size : Int) ≤ 8000
  · have HF : Hid (okS x) := .inr ⟨g0, g1, by omega⟩
    clear h0
    go_enter Tryd.func18, Tryd.ntmps18
    go_wp2_with fail
    refine (winK_yes x.f0 1 100000 _ g0.1 g0.2).mono ?_
    rintro e _ ⟨rfl, rfl⟩
    go_wp2_with fail
    refine (winK_yes x.f1 1 100000 _ g1.1 g1.2).mono ?_
    rintro e _ ⟨rfl, rfl⟩
    go_wp2
    go_ret
    exact ⟨retK_t HF.out, HB0.out⟩
  · have HF : Hid (¬ okS x) := fun h => h.elim h0 (fun h => by omega)
    clear h0
    go_enter Tryd.func18, Tryd.ntmps18
    go_wp2_with fail
    refine (winK_yes x.f0 1 100000 _ g0.1 g0.2).mono ?_
    rintro e _ ⟨rfl, rfl⟩
    go_wp2_with fail
    refine (winK_yes x.f1 1 100000 _ g1.1 g1.2).mono ?_
    rintro e _ ⟨rfl, rfl⟩
    go_wp2
    go_ret
    exact ⟨by rw [decide_eq_false HF.out]; exact congrArg (fun b => Ending.returned (.bool b)) (decide_eq_false (by omega)), HB0.out⟩

end Go.Proofs.YtocjijognmhfmaaDoor
