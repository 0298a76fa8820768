/- That a hard record fits, and how many entries both begin with, by contracts. -/
import Derived.Test.YtefbenojkajnoaaWcMath
namespace Go.Proofs.Ytefbenojkajnoaa
open Go.RowKit
set_option linter.unusedVariables false
set_option linter.unusedSimpArgs false

set_option maxRecDepth 20000 in
set_option maxHeartbeats 1000000 in
theorem specFits_c (a b : S_Wal) (p : Option Addr) (cap : Nat) (w : World) (hn : a.f4.length ≤ 1048576) (h2 : 0 ≤ a.f2 ∧ a.f2 ≤ 100000) :
    Calls Try.prog 29 #[.agg #[.int .i64 a.f0, .int .i64 a.f1, .int .i64 a.f2, .int .i64 a.f3, .slice p a.f4.length cap], .agg #[.int .i64 1, .int .i64 b.f0, .int .i64 0, .int .i64 b.f1, .string ⟨#[]⟩]] w fun e w' => e = .returned (.bool (decide (fitH a b))) ∧ Below w.heap.size w w' := by
  obtain ⟨h2a, h2b⟩ := h2
  have hn' : (a.f4.length : Int) ≤ 1048576 := by omega
  by_cases h1 : a.f0 < b.f0
  · have HF : Hid (fitH a b) := .inl h1
    go_enter Try.func29, Try.ntmps29
    go_wp2
    go_ret
    exact ⟨ret_t HF.out, by first | exact (((Below.refl _ _).alloc (Nat.le_refl _) _).alloc (by simp) _) | exact ((Below.refl _ _).alloc (Nat.le_refl _) _) | exact Below.refl _ _⟩
  by_cases h3 : b.f0 = a.f0
  rotate_left
  · have HF : Hid (¬ fitH a b) := fun h => h.elim h1 (fun h => h3 h.1)
    have b3 : (b.f0 == a.f0) = false := by simpa using h3
    clear h3
    go_enter Try.func29, Try.ntmps29
    go_wp2
    go_ret
    exact ⟨ret_f HF.out, by first | exact (((Below.refl _ _).alloc (Nat.le_refl _) _).alloc (by simp) _) | exact ((Below.refl _ _).alloc (Nat.le_refl _) _) | exact Below.refl _ _⟩
  have b3 : (b.f0 == a.f0) = true := by simpa using h3
  by_cases h4 : a.f1 = -1
  · have HF : Hid (fitH a b) := .inr ⟨h3, .inl h4⟩
    have b4 : (a.f1 == -1) = true := by simpa using h4
    clear h3 h4
    go_enter Try.func29, Try.ntmps29
    go_wp2
    go_ret
    exact ⟨ret_t HF.out, by first | exact (((Below.refl _ _).alloc (Nat.le_refl _) _).alloc (by simp) _) | exact ((Below.refl _ _).alloc (Nat.le_refl _) _) | exact Below.refl _ _⟩
  have b4 : (a.f1 == -1) = false := by simpa using h4
  by_cases h5 : a.f1 = b.f1
  · have HF : Hid (fitH a b) := .inr ⟨h3, .inr h5⟩
    have b5 : (a.f1 == b.f1) = true := by simpa using h5
    have b6 : (b.f1 == a.f1) = true := by simpa using h5.symm
    clear h3 h4 h5
    go_enter Try.func29, Try.ntmps29
    go_wp2
    go_ret
    exact ⟨ret_t HF.out, by first | exact (((Below.refl _ _).alloc (Nat.le_refl _) _).alloc (by simp) _) | exact ((Below.refl _ _).alloc (Nat.le_refl _) _) | exact Below.refl _ _⟩
  · have HF : Hid (¬ fitH a b) := fun h => h.elim h1 (fun h => h.2.elim h4 h5)
    have b5 : (a.f1 == b.f1) = false := by simpa using h5
    have b6 : (b.f1 == a.f1) = false := by simpa using fun h => h5 h.symm
    clear h3 h4 h5
    go_enter Try.func29, Try.ntmps29
    go_wp2
    go_ret
    exact ⟨ret_f HF.out, by first | exact (((Below.refl _ _).alloc (Nat.le_refl _) _).alloc (by simp) _) | exact ((Below.refl _ _).alloc (Nat.le_refl _) _) | exact Below.refl _ _⟩

set_option maxRecDepth 20000 in
set_option maxHeartbeats 1000000 in
theorem implFits_c (a b : S_Wal) (p : Option Addr) (cap : Nat) (w : World) (hn : a.f4.length ≤ 1048576) (h2 : 0 ≤ a.f2 ∧ a.f2 ≤ 100000) :
    Calls Try.prog 36 #[.agg #[.int .i64 b.f0, .int .i64 b.f1], .agg #[.int .i64 a.f0, .int .i64 a.f1, .int .i64 a.f2, .int .i64 a.f3, .slice p a.f4.length cap]] w fun e w' => e = .returned (.bool (decide (fitH a b))) ∧ Below w.heap.size w w' := by
  obtain ⟨h2a, h2b⟩ := h2
  have hn' : (a.f4.length : Int) ≤ 1048576 := by omega
  by_cases h1 : a.f0 < b.f0
  · have HF : Hid (fitH a b) := .inl h1
    go_enter Try.func36, Try.ntmps36
    go_wp2
    go_ret
    exact ⟨ret_t HF.out, by first | exact (((Below.refl _ _).alloc (Nat.le_refl _) _).alloc (by simp) _) | exact ((Below.refl _ _).alloc (Nat.le_refl _) _) | exact Below.refl _ _⟩
  by_cases h3 : b.f0 = a.f0
  rotate_left
  · have HF : Hid (¬ fitH a b) := fun h => h.elim h1 (fun h => h3 h.1)
    have b3 : (b.f0 == a.f0) = false := by simpa using h3
    clear h3
    go_enter Try.func36, Try.ntmps36
    go_wp2
    go_ret
    exact ⟨ret_f HF.out, by first | exact (((Below.refl _ _).alloc (Nat.le_refl _) _).alloc (by simp) _) | exact ((Below.refl _ _).alloc (Nat.le_refl _) _) | exact Below.refl _ _⟩
  have b3 : (b.f0 == a.f0) = true := by simpa using h3
  by_cases h4 : a.f1 = -1
  · have HF : Hid (fitH a b) := .inr ⟨h3, .inl h4⟩
    have b4 : (a.f1 == -1) = true := by simpa using h4
    clear h3 h4
    go_enter Try.func36, Try.ntmps36
    go_wp2
    go_ret
    exact ⟨ret_t HF.out, by first | exact (((Below.refl _ _).alloc (Nat.le_refl _) _).alloc (by simp) _) | exact ((Below.refl _ _).alloc (Nat.le_refl _) _) | exact Below.refl _ _⟩
  have b4 : (a.f1 == -1) = false := by simpa using h4
  by_cases h5 : a.f1 = b.f1
  · have HF : Hid (fitH a b) := .inr ⟨h3, .inr h5⟩
    have b5 : (a.f1 == b.f1) = true := by simpa using h5
    have b6 : (b.f1 == a.f1) = true := by simpa using h5.symm
    clear h3 h4 h5
    go_enter Try.func36, Try.ntmps36
    go_wp2
    go_ret
    exact ⟨ret_t HF.out, by first | exact (((Below.refl _ _).alloc (Nat.le_refl _) _).alloc (by simp) _) | exact ((Below.refl _ _).alloc (Nat.le_refl _) _) | exact Below.refl _ _⟩
  · have HF : Hid (¬ fitH a b) := fun h => h.elim h1 (fun h => h.2.elim h4 h5)
    have b5 : (a.f1 == b.f1) = false := by simpa using h5
    have b6 : (b.f1 == a.f1) = false := by simpa using fun h => h5 h.symm
    clear h3 h4 h5
    go_enter Try.func36, Try.ntmps36
    go_wp2
    go_ret
    exact ⟨ret_f HF.out, by first | exact (((Below.refl _ _).alloc (Nat.le_refl _) _).alloc (by simp) _) | exact ((Below.refl _ _).alloc (Nat.le_refl _) _) | exact Below.refl _ _⟩

set_option maxRecDepth 20000 in
set_option maxHeartbeats 2000000 in
theorem alike_c (A B : List S_Entry) (pa pb : Option Addr) (ca cb : Nat) (w : World) (hnA : A.length ≤ 1048576) (hnB : B.length ≤ 1048576) (hA : RowR w (.slice pa A.length ca) A.length 2 (rEntry A)) (hB : RowR w (.slice pb B.length cb) B.length 2 (rEntry B)) :
    Calls Try.prog 37 #[.slice pa A.length ca, .slice pb B.length cb] w fun e w' => e = .returned (.int .i64 (al A B : Nat)) ∧ Below w.heap.size w w' := by
  have HRA : Hid (RowR w (.slice pa A.length ca) A.length 2 (rEntry A)) := hA
  have HRB : Hid (RowR w (.slice pb B.length cb) B.length 2 (rEntry B)) := hB
  clear hA hB
  go_enter Try.func37, Try.ntmps37
  go_wp2_with fail
  go_loopw [5] (fun iv wr => ∃ k : Nat, k ≤ al A B ∧ iv = .int .i64 (k : Int) ∧ Hid (Below w.heap.size w wr)) (fun iv _ => A.length - (intOf iv).toNat)
  case atStart => exact ⟨0, Nat.zero_le _, rfl, Below.refl _ _⟩
  case round =>
    obtain ⟨k, hk, rfl, HBr⟩ := hrel
    have hal := al_le A B
    have HK : Hid (k ≤ al A B) := hk
    by_cases h1 : k < A.length
    rotate_left
    · have hA : decide ((k : Int) < (A.length : Int)) = false := decide_eq_false (by omega)
      have HE : Hid (k = al A B) := al_stop hk (fun h _ => absurd h h1)
      clear hk h1 hal
      go_upto_region 2 with fail
      refine wp_region_told (fun W => W = wr.drew) (by kernel_rfl) (by kernel_rfl) rfl ?_
      refine told_pure (some 6) (.int .i64 (k : Int)) rfl (by kernel_rfl) (fun _ => by kernel_rfl) ?_
      refine told_pure (some 7) (.slice pa A.length ca) rfl (by kernel_rfl) (fun _ => by kernel_rfl) ?_
      refine told_pure (some 8) (.int .i64 A.length) rfl (by kernel_rfl) (fun _ => by kernel_rfl) ?_
      refine told_is (some 9) (.bool (decide ((k : Int) < (A.length : Int)))) (.bool false) (by rw [hA]) rfl (by kernel_rfl) (fun _ => by kernel_rfl) ?_
      refine told_pure (some 10) (.bool false) rfl (by kernel_rfl) (fun _ => by kernel_rfl) ?_
      refine told_skip (some 11) rfl (by kernel_rfl) ?_
      refine told_skip (some 12) rfl (by kernel_rfl) ?_
      refine told_skip (some 13) rfl (by kernel_rfl) ?_
      refine told_skip (some 14) rfl (by kernel_rfl) ?_
      refine told_pure (some 15) (.bool false) rfl (by kernel_rfl) (fun _ => by kernel_rfl) ?_
      refine told_pure (some 16) (.bool false) rfl (by kernel_rfl) (fun _ => by kernel_rfl) ?_
      refine told_skip (some 17) rfl (by kernel_rfl) ?_
      refine told_skip (some 18) rfl (by kernel_rfl) ?_
      refine told_skip (some 19) rfl (by kernel_rfl) ?_
      refine told_skip (some 20) rfl (by kernel_rfl) ?_
      refine told_skip (some 21) rfl (by kernel_rfl) ?_
      refine told_skip (some 22) rfl (by kernel_rfl) ?_
      refine told_skip (some 23) rfl (by kernel_rfl) ?_
      refine told_skip (some 24) rfl (by kernel_rfl) ?_
      refine told_skip (some 25) rfl (by kernel_rfl) ?_
      refine told_pure (some 26) (.bool false) rfl (by kernel_rfl) (fun _ => by kernel_rfl) ?_
      refine told_nil ?_
      intro w9 hS9
      subst hS9
      simp only [Act.put, List.setIfInBounds_toArray, List.set_cons_zero, List.set_cons_succ]
      go_wp2
      go_ret
      exact ⟨by rw [← HE.out]; rfl, HBr.out.drew⟩
    have hA : decide ((k : Int) < (A.length : Int)) = true := decide_eq_true (by omega)
    by_cases h2 : k < B.length
    rotate_left
    · have hB : decide ((k : Int) < (B.length : Int)) = false := decide_eq_false (by omega)
      have HE : Hid (k = al A B) := al_stop hk (fun _ h => absurd h h2)
      clear hk h1 h2 hal
      go_upto_region 2 with fail
      refine wp_region_told (fun W => W = wr.drew) (by kernel_rfl) (by kernel_rfl) rfl ?_
      refine told_pure (some 6) (.int .i64 (k : Int)) rfl (by kernel_rfl) (fun _ => by kernel_rfl) ?_
      refine told_pure (some 7) (.slice pa A.length ca) rfl (by kernel_rfl) (fun _ => by kernel_rfl) ?_
      refine told_pure (some 8) (.int .i64 A.length) rfl (by kernel_rfl) (fun _ => by kernel_rfl) ?_
      refine told_is (some 9) (.bool (decide ((k : Int) < (A.length : Int)))) (.bool true) (by rw [hA]) rfl (by kernel_rfl) (fun _ => by kernel_rfl) ?_
      refine told_pure (some 10) (.bool true) rfl (by kernel_rfl) (fun _ => by kernel_rfl) ?_
      refine told_pure (some 11) (.int .i64 (k : Int)) rfl (by kernel_rfl) (fun _ => by kernel_rfl) ?_
      refine told_pure (some 12) (.slice pb B.length cb) rfl (by kernel_rfl) (fun _ => by kernel_rfl) ?_
      refine told_pure (some 13) (.int .i64 B.length) rfl (by kernel_rfl) (fun _ => by kernel_rfl) ?_
      refine told_is (some 14) (.bool (decide ((k : Int) < (B.length : Int)))) (.bool false) (by rw [hB]) rfl (by kernel_rfl) (fun _ => by kernel_rfl) ?_
      refine told_pure (some 15) (.bool false) rfl (by kernel_rfl) (fun _ => by kernel_rfl) ?_
      refine told_pure (some 16) (.bool false) rfl (by kernel_rfl) (fun _ => by kernel_rfl) ?_
      refine told_skip (some 17) rfl (by kernel_rfl) ?_
      refine told_skip (some 18) rfl (by kernel_rfl) ?_
      refine told_skip (some 19) rfl (by kernel_rfl) ?_
      refine told_skip (some 20) rfl (by kernel_rfl) ?_
      refine told_skip (some 21) rfl (by kernel_rfl) ?_
      refine told_skip (some 22) rfl (by kernel_rfl) ?_
      refine told_skip (some 23) rfl (by kernel_rfl) ?_
      refine told_skip (some 24) rfl (by kernel_rfl) ?_
      refine told_skip (some 25) rfl (by kernel_rfl) ?_
      refine told_pure (some 26) (.bool false) rfl (by kernel_rfl) (fun _ => by kernel_rfl) ?_
      refine told_nil ?_
      intro w9 hS9
      subst hS9
      simp only [Act.put, List.setIfInBounds_toArray, List.set_cons_zero, List.set_cons_succ]
      go_wp2
      go_ret
      exact ⟨by rw [← HE.out]; rfl, HBr.out.drew⟩
    have hB : decide ((k : Int) < (B.length : Int)) = true := decide_eq_true (by omega)
    obtain ⟨ba, oa, ca', hv, hba, hca⟩ := HRA.out.some (by omega) (by decide)
    simp only [Value.slice.injEq, true_and] at hv
    obtain ⟨rfl, rfl⟩ := hv
    obtain ⟨bb, ob, cb', hv, hbb, hcb⟩ := HRB.out.some (by omega) (by decide)
    simp only [Value.slice.injEq, true_and] at hv
    obtain ⟨rfl, rfl⟩ := hv
    have c0 : wr.cell? ⟨ba, oa + k * 2, none⟩ = some (.int .i64 (A[k]).f0) := by rw [HBr.out.cell (by exact hba), hca (k * 2) (by omega)]; exact flat_at cEntry 2 cEntry_len A k 0 h1 (by decide)
    have c1 : wr.cell? ⟨ba, oa + k * 2 + 1, none⟩ = some (.string (A[k]).f1) := by rw [HBr.out.cell (by exact hba), Nat.add_assoc, hca (k * 2 + 1) (by omega)]; exact flat_at cEntry 2 cEntry_len A k 1 h1 (by decide)
    have g0 : wr.cell? ⟨bb, ob + k * 2, none⟩ = some (.int .i64 (B[k]).f0) := by rw [HBr.out.cell (by exact hbb), hcb (k * 2) (by omega)]; exact flat_at cEntry 2 cEntry_len B k 0 h2 (by decide)
    have g1 : wr.cell? ⟨bb, ob + k * 2 + 1, none⟩ = some (.string (B[k]).f1) := by rw [HBr.out.cell (by exact hbb), Nat.add_assoc, hcb (k * 2 + 1) (by omega)]; exact flat_at cEntry 2 cEntry_len B k 1 h2 (by decide)
    clear hca hcb
    have heq := fun W => eqEE A[k] B[k] W
    by_cases he : eqE A[k] B[k]
    · have HE : Hid (k + 1 ≤ al A B) := al_step hk h1 h2 he
      rw [decide_eq_true he] at heq
      generalize A[k] = X at c0 c1 heq
      generalize B[k] = Y at g0 g1 heq
      clear he hk
      go_upto_region 2 with fail
      refine wp_region_told (fun W => W = wr.drew) (by kernel_rfl) (by kernel_rfl) rfl ?_
      refine told_pure (some 6) (.int .i64 (k : Int)) rfl (by kernel_rfl) (fun _ => by kernel_rfl) ?_
      refine told_pure (some 7) (.slice (some ⟨ba, oa, none⟩) A.length ca) rfl (by kernel_rfl) (fun _ => by kernel_rfl) ?_
      refine told_pure (some 8) (.int .i64 A.length) rfl (by kernel_rfl) (fun _ => by kernel_rfl) ?_
      refine told_is (some 9) (.bool (decide ((k : Int) < (A.length : Int)))) (.bool true) (by rw [hA]) rfl (by kernel_rfl) (fun _ => by kernel_rfl) ?_
      refine told_pure (some 10) (.bool true) rfl (by kernel_rfl) (fun _ => by kernel_rfl) ?_
      refine told_pure (some 11) (.int .i64 (k : Int)) rfl (by kernel_rfl) (fun _ => by kernel_rfl) ?_
      refine told_pure (some 12) (.slice (some ⟨bb, ob, none⟩) B.length cb) rfl (by kernel_rfl) (fun _ => by kernel_rfl) ?_
      refine told_pure (some 13) (.int .i64 B.length) rfl (by kernel_rfl) (fun _ => by kernel_rfl) ?_
      refine told_is (some 14) (.bool (decide ((k : Int) < (B.length : Int)))) (.bool true) (by rw [hB]) rfl (by kernel_rfl) (fun _ => by kernel_rfl) ?_
      refine told_pure (some 15) (.bool true) rfl (by kernel_rfl) (fun _ => by kernel_rfl) ?_
      refine told_pure (some 16) (.bool true) rfl (by kernel_rfl) (fun _ => by kernel_rfl) ?_
      refine told_pure (some 17) (.slice (some ⟨ba, oa, none⟩) A.length ca) rfl (by kernel_rfl) (fun _ => by kernel_rfl) ?_
      refine told_pure (some 18) (.int .i64 (k : Int)) rfl (by kernel_rfl) (fun _ => by kernel_rfl) ?_
      refine told_pure (some 19) (.pointer (some ⟨ba, oa + k * 2, none⟩)) rfl (by kernel_rfl) (fun w => by go_simp) ?_
      refine told_loads (some 20) ⟨ba, oa + k * 2, none⟩ [.int .i64 X.f0, .string X.f1] rfl (by kernel_rfl) (fun _ => by kernel_rfl) (fun W hS => by subst hS; exact cells2W c0 c1) ?_
      refine told_pure (some 21) (.slice (some ⟨bb, ob, none⟩) B.length cb) rfl (by kernel_rfl) (fun _ => by kernel_rfl) ?_
      refine told_pure (some 22) (.int .i64 (k : Int)) rfl (by kernel_rfl) (fun _ => by kernel_rfl) ?_
      refine told_pure (some 23) (.pointer (some ⟨bb, ob + k * 2, none⟩)) rfl (by kernel_rfl) (fun w => by go_simp) ?_
      refine told_loads (some 24) ⟨bb, ob + k * 2, none⟩ [.int .i64 Y.f0, .string Y.f1] rfl (by kernel_rfl) (fun _ => by kernel_rfl) (fun W hS => by subst hS; exact cells2W g0 g1) ?_
      refine told_run (some 25) (.bool true) (binOp .eql 66 (.agg #[.int .i64 X.f0, .string X.f1]) (.agg #[.int .i64 Y.f0, .string Y.f1])) rfl (by kernel_rfl) (fun _ => by kernel_rfl) (fun W _ => heq W) ?_
      refine told_pure (some 26) (.bool true) rfl (by kernel_rfl) (fun _ => by kernel_rfl) ?_
      refine told_nil ?_
      intro w9 hS9
      subst hS9
      simp only [Act.put, List.setIfInBounds_toArray, List.set_cons_zero, List.set_cons_succ]
      go_wp2
      go_roundw
      case rel => exact ⟨k + 1, HE.out, by go_num, HBr.out.drew⟩
      case measure => simp [intOf]; omega
    · have HE : Hid (k = al A B) := al_stop hk (fun _ _ => he)
      rw [decide_eq_false he] at heq
      generalize A[k] = X at c0 c1 heq
      generalize B[k] = Y at g0 g1 heq
      clear he hk
      go_upto_region 2 with fail
      refine wp_region_told (fun W => W = wr.drew) (by kernel_rfl) (by kernel_rfl) rfl ?_
      refine told_pure (some 6) (.int .i64 (k : Int)) rfl (by kernel_rfl) (fun _ => by kernel_rfl) ?_
      refine told_pure (some 7) (.slice (some ⟨ba, oa, none⟩) A.length ca) rfl (by kernel_rfl) (fun _ => by kernel_rfl) ?_
      refine told_pure (some 8) (.int .i64 A.length) rfl (by kernel_rfl) (fun _ => by kernel_rfl) ?_
      refine told_is (some 9) (.bool (decide ((k : Int) < (A.length : Int)))) (.bool true) (by rw [hA]) rfl (by kernel_rfl) (fun _ => by kernel_rfl) ?_
      refine told_pure (some 10) (.bool true) rfl (by kernel_rfl) (fun _ => by kernel_rfl) ?_
      refine told_pure (some 11) (.int .i64 (k : Int)) rfl (by kernel_rfl) (fun _ => by kernel_rfl) ?_
      refine told_pure (some 12) (.slice (some ⟨bb, ob, none⟩) B.length cb) rfl (by kernel_rfl) (fun _ => by kernel_rfl) ?_
      refine told_pure (some 13) (.int .i64 B.length) rfl (by kernel_rfl) (fun _ => by kernel_rfl) ?_
      refine told_is (some 14) (.bool (decide ((k : Int) < (B.length : Int)))) (.bool true) (by rw [hB]) rfl (by kernel_rfl) (fun _ => by kernel_rfl) ?_
      refine told_pure (some 15) (.bool true) rfl (by kernel_rfl) (fun _ => by kernel_rfl) ?_
      refine told_pure (some 16) (.bool true) rfl (by kernel_rfl) (fun _ => by kernel_rfl) ?_
      refine told_pure (some 17) (.slice (some ⟨ba, oa, none⟩) A.length ca) rfl (by kernel_rfl) (fun _ => by kernel_rfl) ?_
      refine told_pure (some 18) (.int .i64 (k : Int)) rfl (by kernel_rfl) (fun _ => by kernel_rfl) ?_
      refine told_pure (some 19) (.pointer (some ⟨ba, oa + k * 2, none⟩)) rfl (by kernel_rfl) (fun w => by go_simp) ?_
      refine told_loads (some 20) ⟨ba, oa + k * 2, none⟩ [.int .i64 X.f0, .string X.f1] rfl (by kernel_rfl) (fun _ => by kernel_rfl) (fun W hS => by subst hS; exact cells2W c0 c1) ?_
      refine told_pure (some 21) (.slice (some ⟨bb, ob, none⟩) B.length cb) rfl (by kernel_rfl) (fun _ => by kernel_rfl) ?_
      refine told_pure (some 22) (.int .i64 (k : Int)) rfl (by kernel_rfl) (fun _ => by kernel_rfl) ?_
      refine told_pure (some 23) (.pointer (some ⟨bb, ob + k * 2, none⟩)) rfl (by kernel_rfl) (fun w => by go_simp) ?_
      refine told_loads (some 24) ⟨bb, ob + k * 2, none⟩ [.int .i64 Y.f0, .string Y.f1] rfl (by kernel_rfl) (fun _ => by kernel_rfl) (fun W hS => by subst hS; exact cells2W g0 g1) ?_
      refine told_run (some 25) (.bool false) (binOp .eql 66 (.agg #[.int .i64 X.f0, .string X.f1]) (.agg #[.int .i64 Y.f0, .string Y.f1])) rfl (by kernel_rfl) (fun _ => by kernel_rfl) (fun W _ => heq W) ?_
      refine told_pure (some 26) (.bool false) rfl (by kernel_rfl) (fun _ => by kernel_rfl) ?_
      refine told_nil ?_
      intro w9 hS9
      subst hS9
      simp only [Act.put, List.setIfInBounds_toArray, List.set_cons_zero, List.set_cons_succ]
      go_wp2
      go_ret
      exact ⟨by rw [← HE.out]; rfl, HBr.out.drew⟩

end Go.Proofs.Ytefbenojkajnoaa
