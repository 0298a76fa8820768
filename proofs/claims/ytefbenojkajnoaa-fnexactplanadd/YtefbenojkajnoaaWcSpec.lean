/- Changes of the specification. -/
import Derived.Test.YtefbenojkajnoaaWcFits
namespace Go.Proofs.Ytefbenojkajnoaa
open Go.RowKit
set_option linter.unusedVariables false
set_option linter.unusedSimpArgs false

theorem hideW {p : Prop} (h : p) : Hid p := h

theorem lastB (w : World) (o o2 : Obj) : ((w.alloc o).alloc o2).heap[w.heap.size + 1]? = some o2 := by
  have h := alloc_last (w.alloc o) o2
  rw [World.size_alloc] at h
  exact h

set_option maxRecDepth 20000 in
set_option maxHeartbeats 4000000 in
theorem specCh_no (a b : S_Wal) (pa pb : Option Addr) (ca cb : Nat) (w : World) (hno : ¬ chOk a b) (hna : a.f4.length ≤ 1048576) (hnb : b.f4.length ≤ 1048576) (hsa : ∀ y ∈ a.f4, sEntry y) (hsb : ∀ y ∈ b.f4, sEntry y) (hra : RowR w (.slice pa a.f4.length ca) a.f4.length 2 (rEntry a.f4)) (hrb : RowR w (.slice pb b.f4.length cb) b.f4.length 2 (rEntry b.f4)) :
    Calls Try.prog 14 #[.agg #[.int .i64 a.f0, .int .i64 a.f1, .int .i64 a.f2, .int .i64 a.f3, .slice pa a.f4.length ca], .agg #[.int .i64 b.f0, .int .i64 b.f1, .int .i64 b.f2, .int .i64 b.f3, .slice pb b.f4.length cb]] w fun e w' => ∃ v, e = .returned (.tuple #[v, .bool false]) ∧ w'.ownsRow w.heap.size 44 5 v 0 [] ∧ Below w.heap.size w w' := by
  obtain ⟨W0, hW0⟩ : ∃ W, W = ((w.alloc (.cells #[.int .i64 a.f0, .int .i64 a.f1, .int .i64 a.f2, .int .i64 a.f3, .slice pa a.f4.length ca] 30)).alloc (.cells #[.int .i64 b.f0, .int .i64 b.f1, .int .i64 b.f2, .int .i64 b.f3, .slice pb b.f4.length cb] 30)).alloc (.cells #[] 44) := ⟨_, rfl⟩
  have HW0 : Hid (((w.alloc (.cells #[.int .i64 a.f0, .int .i64 a.f1, .int .i64 a.f2, .int .i64 a.f3, .slice pa a.f4.length ca] 30)).alloc (.cells #[.int .i64 b.f0, .int .i64 b.f1, .int .i64 b.f2, .int .i64 b.f3, .slice pb b.f4.length cb] 30)).alloc (.cells #[] 44) = W0) := hW0.symm
  have HZ0 : Hid (W0.heap.size = w.heap.size + 3) := by show _ = _; rw [hW0]; simp
  have HB0 : Hid (Below w.heap.size w W0) := by rw [hW0]; exact ((((Below.refl _ _).alloc (Nat.le_refl _) _).alloc (by simp) _).alloc (by simp; omega) _)
  have HXA : W0.heap[w.heap.size]? = some (.cells #[.int .i64 a.f0, .int .i64 a.f1, .int .i64 a.f2, .int .i64 a.f3, .slice pa a.f4.length ca] 30) := by rw [hW0]; exact (Below.heap_alloc _ _ _ (by simp; omega)).trans ((Below.heap_alloc _ _ _ (by simp)).trans (alloc_last w _))
  have HXB : W0.heap[w.heap.size + 1]? = some (.cells #[.int .i64 b.f0, .int .i64 b.f1, .int .i64 b.f2, .int .i64 b.f3, .slice pb b.f4.length cb] 30) := by rw [hW0]; exact (Below.heap_alloc _ _ _ (by simp)).trans (lastB w (.cells #[.int .i64 a.f0, .int .i64 a.f1, .int .i64 a.f2, .int .i64 a.f3, .slice pa a.f4.length ca] 30) (.cells #[.int .i64 b.f0, .int .i64 b.f1, .int .i64 b.f2, .int .i64 b.f3, .slice pb b.f4.length cb] 30))
  have HX : Hid (∀ W', Below (w.heap.size + 2) W0 W' → (W'.cell? ⟨w.heap.size, 0, none⟩ = some (.int .i64 a.f0) ∧ W'.cell? ⟨w.heap.size, 1, none⟩ = some (.int .i64 a.f1) ∧ W'.cell? ⟨w.heap.size, 2, none⟩ = some (.int .i64 a.f2) ∧ W'.cell? ⟨w.heap.size, 3, none⟩ = some (.int .i64 a.f3) ∧ W'.cell? ⟨w.heap.size, 4, none⟩ = some (.slice pa a.f4.length ca)) ∧ (W'.cell? ⟨w.heap.size + 1, 0, none⟩ = some (.int .i64 b.f0) ∧ W'.cell? ⟨w.heap.size + 1, 1, none⟩ = some (.int .i64 b.f1) ∧ W'.cell? ⟨w.heap.size + 1, 2, none⟩ = some (.int .i64 b.f2) ∧ W'.cell? ⟨w.heap.size + 1, 3, none⟩ = some (.int .i64 b.f3) ∧ W'.cell? ⟨w.heap.size + 1, 4, none⟩ = some (.slice pb b.f4.length cb))) := fun W' hW => by
    have ka := (hW.block w.heap.size (by omega)).trans HXA
    have kb := (hW.block (w.heap.size + 1) (by omega)).trans HXB
    exact ⟨box5 ka, box5 kb⟩
  have HO0 : Hid (W0.ownsRow (w.heap.size + 2) 44 5 (.slice (some ⟨w.heap.size + 2, 0, none⟩) 0 0) 0 []) := by
    rw [hW0]
    have h := World.ownsRow_made (base := (w.heap.size + 2)) (e := 44) (size := 5) ((w.alloc (.cells #[.int .i64 a.f0, .int .i64 a.f1, .int .i64 a.f2, .int .i64 a.f3, .slice pa a.f4.length ca] 30)).alloc (.cells #[.int .i64 b.f0, .int .i64 b.f1, .int .i64 b.f2, .int .i64 b.f3, .slice pb b.f4.length cb] 30)) #[] 0 (by simp) (by decide) rfl
    rw [World.size_alloc, World.size_alloc] at h
    exact h
  have HSA : Hid (∀ y ∈ a.f4, sEntry y) := hsa
  have HSB : Hid (∀ y ∈ b.f4, sEntry y) := hsb
  have HRA : Hid (RowR w (.slice pa a.f4.length ca) a.f4.length 2 (rEntry a.f4)) := hra
  have HRB : Hid (RowR w (.slice pb b.f4.length cb) b.f4.length 2 (rEntry b.f4)) := hrb
  have HNA : Hid (a.f4.length ≤ 1048576) := hna
  have HNB : Hid (b.f4.length ≤ 1048576) := hnb
  have hna' : (a.f4.length : Int) ≤ 1048576 := by omega
  have hnb' : (b.f4.length : Int) ≤ 1048576 := by omega
  clear hsa hsb hra hrb hW0 HXA HXB
  have HQ0 : Hid (Below (w.heap.size + 2) W0 W0) := Below.refl _ _
  clear hna hnb
  obtain ⟨⟨d0, d1, d2, d3, d4⟩, ⟨e0, e1, e2, e3, e4⟩⟩ := HX.out W0 HQ0.out
  go_enter Try.func14, Try.ntmps14
  go_wp2_with fail
  rw [HW0.out]
  by_cases oka : okW a
  rotate_left
  · have HNO : Hid (decide (okW a) = false) := decide_eq_false oka
    clear oka hno
    refine (specWalOk_c a pa ca W0 HNA.out HSA.out (RowR.keep HRA.out (HB0.out.trans (HQ0.out.mono (by omega))) (Nat.le_refl _))).mono ?_
    rintro e w1 ⟨rfl, b1⟩
    have HQ1 : Hid (Below (w.heap.size + 2) W0 w1) := HQ0.out.trans (b1.mono (by have := HZ0.out; have := HQ0.out.size; omega))
    have HO1 := own_bel HO0.out b1 (Nat.le_refl _)
    have HO1 := hideW HO1
    clear b1
    rw [HNO.out]
    clear d0 d1 d2 d3 d4 e0 e1 e2 e3 e4
    obtain ⟨⟨d0, d1, d2, d3, d4⟩, ⟨e0, e1, e2, e3, e4⟩⟩ := HX.out w1 HQ1.out
    go_wp2
    go_ret2
    exact ⟨_, rfl, own_lowW HO1.out (by omega), HB0.out.trans (HQ1.out.mono (by omega))⟩
  have HOA : Hid (decide (okW a) = true) := decide_eq_true oka
  refine (specWalOk_c a pa ca W0 HNA.out HSA.out (RowR.keep HRA.out (HB0.out.trans (HQ0.out.mono (by omega))) (Nat.le_refl _))).mono ?_
  rintro e w1 ⟨rfl, b1⟩
  have HQ1 : Hid (Below (w.heap.size + 2) W0 w1) := HQ0.out.trans (b1.mono (by have := HZ0.out; have := HQ0.out.size; omega))
  have HO1 := own_bel HO0.out b1 (Nat.le_refl _)
  have HO1 := hideW HO1
  clear b1
  rw [HOA.out]
  clear d0 d1 d2 d3 d4 e0 e1 e2 e3 e4
  obtain ⟨⟨d0, d1, d2, d3, d4⟩, ⟨e0, e1, e2, e3, e4⟩⟩ := HX.out w1 HQ1.out
  go_wp2_with fail
  by_cases okb : okW b
  rotate_left
  · have HNO : Hid (decide (okW b) = false) := decide_eq_false okb
    clear oka okb hno
    refine (specWalOk_c b pb cb w1 HNB.out HSB.out (RowR.keep HRB.out (HB0.out.trans (HQ1.out.mono (by omega))) (Nat.le_refl _))).mono ?_
    rintro e w2 ⟨rfl, b2⟩
    have HQ2 : Hid (Below (w.heap.size + 2) W0 w2) := HQ1.out.trans (b2.mono (by have := HZ0.out; have := HQ1.out.size; omega))
    have HO2 := own_bel HO1.out b2 (Nat.le_refl _)
    have HO2 := hideW HO2
    clear b2
    rw [HNO.out]
    clear d0 d1 d2 d3 d4 e0 e1 e2 e3 e4
    obtain ⟨⟨d0, d1, d2, d3, d4⟩, ⟨e0, e1, e2, e3, e4⟩⟩ := HX.out w2 HQ2.out
    go_wp2
    go_ret2
    exact ⟨_, rfl, own_lowW HO2.out (by omega), HB0.out.trans (HQ2.out.mono (by omega))⟩
  have HOBk : Hid (decide (okW b) = true) := decide_eq_true okb
  refine (specWalOk_c b pb cb w1 HNB.out HSB.out (RowR.keep HRB.out (HB0.out.trans (HQ1.out.mono (by omega))) (Nat.le_refl _))).mono ?_
  rintro e w2 ⟨rfl, b2⟩
  have HQ2 : Hid (Below (w.heap.size + 2) W0 w2) := HQ1.out.trans (b2.mono (by have := HZ0.out; have := HQ1.out.size; omega))
  have HO2 := own_bel HO1.out b2 (Nat.le_refl _)
  have HO2 := hideW HO2
  clear b2
  rw [HOBk.out]
  clear d0 d1 d2 d3 d4 e0 e1 e2 e3 e4
  obtain ⟨⟨d0, d1, d2, d3, d4⟩, ⟨e0, e1, e2, e3, e4⟩⟩ := HX.out w2 HQ2.out
  have HA2 : Hid (0 ≤ a.f2 ∧ a.f2 ≤ 100000) := okW_base oka
  by_cases q2 : a.f2 = b.f2
  rotate_left
  · have n2 : (a.f2 != b.f2) = true := by simpa using q2
    clear q2 oka okb hno
    go_wp2
    go_ret2
    exact ⟨_, rfl, own_lowW HO2.out (by omega), HB0.out.trans (HQ2.out.mono (by omega))⟩
  have n2 : (a.f2 != b.f2) = false := by simpa using q2
  by_cases q3 : a.f3 = b.f3
  rotate_left
  · have n3 : (a.f3 != b.f3) = true := by simpa using q3
    clear q2 q3 oka okb hno
    go_wp2
    go_ret2
    exact ⟨_, rfl, own_lowW HO2.out (by omega), HB0.out.trans (HQ2.out.mono (by omega))⟩
  have n3 : (a.f3 != b.f3) = false := by simpa using q3
  have hs : ¬ (sameH a b ∨ fitH a b) := fun h => hno ⟨⟨oka, okb, q2, q3⟩, h⟩
  have HFT : Hid (decide (fitH a b) = false) := decide_eq_false fun h => hs (.inr h)
  have hs' : ¬ sameH a b := fun h => hs (.inl h)
  clear hno oka okb q2 q3 hs
  have HN2 : Hid (w.heap.size + 3 ≤ w2.heap.size) := by show _ ≤ _; have := HQ2.out.size; have := HZ0.out; omega
  by_cases hm : a.f0 = b.f0
  · have m0 : (a.f0 != b.f0) = false := by simpa using hm
    have m1 : (a.f1 != b.f1) = true := by simpa using fun h => hs' ⟨hm, h⟩
    clear hm
    clear hs'
    have nx : w.heap.size ≠ w2.heap.size := by have := HN2.out; omega
    have lx : w.heap.size < w2.heap.size := by have := HN2.out; omega
    go_wp2_with fail
    refine (specFits_c a b pa ca _ HNA.out HA2.out).mono ?_
    rintro e w4 ⟨rfl, b4⟩
    have HQ4 : Hid (Below (w.heap.size + 2) W0 w4) := (HQ2.out.alloc (by have := HN2.out; omega) _).trans (b4.mono (by have := HN2.out; simp; omega))
    have HO4 : Hid (w4.ownsRow (w.heap.size + 2) 44 5 (.slice (some ⟨w.heap.size + 2, 0, none⟩) 0 0) 0 []) := own_bel (HO2.out.alloc _) b4 (Nat.le_refl _)
    clear b4
    rw [HFT.out]
    go_wp2
    go_ret2
    exact ⟨_, rfl, own_lowW HO4.out (by omega), HB0.out.trans (HQ4.out.mono (by omega))⟩
  · have m0 : (a.f0 != b.f0) = true := by simpa using hm
    clear hm
    clear hs'
    have nx : w.heap.size ≠ w2.heap.size := by have := HN2.out; omega
    have lx : w.heap.size < w2.heap.size := by have := HN2.out; omega
    go_wp2_with fail
    refine (specFits_c a b pa ca _ HNA.out HA2.out).mono ?_
    rintro e w4 ⟨rfl, b4⟩
    have HQ4 : Hid (Below (w.heap.size + 2) W0 w4) := (HQ2.out.alloc (by have := HN2.out; omega) _).trans (b4.mono (by have := HN2.out; simp; omega))
    have HO4 : Hid (w4.ownsRow (w.heap.size + 2) 44 5 (.slice (some ⟨w.heap.size + 2, 0, none⟩) 0 0) 0 []) := own_bel (HO2.out.alloc _) b4 (Nat.le_refl _)
    clear b4
    rw [HFT.out]
    go_wp2
    go_ret2
    exact ⟨_, rfl, own_lowW HO4.out (by omega), HB0.out.trans (HQ4.out.mono (by omega))⟩

set_option maxRecDepth 20000 in
set_option maxHeartbeats 8000000 in
theorem specCh_yes (a b : S_Wal) (pa pb : Option Addr) (ca cb : Nat) (w : World) (hok : chOk a b) (hna : a.f4.length ≤ 1048576) (hnb : b.f4.length ≤ 1048576) (hsa : ∀ y ∈ a.f4, sEntry y) (hsb : ∀ y ∈ b.f4, sEntry y) (hra : RowR w (.slice pa a.f4.length ca) a.f4.length 2 (rEntry a.f4)) (hrb : RowR w (.slice pb b.f4.length cb) b.f4.length 2 (rEntry b.f4)) :
    Calls Try.prog 14 #[.agg #[.int .i64 a.f0, .int .i64 a.f1, .int .i64 a.f2, .int .i64 a.f3, .slice pa a.f4.length ca], .agg #[.int .i64 b.f0, .int .i64 b.f1, .int .i64 b.f2, .int .i64 b.f3, .slice pb b.f4.length cb]] w fun e w' => ∃ v, e = .returned (.tuple #[v, .bool true]) ∧ w'.ownsRow w.heap.size 44 5 v (chL a b).length (rRec (chL a b)) ∧ Below w.heap.size w w' := by
  obtain ⟨iR, hiR, hR0, hR1, hR2⟩ := info_parts infoRec
  obtain ⟨W0, hW0⟩ : ∃ W, W = ((w.alloc (.cells #[.int .i64 a.f0, .int .i64 a.f1, .int .i64 a.f2, .int .i64 a.f3, .slice pa a.f4.length ca] 30)).alloc (.cells #[.int .i64 b.f0, .int .i64 b.f1, .int .i64 b.f2, .int .i64 b.f3, .slice pb b.f4.length cb] 30)).alloc (.cells #[] 44) := ⟨_, rfl⟩
  have HW0 : Hid (((w.alloc (.cells #[.int .i64 a.f0, .int .i64 a.f1, .int .i64 a.f2, .int .i64 a.f3, .slice pa a.f4.length ca] 30)).alloc (.cells #[.int .i64 b.f0, .int .i64 b.f1, .int .i64 b.f2, .int .i64 b.f3, .slice pb b.f4.length cb] 30)).alloc (.cells #[] 44) = W0) := hW0.symm
  have HZ0 : Hid (W0.heap.size = w.heap.size + 3) := by show _ = _; rw [hW0]; simp
  have HB0 : Hid (Below w.heap.size w W0) := by rw [hW0]; exact ((((Below.refl _ _).alloc (Nat.le_refl _) _).alloc (by simp) _).alloc (by simp; omega) _)
  have HXA : W0.heap[w.heap.size]? = some (.cells #[.int .i64 a.f0, .int .i64 a.f1, .int .i64 a.f2, .int .i64 a.f3, .slice pa a.f4.length ca] 30) := by rw [hW0]; exact (Below.heap_alloc _ _ _ (by simp; omega)).trans ((Below.heap_alloc _ _ _ (by simp)).trans (alloc_last w _))
  have HXB : W0.heap[w.heap.size + 1]? = some (.cells #[.int .i64 b.f0, .int .i64 b.f1, .int .i64 b.f2, .int .i64 b.f3, .slice pb b.f4.length cb] 30) := by rw [hW0]; exact (Below.heap_alloc _ _ _ (by simp)).trans (lastB w (.cells #[.int .i64 a.f0, .int .i64 a.f1, .int .i64 a.f2, .int .i64 a.f3, .slice pa a.f4.length ca] 30) (.cells #[.int .i64 b.f0, .int .i64 b.f1, .int .i64 b.f2, .int .i64 b.f3, .slice pb b.f4.length cb] 30))
  have HX : Hid (∀ W', Below (w.heap.size + 2) W0 W' → (W'.cell? ⟨w.heap.size, 0, none⟩ = some (.int .i64 a.f0) ∧ W'.cell? ⟨w.heap.size, 1, none⟩ = some (.int .i64 a.f1) ∧ W'.cell? ⟨w.heap.size, 2, none⟩ = some (.int .i64 a.f2) ∧ W'.cell? ⟨w.heap.size, 3, none⟩ = some (.int .i64 a.f3) ∧ W'.cell? ⟨w.heap.size, 4, none⟩ = some (.slice pa a.f4.length ca)) ∧ (W'.cell? ⟨w.heap.size + 1, 0, none⟩ = some (.int .i64 b.f0) ∧ W'.cell? ⟨w.heap.size + 1, 1, none⟩ = some (.int .i64 b.f1) ∧ W'.cell? ⟨w.heap.size + 1, 2, none⟩ = some (.int .i64 b.f2) ∧ W'.cell? ⟨w.heap.size + 1, 3, none⟩ = some (.int .i64 b.f3) ∧ W'.cell? ⟨w.heap.size + 1, 4, none⟩ = some (.slice pb b.f4.length cb))) := fun W' hW => by
    have ka := (hW.block w.heap.size (by omega)).trans HXA
    have kb := (hW.block (w.heap.size + 1) (by omega)).trans HXB
    exact ⟨box5 ka, box5 kb⟩
  have HO0 : Hid (W0.ownsRow (w.heap.size + 2) 44 5 (.slice (some ⟨w.heap.size + 2, 0, none⟩) 0 0) 0 []) := by
    rw [hW0]
    have h := World.ownsRow_made (base := (w.heap.size + 2)) (e := 44) (size := 5) ((w.alloc (.cells #[.int .i64 a.f0, .int .i64 a.f1, .int .i64 a.f2, .int .i64 a.f3, .slice pa a.f4.length ca] 30)).alloc (.cells #[.int .i64 b.f0, .int .i64 b.f1, .int .i64 b.f2, .int .i64 b.f3, .slice pb b.f4.length cb] 30)) #[] 0 (by simp) (by decide) rfl
    rw [World.size_alloc, World.size_alloc] at h
    exact h
  have HSA : Hid (∀ y ∈ a.f4, sEntry y) := hsa
  have HSB : Hid (∀ y ∈ b.f4, sEntry y) := hsb
  have HRA : Hid (RowR w (.slice pa a.f4.length ca) a.f4.length 2 (rEntry a.f4)) := hra
  have HRB : Hid (RowR w (.slice pb b.f4.length cb) b.f4.length 2 (rEntry b.f4)) := hrb
  have HNA : Hid (a.f4.length ≤ 1048576) := hna
  have HNB : Hid (b.f4.length ≤ 1048576) := hnb
  have hna' : (a.f4.length : Int) ≤ 1048576 := by omega
  have hnb' : (b.f4.length : Int) ≤ 1048576 := by omega
  clear hsa hsb hra hrb hW0 HXA HXB
  obtain ⟨⟨oka, okb, q2, q3⟩, qf⟩ := hok
  have HA2 : Hid (0 ≤ a.f2 ∧ a.f2 ≤ 100000) := okW_base oka
  have HB2 : Hid (0 ≤ b.f2 ∧ b.f2 ≤ 100000) := okW_base okb
  have n2 : (a.f2 != b.f2) = false := by simpa using q2
  have n3 : (a.f3 != b.f3) = false := by simpa using q3
  have HQ0 : Hid (Below (w.heap.size + 2) W0 W0) := Below.refl _ _
  have HOA : Hid (decide (okW a) = true) := decide_eq_true oka
  have HOBk : Hid (decide (okW b) = true) := decide_eq_true okb
  have HQF : Hid (sameH a b ∨ fitH a b) := qf
  clear oka okb q2 q3 qf hna hnb
  obtain ⟨⟨d0, d1, d2, d3, d4⟩, ⟨e0, e1, e2, e3, e4⟩⟩ := HX.out W0 HQ0.out
  go_enter Try.func14, Try.ntmps14
  go_wp2_with fail
  rw [HW0.out]
  refine (specWalOk_c a pa ca W0 HNA.out HSA.out (RowR.keep HRA.out (HB0.out.trans (HQ0.out.mono (by omega))) (Nat.le_refl _))).mono ?_
  rintro e w1 ⟨rfl, b1⟩
  have HQ1 : Hid (Below (w.heap.size + 2) W0 w1) := HQ0.out.trans (b1.mono (by have := HZ0.out; have := HQ0.out.size; omega))
  have HO1 := own_bel HO0.out b1 (Nat.le_refl _)
  have HO1 := hideW HO1
  clear b1
  rw [HOA.out]
  clear d0 d1 d2 d3 d4 e0 e1 e2 e3 e4
  obtain ⟨⟨d0, d1, d2, d3, d4⟩, ⟨e0, e1, e2, e3, e4⟩⟩ := HX.out w1 HQ1.out
  go_wp2_with fail
  refine (specWalOk_c b pb cb w1 HNB.out HSB.out (RowR.keep HRB.out (HB0.out.trans (HQ1.out.mono (by omega))) (Nat.le_refl _))).mono ?_
  rintro e w2 ⟨rfl, b2⟩
  have HQ2 : Hid (Below (w.heap.size + 2) W0 w2) := HQ1.out.trans (b2.mono (by have := HZ0.out; have := HQ1.out.size; omega))
  have HO2 := own_bel HO1.out b2 (Nat.le_refl _)
  have HO2 := hideW HO2
  clear b2
  rw [HOBk.out]
  clear d0 d1 d2 d3 d4 e0 e1 e2 e3 e4
  obtain ⟨⟨d0, d1, d2, d3, d4⟩, ⟨e0, e1, e2, e3, e4⟩⟩ := HX.out w2 HQ2.out
  by_cases hs : sameH a b
  · have m0 : (a.f0 != b.f0) = false := by simpa using hs.1
    have m1 : (a.f1 != b.f1) = false := by simpa using hs.2
    have HC0 : Hid (ch0 a b = []) := by show _ = _; unfold ch0; rw [if_pos hs]
    have HO5 : Hid (w2.ownsRow (w.heap.size + 2) 44 5 (.slice (some ⟨w.heap.size + 2, 0, none⟩) 0 0) (ch0 a b).length (rRec (ch0 a b))) := by rw [HC0.out]; exact HO2.out
    have HQ5 : Hid (Below (w.heap.size + 2) W0 w2) := HQ2.out
    clear hs HC0
    go_wp2_with fail
    clear m0 m1 n2 n3 d0 d1 d2 d3 d4 e0 e1 e2 e3 e4
    go_loopw [8] (fun iv wr => ∃ k : Nat, k ≤ al a.f4 b.f4 ∧ iv = .int .i64 (k : Int) ∧ Hid (wr.ownsRow (w.heap.size + 2) 44 5 (.slice (some ⟨w.heap.size + 2, 0, none⟩) 0 0) (ch0 a b).length (rRec (ch0 a b))) ∧ Hid (Below (w.heap.size + 2) W0 wr)) (fun iv _ => a.f4.length - (intOf iv).toNat)
    case atStart => exact ⟨0, Nat.zero_le _, rfl, HO5.out, HQ5.out⟩
    case round =>
      obtain ⟨k, hk, rfl, HO, HBr⟩ := hrel
      have hal := al_le a.f4 b.f4
      have HBw : Hid (Below w.heap.size w wr) := HB0.out.trans (HBr.out.mono (by omega))
      obtain ⟨⟨d0, d1, d2, d3, d4⟩, ⟨e0, e1, e2, e3, e4⟩⟩ := HX.out wr HBr.out
      by_cases h1 : k < a.f4.length
      rotate_left
      · have hA : decide ((k : Int) < (a.f4.length : Int)) = false := decide_eq_false (by omega)
        have HE : Hid (k = al a.f4 b.f4) := al_stop hk (fun h _ => absurd h h1)
        go_upto_region 10 with fail
        refine wp_region_told (fun W => W = wr.drew) (by kernel_rfl) (by kernel_rfl) rfl ?_
        refine told_pure (some 60) (.int .i64 (k : Int)) rfl (by kernel_rfl) (fun _ => by kernel_rfl) ?_
        refine told_pure (some 61) (.pointer (some ⟨w.heap.size, 4, none⟩)) rfl (by kernel_rfl) (fun _ => by kernel_rfl) ?_
        refine told_load (some 62) ⟨w.heap.size, 4, none⟩ (.slice pa a.f4.length ca) rfl (by kernel_rfl) (fun _ => by kernel_rfl) (fun _ hS => (by subst hS; exact d4)) ?_
        refine told_pure (some 63) (.int .i64 a.f4.length) rfl (by kernel_rfl) (fun _ => by kernel_rfl) ?_
        refine told_is (some 64) (.bool (decide ((k : Int) < (a.f4.length : Int)))) (.bool false) (by rw [hA]) rfl (by kernel_rfl) (fun _ => by kernel_rfl) ?_
        refine told_pure (some 65) (.bool false) rfl (by kernel_rfl) (fun _ => by kernel_rfl) ?_
        refine told_skip (some 66) rfl (by kernel_rfl) ?_
        refine told_skip (some 67) rfl (by kernel_rfl) ?_
        refine told_skip (some 68) rfl (by kernel_rfl) ?_
        refine told_skip (some 69) rfl (by kernel_rfl) ?_
        refine told_skip (some 70) rfl (by kernel_rfl) ?_
        refine told_pure (some 71) (.bool false) rfl (by kernel_rfl) (fun _ => by kernel_rfl) ?_
        refine told_pure (some 72) (.bool false) rfl (by kernel_rfl) (fun _ => by kernel_rfl) ?_
        refine told_skip (some 73) rfl (by kernel_rfl) ?_
        refine told_skip (some 74) rfl (by kernel_rfl) ?_
        refine told_skip (some 75) rfl (by kernel_rfl) ?_
        refine told_skip (some 76) rfl (by kernel_rfl) ?_
        refine told_skip (some 77) rfl (by kernel_rfl) ?_
        refine told_skip (some 78) rfl (by kernel_rfl) ?_
        refine told_skip (some 79) rfl (by kernel_rfl) ?_
        refine told_skip (some 80) rfl (by kernel_rfl) ?_
        refine told_skip (some 81) rfl (by kernel_rfl) ?_
        refine told_skip (some 82) rfl (by kernel_rfl) ?_
        refine told_skip (some 83) rfl (by kernel_rfl) ?_
        refine told_pure (some 84) (.bool false) rfl (by kernel_rfl) (fun _ => by kernel_rfl) ?_
        refine told_nil ?_
        intro w9 hS9
        subst hS9
        simp only [Act.put, List.setIfInBounds_toArray, List.set_cons_zero, List.set_cons_succ]
        have HC1 : Hid (ch1 a b = ch0 a b) := by show _ = _; unfold ch1; rw [if_neg (by rw [← HE.out]; omega), List.append_nil]
        have hnlt : ¬ (k : Int) < a.f4.length := by omega
        have HOC : Hid (wr.drew.ownsRow (w.heap.size + 2) 44 5 (.slice (some ⟨w.heap.size + 2, 0, none⟩) 0 0) (ch1 a b).length (rRec (ch1 a b))) := by rw [HC1.out]; exact HO.out
        have HQC : Hid (Below (w.heap.size + 2) W0 wr.drew) := HBr.out.drew
        have HKE : Hid (k = al a.f4 b.f4) := HE.out
        clear h1 hk hA hal HE HC1 HO
        go_wp2_with fail
        rw [HKE.out]
        clear hnlt d0 d1 d2 d3 d4 e0 e1 e2 e3 e4
        clear HKE
        go_loopw [6, 9] (fun ov iv wr => ∃ i : Nat, al a.f4 b.f4 ≤ i ∧ i ≤ b.f4.length ∧ iv = .int .i64 (i : Int) ∧ Hid (wr.ownsRow (w.heap.size + 2) 44 5 ov (chP a b (i - al a.f4 b.f4)).length (rRec (chP a b (i - al a.f4 b.f4)))) ∧ Hid (Below (w.heap.size + 2) W0 wr)) (fun _ iv _ => b.f4.length - (intOf iv).toNat)
        case atStart => exact ⟨al a.f4 b.f4, Nat.le_refl _, (al_le _ _).2, rfl, by rw [Nat.sub_self, chP_zero]; exact HOC.out, HQC.out⟩
        case round =>
          obtain ⟨i, hai, hi, rfl, HO, HBr⟩ := hrel
          have HBw : Hid (Below w.heap.size w wr) := HB0.out.trans (HBr.out.mono (by omega))
          obtain ⟨⟨d0, d1, d2, d3, d4⟩, ⟨e0, e1, e2, e3, e4⟩⟩ := HX.out wr HBr.out
          have HLL : Hid ((chP a b (i - al a.f4 b.f4)).length ≤ 1048600) := by show _ ≤ _; have := chP_len a b (i - al a.f4 b.f4); omega
          by_cases hlt : i < b.f4.length
          · have hlt' : (i : Int) < b.f4.length := by omega
            have HSU : Hid (chP a b (i + 1 - al a.f4 b.f4) = chP a b (i - al a.f4 b.f4) ++ [⟨2, b.f4[i].f0, b.f2 + 1 + i, 0, b.f4[i].f1⟩]) := by
              show _ = _
              rw [show i + 1 - al a.f4 b.f4 = (i - al a.f4 b.f4) + 1 by omega, chP_succ, show al a.f4 b.f4 + (i - al a.f4 b.f4) = i by omega, en_at hlt]
            generalize chP a b (i - al a.f4 b.f4) = L at HO HLL HSU
            obtain ⟨bb, ob, cb', hv, hbb, hcb⟩ := HRB.out.some (by omega) (by decide)
            simp only [Value.slice.injEq, true_and] at hv
            first
              | (obtain ⟨rfl, rfl⟩ := hv)
              | (simp only [Option.some.injEq, Addr.mk.injEq, and_true] at hv; obtain ⟨⟨e1, e2⟩, rfl⟩ := hv; replace e1 := e1.symm; replace e2 := e2.symm; subst e1; subst e2)
            have c0 : wr.cell? ⟨bb, ob + i * 2, none⟩ = some (.int .i64 (b.f4[i]).f0) := by rw [HBw.out.cell (by exact hbb), hcb (i * 2) (by omega)]; exact flat_at cEntry 2 cEntry_len b.f4 i 0 hlt (by decide)
            have c1 : wr.cell? ⟨bb, ob + i * 2 + 1, none⟩ = some (.string (b.f4[i]).f1) := by rw [HBw.out.cell (by exact hbb), Nat.add_assoc, hcb (i * 2 + 1) (by omega)]; exact flat_at cEntry 2 cEntry_len b.f4 i 1 hlt (by decide)
            have HWR : Hid (IntKind.i64.wrap (b.f2 + 1) = b.f2 + 1 ∧ IntKind.i64.wrap (b.f2 + 1 + (i : Int)) = b.f2 + 1 + (i : Int)) := ⟨IntWalk.i64_in _ (by have := HB2.out; omega), IntWalk.i64_in _ (by have := HB2.out; omega)⟩
            clear hcb
            go_upto_region 17 with fail
            refine wp_region_L [⟨19, fun W => W.cell? ⟨w.heap.size + 1, 4, none⟩ = some (.slice (some ⟨bb, ob, none⟩) b.f4.length cb)⟩, ⟨19, fun W => W.cell? ⟨bb, ob + i * 2, none⟩ = some (.int .i64 b.f4[i].f0)⟩, ⟨19, fun W => W.cell? ⟨w.heap.size + 1, 2, none⟩ = some (.int .i64 b.f2)⟩, ⟨19, fun W => W.cell? ⟨w.heap.size + 1, 4, none⟩ = some (.slice (some ⟨bb, ob, none⟩) b.f4.length cb)⟩, ⟨19, fun W => W.cell? ⟨bb, ob + i * 2 + 1, none⟩ = some (.string b.f4[i].f1)⟩] (by kernel_rfl) (fun f hf => by
                simp only [List.mem_cons, List.not_mem_nil, or_false] at hf
                rcases hf with rfl | rfl | rfl | rfl | rfl
                · exact e4
                · exact c0
                · exact e2
                · exact e4
                · exact c1
                ) ?_
            refine At.take 0 (some 109) (u6) rfl rfl (by kernel_rfl) (by kernel_rfl) (by kernel_rfl) (by kernel_rfl) (fun _ _ _ h => h) (yl_pure (by kernel_rfl) (fun _ => by kernel_rfl)) ?_
            refine At.take 1 (some 110) (.pointer (some ⟨w.heap.size + 1, 4, none⟩)) rfl rfl (by kernel_rfl) (by kernel_rfl) (by kernel_rfl) (by kernel_rfl) (fun _ _ _ h => h) (yl_pure (by kernel_rfl) (fun _ => by kernel_rfl)) ?_
            refine At.take 2 (some 111) (.slice (some ⟨bb, ob, none⟩) b.f4.length cb) rfl rfl (by kernel_rfl) (by kernel_rfl) (by kernel_rfl) (by kernel_rfl) (fun _ _ _ h => h) (yl_load 19 ⟨w.heap.size + 1, 4, none⟩ (.slice (some ⟨bb, ob, none⟩) b.f4.length cb) (List.mem_cons_self) [4, 5, 6, 18, 19] (by kernel_rfl) rfl (by kernel_rfl) (fun _ => by kernel_rfl)) ?_
            refine At.take 3 (some 112) (.int .i64 (i : Int)) rfl rfl (by kernel_rfl) (by kernel_rfl) (by kernel_rfl) (by kernel_rfl) (fun _ _ _ h => h) (yl_pure (by kernel_rfl) (fun _ => by kernel_rfl)) ?_
            refine At.take 4 (some 113) (.pointer (some ⟨bb, ob + i * 2, none⟩)) rfl rfl (by kernel_rfl) (by kernel_rfl) (by kernel_rfl) (by kernel_rfl) (fun _ _ _ h => h) (yl_pure (by kernel_rfl) (fun w => by go_simp)) ?_
            refine At.take 5 (some 114) (.pointer (some ⟨bb, ob + i * 2, none⟩)) rfl rfl (by kernel_rfl) (by kernel_rfl) (by kernel_rfl) (by kernel_rfl) (fun _ _ _ h => h) (yl_pure (by kernel_rfl) (fun _ => by kernel_rfl)) ?_
            refine At.take 6 (some 115) (.int .i64 b.f4[i].f0) rfl rfl (by kernel_rfl) (by kernel_rfl) (by kernel_rfl) (by kernel_rfl) (fun _ _ _ h => h) (yl_load 19 ⟨bb, ob + i * 2, none⟩ (.int .i64 b.f4[i].f0) (List.mem_cons_of_mem _ (List.mem_cons_self)) [18, 19] (by kernel_rfl) rfl (by kernel_rfl) (fun _ => by kernel_rfl)) ?_
            refine At.take 7 (some 116) (.pointer (some ⟨w.heap.size + 1, 2, none⟩)) rfl rfl (by kernel_rfl) (by kernel_rfl) (by kernel_rfl) (by kernel_rfl) (fun _ _ _ h => h) (yl_pure (by kernel_rfl) (fun _ => by kernel_rfl)) ?_
            refine At.take 8 (some 117) (.int .i64 b.f2) rfl rfl (by kernel_rfl) (by kernel_rfl) (by kernel_rfl) (by kernel_rfl) (fun _ _ _ h => h) (yl_load 19 ⟨w.heap.size + 1, 2, none⟩ (.int .i64 b.f2) (List.mem_cons_of_mem _ (List.mem_cons_of_mem _ (List.mem_cons_self))) [9, 11, 18, 19] (by kernel_rfl) rfl (by kernel_rfl) (fun _ => by kernel_rfl)) ?_
            refine At.take 9 (some 118) (.int .i64 (b.f2 + 1)) rfl rfl (by kernel_rfl) (by kernel_rfl) (by kernel_rfl) (by kernel_rfl) (fun _ _ _ h => h) (yl_is (.int .i64 (IntKind.i64.wrap (b.f2 + 1))) (by rw [HWR.out.1]) (by kernel_rfl) (fun _ => by kernel_rfl)) ?_
            refine At.take 10 (some 119) (.int .i64 (i : Int)) rfl rfl (by kernel_rfl) (by kernel_rfl) (by kernel_rfl) (by kernel_rfl) (fun _ _ _ h => h) (yl_pure (by kernel_rfl) (fun _ => by kernel_rfl)) ?_
            refine At.take 11 (some 120) (.int .i64 (b.f2 + 1 + (i : Int))) rfl rfl (by kernel_rfl) (by kernel_rfl) (by kernel_rfl) (by kernel_rfl) (fun _ _ _ h => h) (yl_is (.int .i64 (IntKind.i64.wrap (b.f2 + 1 + (i : Int)))) (by rw [HWR.out.2]) (by kernel_rfl) (fun _ => by kernel_rfl)) ?_
            refine At.take 12 (some 121) (.pointer (some ⟨w.heap.size + 1, 4, none⟩)) rfl rfl (by kernel_rfl) (by kernel_rfl) (by kernel_rfl) (by kernel_rfl) (fun _ _ _ h => h) (yl_pure (by kernel_rfl) (fun _ => by kernel_rfl)) ?_
            refine At.take 13 (some 122) (.slice (some ⟨bb, ob, none⟩) b.f4.length cb) rfl rfl (by kernel_rfl) (by kernel_rfl) (by kernel_rfl) (by kernel_rfl) (fun _ _ _ h => h) (yl_load 19 ⟨w.heap.size + 1, 4, none⟩ (.slice (some ⟨bb, ob, none⟩) b.f4.length cb) (List.mem_cons_of_mem _ (List.mem_cons_of_mem _ (List.mem_cons_of_mem _ (List.mem_cons_self)))) [15, 16, 17, 18, 19] (by kernel_rfl) rfl (by kernel_rfl) (fun _ => by kernel_rfl)) ?_
            refine At.take 14 (some 123) (.int .i64 (i : Int)) rfl rfl (by kernel_rfl) (by kernel_rfl) (by kernel_rfl) (by kernel_rfl) (fun _ _ _ h => h) (yl_pure (by kernel_rfl) (fun _ => by kernel_rfl)) ?_
            refine At.take 15 (some 124) (.pointer (some ⟨bb, ob + i * 2, none⟩)) rfl rfl (by kernel_rfl) (by kernel_rfl) (by kernel_rfl) (by kernel_rfl) (fun _ _ _ h => h) (yl_pure (by kernel_rfl) (fun w => by go_simp)) ?_
            refine At.take 16 (some 125) (.pointer (some ⟨bb, ob + i * 2 + 1, none⟩)) rfl rfl (by kernel_rfl) (by kernel_rfl) (by kernel_rfl) (by kernel_rfl) (fun _ _ _ h => h) (yl_pure (by kernel_rfl) (fun _ => by kernel_rfl)) ?_
            refine At.take 17 (some 126) (.string b.f4[i].f1) rfl rfl (by kernel_rfl) (by kernel_rfl) (by kernel_rfl) (by kernel_rfl) (fun _ _ _ h => h) (yl_load 19 ⟨bb, ob + i * 2 + 1, none⟩ (.string b.f4[i].f1) (List.mem_cons_of_mem _ (List.mem_cons_of_mem _ (List.mem_cons_of_mem _ (List.mem_cons_of_mem _ (List.mem_cons_self))))) [18, 19] (by kernel_rfl) rfl (by kernel_rfl) (fun _ => by kernel_rfl)) ?_
            refine At.take 18 (some 127) (.agg #[.int .i64 2, .int .i64 b.f4[i].f0, .int .i64 (b.f2 + 1 + (i : Int)), .int .i64 0, .string b.f4[i].f1]) rfl rfl (by kernel_rfl) (by kernel_rfl) (by kernel_rfl) (by kernel_rfl) (fun _ _ _ h => h) (yl_pure (by kernel_rfl) (fun _ => by kernel_rfl)) ?_
            refine At.step 19 (some 128) rfl rfl (by kernel_rfl) (by kernel_rfl) (fun u W => u = .slice (some ⟨wr.drew.heap.size, 0, none⟩) 1 1 ∧ W = wr.drew.alloc (.cells #[.int .i64 2, .int .i64 b.f4[i].f0, .int .i64 (b.f2 + 1 + (i : Int)), .int .i64 0, .string b.f4[i].f1] 44)) (gives_run (by kernel_rfl)) ?_
            rintro u WB ⟨rfl, hWB⟩
            refine ⟨by subst hWB; exact held_cons (.inl (by kernel_rfl)) (held_cons (.inl (by kernel_rfl)) (held_cons (.inl (by kernel_rfl)) (held_cons (.inl (by kernel_rfl)) (held_cons (.inl (by kernel_rfl)) (held_nil))))), ?_⟩
            have HOB : Hid (WB.ownsRow (w.heap.size + 2) 44 5 u6 L.length (rRec L)) := by rw [hWB]; exact (show wr.drew.ownsRow _ _ _ _ _ _ from HO.out).alloc _
            have HBB : Hid (Below (w.heap.size + 2) W0 WB) := by rw [hWB]; exact (HBr.out.drew).alloc (by have := HBr.out.size; have := HZ0.out; show _ ≤ wr.heap.size; omega) _
            obtain ⟨v', WC, hrunC, hownC, hgrowC, _⟩ := run_append_own (P := Try.prog) WB (w.heap.size + 2) 38 38 44 iR (.agg #[.int .i64 0, .int .i64 0, .int .i64 0, .int .i64 0, .string ⟨#[]⟩]) 5 48 Try.underlying38 hiR hR0 hR1 hR2 rfl (by decide) u6 L.length _ HOB.out ⟨wr.drew.heap.size, 0, none⟩ 1 1 [.int .i64 2, .int .i64 b.f4[i].f0, .int .i64 (b.f2 + 1 + (i : Int)), .int .i64 0, .string b.f4[i].f1] rfl (by rw [hWB]; exact cells_newW wr.drew _ _) (by intro u hu; simp only [List.mem_cons, List.not_mem_nil, or_false] at hu; rcases hu with rfl | rfl | rfl | rfl | rfl <;> rfl) (by have := HLL.out; unfold maxLen; omega) (by have := HLL.out; omega) (by have := HBB.out.size; have := HZ0.out; omega)
            refine At.step 20 (some 129) rfl rfl (by kernel_rfl) (by kernel_rfl) (fun u W => u = v' ∧ W = WC) (gives_append (fun _ => by kernel_rfl) hrunC) ?_
            rintro u WC' ⟨rfl, hWC⟩
            subst hWC
            refine ⟨held_cons (.inl (by kernel_rfl)) (held_cons (.inl (by kernel_rfl)) (held_cons (.inl (by kernel_rfl)) (held_cons (.inl (by kernel_rfl)) (held_cons (.inl (by kernel_rfl)) (held_nil))))), ?_⟩
            refine At.take 21 (some 6) (u) rfl rfl (by kernel_rfl) (by kernel_rfl) (by kernel_rfl) (by kernel_rfl) (fun _ _ _ h => h) (yl_pure (by kernel_rfl) (fun _ => by kernel_rfl)) ?_
            refine At.done (by kernel_rfl) ?_
            simp only [Act.put, List.setIfInBounds_toArray, List.set_cons_zero, List.set_cons_succ]
            have HOE : Hid _ := own_snocRec (r := ⟨2, b.f4[i].f0, b.f2 + 1 + i, 0, b.f4[i].f1⟩) hownC
            have HBE : Hid (Below (w.heap.size + 2) W0 WC') := HBB.out.grown hgrowC (by have := HBB.out.size; have := HZ0.out; omega) (ownBlock_ge HOB.out)
            clear hownC hgrowC hrunC HOB HBB hWB d0 d1 d2 d3 d4 e0 e1 e2 e3 e4 c0 c1 HWR
            go_wp2
            go_roundw
            case rel => exact ⟨i + 1, by omega, by omega, by go_num, by rw [HSU.out]; exact HOE.out, HBE.out⟩
            case measure => simp [intOf]; omega
          · have hie : i = b.f4.length := by omega
            subst hie
            go_wp2
            go_ret2
            exact ⟨_, rfl, own_lowW HO.out (by omega), HBw.out⟩
      have hA : decide ((k : Int) < (a.f4.length : Int)) = true := decide_eq_true (by omega)
      by_cases h2 : k < b.f4.length
      rotate_left
      · have hB : decide ((k : Int) < (b.f4.length : Int)) = false := decide_eq_false (by omega)
        have HE : Hid (k = al a.f4 b.f4) := al_stop hk (fun _ h => absurd h h2)
        go_upto_region 10 with fail
        refine wp_region_told (fun W => W = wr.drew) (by kernel_rfl) (by kernel_rfl) rfl ?_
        refine told_pure (some 60) (.int .i64 (k : Int)) rfl (by kernel_rfl) (fun _ => by kernel_rfl) ?_
        refine told_pure (some 61) (.pointer (some ⟨w.heap.size, 4, none⟩)) rfl (by kernel_rfl) (fun _ => by kernel_rfl) ?_
        refine told_load (some 62) ⟨w.heap.size, 4, none⟩ (.slice pa a.f4.length ca) rfl (by kernel_rfl) (fun _ => by kernel_rfl) (fun _ hS => (by subst hS; exact d4)) ?_
        refine told_pure (some 63) (.int .i64 a.f4.length) rfl (by kernel_rfl) (fun _ => by kernel_rfl) ?_
        refine told_is (some 64) (.bool (decide ((k : Int) < (a.f4.length : Int)))) (.bool true) (by rw [hA]) rfl (by kernel_rfl) (fun _ => by kernel_rfl) ?_
        refine told_pure (some 65) (.bool true) rfl (by kernel_rfl) (fun _ => by kernel_rfl) ?_
        refine told_pure (some 66) (.int .i64 (k : Int)) rfl (by kernel_rfl) (fun _ => by kernel_rfl) ?_
        refine told_pure (some 67) (.pointer (some ⟨w.heap.size + 1, 4, none⟩)) rfl (by kernel_rfl) (fun _ => by kernel_rfl) ?_
        refine told_load (some 68) ⟨w.heap.size + 1, 4, none⟩ (.slice pb b.f4.length cb) rfl (by kernel_rfl) (fun _ => by kernel_rfl) (fun _ hS => (by subst hS; exact e4)) ?_
        refine told_pure (some 69) (.int .i64 b.f4.length) rfl (by kernel_rfl) (fun _ => by kernel_rfl) ?_
        refine told_is (some 70) (.bool (decide ((k : Int) < (b.f4.length : Int)))) (.bool false) (by rw [hB]) rfl (by kernel_rfl) (fun _ => by kernel_rfl) ?_
        refine told_pure (some 71) (.bool false) rfl (by kernel_rfl) (fun _ => by kernel_rfl) ?_
        refine told_pure (some 72) (.bool false) rfl (by kernel_rfl) (fun _ => by kernel_rfl) ?_
        refine told_skip (some 73) rfl (by kernel_rfl) ?_
        refine told_skip (some 74) rfl (by kernel_rfl) ?_
        refine told_skip (some 75) rfl (by kernel_rfl) ?_
        refine told_skip (some 76) rfl (by kernel_rfl) ?_
        refine told_skip (some 77) rfl (by kernel_rfl) ?_
        refine told_skip (some 78) rfl (by kernel_rfl) ?_
        refine told_skip (some 79) rfl (by kernel_rfl) ?_
        refine told_skip (some 80) rfl (by kernel_rfl) ?_
        refine told_skip (some 81) rfl (by kernel_rfl) ?_
        refine told_skip (some 82) rfl (by kernel_rfl) ?_
        refine told_skip (some 83) rfl (by kernel_rfl) ?_
        refine told_pure (some 84) (.bool false) rfl (by kernel_rfl) (fun _ => by kernel_rfl) ?_
        refine told_nil ?_
        intro w9 hS9
        subst hS9
        simp only [Act.put, List.setIfInBounds_toArray, List.set_cons_zero, List.set_cons_succ]
        have HC1 : Hid (ch1 a b = ch0 a b ++ [ctR a k]) := by show _ = _; unfold ch1; rw [if_pos (by rw [← HE.out]; exact h1), ← HE.out]
        have hlt : (k : Int) < a.f4.length := by omega
        have HKE : Hid (k = al a.f4 b.f4) := HE.out
        have HO' : Hid (wr.drew.ownsRow (w.heap.size + 2) 44 5 (.slice (some ⟨w.heap.size + 2, 0, none⟩) 0 0) (ch0 a b).length (rRec (ch0 a b))) := HO.out
        have HQ' : Hid (Below (w.heap.size + 2) W0 wr.drew) := HBr.out.drew
        have hB2 := HA2.out
        have hN' : w.heap.size + 2 ≤ wr.drew.heap.size := by have := HQ'.out.size; have := HZ0.out; omega
        have hN2 : w.heap.size + 2 ≤ wr.heap.size := hN'
        have hL0 := ch0_len a b
        have wr1 : IntKind.i64.wrap (a.f2 + (k : Int)) = a.f2 + (k : Int) := IntWalk.i64_in _ (by omega)
        have wr2 : IntKind.i64.wrap (a.f2 + (k : Int) + 1) = a.f2 + (k : Int) + 1 := IntWalk.i64_in _ (by omega)
        clear h1 hk hA hB hal HE h2
        obtain ⟨iR, hiR, hR0, hR1, hR2⟩ := info_parts infoRec
        go_wp2_with (at_builtin; refine wpList_append_own _ rfl _ _ 38 rfl (w.heap.size + 2) 44 iR (.agg #[.int .i64 0, .int .i64 0, .int .i64 0, .int .i64 0, .string ⟨#[]⟩]) 5 48 Try.underlying38 hiR hR0 hR1 hR2 rfl (by decide) _ _ _ rfl (HO'.out.alloc _) ⟨wr.drew.heap.size, 0, none⟩ 1 1 [.int .i64 3, .int .i64 0, .int .i64 (a.f2 + (k : Int) + 1), .int .i64 0, .string ⟨#[]⟩] rfl rfl (cells_newW wr.drew _ _) (by intro u hu; simp only [List.mem_cons, List.not_mem_nil, or_false] at hu; rcases hu with rfl | rfl | rfl | rfl | rfl <;> rfl) (by unfold maxLen; omega) (by omega) (by simp; omega) ?_)
        intro v6 w6 hown6 hgr6 _
        have HOC : Hid (w6.ownsRow (w.heap.size + 2) 44 5 v6 (ch1 a b).length (rRec (ch1 a b))) := by rw [HC1.out]; exact own_snocRec (r := ctR a k) hown6
        have HQC : Hid (Below (w.heap.size + 2) W0 w6) := (HQ'.out.alloc (by omega) _).grown hgr6 (by simp; omega) (ownBlock_ge HO'.out)
        clear hown6 hgr6 hlt hB2 hN' hN2 hL0 wr1 wr2 HO' HQ' HC1
        clear d0 d1 d2 d3 d4 e0 e1 e2 e3 e4
        go_wp2_with fail
        rw [HKE.out]
        clear HKE
        go_loopw [6, 9] (fun ov iv wr => ∃ i : Nat, al a.f4 b.f4 ≤ i ∧ i ≤ b.f4.length ∧ iv = .int .i64 (i : Int) ∧ Hid (wr.ownsRow (w.heap.size + 2) 44 5 ov (chP a b (i - al a.f4 b.f4)).length (rRec (chP a b (i - al a.f4 b.f4)))) ∧ Hid (Below (w.heap.size + 2) W0 wr)) (fun _ iv _ => b.f4.length - (intOf iv).toNat)
        case atStart => exact ⟨al a.f4 b.f4, Nat.le_refl _, (al_le _ _).2, rfl, by rw [Nat.sub_self, chP_zero]; exact HOC.out, HQC.out⟩
        case round =>
          obtain ⟨i, hai, hi, rfl, HO, HBr⟩ := hrel
          have HBw : Hid (Below w.heap.size w wr) := HB0.out.trans (HBr.out.mono (by omega))
          obtain ⟨⟨d0, d1, d2, d3, d4⟩, ⟨e0, e1, e2, e3, e4⟩⟩ := HX.out wr HBr.out
          have HLL : Hid ((chP a b (i - al a.f4 b.f4)).length ≤ 1048600) := by show _ ≤ _; have := chP_len a b (i - al a.f4 b.f4); omega
          by_cases hlt : i < b.f4.length
          · have hlt' : (i : Int) < b.f4.length := by omega
            have HSU : Hid (chP a b (i + 1 - al a.f4 b.f4) = chP a b (i - al a.f4 b.f4) ++ [⟨2, b.f4[i].f0, b.f2 + 1 + i, 0, b.f4[i].f1⟩]) := by
              show _ = _
              rw [show i + 1 - al a.f4 b.f4 = (i - al a.f4 b.f4) + 1 by omega, chP_succ, show al a.f4 b.f4 + (i - al a.f4 b.f4) = i by omega, en_at hlt]
            generalize chP a b (i - al a.f4 b.f4) = L at HO HLL HSU
            obtain ⟨bb, ob, cb', hv, hbb, hcb⟩ := HRB.out.some (by omega) (by decide)
            simp only [Value.slice.injEq, true_and] at hv
            first
              | (obtain ⟨rfl, rfl⟩ := hv)
              | (simp only [Option.some.injEq, Addr.mk.injEq, and_true] at hv; obtain ⟨⟨e1, e2⟩, rfl⟩ := hv; replace e1 := e1.symm; replace e2 := e2.symm; subst e1; subst e2)
            have c0 : wr.cell? ⟨bb, ob + i * 2, none⟩ = some (.int .i64 (b.f4[i]).f0) := by rw [HBw.out.cell (by exact hbb), hcb (i * 2) (by omega)]; exact flat_at cEntry 2 cEntry_len b.f4 i 0 hlt (by decide)
            have c1 : wr.cell? ⟨bb, ob + i * 2 + 1, none⟩ = some (.string (b.f4[i]).f1) := by rw [HBw.out.cell (by exact hbb), Nat.add_assoc, hcb (i * 2 + 1) (by omega)]; exact flat_at cEntry 2 cEntry_len b.f4 i 1 hlt (by decide)
            have HWR : Hid (IntKind.i64.wrap (b.f2 + 1) = b.f2 + 1 ∧ IntKind.i64.wrap (b.f2 + 1 + (i : Int)) = b.f2 + 1 + (i : Int)) := ⟨IntWalk.i64_in _ (by have := HB2.out; omega), IntWalk.i64_in _ (by have := HB2.out; omega)⟩
            clear hcb
            go_upto_region 17 with fail
            refine wp_region_L [⟨19, fun W => W.cell? ⟨w.heap.size + 1, 4, none⟩ = some (.slice (some ⟨bb, ob, none⟩) b.f4.length cb)⟩, ⟨19, fun W => W.cell? ⟨bb, ob + i * 2, none⟩ = some (.int .i64 b.f4[i].f0)⟩, ⟨19, fun W => W.cell? ⟨w.heap.size + 1, 2, none⟩ = some (.int .i64 b.f2)⟩, ⟨19, fun W => W.cell? ⟨w.heap.size + 1, 4, none⟩ = some (.slice (some ⟨bb, ob, none⟩) b.f4.length cb)⟩, ⟨19, fun W => W.cell? ⟨bb, ob + i * 2 + 1, none⟩ = some (.string b.f4[i].f1)⟩] (by kernel_rfl) (fun f hf => by
                simp only [List.mem_cons, List.not_mem_nil, or_false] at hf
                rcases hf with rfl | rfl | rfl | rfl | rfl
                · exact e4
                · exact c0
                · exact e2
                · exact e4
                · exact c1
                ) ?_
            refine At.take 0 (some 109) (u6) rfl rfl (by kernel_rfl) (by kernel_rfl) (by kernel_rfl) (by kernel_rfl) (fun _ _ _ h => h) (yl_pure (by kernel_rfl) (fun _ => by kernel_rfl)) ?_
            refine At.take 1 (some 110) (.pointer (some ⟨w.heap.size + 1, 4, none⟩)) rfl rfl (by kernel_rfl) (by kernel_rfl) (by kernel_rfl) (by kernel_rfl) (fun _ _ _ h => h) (yl_pure (by kernel_rfl) (fun _ => by kernel_rfl)) ?_
            refine At.take 2 (some 111) (.slice (some ⟨bb, ob, none⟩) b.f4.length cb) rfl rfl (by kernel_rfl) (by kernel_rfl) (by kernel_rfl) (by kernel_rfl) (fun _ _ _ h => h) (yl_load 19 ⟨w.heap.size + 1, 4, none⟩ (.slice (some ⟨bb, ob, none⟩) b.f4.length cb) (List.mem_cons_self) [4, 5, 6, 18, 19] (by kernel_rfl) rfl (by kernel_rfl) (fun _ => by kernel_rfl)) ?_
            refine At.take 3 (some 112) (.int .i64 (i : Int)) rfl rfl (by kernel_rfl) (by kernel_rfl) (by kernel_rfl) (by kernel_rfl) (fun _ _ _ h => h) (yl_pure (by kernel_rfl) (fun _ => by kernel_rfl)) ?_
            refine At.take 4 (some 113) (.pointer (some ⟨bb, ob + i * 2, none⟩)) rfl rfl (by kernel_rfl) (by kernel_rfl) (by kernel_rfl) (by kernel_rfl) (fun _ _ _ h => h) (yl_pure (by kernel_rfl) (fun w => by go_simp)) ?_
            refine At.take 5 (some 114) (.pointer (some ⟨bb, ob + i * 2, none⟩)) rfl rfl (by kernel_rfl) (by kernel_rfl) (by kernel_rfl) (by kernel_rfl) (fun _ _ _ h => h) (yl_pure (by kernel_rfl) (fun _ => by kernel_rfl)) ?_
            refine At.take 6 (some 115) (.int .i64 b.f4[i].f0) rfl rfl (by kernel_rfl) (by kernel_rfl) (by kernel_rfl) (by kernel_rfl) (fun _ _ _ h => h) (yl_load 19 ⟨bb, ob + i * 2, none⟩ (.int .i64 b.f4[i].f0) (List.mem_cons_of_mem _ (List.mem_cons_self)) [18, 19] (by kernel_rfl) rfl (by kernel_rfl) (fun _ => by kernel_rfl)) ?_
            refine At.take 7 (some 116) (.pointer (some ⟨w.heap.size + 1, 2, none⟩)) rfl rfl (by kernel_rfl) (by kernel_rfl) (by kernel_rfl) (by kernel_rfl) (fun _ _ _ h => h) (yl_pure (by kernel_rfl) (fun _ => by kernel_rfl)) ?_
            refine At.take 8 (some 117) (.int .i64 b.f2) rfl rfl (by kernel_rfl) (by kernel_rfl) (by kernel_rfl) (by kernel_rfl) (fun _ _ _ h => h) (yl_load 19 ⟨w.heap.size + 1, 2, none⟩ (.int .i64 b.f2) (List.mem_cons_of_mem _ (List.mem_cons_of_mem _ (List.mem_cons_self))) [9, 11, 18, 19] (by kernel_rfl) rfl (by kernel_rfl) (fun _ => by kernel_rfl)) ?_
            refine At.take 9 (some 118) (.int .i64 (b.f2 + 1)) rfl rfl (by kernel_rfl) (by kernel_rfl) (by kernel_rfl) (by kernel_rfl) (fun _ _ _ h => h) (yl_is (.int .i64 (IntKind.i64.wrap (b.f2 + 1))) (by rw [HWR.out.1]) (by kernel_rfl) (fun _ => by kernel_rfl)) ?_
            refine At.take 10 (some 119) (.int .i64 (i : Int)) rfl rfl (by kernel_rfl) (by kernel_rfl) (by kernel_rfl) (by kernel_rfl) (fun _ _ _ h => h) (yl_pure (by kernel_rfl) (fun _ => by kernel_rfl)) ?_
            refine At.take 11 (some 120) (.int .i64 (b.f2 + 1 + (i : Int))) rfl rfl (by kernel_rfl) (by kernel_rfl) (by kernel_rfl) (by kernel_rfl) (fun _ _ _ h => h) (yl_is (.int .i64 (IntKind.i64.wrap (b.f2 + 1 + (i : Int)))) (by rw [HWR.out.2]) (by kernel_rfl) (fun _ => by kernel_rfl)) ?_
            refine At.take 12 (some 121) (.pointer (some ⟨w.heap.size + 1, 4, none⟩)) rfl rfl (by kernel_rfl) (by kernel_rfl) (by kernel_rfl) (by kernel_rfl) (fun _ _ _ h => h) (yl_pure (by kernel_rfl) (fun _ => by kernel_rfl)) ?_
            refine At.take 13 (some 122) (.slice (some ⟨bb, ob, none⟩) b.f4.length cb) rfl rfl (by kernel_rfl) (by kernel_rfl) (by kernel_rfl) (by kernel_rfl) (fun _ _ _ h => h) (yl_load 19 ⟨w.heap.size + 1, 4, none⟩ (.slice (some ⟨bb, ob, none⟩) b.f4.length cb) (List.mem_cons_of_mem _ (List.mem_cons_of_mem _ (List.mem_cons_of_mem _ (List.mem_cons_self)))) [15, 16, 17, 18, 19] (by kernel_rfl) rfl (by kernel_rfl) (fun _ => by kernel_rfl)) ?_
            refine At.take 14 (some 123) (.int .i64 (i : Int)) rfl rfl (by kernel_rfl) (by kernel_rfl) (by kernel_rfl) (by kernel_rfl) (fun _ _ _ h => h) (yl_pure (by kernel_rfl) (fun _ => by kernel_rfl)) ?_
            refine At.take 15 (some 124) (.pointer (some ⟨bb, ob + i * 2, none⟩)) rfl rfl (by kernel_rfl) (by kernel_rfl) (by kernel_rfl) (by kernel_rfl) (fun _ _ _ h => h) (yl_pure (by kernel_rfl) (fun w => by go_simp)) ?_
            refine At.take 16 (some 125) (.pointer (some ⟨bb, ob + i * 2 + 1, none⟩)) rfl rfl (by kernel_rfl) (by kernel_rfl) (by kernel_rfl) (by kernel_rfl) (fun _ _ _ h => h) (yl_pure (by kernel_rfl) (fun _ => by kernel_rfl)) ?_
            refine At.take 17 (some 126) (.string b.f4[i].f1) rfl rfl (by kernel_rfl) (by kernel_rfl) (by kernel_rfl) (by kernel_rfl) (fun _ _ _ h => h) (yl_load 19 ⟨bb, ob + i * 2 + 1, none⟩ (.string b.f4[i].f1) (List.mem_cons_of_mem _ (List.mem_cons_of_mem _ (List.mem_cons_of_mem _ (List.mem_cons_of_mem _ (List.mem_cons_self))))) [18, 19] (by kernel_rfl) rfl (by kernel_rfl) (fun _ => by kernel_rfl)) ?_
            refine At.take 18 (some 127) (.agg #[.int .i64 2, .int .i64 b.f4[i].f0, .int .i64 (b.f2 + 1 + (i : Int)), .int .i64 0, .string b.f4[i].f1]) rfl rfl (by kernel_rfl) (by kernel_rfl) (by kernel_rfl) (by kernel_rfl) (fun _ _ _ h => h) (yl_pure (by kernel_rfl) (fun _ => by kernel_rfl)) ?_
            refine At.step 19 (some 128) rfl rfl (by kernel_rfl) (by kernel_rfl) (fun u W => u = .slice (some ⟨wr.drew.heap.size, 0, none⟩) 1 1 ∧ W = wr.drew.alloc (.cells #[.int .i64 2, .int .i64 b.f4[i].f0, .int .i64 (b.f2 + 1 + (i : Int)), .int .i64 0, .string b.f4[i].f1] 44)) (gives_run (by kernel_rfl)) ?_
            rintro u WB ⟨rfl, hWB⟩
            refine ⟨by subst hWB; exact held_cons (.inl (by kernel_rfl)) (held_cons (.inl (by kernel_rfl)) (held_cons (.inl (by kernel_rfl)) (held_cons (.inl (by kernel_rfl)) (held_cons (.inl (by kernel_rfl)) (held_nil))))), ?_⟩
            have HOB : Hid (WB.ownsRow (w.heap.size + 2) 44 5 u6 L.length (rRec L)) := by rw [hWB]; exact (show wr.drew.ownsRow _ _ _ _ _ _ from HO.out).alloc _
            have HBB : Hid (Below (w.heap.size + 2) W0 WB) := by rw [hWB]; exact (HBr.out.drew).alloc (by have := HBr.out.size; have := HZ0.out; show _ ≤ wr.heap.size; omega) _
            obtain ⟨v', WC, hrunC, hownC, hgrowC, _⟩ := run_append_own (P := Try.prog) WB (w.heap.size + 2) 38 38 44 iR (.agg #[.int .i64 0, .int .i64 0, .int .i64 0, .int .i64 0, .string ⟨#[]⟩]) 5 48 Try.underlying38 hiR hR0 hR1 hR2 rfl (by decide) u6 L.length _ HOB.out ⟨wr.drew.heap.size, 0, none⟩ 1 1 [.int .i64 2, .int .i64 b.f4[i].f0, .int .i64 (b.f2 + 1 + (i : Int)), .int .i64 0, .string b.f4[i].f1] rfl (by rw [hWB]; exact cells_newW wr.drew _ _) (by intro u hu; simp only [List.mem_cons, List.not_mem_nil, or_false] at hu; rcases hu with rfl | rfl | rfl | rfl | rfl <;> rfl) (by have := HLL.out; unfold maxLen; omega) (by have := HLL.out; omega) (by have := HBB.out.size; have := HZ0.out; omega)
            refine At.step 20 (some 129) rfl rfl (by kernel_rfl) (by kernel_rfl) (fun u W => u = v' ∧ W = WC) (gives_append (fun _ => by kernel_rfl) hrunC) ?_
            rintro u WC' ⟨rfl, hWC⟩
            subst hWC
            refine ⟨held_cons (.inl (by kernel_rfl)) (held_cons (.inl (by kernel_rfl)) (held_cons (.inl (by kernel_rfl)) (held_cons (.inl (by kernel_rfl)) (held_cons (.inl (by kernel_rfl)) (held_nil))))), ?_⟩
            refine At.take 21 (some 6) (u) rfl rfl (by kernel_rfl) (by kernel_rfl) (by kernel_rfl) (by kernel_rfl) (fun _ _ _ h => h) (yl_pure (by kernel_rfl) (fun _ => by kernel_rfl)) ?_
            refine At.done (by kernel_rfl) ?_
            simp only [Act.put, List.setIfInBounds_toArray, List.set_cons_zero, List.set_cons_succ]
            have HOE : Hid _ := own_snocRec (r := ⟨2, b.f4[i].f0, b.f2 + 1 + i, 0, b.f4[i].f1⟩) hownC
            have HBE : Hid (Below (w.heap.size + 2) W0 WC') := HBB.out.grown hgrowC (by have := HBB.out.size; have := HZ0.out; omega) (ownBlock_ge HOB.out)
            clear hownC hgrowC hrunC HOB HBB hWB d0 d1 d2 d3 d4 e0 e1 e2 e3 e4 c0 c1 HWR
            go_wp2
            go_roundw
            case rel => exact ⟨i + 1, by omega, by omega, by go_num, by rw [HSU.out]; exact HOE.out, HBE.out⟩
            case measure => simp [intOf]; omega
          · have hie : i = b.f4.length := by omega
            subst hie
            go_wp2
            go_ret2
            exact ⟨_, rfl, own_lowW HO.out (by omega), HBw.out⟩
      have hB : decide ((k : Int) < (b.f4.length : Int)) = true := decide_eq_true (by omega)
      obtain ⟨ba, oa, ca', hv, hba, hca⟩ := HRA.out.some (by omega) (by decide)
      simp only [Value.slice.injEq, true_and] at hv
      obtain ⟨rfl, rfl⟩ := hv
      obtain ⟨bb, ob, cb', hv, hbb, hcb⟩ := HRB.out.some (by omega) (by decide)
      simp only [Value.slice.injEq, true_and] at hv
      obtain ⟨rfl, rfl⟩ := hv
      have c0 : wr.cell? ⟨ba, oa + k * 2, none⟩ = some (.int .i64 (a.f4[k]).f0) := by rw [HBw.out.cell (by exact hba), hca (k * 2) (by omega)]; exact flat_at cEntry 2 cEntry_len a.f4 k 0 h1 (by decide)
      have c1 : wr.cell? ⟨ba, oa + k * 2 + 1, none⟩ = some (.string (a.f4[k]).f1) := by rw [HBw.out.cell (by exact hba), Nat.add_assoc, hca (k * 2 + 1) (by omega)]; exact flat_at cEntry 2 cEntry_len a.f4 k 1 h1 (by decide)
      have g0 : wr.cell? ⟨bb, ob + k * 2, none⟩ = some (.int .i64 (b.f4[k]).f0) := by rw [HBw.out.cell (by exact hbb), hcb (k * 2) (by omega)]; exact flat_at cEntry 2 cEntry_len b.f4 k 0 h2 (by decide)
      have g1 : wr.cell? ⟨bb, ob + k * 2 + 1, none⟩ = some (.string (b.f4[k]).f1) := by rw [HBw.out.cell (by exact hbb), Nat.add_assoc, hcb (k * 2 + 1) (by omega)]; exact flat_at cEntry 2 cEntry_len b.f4 k 1 h2 (by decide)
      clear hca hcb
      have heq := fun W => eqEE a.f4[k] b.f4[k] W
      by_cases he : eqE a.f4[k] b.f4[k]
      · have HE : Hid (k + 1 ≤ al a.f4 b.f4) := al_step hk h1 h2 he
        rw [decide_eq_true he] at heq
        generalize a.f4[k] = X at c0 c1 heq
        generalize b.f4[k] = Y at g0 g1 heq
        clear he hk
        go_upto_region 10 with fail
        refine wp_region_told (fun W => W = wr.drew) (by kernel_rfl) (by kernel_rfl) rfl ?_
        refine told_pure (some 60) (.int .i64 (k : Int)) rfl (by kernel_rfl) (fun _ => by kernel_rfl) ?_
        refine told_pure (some 61) (.pointer (some ⟨w.heap.size, 4, none⟩)) rfl (by kernel_rfl) (fun _ => by kernel_rfl) ?_
        refine told_load (some 62) ⟨w.heap.size, 4, none⟩ (.slice (some ⟨ba, oa, none⟩) a.f4.length ca) rfl (by kernel_rfl) (fun _ => by kernel_rfl) (fun _ hS => (by subst hS; exact d4)) ?_
        refine told_pure (some 63) (.int .i64 a.f4.length) rfl (by kernel_rfl) (fun _ => by kernel_rfl) ?_
        refine told_is (some 64) (.bool (decide ((k : Int) < (a.f4.length : Int)))) (.bool true) (by rw [hA]) rfl (by kernel_rfl) (fun _ => by kernel_rfl) ?_
        refine told_pure (some 65) (.bool true) rfl (by kernel_rfl) (fun _ => by kernel_rfl) ?_
        refine told_pure (some 66) (.int .i64 (k : Int)) rfl (by kernel_rfl) (fun _ => by kernel_rfl) ?_
        refine told_pure (some 67) (.pointer (some ⟨w.heap.size + 1, 4, none⟩)) rfl (by kernel_rfl) (fun _ => by kernel_rfl) ?_
        refine told_load (some 68) ⟨w.heap.size + 1, 4, none⟩ (.slice (some ⟨bb, ob, none⟩) b.f4.length cb) rfl (by kernel_rfl) (fun _ => by kernel_rfl) (fun _ hS => (by subst hS; exact e4)) ?_
        refine told_pure (some 69) (.int .i64 b.f4.length) rfl (by kernel_rfl) (fun _ => by kernel_rfl) ?_
        refine told_is (some 70) (.bool (decide ((k : Int) < (b.f4.length : Int)))) (.bool true) (by rw [hB]) rfl (by kernel_rfl) (fun _ => by kernel_rfl) ?_
        refine told_pure (some 71) (.bool true) rfl (by kernel_rfl) (fun _ => by kernel_rfl) ?_
        refine told_pure (some 72) (.bool true) rfl (by kernel_rfl) (fun _ => by kernel_rfl) ?_
        refine told_pure (some 73) (.pointer (some ⟨w.heap.size, 4, none⟩)) rfl (by kernel_rfl) (fun _ => by kernel_rfl) ?_
        refine told_load (some 74) ⟨w.heap.size, 4, none⟩ (.slice (some ⟨ba, oa, none⟩) a.f4.length ca) rfl (by kernel_rfl) (fun _ => by kernel_rfl) (fun _ hS => (by subst hS; exact d4)) ?_
        refine told_pure (some 75) (.int .i64 (k : Int)) rfl (by kernel_rfl) (fun _ => by kernel_rfl) ?_
        refine told_pure (some 76) (.pointer (some ⟨ba, oa + k * 2, none⟩)) rfl (by kernel_rfl) (fun w => by go_simp) ?_
        refine told_loads (some 77) ⟨ba, oa + k * 2, none⟩ [.int .i64 X.f0, .string X.f1] rfl (by kernel_rfl) (fun _ => by kernel_rfl) (fun W hS => by subst hS; exact cells2W c0 c1) ?_
        refine told_pure (some 78) (.pointer (some ⟨w.heap.size + 1, 4, none⟩)) rfl (by kernel_rfl) (fun _ => by kernel_rfl) ?_
        refine told_load (some 79) ⟨w.heap.size + 1, 4, none⟩ (.slice (some ⟨bb, ob, none⟩) b.f4.length cb) rfl (by kernel_rfl) (fun _ => by kernel_rfl) (fun _ hS => (by subst hS; exact e4)) ?_
        refine told_pure (some 80) (.int .i64 (k : Int)) rfl (by kernel_rfl) (fun _ => by kernel_rfl) ?_
        refine told_pure (some 81) (.pointer (some ⟨bb, ob + k * 2, none⟩)) rfl (by kernel_rfl) (fun w => by go_simp) ?_
        refine told_loads (some 82) ⟨bb, ob + k * 2, none⟩ [.int .i64 Y.f0, .string Y.f1] rfl (by kernel_rfl) (fun _ => by kernel_rfl) (fun W hS => by subst hS; exact cells2W g0 g1) ?_
        refine told_run (some 83) (.bool true) (binOp .eql 66 (.agg #[.int .i64 X.f0, .string X.f1]) (.agg #[.int .i64 Y.f0, .string Y.f1])) rfl (by kernel_rfl) (fun _ => by kernel_rfl) (fun W _ => heq W) ?_
        refine told_pure (some 84) (.bool true) rfl (by kernel_rfl) (fun _ => by kernel_rfl) ?_
        refine told_nil ?_
        intro w9 hS9
        subst hS9
        simp only [Act.put, List.setIfInBounds_toArray, List.set_cons_zero, List.set_cons_succ]
        go_wp2
        go_roundw
        case rel => exact ⟨k + 1, HE.out, by go_num, HO.out, HBr.out.drew⟩
        case measure => simp [intOf]; omega
      · have HE : Hid (k = al a.f4 b.f4) := al_stop hk (fun _ _ => he)
        rw [decide_eq_false he] at heq
        generalize a.f4[k] = X at c0 c1 heq
        generalize b.f4[k] = Y at g0 g1 heq
        clear he
        go_upto_region 10 with fail
        refine wp_region_told (fun W => W = wr.drew) (by kernel_rfl) (by kernel_rfl) rfl ?_
        refine told_pure (some 60) (.int .i64 (k : Int)) rfl (by kernel_rfl) (fun _ => by kernel_rfl) ?_
        refine told_pure (some 61) (.pointer (some ⟨w.heap.size, 4, none⟩)) rfl (by kernel_rfl) (fun _ => by kernel_rfl) ?_
        refine told_load (some 62) ⟨w.heap.size, 4, none⟩ (.slice (some ⟨ba, oa, none⟩) a.f4.length ca) rfl (by kernel_rfl) (fun _ => by kernel_rfl) (fun _ hS => (by subst hS; exact d4)) ?_
        refine told_pure (some 63) (.int .i64 a.f4.length) rfl (by kernel_rfl) (fun _ => by kernel_rfl) ?_
        refine told_is (some 64) (.bool (decide ((k : Int) < (a.f4.length : Int)))) (.bool true) (by rw [hA]) rfl (by kernel_rfl) (fun _ => by kernel_rfl) ?_
        refine told_pure (some 65) (.bool true) rfl (by kernel_rfl) (fun _ => by kernel_rfl) ?_
        refine told_pure (some 66) (.int .i64 (k : Int)) rfl (by kernel_rfl) (fun _ => by kernel_rfl) ?_
        refine told_pure (some 67) (.pointer (some ⟨w.heap.size + 1, 4, none⟩)) rfl (by kernel_rfl) (fun _ => by kernel_rfl) ?_
        refine told_load (some 68) ⟨w.heap.size + 1, 4, none⟩ (.slice (some ⟨bb, ob, none⟩) b.f4.length cb) rfl (by kernel_rfl) (fun _ => by kernel_rfl) (fun _ hS => (by subst hS; exact e4)) ?_
        refine told_pure (some 69) (.int .i64 b.f4.length) rfl (by kernel_rfl) (fun _ => by kernel_rfl) ?_
        refine told_is (some 70) (.bool (decide ((k : Int) < (b.f4.length : Int)))) (.bool true) (by rw [hB]) rfl (by kernel_rfl) (fun _ => by kernel_rfl) ?_
        refine told_pure (some 71) (.bool true) rfl (by kernel_rfl) (fun _ => by kernel_rfl) ?_
        refine told_pure (some 72) (.bool true) rfl (by kernel_rfl) (fun _ => by kernel_rfl) ?_
        refine told_pure (some 73) (.pointer (some ⟨w.heap.size, 4, none⟩)) rfl (by kernel_rfl) (fun _ => by kernel_rfl) ?_
        refine told_load (some 74) ⟨w.heap.size, 4, none⟩ (.slice (some ⟨ba, oa, none⟩) a.f4.length ca) rfl (by kernel_rfl) (fun _ => by kernel_rfl) (fun _ hS => (by subst hS; exact d4)) ?_
        refine told_pure (some 75) (.int .i64 (k : Int)) rfl (by kernel_rfl) (fun _ => by kernel_rfl) ?_
        refine told_pure (some 76) (.pointer (some ⟨ba, oa + k * 2, none⟩)) rfl (by kernel_rfl) (fun w => by go_simp) ?_
        refine told_loads (some 77) ⟨ba, oa + k * 2, none⟩ [.int .i64 X.f0, .string X.f1] rfl (by kernel_rfl) (fun _ => by kernel_rfl) (fun W hS => by subst hS; exact cells2W c0 c1) ?_
        refine told_pure (some 78) (.pointer (some ⟨w.heap.size + 1, 4, none⟩)) rfl (by kernel_rfl) (fun _ => by kernel_rfl) ?_
        refine told_load (some 79) ⟨w.heap.size + 1, 4, none⟩ (.slice (some ⟨bb, ob, none⟩) b.f4.length cb) rfl (by kernel_rfl) (fun _ => by kernel_rfl) (fun _ hS => (by subst hS; exact e4)) ?_
        refine told_pure (some 80) (.int .i64 (k : Int)) rfl (by kernel_rfl) (fun _ => by kernel_rfl) ?_
        refine told_pure (some 81) (.pointer (some ⟨bb, ob + k * 2, none⟩)) rfl (by kernel_rfl) (fun w => by go_simp) ?_
        refine told_loads (some 82) ⟨bb, ob + k * 2, none⟩ [.int .i64 Y.f0, .string Y.f1] rfl (by kernel_rfl) (fun _ => by kernel_rfl) (fun W hS => by subst hS; exact cells2W g0 g1) ?_
        refine told_run (some 83) (.bool false) (binOp .eql 66 (.agg #[.int .i64 X.f0, .string X.f1]) (.agg #[.int .i64 Y.f0, .string Y.f1])) rfl (by kernel_rfl) (fun _ => by kernel_rfl) (fun W _ => heq W) ?_
        refine told_pure (some 84) (.bool false) rfl (by kernel_rfl) (fun _ => by kernel_rfl) ?_
        refine told_nil ?_
        intro w9 hS9
        subst hS9
        simp only [Act.put, List.setIfInBounds_toArray, List.set_cons_zero, List.set_cons_succ]
        have HC1 : Hid (ch1 a b = ch0 a b ++ [ctR a k]) := by show _ = _; unfold ch1; rw [if_pos (by rw [← HE.out]; exact h1), ← HE.out]
        have hlt : (k : Int) < a.f4.length := by omega
        have HKE : Hid (k = al a.f4 b.f4) := HE.out
        have HO' : Hid (wr.drew.ownsRow (w.heap.size + 2) 44 5 (.slice (some ⟨w.heap.size + 2, 0, none⟩) 0 0) (ch0 a b).length (rRec (ch0 a b))) := HO.out
        have HQ' : Hid (Below (w.heap.size + 2) W0 wr.drew) := HBr.out.drew
        have hB2 := HA2.out
        have hN' : w.heap.size + 2 ≤ wr.drew.heap.size := by have := HQ'.out.size; have := HZ0.out; omega
        have hN2 : w.heap.size + 2 ≤ wr.heap.size := hN'
        have hL0 := ch0_len a b
        have wr1 : IntKind.i64.wrap (a.f2 + (k : Int)) = a.f2 + (k : Int) := IntWalk.i64_in _ (by omega)
        have wr2 : IntKind.i64.wrap (a.f2 + (k : Int) + 1) = a.f2 + (k : Int) + 1 := IntWalk.i64_in _ (by omega)
        clear h1 hk hA hB hal HE h2 heq c0 c1 g0 g1
        obtain ⟨iR, hiR, hR0, hR1, hR2⟩ := info_parts infoRec
        go_wp2_with (at_builtin; refine wpList_append_own _ rfl _ _ 38 rfl (w.heap.size + 2) 44 iR (.agg #[.int .i64 0, .int .i64 0, .int .i64 0, .int .i64 0, .string ⟨#[]⟩]) 5 48 Try.underlying38 hiR hR0 hR1 hR2 rfl (by decide) _ _ _ rfl (HO'.out.alloc _) ⟨wr.drew.heap.size, 0, none⟩ 1 1 [.int .i64 3, .int .i64 0, .int .i64 (a.f2 + (k : Int) + 1), .int .i64 0, .string ⟨#[]⟩] rfl rfl (cells_newW wr.drew _ _) (by intro u hu; simp only [List.mem_cons, List.not_mem_nil, or_false] at hu; rcases hu with rfl | rfl | rfl | rfl | rfl <;> rfl) (by unfold maxLen; omega) (by omega) (by simp; omega) ?_)
        intro v6 w6 hown6 hgr6 _
        have HOC : Hid (w6.ownsRow (w.heap.size + 2) 44 5 v6 (ch1 a b).length (rRec (ch1 a b))) := by rw [HC1.out]; exact own_snocRec (r := ctR a k) hown6
        have HQC : Hid (Below (w.heap.size + 2) W0 w6) := (HQ'.out.alloc (by omega) _).grown hgr6 (by simp; omega) (ownBlock_ge HO'.out)
        clear hown6 hgr6 hlt hB2 hN' hN2 hL0 wr1 wr2 HO' HQ' HC1
        clear d0 d1 d2 d3 d4 e0 e1 e2 e3 e4
        go_wp2_with fail
        rw [HKE.out]
        clear HKE
        go_loopw [6, 9] (fun ov iv wr => ∃ i : Nat, al a.f4 b.f4 ≤ i ∧ i ≤ b.f4.length ∧ iv = .int .i64 (i : Int) ∧ Hid (wr.ownsRow (w.heap.size + 2) 44 5 ov (chP a b (i - al a.f4 b.f4)).length (rRec (chP a b (i - al a.f4 b.f4)))) ∧ Hid (Below (w.heap.size + 2) W0 wr)) (fun _ iv _ => b.f4.length - (intOf iv).toNat)
        case atStart => exact ⟨al a.f4 b.f4, Nat.le_refl _, (al_le _ _).2, rfl, by rw [Nat.sub_self, chP_zero]; exact HOC.out, HQC.out⟩
        case round =>
          obtain ⟨i, hai, hi, rfl, HO, HBr⟩ := hrel
          have HBw : Hid (Below w.heap.size w wr) := HB0.out.trans (HBr.out.mono (by omega))
          obtain ⟨⟨d0, d1, d2, d3, d4⟩, ⟨e0, e1, e2, e3, e4⟩⟩ := HX.out wr HBr.out
          have HLL : Hid ((chP a b (i - al a.f4 b.f4)).length ≤ 1048600) := by show _ ≤ _; have := chP_len a b (i - al a.f4 b.f4); omega
          by_cases hlt : i < b.f4.length
          · have hlt' : (i : Int) < b.f4.length := by omega
            have HSU : Hid (chP a b (i + 1 - al a.f4 b.f4) = chP a b (i - al a.f4 b.f4) ++ [⟨2, b.f4[i].f0, b.f2 + 1 + i, 0, b.f4[i].f1⟩]) := by
              show _ = _
              rw [show i + 1 - al a.f4 b.f4 = (i - al a.f4 b.f4) + 1 by omega, chP_succ, show al a.f4 b.f4 + (i - al a.f4 b.f4) = i by omega, en_at hlt]
            generalize chP a b (i - al a.f4 b.f4) = L at HO HLL HSU
            obtain ⟨bb, ob, cb', hv, hbb, hcb⟩ := HRB.out.some (by omega) (by decide)
            simp only [Value.slice.injEq, true_and] at hv
            first
              | (obtain ⟨rfl, rfl⟩ := hv)
              | (simp only [Option.some.injEq, Addr.mk.injEq, and_true] at hv; obtain ⟨⟨e1, e2⟩, rfl⟩ := hv; replace e1 := e1.symm; replace e2 := e2.symm; subst e1; subst e2)
            have c0 : wr.cell? ⟨bb, ob + i * 2, none⟩ = some (.int .i64 (b.f4[i]).f0) := by rw [HBw.out.cell (by exact hbb), hcb (i * 2) (by omega)]; exact flat_at cEntry 2 cEntry_len b.f4 i 0 hlt (by decide)
            have c1 : wr.cell? ⟨bb, ob + i * 2 + 1, none⟩ = some (.string (b.f4[i]).f1) := by rw [HBw.out.cell (by exact hbb), Nat.add_assoc, hcb (i * 2 + 1) (by omega)]; exact flat_at cEntry 2 cEntry_len b.f4 i 1 hlt (by decide)
            have HWR : Hid (IntKind.i64.wrap (b.f2 + 1) = b.f2 + 1 ∧ IntKind.i64.wrap (b.f2 + 1 + (i : Int)) = b.f2 + 1 + (i : Int)) := ⟨IntWalk.i64_in _ (by have := HB2.out; omega), IntWalk.i64_in _ (by have := HB2.out; omega)⟩
            clear hcb
            go_upto_region 17 with fail
            refine wp_region_L [⟨19, fun W => W.cell? ⟨w.heap.size + 1, 4, none⟩ = some (.slice (some ⟨bb, ob, none⟩) b.f4.length cb)⟩, ⟨19, fun W => W.cell? ⟨bb, ob + i * 2, none⟩ = some (.int .i64 b.f4[i].f0)⟩, ⟨19, fun W => W.cell? ⟨w.heap.size + 1, 2, none⟩ = some (.int .i64 b.f2)⟩, ⟨19, fun W => W.cell? ⟨w.heap.size + 1, 4, none⟩ = some (.slice (some ⟨bb, ob, none⟩) b.f4.length cb)⟩, ⟨19, fun W => W.cell? ⟨bb, ob + i * 2 + 1, none⟩ = some (.string b.f4[i].f1)⟩] (by kernel_rfl) (fun f hf => by
                simp only [List.mem_cons, List.not_mem_nil, or_false] at hf
                rcases hf with rfl | rfl | rfl | rfl | rfl
                · exact e4
                · exact c0
                · exact e2
                · exact e4
                · exact c1
                ) ?_
            refine At.take 0 (some 109) (u6) rfl rfl (by kernel_rfl) (by kernel_rfl) (by kernel_rfl) (by kernel_rfl) (fun _ _ _ h => h) (yl_pure (by kernel_rfl) (fun _ => by kernel_rfl)) ?_
            refine At.take 1 (some 110) (.pointer (some ⟨w.heap.size + 1, 4, none⟩)) rfl rfl (by kernel_rfl) (by kernel_rfl) (by kernel_rfl) (by kernel_rfl) (fun _ _ _ h => h) (yl_pure (by kernel_rfl) (fun _ => by kernel_rfl)) ?_
            refine At.take 2 (some 111) (.slice (some ⟨bb, ob, none⟩) b.f4.length cb) rfl rfl (by kernel_rfl) (by kernel_rfl) (by kernel_rfl) (by kernel_rfl) (fun _ _ _ h => h) (yl_load 19 ⟨w.heap.size + 1, 4, none⟩ (.slice (some ⟨bb, ob, none⟩) b.f4.length cb) (List.mem_cons_self) [4, 5, 6, 18, 19] (by kernel_rfl) rfl (by kernel_rfl) (fun _ => by kernel_rfl)) ?_
            refine At.take 3 (some 112) (.int .i64 (i : Int)) rfl rfl (by kernel_rfl) (by kernel_rfl) (by kernel_rfl) (by kernel_rfl) (fun _ _ _ h => h) (yl_pure (by kernel_rfl) (fun _ => by kernel_rfl)) ?_
            refine At.take 4 (some 113) (.pointer (some ⟨bb, ob + i * 2, none⟩)) rfl rfl (by kernel_rfl) (by kernel_rfl) (by kernel_rfl) (by kernel_rfl) (fun _ _ _ h => h) (yl_pure (by kernel_rfl) (fun w => by go_simp)) ?_
            refine At.take 5 (some 114) (.pointer (some ⟨bb, ob + i * 2, none⟩)) rfl rfl (by kernel_rfl) (by kernel_rfl) (by kernel_rfl) (by kernel_rfl) (fun _ _ _ h => h) (yl_pure (by kernel_rfl) (fun _ => by kernel_rfl)) ?_
            refine At.take 6 (some 115) (.int .i64 b.f4[i].f0) rfl rfl (by kernel_rfl) (by kernel_rfl) (by kernel_rfl) (by kernel_rfl) (fun _ _ _ h => h) (yl_load 19 ⟨bb, ob + i * 2, none⟩ (.int .i64 b.f4[i].f0) (List.mem_cons_of_mem _ (List.mem_cons_self)) [18, 19] (by kernel_rfl) rfl (by kernel_rfl) (fun _ => by kernel_rfl)) ?_
            refine At.take 7 (some 116) (.pointer (some ⟨w.heap.size + 1, 2, none⟩)) rfl rfl (by kernel_rfl) (by kernel_rfl) (by kernel_rfl) (by kernel_rfl) (fun _ _ _ h => h) (yl_pure (by kernel_rfl) (fun _ => by kernel_rfl)) ?_
            refine At.take 8 (some 117) (.int .i64 b.f2) rfl rfl (by kernel_rfl) (by kernel_rfl) (by kernel_rfl) (by kernel_rfl) (fun _ _ _ h => h) (yl_load 19 ⟨w.heap.size + 1, 2, none⟩ (.int .i64 b.f2) (List.mem_cons_of_mem _ (List.mem_cons_of_mem _ (List.mem_cons_self))) [9, 11, 18, 19] (by kernel_rfl) rfl (by kernel_rfl) (fun _ => by kernel_rfl)) ?_
            refine At.take 9 (some 118) (.int .i64 (b.f2 + 1)) rfl rfl (by kernel_rfl) (by kernel_rfl) (by kernel_rfl) (by kernel_rfl) (fun _ _ _ h => h) (yl_is (.int .i64 (IntKind.i64.wrap (b.f2 + 1))) (by rw [HWR.out.1]) (by kernel_rfl) (fun _ => by kernel_rfl)) ?_
            refine At.take 10 (some 119) (.int .i64 (i : Int)) rfl rfl (by kernel_rfl) (by kernel_rfl) (by kernel_rfl) (by kernel_rfl) (fun _ _ _ h => h) (yl_pure (by kernel_rfl) (fun _ => by kernel_rfl)) ?_
            refine At.take 11 (some 120) (.int .i64 (b.f2 + 1 + (i : Int))) rfl rfl (by kernel_rfl) (by kernel_rfl) (by kernel_rfl) (by kernel_rfl) (fun _ _ _ h => h) (yl_is (.int .i64 (IntKind.i64.wrap (b.f2 + 1 + (i : Int)))) (by rw [HWR.out.2]) (by kernel_rfl) (fun _ => by kernel_rfl)) ?_
            refine At.take 12 (some 121) (.pointer (some ⟨w.heap.size + 1, 4, none⟩)) rfl rfl (by kernel_rfl) (by kernel_rfl) (by kernel_rfl) (by kernel_rfl) (fun _ _ _ h => h) (yl_pure (by kernel_rfl) (fun _ => by kernel_rfl)) ?_
            refine At.take 13 (some 122) (.slice (some ⟨bb, ob, none⟩) b.f4.length cb) rfl rfl (by kernel_rfl) (by kernel_rfl) (by kernel_rfl) (by kernel_rfl) (fun _ _ _ h => h) (yl_load 19 ⟨w.heap.size + 1, 4, none⟩ (.slice (some ⟨bb, ob, none⟩) b.f4.length cb) (List.mem_cons_of_mem _ (List.mem_cons_of_mem _ (List.mem_cons_of_mem _ (List.mem_cons_self)))) [15, 16, 17, 18, 19] (by kernel_rfl) rfl (by kernel_rfl) (fun _ => by kernel_rfl)) ?_
            refine At.take 14 (some 123) (.int .i64 (i : Int)) rfl rfl (by kernel_rfl) (by kernel_rfl) (by kernel_rfl) (by kernel_rfl) (fun _ _ _ h => h) (yl_pure (by kernel_rfl) (fun _ => by kernel_rfl)) ?_
            refine At.take 15 (some 124) (.pointer (some ⟨bb, ob + i * 2, none⟩)) rfl rfl (by kernel_rfl) (by kernel_rfl) (by kernel_rfl) (by kernel_rfl) (fun _ _ _ h => h) (yl_pure (by kernel_rfl) (fun w => by go_simp)) ?_
            refine At.take 16 (some 125) (.pointer (some ⟨bb, ob + i * 2 + 1, none⟩)) rfl rfl (by kernel_rfl) (by kernel_rfl) (by kernel_rfl) (by kernel_rfl) (fun _ _ _ h => h) (yl_pure (by kernel_rfl) (fun _ => by kernel_rfl)) ?_
            refine At.take 17 (some 126) (.string b.f4[i].f1) rfl rfl (by kernel_rfl) (by kernel_rfl) (by kernel_rfl) (by kernel_rfl) (fun _ _ _ h => h) (yl_load 19 ⟨bb, ob + i * 2 + 1, none⟩ (.string b.f4[i].f1) (List.mem_cons_of_mem _ (List.mem_cons_of_mem _ (List.mem_cons_of_mem _ (List.mem_cons_of_mem _ (List.mem_cons_self))))) [18, 19] (by kernel_rfl) rfl (by kernel_rfl) (fun _ => by kernel_rfl)) ?_
            refine At.take 18 (some 127) (.agg #[.int .i64 2, .int .i64 b.f4[i].f0, .int .i64 (b.f2 + 1 + (i : Int)), .int .i64 0, .string b.f4[i].f1]) rfl rfl (by kernel_rfl) (by kernel_rfl) (by kernel_rfl) (by kernel_rfl) (fun _ _ _ h => h) (yl_pure (by kernel_rfl) (fun _ => by kernel_rfl)) ?_
            refine At.step 19 (some 128) rfl rfl (by kernel_rfl) (by kernel_rfl) (fun u W => u = .slice (some ⟨wr.drew.heap.size, 0, none⟩) 1 1 ∧ W = wr.drew.alloc (.cells #[.int .i64 2, .int .i64 b.f4[i].f0, .int .i64 (b.f2 + 1 + (i : Int)), .int .i64 0, .string b.f4[i].f1] 44)) (gives_run (by kernel_rfl)) ?_
            rintro u WB ⟨rfl, hWB⟩
            refine ⟨by subst hWB; exact held_cons (.inl (by kernel_rfl)) (held_cons (.inl (by kernel_rfl)) (held_cons (.inl (by kernel_rfl)) (held_cons (.inl (by kernel_rfl)) (held_cons (.inl (by kernel_rfl)) (held_nil))))), ?_⟩
            have HOB : Hid (WB.ownsRow (w.heap.size + 2) 44 5 u6 L.length (rRec L)) := by rw [hWB]; exact (show wr.drew.ownsRow _ _ _ _ _ _ from HO.out).alloc _
            have HBB : Hid (Below (w.heap.size + 2) W0 WB) := by rw [hWB]; exact (HBr.out.drew).alloc (by have := HBr.out.size; have := HZ0.out; show _ ≤ wr.heap.size; omega) _
            obtain ⟨v', WC, hrunC, hownC, hgrowC, _⟩ := run_append_own (P := Try.prog) WB (w.heap.size + 2) 38 38 44 iR (.agg #[.int .i64 0, .int .i64 0, .int .i64 0, .int .i64 0, .string ⟨#[]⟩]) 5 48 Try.underlying38 hiR hR0 hR1 hR2 rfl (by decide) u6 L.length _ HOB.out ⟨wr.drew.heap.size, 0, none⟩ 1 1 [.int .i64 2, .int .i64 b.f4[i].f0, .int .i64 (b.f2 + 1 + (i : Int)), .int .i64 0, .string b.f4[i].f1] rfl (by rw [hWB]; exact cells_newW wr.drew _ _) (by intro u hu; simp only [List.mem_cons, List.not_mem_nil, or_false] at hu; rcases hu with rfl | rfl | rfl | rfl | rfl <;> rfl) (by have := HLL.out; unfold maxLen; omega) (by have := HLL.out; omega) (by have := HBB.out.size; have := HZ0.out; omega)
            refine At.step 20 (some 129) rfl rfl (by kernel_rfl) (by kernel_rfl) (fun u W => u = v' ∧ W = WC) (gives_append (fun _ => by kernel_rfl) hrunC) ?_
            rintro u WC' ⟨rfl, hWC⟩
            subst hWC
            refine ⟨held_cons (.inl (by kernel_rfl)) (held_cons (.inl (by kernel_rfl)) (held_cons (.inl (by kernel_rfl)) (held_cons (.inl (by kernel_rfl)) (held_cons (.inl (by kernel_rfl)) (held_nil))))), ?_⟩
            refine At.take 21 (some 6) (u) rfl rfl (by kernel_rfl) (by kernel_rfl) (by kernel_rfl) (by kernel_rfl) (fun _ _ _ h => h) (yl_pure (by kernel_rfl) (fun _ => by kernel_rfl)) ?_
            refine At.done (by kernel_rfl) ?_
            simp only [Act.put, List.setIfInBounds_toArray, List.set_cons_zero, List.set_cons_succ]
            have HOE : Hid _ := own_snocRec (r := ⟨2, b.f4[i].f0, b.f2 + 1 + i, 0, b.f4[i].f1⟩) hownC
            have HBE : Hid (Below (w.heap.size + 2) W0 WC') := HBB.out.grown hgrowC (by have := HBB.out.size; have := HZ0.out; omega) (ownBlock_ge HOB.out)
            clear hownC hgrowC hrunC HOB HBB hWB d0 d1 d2 d3 d4 e0 e1 e2 e3 e4 c0 c1 HWR
            go_wp2
            go_roundw
            case rel => exact ⟨i + 1, by omega, by omega, by go_num, by rw [HSU.out]; exact HOE.out, HBE.out⟩
            case measure => simp [intOf]; omega
          · have hie : i = b.f4.length := by omega
            subst hie
            go_wp2
            go_ret2
            exact ⟨_, rfl, own_lowW HO.out (by omega), HBw.out⟩
  by_cases hm : a.f0 = b.f0
  · have m0 : (a.f0 != b.f0) = false := by simpa using hm
    have m1 : (a.f1 != b.f1) = true := by simpa using fun h => hs ⟨hm, h⟩
    clear hm
    have HC0 : Hid (ch0 a b = [hdRec b]) := by show _ = _; unfold ch0; rw [if_neg hs]
    have HFT : Hid (decide (fitH a b) = true) := decide_eq_true (HQF.out.resolve_left hs)
    obtain ⟨W3, hW3⟩ : ∃ W, W = w2.alloc (.cells #[.int .i64 1, .int .i64 b.f0, .int .i64 0, .int .i64 b.f1, .string ⟨#[]⟩] 44) := ⟨_, rfl⟩
    have HW3 : Hid (w2.alloc (.cells #[.int .i64 1, .int .i64 b.f0, .int .i64 0, .int .i64 b.f1, .string ⟨#[]⟩] 44) = W3) := hW3.symm
    have HN2 : Hid (w.heap.size + 3 ≤ w2.heap.size) := by show _ ≤ _; have := HQ2.out.size; have := HZ0.out; omega
    have HX3 : Hid (W3.heap[w2.heap.size]? = some (.cells #[.int .i64 1, .int .i64 b.f0, .int .i64 0, .int .i64 b.f1, .string ⟨#[]⟩] 44)) := by rw [hW3]; exact alloc_last _ _
    have HQ3 : Hid (Below (w.heap.size + 2) W0 W3) := by rw [hW3]; exact HQ2.out.alloc (by have := HN2.out; omega) _
    have HO3 : Hid (W3.ownsRow (w.heap.size + 2) 44 5 (.slice (some ⟨w.heap.size + 2, 0, none⟩) 0 0) 0 []) := by rw [hW3]; exact HO2.out.alloc _
    have hn2 : w.heap.size + 3 ≤ w2.heap.size := HN2.out
    have nx : w.heap.size ≠ w2.heap.size := by omega
    have lx : w.heap.size < w2.heap.size := by omega
    clear hs hW3
    go_wp2_with fail
    rw [HW3.out]
    refine (specFits_c a b pa ca W3 HNA.out HA2.out).mono ?_
    rintro e w4 ⟨rfl, b4⟩
    have HX4 : Hid (w4.heap[w2.heap.size]? = some (.cells #[.int .i64 1, .int .i64 b.f0, .int .i64 0, .int .i64 b.f1, .string ⟨#[]⟩] 44)) := (b4.block _ (lt_of_some HX3.out)).trans HX3.out
    have HQ4 : Hid (Below (w.heap.size + 2) W0 w4) := HQ3.out.trans (b4.mono (by have := HQ3.out.size; have := HZ0.out; omega))
    have HO4 : Hid (w4.ownsRow (w.heap.size + 2) 44 5 (.slice (some ⟨w.heap.size + 2, 0, none⟩) 0 0) 0 []) := own_bel HO3.out b4 (Nat.le_refl _)
    clear b4 nx lx m0 m1 n2 n3 d0 d1 d2 d3 d4 e0 e1 e2 e3 e4
    rw [HFT.out]
    obtain ⟨f0, f1, f2, f3, f4⟩ := box5 HX4.out
    have hN4 : w.heap.size + 2 ≤ w4.heap.size := by have := HQ4.out.size; have := HZ0.out; omega
    go_wp2_with (at_builtin; refine wpList_append_own _ rfl _ _ 38 rfl (w.heap.size + 2) 44 iR (.agg #[.int .i64 0, .int .i64 0, .int .i64 0, .int .i64 0, .string ⟨#[]⟩]) 5 48 Try.underlying38 hiR hR0 hR1 hR2 rfl (by decide) _ _ _ rfl (HO4.out.alloc _) ⟨w4.heap.size, 0, none⟩ 1 1 [.int .i64 1, .int .i64 b.f0, .int .i64 0, .int .i64 b.f1, .string ⟨#[]⟩] rfl rfl (cells_newW w4 _ _) (by intro u hu; simp only [List.mem_cons, List.not_mem_nil, or_false] at hu; rcases hu with rfl | rfl | rfl | rfl | rfl <;> rfl) (by decide) (by decide) (by simp; omega) ?_)
    intro u6 w5 hown5 hgr5 _
    have HO5 : Hid (w5.ownsRow (w.heap.size + 2) 44 5 u6 (ch0 a b).length (rRec (ch0 a b))) := by rw [HC0.out]; exact hown5
    have HQ5 : Hid (Below (w.heap.size + 2) W0 w5) := (HQ4.out.alloc (by omega) _).grown hgr5 (by simp; omega) (ownBlock_ge HO4.out)
    clear hown5 hgr5 f0 f1 f2 f3 f4 hn2 hN4 HX3 HX4 HO3 HO4 HW3
    go_wp2_with fail
    go_loopw [8] (fun iv wr => ∃ k : Nat, k ≤ al a.f4 b.f4 ∧ iv = .int .i64 (k : Int) ∧ Hid (wr.ownsRow (w.heap.size + 2) 44 5 u6 (ch0 a b).length (rRec (ch0 a b))) ∧ Hid (Below (w.heap.size + 2) W0 wr)) (fun iv _ => a.f4.length - (intOf iv).toNat)
    case atStart => exact ⟨0, Nat.zero_le _, rfl, HO5.out, HQ5.out⟩
    case round =>
      obtain ⟨k, hk, rfl, HO, HBr⟩ := hrel
      have hal := al_le a.f4 b.f4
      have HBw : Hid (Below w.heap.size w wr) := HB0.out.trans (HBr.out.mono (by omega))
      obtain ⟨⟨d0, d1, d2, d3, d4⟩, ⟨e0, e1, e2, e3, e4⟩⟩ := HX.out wr HBr.out
      by_cases h1 : k < a.f4.length
      rotate_left
      · have hA : decide ((k : Int) < (a.f4.length : Int)) = false := decide_eq_false (by omega)
        have HE : Hid (k = al a.f4 b.f4) := al_stop hk (fun h _ => absurd h h1)
        go_upto_region 10 with fail
        refine wp_region_told (fun W => W = wr.drew) (by kernel_rfl) (by kernel_rfl) rfl ?_
        refine told_pure (some 60) (.int .i64 (k : Int)) rfl (by kernel_rfl) (fun _ => by kernel_rfl) ?_
        refine told_pure (some 61) (.pointer (some ⟨w.heap.size, 4, none⟩)) rfl (by kernel_rfl) (fun _ => by kernel_rfl) ?_
        refine told_load (some 62) ⟨w.heap.size, 4, none⟩ (.slice pa a.f4.length ca) rfl (by kernel_rfl) (fun _ => by kernel_rfl) (fun _ hS => (by subst hS; exact d4)) ?_
        refine told_pure (some 63) (.int .i64 a.f4.length) rfl (by kernel_rfl) (fun _ => by kernel_rfl) ?_
        refine told_is (some 64) (.bool (decide ((k : Int) < (a.f4.length : Int)))) (.bool false) (by rw [hA]) rfl (by kernel_rfl) (fun _ => by kernel_rfl) ?_
        refine told_pure (some 65) (.bool false) rfl (by kernel_rfl) (fun _ => by kernel_rfl) ?_
        refine told_skip (some 66) rfl (by kernel_rfl) ?_
        refine told_skip (some 67) rfl (by kernel_rfl) ?_
        refine told_skip (some 68) rfl (by kernel_rfl) ?_
        refine told_skip (some 69) rfl (by kernel_rfl) ?_
        refine told_skip (some 70) rfl (by kernel_rfl) ?_
        refine told_pure (some 71) (.bool false) rfl (by kernel_rfl) (fun _ => by kernel_rfl) ?_
        refine told_pure (some 72) (.bool false) rfl (by kernel_rfl) (fun _ => by kernel_rfl) ?_
        refine told_skip (some 73) rfl (by kernel_rfl) ?_
        refine told_skip (some 74) rfl (by kernel_rfl) ?_
        refine told_skip (some 75) rfl (by kernel_rfl) ?_
        refine told_skip (some 76) rfl (by kernel_rfl) ?_
        refine told_skip (some 77) rfl (by kernel_rfl) ?_
        refine told_skip (some 78) rfl (by kernel_rfl) ?_
        refine told_skip (some 79) rfl (by kernel_rfl) ?_
        refine told_skip (some 80) rfl (by kernel_rfl) ?_
        refine told_skip (some 81) rfl (by kernel_rfl) ?_
        refine told_skip (some 82) rfl (by kernel_rfl) ?_
        refine told_skip (some 83) rfl (by kernel_rfl) ?_
        refine told_pure (some 84) (.bool false) rfl (by kernel_rfl) (fun _ => by kernel_rfl) ?_
        refine told_nil ?_
        intro w9 hS9
        subst hS9
        simp only [Act.put, List.setIfInBounds_toArray, List.set_cons_zero, List.set_cons_succ]
        have HC1 : Hid (ch1 a b = ch0 a b) := by show _ = _; unfold ch1; rw [if_neg (by rw [← HE.out]; omega), List.append_nil]
        have hnlt : ¬ (k : Int) < a.f4.length := by omega
        have HOC : Hid (wr.drew.ownsRow (w.heap.size + 2) 44 5 u6 (ch1 a b).length (rRec (ch1 a b))) := by rw [HC1.out]; exact HO.out
        have HQC : Hid (Below (w.heap.size + 2) W0 wr.drew) := HBr.out.drew
        have HKE : Hid (k = al a.f4 b.f4) := HE.out
        clear h1 hk hA hal HE HC1 HO
        go_wp2_with fail
        rw [HKE.out]
        clear hnlt d0 d1 d2 d3 d4 e0 e1 e2 e3 e4
        clear HKE
        go_loopw [6, 9] (fun ov iv wr => ∃ i : Nat, al a.f4 b.f4 ≤ i ∧ i ≤ b.f4.length ∧ iv = .int .i64 (i : Int) ∧ Hid (wr.ownsRow (w.heap.size + 2) 44 5 ov (chP a b (i - al a.f4 b.f4)).length (rRec (chP a b (i - al a.f4 b.f4)))) ∧ Hid (Below (w.heap.size + 2) W0 wr)) (fun _ iv _ => b.f4.length - (intOf iv).toNat)
        case atStart => exact ⟨al a.f4 b.f4, Nat.le_refl _, (al_le _ _).2, rfl, by rw [Nat.sub_self, chP_zero]; exact HOC.out, HQC.out⟩
        case round =>
          obtain ⟨i, hai, hi, rfl, HO, HBr⟩ := hrel
          have HBw : Hid (Below w.heap.size w wr) := HB0.out.trans (HBr.out.mono (by omega))
          obtain ⟨⟨d0, d1, d2, d3, d4⟩, ⟨e0, e1, e2, e3, e4⟩⟩ := HX.out wr HBr.out
          have HLL : Hid ((chP a b (i - al a.f4 b.f4)).length ≤ 1048600) := by show _ ≤ _; have := chP_len a b (i - al a.f4 b.f4); omega
          by_cases hlt : i < b.f4.length
          · have hlt' : (i : Int) < b.f4.length := by omega
            have HSU : Hid (chP a b (i + 1 - al a.f4 b.f4) = chP a b (i - al a.f4 b.f4) ++ [⟨2, b.f4[i].f0, b.f2 + 1 + i, 0, b.f4[i].f1⟩]) := by
              show _ = _
              rw [show i + 1 - al a.f4 b.f4 = (i - al a.f4 b.f4) + 1 by omega, chP_succ, show al a.f4 b.f4 + (i - al a.f4 b.f4) = i by omega, en_at hlt]
            generalize chP a b (i - al a.f4 b.f4) = L at HO HLL HSU
            obtain ⟨bb, ob, cb', hv, hbb, hcb⟩ := HRB.out.some (by omega) (by decide)
            simp only [Value.slice.injEq, true_and] at hv
            first
              | (obtain ⟨rfl, rfl⟩ := hv)
              | (simp only [Option.some.injEq, Addr.mk.injEq, and_true] at hv; obtain ⟨⟨e1, e2⟩, rfl⟩ := hv; replace e1 := e1.symm; replace e2 := e2.symm; subst e1; subst e2)
            have c0 : wr.cell? ⟨bb, ob + i * 2, none⟩ = some (.int .i64 (b.f4[i]).f0) := by rw [HBw.out.cell (by exact hbb), hcb (i * 2) (by omega)]; exact flat_at cEntry 2 cEntry_len b.f4 i 0 hlt (by decide)
            have c1 : wr.cell? ⟨bb, ob + i * 2 + 1, none⟩ = some (.string (b.f4[i]).f1) := by rw [HBw.out.cell (by exact hbb), Nat.add_assoc, hcb (i * 2 + 1) (by omega)]; exact flat_at cEntry 2 cEntry_len b.f4 i 1 hlt (by decide)
            have HWR : Hid (IntKind.i64.wrap (b.f2 + 1) = b.f2 + 1 ∧ IntKind.i64.wrap (b.f2 + 1 + (i : Int)) = b.f2 + 1 + (i : Int)) := ⟨IntWalk.i64_in _ (by have := HB2.out; omega), IntWalk.i64_in _ (by have := HB2.out; omega)⟩
            clear hcb
            go_upto_region 17 with fail
            refine wp_region_L [⟨19, fun W => W.cell? ⟨w.heap.size + 1, 4, none⟩ = some (.slice (some ⟨bb, ob, none⟩) b.f4.length cb)⟩, ⟨19, fun W => W.cell? ⟨bb, ob + i * 2, none⟩ = some (.int .i64 b.f4[i].f0)⟩, ⟨19, fun W => W.cell? ⟨w.heap.size + 1, 2, none⟩ = some (.int .i64 b.f2)⟩, ⟨19, fun W => W.cell? ⟨w.heap.size + 1, 4, none⟩ = some (.slice (some ⟨bb, ob, none⟩) b.f4.length cb)⟩, ⟨19, fun W => W.cell? ⟨bb, ob + i * 2 + 1, none⟩ = some (.string b.f4[i].f1)⟩] (by kernel_rfl) (fun f hf => by
                simp only [List.mem_cons, List.not_mem_nil, or_false] at hf
                rcases hf with rfl | rfl | rfl | rfl | rfl
                · exact e4
                · exact c0
                · exact e2
                · exact e4
                · exact c1
                ) ?_
            refine At.take 0 (some 109) (u6) rfl rfl (by kernel_rfl) (by kernel_rfl) (by kernel_rfl) (by kernel_rfl) (fun _ _ _ h => h) (yl_pure (by kernel_rfl) (fun _ => by kernel_rfl)) ?_
            refine At.take 1 (some 110) (.pointer (some ⟨w.heap.size + 1, 4, none⟩)) rfl rfl (by kernel_rfl) (by kernel_rfl) (by kernel_rfl) (by kernel_rfl) (fun _ _ _ h => h) (yl_pure (by kernel_rfl) (fun _ => by kernel_rfl)) ?_
            refine At.take 2 (some 111) (.slice (some ⟨bb, ob, none⟩) b.f4.length cb) rfl rfl (by kernel_rfl) (by kernel_rfl) (by kernel_rfl) (by kernel_rfl) (fun _ _ _ h => h) (yl_load 19 ⟨w.heap.size + 1, 4, none⟩ (.slice (some ⟨bb, ob, none⟩) b.f4.length cb) (List.mem_cons_self) [4, 5, 6, 18, 19] (by kernel_rfl) rfl (by kernel_rfl) (fun _ => by kernel_rfl)) ?_
            refine At.take 3 (some 112) (.int .i64 (i : Int)) rfl rfl (by kernel_rfl) (by kernel_rfl) (by kernel_rfl) (by kernel_rfl) (fun _ _ _ h => h) (yl_pure (by kernel_rfl) (fun _ => by kernel_rfl)) ?_
            refine At.take 4 (some 113) (.pointer (some ⟨bb, ob + i * 2, none⟩)) rfl rfl (by kernel_rfl) (by kernel_rfl) (by kernel_rfl) (by kernel_rfl) (fun _ _ _ h => h) (yl_pure (by kernel_rfl) (fun w => by go_simp)) ?_
            refine At.take 5 (some 114) (.pointer (some ⟨bb, ob + i * 2, none⟩)) rfl rfl (by kernel_rfl) (by kernel_rfl) (by kernel_rfl) (by kernel_rfl) (fun _ _ _ h => h) (yl_pure (by kernel_rfl) (fun _ => by kernel_rfl)) ?_
            refine At.take 6 (some 115) (.int .i64 b.f4[i].f0) rfl rfl (by kernel_rfl) (by kernel_rfl) (by kernel_rfl) (by kernel_rfl) (fun _ _ _ h => h) (yl_load 19 ⟨bb, ob + i * 2, none⟩ (.int .i64 b.f4[i].f0) (List.mem_cons_of_mem _ (List.mem_cons_self)) [18, 19] (by kernel_rfl) rfl (by kernel_rfl) (fun _ => by kernel_rfl)) ?_
            refine At.take 7 (some 116) (.pointer (some ⟨w.heap.size + 1, 2, none⟩)) rfl rfl (by kernel_rfl) (by kernel_rfl) (by kernel_rfl) (by kernel_rfl) (fun _ _ _ h => h) (yl_pure (by kernel_rfl) (fun _ => by kernel_rfl)) ?_
            refine At.take 8 (some 117) (.int .i64 b.f2) rfl rfl (by kernel_rfl) (by kernel_rfl) (by kernel_rfl) (by kernel_rfl) (fun _ _ _ h => h) (yl_load 19 ⟨w.heap.size + 1, 2, none⟩ (.int .i64 b.f2) (List.mem_cons_of_mem _ (List.mem_cons_of_mem _ (List.mem_cons_self))) [9, 11, 18, 19] (by kernel_rfl) rfl (by kernel_rfl) (fun _ => by kernel_rfl)) ?_
            refine At.take 9 (some 118) (.int .i64 (b.f2 + 1)) rfl rfl (by kernel_rfl) (by kernel_rfl) (by kernel_rfl) (by kernel_rfl) (fun _ _ _ h => h) (yl_is (.int .i64 (IntKind.i64.wrap (b.f2 + 1))) (by rw [HWR.out.1]) (by kernel_rfl) (fun _ => by kernel_rfl)) ?_
            refine At.take 10 (some 119) (.int .i64 (i : Int)) rfl rfl (by kernel_rfl) (by kernel_rfl) (by kernel_rfl) (by kernel_rfl) (fun _ _ _ h => h) (yl_pure (by kernel_rfl) (fun _ => by kernel_rfl)) ?_
            refine At.take 11 (some 120) (.int .i64 (b.f2 + 1 + (i : Int))) rfl rfl (by kernel_rfl) (by kernel_rfl) (by kernel_rfl) (by kernel_rfl) (fun _ _ _ h => h) (yl_is (.int .i64 (IntKind.i64.wrap (b.f2 + 1 + (i : Int)))) (by rw [HWR.out.2]) (by kernel_rfl) (fun _ => by kernel_rfl)) ?_
            refine At.take 12 (some 121) (.pointer (some ⟨w.heap.size + 1, 4, none⟩)) rfl rfl (by kernel_rfl) (by kernel_rfl) (by kernel_rfl) (by kernel_rfl) (fun _ _ _ h => h) (yl_pure (by kernel_rfl) (fun _ => by kernel_rfl)) ?_
            refine At.take 13 (some 122) (.slice (some ⟨bb, ob, none⟩) b.f4.length cb) rfl rfl (by kernel_rfl) (by kernel_rfl) (by kernel_rfl) (by kernel_rfl) (fun _ _ _ h => h) (yl_load 19 ⟨w.heap.size + 1, 4, none⟩ (.slice (some ⟨bb, ob, none⟩) b.f4.length cb) (List.mem_cons_of_mem _ (List.mem_cons_of_mem _ (List.mem_cons_of_mem _ (List.mem_cons_self)))) [15, 16, 17, 18, 19] (by kernel_rfl) rfl (by kernel_rfl) (fun _ => by kernel_rfl)) ?_
            refine At.take 14 (some 123) (.int .i64 (i : Int)) rfl rfl (by kernel_rfl) (by kernel_rfl) (by kernel_rfl) (by kernel_rfl) (fun _ _ _ h => h) (yl_pure (by kernel_rfl) (fun _ => by kernel_rfl)) ?_
            refine At.take 15 (some 124) (.pointer (some ⟨bb, ob + i * 2, none⟩)) rfl rfl (by kernel_rfl) (by kernel_rfl) (by kernel_rfl) (by kernel_rfl) (fun _ _ _ h => h) (yl_pure (by kernel_rfl) (fun w => by go_simp)) ?_
            refine At.take 16 (some 125) (.pointer (some ⟨bb, ob + i * 2 + 1, none⟩)) rfl rfl (by kernel_rfl) (by kernel_rfl) (by kernel_rfl) (by kernel_rfl) (fun _ _ _ h => h) (yl_pure (by kernel_rfl) (fun _ => by kernel_rfl)) ?_
            refine At.take 17 (some 126) (.string b.f4[i].f1) rfl rfl (by kernel_rfl) (by kernel_rfl) (by kernel_rfl) (by kernel_rfl) (fun _ _ _ h => h) (yl_load 19 ⟨bb, ob + i * 2 + 1, none⟩ (.string b.f4[i].f1) (List.mem_cons_of_mem _ (List.mem_cons_of_mem _ (List.mem_cons_of_mem _ (List.mem_cons_of_mem _ (List.mem_cons_self))))) [18, 19] (by kernel_rfl) rfl (by kernel_rfl) (fun _ => by kernel_rfl)) ?_
            refine At.take 18 (some 127) (.agg #[.int .i64 2, .int .i64 b.f4[i].f0, .int .i64 (b.f2 + 1 + (i : Int)), .int .i64 0, .string b.f4[i].f1]) rfl rfl (by kernel_rfl) (by kernel_rfl) (by kernel_rfl) (by kernel_rfl) (fun _ _ _ h => h) (yl_pure (by kernel_rfl) (fun _ => by kernel_rfl)) ?_
            refine At.step 19 (some 128) rfl rfl (by kernel_rfl) (by kernel_rfl) (fun u W => u = .slice (some ⟨wr.drew.heap.size, 0, none⟩) 1 1 ∧ W = wr.drew.alloc (.cells #[.int .i64 2, .int .i64 b.f4[i].f0, .int .i64 (b.f2 + 1 + (i : Int)), .int .i64 0, .string b.f4[i].f1] 44)) (gives_run (by kernel_rfl)) ?_
            rintro u WB ⟨rfl, hWB⟩
            refine ⟨by subst hWB; exact held_cons (.inl (by kernel_rfl)) (held_cons (.inl (by kernel_rfl)) (held_cons (.inl (by kernel_rfl)) (held_cons (.inl (by kernel_rfl)) (held_cons (.inl (by kernel_rfl)) (held_nil))))), ?_⟩
            have HOB : Hid (WB.ownsRow (w.heap.size + 2) 44 5 u6 L.length (rRec L)) := by rw [hWB]; exact (show wr.drew.ownsRow _ _ _ _ _ _ from HO.out).alloc _
            have HBB : Hid (Below (w.heap.size + 2) W0 WB) := by rw [hWB]; exact (HBr.out.drew).alloc (by have := HBr.out.size; have := HZ0.out; show _ ≤ wr.heap.size; omega) _
            obtain ⟨v', WC, hrunC, hownC, hgrowC, _⟩ := run_append_own (P := Try.prog) WB (w.heap.size + 2) 38 38 44 iR (.agg #[.int .i64 0, .int .i64 0, .int .i64 0, .int .i64 0, .string ⟨#[]⟩]) 5 48 Try.underlying38 hiR hR0 hR1 hR2 rfl (by decide) u6 L.length _ HOB.out ⟨wr.drew.heap.size, 0, none⟩ 1 1 [.int .i64 2, .int .i64 b.f4[i].f0, .int .i64 (b.f2 + 1 + (i : Int)), .int .i64 0, .string b.f4[i].f1] rfl (by rw [hWB]; exact cells_newW wr.drew _ _) (by intro u hu; simp only [List.mem_cons, List.not_mem_nil, or_false] at hu; rcases hu with rfl | rfl | rfl | rfl | rfl <;> rfl) (by have := HLL.out; unfold maxLen; omega) (by have := HLL.out; omega) (by have := HBB.out.size; have := HZ0.out; omega)
            refine At.step 20 (some 129) rfl rfl (by kernel_rfl) (by kernel_rfl) (fun u W => u = v' ∧ W = WC) (gives_append (fun _ => by kernel_rfl) hrunC) ?_
            rintro u WC' ⟨rfl, hWC⟩
            subst hWC
            refine ⟨held_cons (.inl (by kernel_rfl)) (held_cons (.inl (by kernel_rfl)) (held_cons (.inl (by kernel_rfl)) (held_cons (.inl (by kernel_rfl)) (held_cons (.inl (by kernel_rfl)) (held_nil))))), ?_⟩
            refine At.take 21 (some 6) (u) rfl rfl (by kernel_rfl) (by kernel_rfl) (by kernel_rfl) (by kernel_rfl) (fun _ _ _ h => h) (yl_pure (by kernel_rfl) (fun _ => by kernel_rfl)) ?_
            refine At.done (by kernel_rfl) ?_
            simp only [Act.put, List.setIfInBounds_toArray, List.set_cons_zero, List.set_cons_succ]
            have HOE : Hid _ := own_snocRec (r := ⟨2, b.f4[i].f0, b.f2 + 1 + i, 0, b.f4[i].f1⟩) hownC
            have HBE : Hid (Below (w.heap.size + 2) W0 WC') := HBB.out.grown hgrowC (by have := HBB.out.size; have := HZ0.out; omega) (ownBlock_ge HOB.out)
            clear hownC hgrowC hrunC HOB HBB hWB d0 d1 d2 d3 d4 e0 e1 e2 e3 e4 c0 c1 HWR
            go_wp2
            go_roundw
            case rel => exact ⟨i + 1, by omega, by omega, by go_num, by rw [HSU.out]; exact HOE.out, HBE.out⟩
            case measure => simp [intOf]; omega
          · have hie : i = b.f4.length := by omega
            subst hie
            go_wp2
            go_ret2
            exact ⟨_, rfl, own_lowW HO.out (by omega), HBw.out⟩
      have hA : decide ((k : Int) < (a.f4.length : Int)) = true := decide_eq_true (by omega)
      by_cases h2 : k < b.f4.length
      rotate_left
      · have hB : decide ((k : Int) < (b.f4.length : Int)) = false := decide_eq_false (by omega)
        have HE : Hid (k = al a.f4 b.f4) := al_stop hk (fun _ h => absurd h h2)
        go_upto_region 10 with fail
        refine wp_region_told (fun W => W = wr.drew) (by kernel_rfl) (by kernel_rfl) rfl ?_
        refine told_pure (some 60) (.int .i64 (k : Int)) rfl (by kernel_rfl) (fun _ => by kernel_rfl) ?_
        refine told_pure (some 61) (.pointer (some ⟨w.heap.size, 4, none⟩)) rfl (by kernel_rfl) (fun _ => by kernel_rfl) ?_
        refine told_load (some 62) ⟨w.heap.size, 4, none⟩ (.slice pa a.f4.length ca) rfl (by kernel_rfl) (fun _ => by kernel_rfl) (fun _ hS => (by subst hS; exact d4)) ?_
        refine told_pure (some 63) (.int .i64 a.f4.length) rfl (by kernel_rfl) (fun _ => by kernel_rfl) ?_
        refine told_is (some 64) (.bool (decide ((k : Int) < (a.f4.length : Int)))) (.bool true) (by rw [hA]) rfl (by kernel_rfl) (fun _ => by kernel_rfl) ?_
        refine told_pure (some 65) (.bool true) rfl (by kernel_rfl) (fun _ => by kernel_rfl) ?_
        refine told_pure (some 66) (.int .i64 (k : Int)) rfl (by kernel_rfl) (fun _ => by kernel_rfl) ?_
        refine told_pure (some 67) (.pointer (some ⟨w.heap.size + 1, 4, none⟩)) rfl (by kernel_rfl) (fun _ => by kernel_rfl) ?_
        refine told_load (some 68) ⟨w.heap.size + 1, 4, none⟩ (.slice pb b.f4.length cb) rfl (by kernel_rfl) (fun _ => by kernel_rfl) (fun _ hS => (by subst hS; exact e4)) ?_
        refine told_pure (some 69) (.int .i64 b.f4.length) rfl (by kernel_rfl) (fun _ => by kernel_rfl) ?_
        refine told_is (some 70) (.bool (decide ((k : Int) < (b.f4.length : Int)))) (.bool false) (by rw [hB]) rfl (by kernel_rfl) (fun _ => by kernel_rfl) ?_
        refine told_pure (some 71) (.bool false) rfl (by kernel_rfl) (fun _ => by kernel_rfl) ?_
        refine told_pure (some 72) (.bool false) rfl (by kernel_rfl) (fun _ => by kernel_rfl) ?_
        refine told_skip (some 73) rfl (by kernel_rfl) ?_
        refine told_skip (some 74) rfl (by kernel_rfl) ?_
        refine told_skip (some 75) rfl (by kernel_rfl) ?_
        refine told_skip (some 76) rfl (by kernel_rfl) ?_
        refine told_skip (some 77) rfl (by kernel_rfl) ?_
        refine told_skip (some 78) rfl (by kernel_rfl) ?_
        refine told_skip (some 79) rfl (by kernel_rfl) ?_
        refine told_skip (some 80) rfl (by kernel_rfl) ?_
        refine told_skip (some 81) rfl (by kernel_rfl) ?_
        refine told_skip (some 82) rfl (by kernel_rfl) ?_
        refine told_skip (some 83) rfl (by kernel_rfl) ?_
        refine told_pure (some 84) (.bool false) rfl (by kernel_rfl) (fun _ => by kernel_rfl) ?_
        refine told_nil ?_
        intro w9 hS9
        subst hS9
        simp only [Act.put, List.setIfInBounds_toArray, List.set_cons_zero, List.set_cons_succ]
        have HC1 : Hid (ch1 a b = ch0 a b ++ [ctR a k]) := by show _ = _; unfold ch1; rw [if_pos (by rw [← HE.out]; exact h1), ← HE.out]
        have hlt : (k : Int) < a.f4.length := by omega
        have HKE : Hid (k = al a.f4 b.f4) := HE.out
        have HO' : Hid (wr.drew.ownsRow (w.heap.size + 2) 44 5 u6 (ch0 a b).length (rRec (ch0 a b))) := HO.out
        have HQ' : Hid (Below (w.heap.size + 2) W0 wr.drew) := HBr.out.drew
        have hB2 := HA2.out
        have hN' : w.heap.size + 2 ≤ wr.drew.heap.size := by have := HQ'.out.size; have := HZ0.out; omega
        have hN2 : w.heap.size + 2 ≤ wr.heap.size := hN'
        have hL0 := ch0_len a b
        have wr1 : IntKind.i64.wrap (a.f2 + (k : Int)) = a.f2 + (k : Int) := IntWalk.i64_in _ (by omega)
        have wr2 : IntKind.i64.wrap (a.f2 + (k : Int) + 1) = a.f2 + (k : Int) + 1 := IntWalk.i64_in _ (by omega)
        clear h1 hk hA hB hal HE h2
        obtain ⟨iR, hiR, hR0, hR1, hR2⟩ := info_parts infoRec
        go_wp2_with (at_builtin; refine wpList_append_own _ rfl _ _ 38 rfl (w.heap.size + 2) 44 iR (.agg #[.int .i64 0, .int .i64 0, .int .i64 0, .int .i64 0, .string ⟨#[]⟩]) 5 48 Try.underlying38 hiR hR0 hR1 hR2 rfl (by decide) _ _ _ rfl (HO'.out.alloc _) ⟨wr.drew.heap.size, 0, none⟩ 1 1 [.int .i64 3, .int .i64 0, .int .i64 (a.f2 + (k : Int) + 1), .int .i64 0, .string ⟨#[]⟩] rfl rfl (cells_newW wr.drew _ _) (by intro u hu; simp only [List.mem_cons, List.not_mem_nil, or_false] at hu; rcases hu with rfl | rfl | rfl | rfl | rfl <;> rfl) (by unfold maxLen; omega) (by omega) (by simp; omega) ?_)
        intro v6 w6 hown6 hgr6 _
        have HOC : Hid (w6.ownsRow (w.heap.size + 2) 44 5 v6 (ch1 a b).length (rRec (ch1 a b))) := by rw [HC1.out]; exact own_snocRec (r := ctR a k) hown6
        have HQC : Hid (Below (w.heap.size + 2) W0 w6) := (HQ'.out.alloc (by omega) _).grown hgr6 (by simp; omega) (ownBlock_ge HO'.out)
        clear hown6 hgr6 hlt hB2 hN' hN2 hL0 wr1 wr2 HO' HQ' HC1
        clear d0 d1 d2 d3 d4 e0 e1 e2 e3 e4
        go_wp2_with fail
        rw [HKE.out]
        clear HKE
        go_loopw [6, 9] (fun ov iv wr => ∃ i : Nat, al a.f4 b.f4 ≤ i ∧ i ≤ b.f4.length ∧ iv = .int .i64 (i : Int) ∧ Hid (wr.ownsRow (w.heap.size + 2) 44 5 ov (chP a b (i - al a.f4 b.f4)).length (rRec (chP a b (i - al a.f4 b.f4)))) ∧ Hid (Below (w.heap.size + 2) W0 wr)) (fun _ iv _ => b.f4.length - (intOf iv).toNat)
        case atStart => exact ⟨al a.f4 b.f4, Nat.le_refl _, (al_le _ _).2, rfl, by rw [Nat.sub_self, chP_zero]; exact HOC.out, HQC.out⟩
        case round =>
          obtain ⟨i, hai, hi, rfl, HO, HBr⟩ := hrel
          have HBw : Hid (Below w.heap.size w wr) := HB0.out.trans (HBr.out.mono (by omega))
          obtain ⟨⟨d0, d1, d2, d3, d4⟩, ⟨e0, e1, e2, e3, e4⟩⟩ := HX.out wr HBr.out
          have HLL : Hid ((chP a b (i - al a.f4 b.f4)).length ≤ 1048600) := by show _ ≤ _; have := chP_len a b (i - al a.f4 b.f4); omega
          by_cases hlt : i < b.f4.length
          · have hlt' : (i : Int) < b.f4.length := by omega
            have HSU : Hid (chP a b (i + 1 - al a.f4 b.f4) = chP a b (i - al a.f4 b.f4) ++ [⟨2, b.f4[i].f0, b.f2 + 1 + i, 0, b.f4[i].f1⟩]) := by
              show _ = _
              rw [show i + 1 - al a.f4 b.f4 = (i - al a.f4 b.f4) + 1 by omega, chP_succ, show al a.f4 b.f4 + (i - al a.f4 b.f4) = i by omega, en_at hlt]
            generalize chP a b (i - al a.f4 b.f4) = L at HO HLL HSU
            obtain ⟨bb, ob, cb', hv, hbb, hcb⟩ := HRB.out.some (by omega) (by decide)
            simp only [Value.slice.injEq, true_and] at hv
            first
              | (obtain ⟨rfl, rfl⟩ := hv)
              | (simp only [Option.some.injEq, Addr.mk.injEq, and_true] at hv; obtain ⟨⟨e1, e2⟩, rfl⟩ := hv; replace e1 := e1.symm; replace e2 := e2.symm; subst e1; subst e2)
            have c0 : wr.cell? ⟨bb, ob + i * 2, none⟩ = some (.int .i64 (b.f4[i]).f0) := by rw [HBw.out.cell (by exact hbb), hcb (i * 2) (by omega)]; exact flat_at cEntry 2 cEntry_len b.f4 i 0 hlt (by decide)
            have c1 : wr.cell? ⟨bb, ob + i * 2 + 1, none⟩ = some (.string (b.f4[i]).f1) := by rw [HBw.out.cell (by exact hbb), Nat.add_assoc, hcb (i * 2 + 1) (by omega)]; exact flat_at cEntry 2 cEntry_len b.f4 i 1 hlt (by decide)
            have HWR : Hid (IntKind.i64.wrap (b.f2 + 1) = b.f2 + 1 ∧ IntKind.i64.wrap (b.f2 + 1 + (i : Int)) = b.f2 + 1 + (i : Int)) := ⟨IntWalk.i64_in _ (by have := HB2.out; omega), IntWalk.i64_in _ (by have := HB2.out; omega)⟩
            clear hcb
            go_upto_region 17 with fail
            refine wp_region_L [⟨19, fun W => W.cell? ⟨w.heap.size + 1, 4, none⟩ = some (.slice (some ⟨bb, ob, none⟩) b.f4.length cb)⟩, ⟨19, fun W => W.cell? ⟨bb, ob + i * 2, none⟩ = some (.int .i64 b.f4[i].f0)⟩, ⟨19, fun W => W.cell? ⟨w.heap.size + 1, 2, none⟩ = some (.int .i64 b.f2)⟩, ⟨19, fun W => W.cell? ⟨w.heap.size + 1, 4, none⟩ = some (.slice (some ⟨bb, ob, none⟩) b.f4.length cb)⟩, ⟨19, fun W => W.cell? ⟨bb, ob + i * 2 + 1, none⟩ = some (.string b.f4[i].f1)⟩] (by kernel_rfl) (fun f hf => by
                simp only [List.mem_cons, List.not_mem_nil, or_false] at hf
                rcases hf with rfl | rfl | rfl | rfl | rfl
                · exact e4
                · exact c0
                · exact e2
                · exact e4
                · exact c1
                ) ?_
            refine At.take 0 (some 109) (u6) rfl rfl (by kernel_rfl) (by kernel_rfl) (by kernel_rfl) (by kernel_rfl) (fun _ _ _ h => h) (yl_pure (by kernel_rfl) (fun _ => by kernel_rfl)) ?_
            refine At.take 1 (some 110) (.pointer (some ⟨w.heap.size + 1, 4, none⟩)) rfl rfl (by kernel_rfl) (by kernel_rfl) (by kernel_rfl) (by kernel_rfl) (fun _ _ _ h => h) (yl_pure (by kernel_rfl) (fun _ => by kernel_rfl)) ?_
            refine At.take 2 (some 111) (.slice (some ⟨bb, ob, none⟩) b.f4.length cb) rfl rfl (by kernel_rfl) (by kernel_rfl) (by kernel_rfl) (by kernel_rfl) (fun _ _ _ h => h) (yl_load 19 ⟨w.heap.size + 1, 4, none⟩ (.slice (some ⟨bb, ob, none⟩) b.f4.length cb) (List.mem_cons_self) [4, 5, 6, 18, 19] (by kernel_rfl) rfl (by kernel_rfl) (fun _ => by kernel_rfl)) ?_
            refine At.take 3 (some 112) (.int .i64 (i : Int)) rfl rfl (by kernel_rfl) (by kernel_rfl) (by kernel_rfl) (by kernel_rfl) (fun _ _ _ h => h) (yl_pure (by kernel_rfl) (fun _ => by kernel_rfl)) ?_
            refine At.take 4 (some 113) (.pointer (some ⟨bb, ob + i * 2, none⟩)) rfl rfl (by kernel_rfl) (by kernel_rfl) (by kernel_rfl) (by kernel_rfl) (fun _ _ _ h => h) (yl_pure (by kernel_rfl) (fun w => by go_simp)) ?_
            refine At.take 5 (some 114) (.pointer (some ⟨bb, ob + i * 2, none⟩)) rfl rfl (by kernel_rfl) (by kernel_rfl) (by kernel_rfl) (by kernel_rfl) (fun _ _ _ h => h) (yl_pure (by kernel_rfl) (fun _ => by kernel_rfl)) ?_
            refine At.take 6 (some 115) (.int .i64 b.f4[i].f0) rfl rfl (by kernel_rfl) (by kernel_rfl) (by kernel_rfl) (by kernel_rfl) (fun _ _ _ h => h) (yl_load 19 ⟨bb, ob + i * 2, none⟩ (.int .i64 b.f4[i].f0) (List.mem_cons_of_mem _ (List.mem_cons_self)) [18, 19] (by kernel_rfl) rfl (by kernel_rfl) (fun _ => by kernel_rfl)) ?_
            refine At.take 7 (some 116) (.pointer (some ⟨w.heap.size + 1, 2, none⟩)) rfl rfl (by kernel_rfl) (by kernel_rfl) (by kernel_rfl) (by kernel_rfl) (fun _ _ _ h => h) (yl_pure (by kernel_rfl) (fun _ => by kernel_rfl)) ?_
            refine At.take 8 (some 117) (.int .i64 b.f2) rfl rfl (by kernel_rfl) (by kernel_rfl) (by kernel_rfl) (by kernel_rfl) (fun _ _ _ h => h) (yl_load 19 ⟨w.heap.size + 1, 2, none⟩ (.int .i64 b.f2) (List.mem_cons_of_mem _ (List.mem_cons_of_mem _ (List.mem_cons_self))) [9, 11, 18, 19] (by kernel_rfl) rfl (by kernel_rfl) (fun _ => by kernel_rfl)) ?_
            refine At.take 9 (some 118) (.int .i64 (b.f2 + 1)) rfl rfl (by kernel_rfl) (by kernel_rfl) (by kernel_rfl) (by kernel_rfl) (fun _ _ _ h => h) (yl_is (.int .i64 (IntKind.i64.wrap (b.f2 + 1))) (by rw [HWR.out.1]) (by kernel_rfl) (fun _ => by kernel_rfl)) ?_
            refine At.take 10 (some 119) (.int .i64 (i : Int)) rfl rfl (by kernel_rfl) (by kernel_rfl) (by kernel_rfl) (by kernel_rfl) (fun _ _ _ h => h) (yl_pure (by kernel_rfl) (fun _ => by kernel_rfl)) ?_
            refine At.take 11 (some 120) (.int .i64 (b.f2 + 1 + (i : Int))) rfl rfl (by kernel_rfl) (by kernel_rfl) (by kernel_rfl) (by kernel_rfl) (fun _ _ _ h => h) (yl_is (.int .i64 (IntKind.i64.wrap (b.f2 + 1 + (i : Int)))) (by rw [HWR.out.2]) (by kernel_rfl) (fun _ => by kernel_rfl)) ?_
            refine At.take 12 (some 121) (.pointer (some ⟨w.heap.size + 1, 4, none⟩)) rfl rfl (by kernel_rfl) (by kernel_rfl) (by kernel_rfl) (by kernel_rfl) (fun _ _ _ h => h) (yl_pure (by kernel_rfl) (fun _ => by kernel_rfl)) ?_
            refine At.take 13 (some 122) (.slice (some ⟨bb, ob, none⟩) b.f4.length cb) rfl rfl (by kernel_rfl) (by kernel_rfl) (by kernel_rfl) (by kernel_rfl) (fun _ _ _ h => h) (yl_load 19 ⟨w.heap.size + 1, 4, none⟩ (.slice (some ⟨bb, ob, none⟩) b.f4.length cb) (List.mem_cons_of_mem _ (List.mem_cons_of_mem _ (List.mem_cons_of_mem _ (List.mem_cons_self)))) [15, 16, 17, 18, 19] (by kernel_rfl) rfl (by kernel_rfl) (fun _ => by kernel_rfl)) ?_
            refine At.take 14 (some 123) (.int .i64 (i : Int)) rfl rfl (by kernel_rfl) (by kernel_rfl) (by kernel_rfl) (by kernel_rfl) (fun _ _ _ h => h) (yl_pure (by kernel_rfl) (fun _ => by kernel_rfl)) ?_
            refine At.take 15 (some 124) (.pointer (some ⟨bb, ob + i * 2, none⟩)) rfl rfl (by kernel_rfl) (by kernel_rfl) (by kernel_rfl) (by kernel_rfl) (fun _ _ _ h => h) (yl_pure (by kernel_rfl) (fun w => by go_simp)) ?_
            refine At.take 16 (some 125) (.pointer (some ⟨bb, ob + i * 2 + 1, none⟩)) rfl rfl (by kernel_rfl) (by kernel_rfl) (by kernel_rfl) (by kernel_rfl) (fun _ _ _ h => h) (yl_pure (by kernel_rfl) (fun _ => by kernel_rfl)) ?_
            refine At.take 17 (some 126) (.string b.f4[i].f1) rfl rfl (by kernel_rfl) (by kernel_rfl) (by kernel_rfl) (by kernel_rfl) (fun _ _ _ h => h) (yl_load 19 ⟨bb, ob + i * 2 + 1, none⟩ (.string b.f4[i].f1) (List.mem_cons_of_mem _ (List.mem_cons_of_mem _ (List.mem_cons_of_mem _ (List.mem_cons_of_mem _ (List.mem_cons_self))))) [18, 19] (by kernel_rfl) rfl (by kernel_rfl) (fun _ => by kernel_rfl)) ?_
            refine At.take 18 (some 127) (.agg #[.int .i64 2, .int .i64 b.f4[i].f0, .int .i64 (b.f2 + 1 + (i : Int)), .int .i64 0, .string b.f4[i].f1]) rfl rfl (by kernel_rfl) (by kernel_rfl) (by kernel_rfl) (by kernel_rfl) (fun _ _ _ h => h) (yl_pure (by kernel_rfl) (fun _ => by kernel_rfl)) ?_
            refine At.step 19 (some 128) rfl rfl (by kernel_rfl) (by kernel_rfl) (fun u W => u = .slice (some ⟨wr.drew.heap.size, 0, none⟩) 1 1 ∧ W = wr.drew.alloc (.cells #[.int .i64 2, .int .i64 b.f4[i].f0, .int .i64 (b.f2 + 1 + (i : Int)), .int .i64 0, .string b.f4[i].f1] 44)) (gives_run (by kernel_rfl)) ?_
            rintro u WB ⟨rfl, hWB⟩
            refine ⟨by subst hWB; exact held_cons (.inl (by kernel_rfl)) (held_cons (.inl (by kernel_rfl)) (held_cons (.inl (by kernel_rfl)) (held_cons (.inl (by kernel_rfl)) (held_cons (.inl (by kernel_rfl)) (held_nil))))), ?_⟩
            have HOB : Hid (WB.ownsRow (w.heap.size + 2) 44 5 u6 L.length (rRec L)) := by rw [hWB]; exact (show wr.drew.ownsRow _ _ _ _ _ _ from HO.out).alloc _
            have HBB : Hid (Below (w.heap.size + 2) W0 WB) := by rw [hWB]; exact (HBr.out.drew).alloc (by have := HBr.out.size; have := HZ0.out; show _ ≤ wr.heap.size; omega) _
            obtain ⟨v', WC, hrunC, hownC, hgrowC, _⟩ := run_append_own (P := Try.prog) WB (w.heap.size + 2) 38 38 44 iR (.agg #[.int .i64 0, .int .i64 0, .int .i64 0, .int .i64 0, .string ⟨#[]⟩]) 5 48 Try.underlying38 hiR hR0 hR1 hR2 rfl (by decide) u6 L.length _ HOB.out ⟨wr.drew.heap.size, 0, none⟩ 1 1 [.int .i64 2, .int .i64 b.f4[i].f0, .int .i64 (b.f2 + 1 + (i : Int)), .int .i64 0, .string b.f4[i].f1] rfl (by rw [hWB]; exact cells_newW wr.drew _ _) (by intro u hu; simp only [List.mem_cons, List.not_mem_nil, or_false] at hu; rcases hu with rfl | rfl | rfl | rfl | rfl <;> rfl) (by have := HLL.out; unfold maxLen; omega) (by have := HLL.out; omega) (by have := HBB.out.size; have := HZ0.out; omega)
            refine At.step 20 (some 129) rfl rfl (by kernel_rfl) (by kernel_rfl) (fun u W => u = v' ∧ W = WC) (gives_append (fun _ => by kernel_rfl) hrunC) ?_
            rintro u WC' ⟨rfl, hWC⟩
            subst hWC
            refine ⟨held_cons (.inl (by kernel_rfl)) (held_cons (.inl (by kernel_rfl)) (held_cons (.inl (by kernel_rfl)) (held_cons (.inl (by kernel_rfl)) (held_cons (.inl (by kernel_rfl)) (held_nil))))), ?_⟩
            refine At.take 21 (some 6) (u) rfl rfl (by kernel_rfl) (by kernel_rfl) (by kernel_rfl) (by kernel_rfl) (fun _ _ _ h => h) (yl_pure (by kernel_rfl) (fun _ => by kernel_rfl)) ?_
            refine At.done (by kernel_rfl) ?_
            simp only [Act.put, List.setIfInBounds_toArray, List.set_cons_zero, List.set_cons_succ]
            have HOE : Hid _ := own_snocRec (r := ⟨2, b.f4[i].f0, b.f2 + 1 + i, 0, b.f4[i].f1⟩) hownC
            have HBE : Hid (Below (w.heap.size + 2) W0 WC') := HBB.out.grown hgrowC (by have := HBB.out.size; have := HZ0.out; omega) (ownBlock_ge HOB.out)
            clear hownC hgrowC hrunC HOB HBB hWB d0 d1 d2 d3 d4 e0 e1 e2 e3 e4 c0 c1 HWR
            go_wp2
            go_roundw
            case rel => exact ⟨i + 1, by omega, by omega, by go_num, by rw [HSU.out]; exact HOE.out, HBE.out⟩
            case measure => simp [intOf]; omega
          · have hie : i = b.f4.length := by omega
            subst hie
            go_wp2
            go_ret2
            exact ⟨_, rfl, own_lowW HO.out (by omega), HBw.out⟩
      have hB : decide ((k : Int) < (b.f4.length : Int)) = true := decide_eq_true (by omega)
      obtain ⟨ba, oa, ca', hv, hba, hca⟩ := HRA.out.some (by omega) (by decide)
      simp only [Value.slice.injEq, true_and] at hv
      obtain ⟨rfl, rfl⟩ := hv
      obtain ⟨bb, ob, cb', hv, hbb, hcb⟩ := HRB.out.some (by omega) (by decide)
      simp only [Value.slice.injEq, true_and] at hv
      obtain ⟨rfl, rfl⟩ := hv
      have c0 : wr.cell? ⟨ba, oa + k * 2, none⟩ = some (.int .i64 (a.f4[k]).f0) := by rw [HBw.out.cell (by exact hba), hca (k * 2) (by omega)]; exact flat_at cEntry 2 cEntry_len a.f4 k 0 h1 (by decide)
      have c1 : wr.cell? ⟨ba, oa + k * 2 + 1, none⟩ = some (.string (a.f4[k]).f1) := by rw [HBw.out.cell (by exact hba), Nat.add_assoc, hca (k * 2 + 1) (by omega)]; exact flat_at cEntry 2 cEntry_len a.f4 k 1 h1 (by decide)
      have g0 : wr.cell? ⟨bb, ob + k * 2, none⟩ = some (.int .i64 (b.f4[k]).f0) := by rw [HBw.out.cell (by exact hbb), hcb (k * 2) (by omega)]; exact flat_at cEntry 2 cEntry_len b.f4 k 0 h2 (by decide)
      have g1 : wr.cell? ⟨bb, ob + k * 2 + 1, none⟩ = some (.string (b.f4[k]).f1) := by rw [HBw.out.cell (by exact hbb), Nat.add_assoc, hcb (k * 2 + 1) (by omega)]; exact flat_at cEntry 2 cEntry_len b.f4 k 1 h2 (by decide)
      clear hca hcb
      have heq := fun W => eqEE a.f4[k] b.f4[k] W
      by_cases he : eqE a.f4[k] b.f4[k]
      · have HE : Hid (k + 1 ≤ al a.f4 b.f4) := al_step hk h1 h2 he
        rw [decide_eq_true he] at heq
        generalize a.f4[k] = X at c0 c1 heq
        generalize b.f4[k] = Y at g0 g1 heq
        clear he hk
        go_upto_region 10 with fail
        refine wp_region_told (fun W => W = wr.drew) (by kernel_rfl) (by kernel_rfl) rfl ?_
        refine told_pure (some 60) (.int .i64 (k : Int)) rfl (by kernel_rfl) (fun _ => by kernel_rfl) ?_
        refine told_pure (some 61) (.pointer (some ⟨w.heap.size, 4, none⟩)) rfl (by kernel_rfl) (fun _ => by kernel_rfl) ?_
        refine told_load (some 62) ⟨w.heap.size, 4, none⟩ (.slice (some ⟨ba, oa, none⟩) a.f4.length ca) rfl (by kernel_rfl) (fun _ => by kernel_rfl) (fun _ hS => (by subst hS; exact d4)) ?_
        refine told_pure (some 63) (.int .i64 a.f4.length) rfl (by kernel_rfl) (fun _ => by kernel_rfl) ?_
        refine told_is (some 64) (.bool (decide ((k : Int) < (a.f4.length : Int)))) (.bool true) (by rw [hA]) rfl (by kernel_rfl) (fun _ => by kernel_rfl) ?_
        refine told_pure (some 65) (.bool true) rfl (by kernel_rfl) (fun _ => by kernel_rfl) ?_
        refine told_pure (some 66) (.int .i64 (k : Int)) rfl (by kernel_rfl) (fun _ => by kernel_rfl) ?_
        refine told_pure (some 67) (.pointer (some ⟨w.heap.size + 1, 4, none⟩)) rfl (by kernel_rfl) (fun _ => by kernel_rfl) ?_
        refine told_load (some 68) ⟨w.heap.size + 1, 4, none⟩ (.slice (some ⟨bb, ob, none⟩) b.f4.length cb) rfl (by kernel_rfl) (fun _ => by kernel_rfl) (fun _ hS => (by subst hS; exact e4)) ?_
        refine told_pure (some 69) (.int .i64 b.f4.length) rfl (by kernel_rfl) (fun _ => by kernel_rfl) ?_
        refine told_is (some 70) (.bool (decide ((k : Int) < (b.f4.length : Int)))) (.bool true) (by rw [hB]) rfl (by kernel_rfl) (fun _ => by kernel_rfl) ?_
        refine told_pure (some 71) (.bool true) rfl (by kernel_rfl) (fun _ => by kernel_rfl) ?_
        refine told_pure (some 72) (.bool true) rfl (by kernel_rfl) (fun _ => by kernel_rfl) ?_
        refine told_pure (some 73) (.pointer (some ⟨w.heap.size, 4, none⟩)) rfl (by kernel_rfl) (fun _ => by kernel_rfl) ?_
        refine told_load (some 74) ⟨w.heap.size, 4, none⟩ (.slice (some ⟨ba, oa, none⟩) a.f4.length ca) rfl (by kernel_rfl) (fun _ => by kernel_rfl) (fun _ hS => (by subst hS; exact d4)) ?_
        refine told_pure (some 75) (.int .i64 (k : Int)) rfl (by kernel_rfl) (fun _ => by kernel_rfl) ?_
        refine told_pure (some 76) (.pointer (some ⟨ba, oa + k * 2, none⟩)) rfl (by kernel_rfl) (fun w => by go_simp) ?_
        refine told_loads (some 77) ⟨ba, oa + k * 2, none⟩ [.int .i64 X.f0, .string X.f1] rfl (by kernel_rfl) (fun _ => by kernel_rfl) (fun W hS => by subst hS; exact cells2W c0 c1) ?_
        refine told_pure (some 78) (.pointer (some ⟨w.heap.size + 1, 4, none⟩)) rfl (by kernel_rfl) (fun _ => by kernel_rfl) ?_
        refine told_load (some 79) ⟨w.heap.size + 1, 4, none⟩ (.slice (some ⟨bb, ob, none⟩) b.f4.length cb) rfl (by kernel_rfl) (fun _ => by kernel_rfl) (fun _ hS => (by subst hS; exact e4)) ?_
        refine told_pure (some 80) (.int .i64 (k : Int)) rfl (by kernel_rfl) (fun _ => by kernel_rfl) ?_
        refine told_pure (some 81) (.pointer (some ⟨bb, ob + k * 2, none⟩)) rfl (by kernel_rfl) (fun w => by go_simp) ?_
        refine told_loads (some 82) ⟨bb, ob + k * 2, none⟩ [.int .i64 Y.f0, .string Y.f1] rfl (by kernel_rfl) (fun _ => by kernel_rfl) (fun W hS => by subst hS; exact cells2W g0 g1) ?_
        refine told_run (some 83) (.bool true) (binOp .eql 66 (.agg #[.int .i64 X.f0, .string X.f1]) (.agg #[.int .i64 Y.f0, .string Y.f1])) rfl (by kernel_rfl) (fun _ => by kernel_rfl) (fun W _ => heq W) ?_
        refine told_pure (some 84) (.bool true) rfl (by kernel_rfl) (fun _ => by kernel_rfl) ?_
        refine told_nil ?_
        intro w9 hS9
        subst hS9
        simp only [Act.put, List.setIfInBounds_toArray, List.set_cons_zero, List.set_cons_succ]
        go_wp2
        go_roundw
        case rel => exact ⟨k + 1, HE.out, by go_num, HO.out, HBr.out.drew⟩
        case measure => simp [intOf]; omega
      · have HE : Hid (k = al a.f4 b.f4) := al_stop hk (fun _ _ => he)
        rw [decide_eq_false he] at heq
        generalize a.f4[k] = X at c0 c1 heq
        generalize b.f4[k] = Y at g0 g1 heq
        clear he
        go_upto_region 10 with fail
        refine wp_region_told (fun W => W = wr.drew) (by kernel_rfl) (by kernel_rfl) rfl ?_
        refine told_pure (some 60) (.int .i64 (k : Int)) rfl (by kernel_rfl) (fun _ => by kernel_rfl) ?_
        refine told_pure (some 61) (.pointer (some ⟨w.heap.size, 4, none⟩)) rfl (by kernel_rfl) (fun _ => by kernel_rfl) ?_
        refine told_load (some 62) ⟨w.heap.size, 4, none⟩ (.slice (some ⟨ba, oa, none⟩) a.f4.length ca) rfl (by kernel_rfl) (fun _ => by kernel_rfl) (fun _ hS => (by subst hS; exact d4)) ?_
        refine told_pure (some 63) (.int .i64 a.f4.length) rfl (by kernel_rfl) (fun _ => by kernel_rfl) ?_
        refine told_is (some 64) (.bool (decide ((k : Int) < (a.f4.length : Int)))) (.bool true) (by rw [hA]) rfl (by kernel_rfl) (fun _ => by kernel_rfl) ?_
        refine told_pure (some 65) (.bool true) rfl (by kernel_rfl) (fun _ => by kernel_rfl) ?_
        refine told_pure (some 66) (.int .i64 (k : Int)) rfl (by kernel_rfl) (fun _ => by kernel_rfl) ?_
        refine told_pure (some 67) (.pointer (some ⟨w.heap.size + 1, 4, none⟩)) rfl (by kernel_rfl) (fun _ => by kernel_rfl) ?_
        refine told_load (some 68) ⟨w.heap.size + 1, 4, none⟩ (.slice (some ⟨bb, ob, none⟩) b.f4.length cb) rfl (by kernel_rfl) (fun _ => by kernel_rfl) (fun _ hS => (by subst hS; exact e4)) ?_
        refine told_pure (some 69) (.int .i64 b.f4.length) rfl (by kernel_rfl) (fun _ => by kernel_rfl) ?_
        refine told_is (some 70) (.bool (decide ((k : Int) < (b.f4.length : Int)))) (.bool true) (by rw [hB]) rfl (by kernel_rfl) (fun _ => by kernel_rfl) ?_
        refine told_pure (some 71) (.bool true) rfl (by kernel_rfl) (fun _ => by kernel_rfl) ?_
        refine told_pure (some 72) (.bool true) rfl (by kernel_rfl) (fun _ => by kernel_rfl) ?_
        refine told_pure (some 73) (.pointer (some ⟨w.heap.size, 4, none⟩)) rfl (by kernel_rfl) (fun _ => by kernel_rfl) ?_
        refine told_load (some 74) ⟨w.heap.size, 4, none⟩ (.slice (some ⟨ba, oa, none⟩) a.f4.length ca) rfl (by kernel_rfl) (fun _ => by kernel_rfl) (fun _ hS => (by subst hS; exact d4)) ?_
        refine told_pure (some 75) (.int .i64 (k : Int)) rfl (by kernel_rfl) (fun _ => by kernel_rfl) ?_
        refine told_pure (some 76) (.pointer (some ⟨ba, oa + k * 2, none⟩)) rfl (by kernel_rfl) (fun w => by go_simp) ?_
        refine told_loads (some 77) ⟨ba, oa + k * 2, none⟩ [.int .i64 X.f0, .string X.f1] rfl (by kernel_rfl) (fun _ => by kernel_rfl) (fun W hS => by subst hS; exact cells2W c0 c1) ?_
        refine told_pure (some 78) (.pointer (some ⟨w.heap.size + 1, 4, none⟩)) rfl (by kernel_rfl) (fun _ => by kernel_rfl) ?_
        refine told_load (some 79) ⟨w.heap.size + 1, 4, none⟩ (.slice (some ⟨bb, ob, none⟩) b.f4.length cb) rfl (by kernel_rfl) (fun _ => by kernel_rfl) (fun _ hS => (by subst hS; exact e4)) ?_
        refine told_pure (some 80) (.int .i64 (k : Int)) rfl (by kernel_rfl) (fun _ => by kernel_rfl) ?_
        refine told_pure (some 81) (.pointer (some ⟨bb, ob + k * 2, none⟩)) rfl (by kernel_rfl) (fun w => by go_simp) ?_
        refine told_loads (some 82) ⟨bb, ob + k * 2, none⟩ [.int .i64 Y.f0, .string Y.f1] rfl (by kernel_rfl) (fun _ => by kernel_rfl) (fun W hS => by subst hS; exact cells2W g0 g1) ?_
        refine told_run (some 83) (.bool false) (binOp .eql 66 (.agg #[.int .i64 X.f0, .string X.f1]) (.agg #[.int .i64 Y.f0, .string Y.f1])) rfl (by kernel_rfl) (fun _ => by kernel_rfl) (fun W _ => heq W) ?_
        refine told_pure (some 84) (.bool false) rfl (by kernel_rfl) (fun _ => by kernel_rfl) ?_
        refine told_nil ?_
        intro w9 hS9
        subst hS9
        simp only [Act.put, List.setIfInBounds_toArray, List.set_cons_zero, List.set_cons_succ]
        have HC1 : Hid (ch1 a b = ch0 a b ++ [ctR a k]) := by show _ = _; unfold ch1; rw [if_pos (by rw [← HE.out]; exact h1), ← HE.out]
        have hlt : (k : Int) < a.f4.length := by omega
        have HKE : Hid (k = al a.f4 b.f4) := HE.out
        have HO' : Hid (wr.drew.ownsRow (w.heap.size + 2) 44 5 u6 (ch0 a b).length (rRec (ch0 a b))) := HO.out
        have HQ' : Hid (Below (w.heap.size + 2) W0 wr.drew) := HBr.out.drew
        have hB2 := HA2.out
        have hN' : w.heap.size + 2 ≤ wr.drew.heap.size := by have := HQ'.out.size; have := HZ0.out; omega
        have hN2 : w.heap.size + 2 ≤ wr.heap.size := hN'
        have hL0 := ch0_len a b
        have wr1 : IntKind.i64.wrap (a.f2 + (k : Int)) = a.f2 + (k : Int) := IntWalk.i64_in _ (by omega)
        have wr2 : IntKind.i64.wrap (a.f2 + (k : Int) + 1) = a.f2 + (k : Int) + 1 := IntWalk.i64_in _ (by omega)
        clear h1 hk hA hB hal HE h2 heq c0 c1 g0 g1
        obtain ⟨iR, hiR, hR0, hR1, hR2⟩ := info_parts infoRec
        go_wp2_with (at_builtin; refine wpList_append_own _ rfl _ _ 38 rfl (w.heap.size + 2) 44 iR (.agg #[.int .i64 0, .int .i64 0, .int .i64 0, .int .i64 0, .string ⟨#[]⟩]) 5 48 Try.underlying38 hiR hR0 hR1 hR2 rfl (by decide) _ _ _ rfl (HO'.out.alloc _) ⟨wr.drew.heap.size, 0, none⟩ 1 1 [.int .i64 3, .int .i64 0, .int .i64 (a.f2 + (k : Int) + 1), .int .i64 0, .string ⟨#[]⟩] rfl rfl (cells_newW wr.drew _ _) (by intro u hu; simp only [List.mem_cons, List.not_mem_nil, or_false] at hu; rcases hu with rfl | rfl | rfl | rfl | rfl <;> rfl) (by unfold maxLen; omega) (by omega) (by simp; omega) ?_)
        intro v6 w6 hown6 hgr6 _
        have HOC : Hid (w6.ownsRow (w.heap.size + 2) 44 5 v6 (ch1 a b).length (rRec (ch1 a b))) := by rw [HC1.out]; exact own_snocRec (r := ctR a k) hown6
        have HQC : Hid (Below (w.heap.size + 2) W0 w6) := (HQ'.out.alloc (by omega) _).grown hgr6 (by simp; omega) (ownBlock_ge HO'.out)
        clear hown6 hgr6 hlt hB2 hN' hN2 hL0 wr1 wr2 HO' HQ' HC1
        clear d0 d1 d2 d3 d4 e0 e1 e2 e3 e4
        go_wp2_with fail
        rw [HKE.out]
        clear HKE
        go_loopw [6, 9] (fun ov iv wr => ∃ i : Nat, al a.f4 b.f4 ≤ i ∧ i ≤ b.f4.length ∧ iv = .int .i64 (i : Int) ∧ Hid (wr.ownsRow (w.heap.size + 2) 44 5 ov (chP a b (i - al a.f4 b.f4)).length (rRec (chP a b (i - al a.f4 b.f4)))) ∧ Hid (Below (w.heap.size + 2) W0 wr)) (fun _ iv _ => b.f4.length - (intOf iv).toNat)
        case atStart => exact ⟨al a.f4 b.f4, Nat.le_refl _, (al_le _ _).2, rfl, by rw [Nat.sub_self, chP_zero]; exact HOC.out, HQC.out⟩
        case round =>
          obtain ⟨i, hai, hi, rfl, HO, HBr⟩ := hrel
          have HBw : Hid (Below w.heap.size w wr) := HB0.out.trans (HBr.out.mono (by omega))
          obtain ⟨⟨d0, d1, d2, d3, d4⟩, ⟨e0, e1, e2, e3, e4⟩⟩ := HX.out wr HBr.out
          have HLL : Hid ((chP a b (i - al a.f4 b.f4)).length ≤ 1048600) := by show _ ≤ _; have := chP_len a b (i - al a.f4 b.f4); omega
          by_cases hlt : i < b.f4.length
          · have hlt' : (i : Int) < b.f4.length := by omega
            have HSU : Hid (chP a b (i + 1 - al a.f4 b.f4) = chP a b (i - al a.f4 b.f4) ++ [⟨2, b.f4[i].f0, b.f2 + 1 + i, 0, b.f4[i].f1⟩]) := by
              show _ = _
              rw [show i + 1 - al a.f4 b.f4 = (i - al a.f4 b.f4) + 1 by omega, chP_succ, show al a.f4 b.f4 + (i - al a.f4 b.f4) = i by omega, en_at hlt]
            generalize chP a b (i - al a.f4 b.f4) = L at HO HLL HSU
            obtain ⟨bb, ob, cb', hv, hbb, hcb⟩ := HRB.out.some (by omega) (by decide)
            simp only [Value.slice.injEq, true_and] at hv
            first
              | (obtain ⟨rfl, rfl⟩ := hv)
              | (simp only [Option.some.injEq, Addr.mk.injEq, and_true] at hv; obtain ⟨⟨e1, e2⟩, rfl⟩ := hv; replace e1 := e1.symm; replace e2 := e2.symm; subst e1; subst e2)
            have c0 : wr.cell? ⟨bb, ob + i * 2, none⟩ = some (.int .i64 (b.f4[i]).f0) := by rw [HBw.out.cell (by exact hbb), hcb (i * 2) (by omega)]; exact flat_at cEntry 2 cEntry_len b.f4 i 0 hlt (by decide)
            have c1 : wr.cell? ⟨bb, ob + i * 2 + 1, none⟩ = some (.string (b.f4[i]).f1) := by rw [HBw.out.cell (by exact hbb), Nat.add_assoc, hcb (i * 2 + 1) (by omega)]; exact flat_at cEntry 2 cEntry_len b.f4 i 1 hlt (by decide)
            have HWR : Hid (IntKind.i64.wrap (b.f2 + 1) = b.f2 + 1 ∧ IntKind.i64.wrap (b.f2 + 1 + (i : Int)) = b.f2 + 1 + (i : Int)) := ⟨IntWalk.i64_in _ (by have := HB2.out; omega), IntWalk.i64_in _ (by have := HB2.out; omega)⟩
            clear hcb
            go_upto_region 17 with fail
            refine wp_region_L [⟨19, fun W => W.cell? ⟨w.heap.size + 1, 4, none⟩ = some (.slice (some ⟨bb, ob, none⟩) b.f4.length cb)⟩, ⟨19, fun W => W.cell? ⟨bb, ob + i * 2, none⟩ = some (.int .i64 b.f4[i].f0)⟩, ⟨19, fun W => W.cell? ⟨w.heap.size + 1, 2, none⟩ = some (.int .i64 b.f2)⟩, ⟨19, fun W => W.cell? ⟨w.heap.size + 1, 4, none⟩ = some (.slice (some ⟨bb, ob, none⟩) b.f4.length cb)⟩, ⟨19, fun W => W.cell? ⟨bb, ob + i * 2 + 1, none⟩ = some (.string b.f4[i].f1)⟩] (by kernel_rfl) (fun f hf => by
                simp only [List.mem_cons, List.not_mem_nil, or_false] at hf
                rcases hf with rfl | rfl | rfl | rfl | rfl
                · exact e4
                · exact c0
                · exact e2
                · exact e4
                · exact c1
                ) ?_
            refine At.take 0 (some 109) (u6) rfl rfl (by kernel_rfl) (by kernel_rfl) (by kernel_rfl) (by kernel_rfl) (fun _ _ _ h => h) (yl_pure (by kernel_rfl) (fun _ => by kernel_rfl)) ?_
            refine At.take 1 (some 110) (.pointer (some ⟨w.heap.size + 1, 4, none⟩)) rfl rfl (by kernel_rfl) (by kernel_rfl) (by kernel_rfl) (by kernel_rfl) (fun _ _ _ h => h) (yl_pure (by kernel_rfl) (fun _ => by kernel_rfl)) ?_
            refine At.take 2 (some 111) (.slice (some ⟨bb, ob, none⟩) b.f4.length cb) rfl rfl (by kernel_rfl) (by kernel_rfl) (by kernel_rfl) (by kernel_rfl) (fun _ _ _ h => h) (yl_load 19 ⟨w.heap.size + 1, 4, none⟩ (.slice (some ⟨bb, ob, none⟩) b.f4.length cb) (List.mem_cons_self) [4, 5, 6, 18, 19] (by kernel_rfl) rfl (by kernel_rfl) (fun _ => by kernel_rfl)) ?_
            refine At.take 3 (some 112) (.int .i64 (i : Int)) rfl rfl (by kernel_rfl) (by kernel_rfl) (by kernel_rfl) (by kernel_rfl) (fun _ _ _ h => h) (yl_pure (by kernel_rfl) (fun _ => by kernel_rfl)) ?_
            refine At.take 4 (some 113) (.pointer (some ⟨bb, ob + i * 2, none⟩)) rfl rfl (by kernel_rfl) (by kernel_rfl) (by kernel_rfl) (by kernel_rfl) (fun _ _ _ h => h) (yl_pure (by kernel_rfl) (fun w => by go_simp)) ?_
            refine At.take 5 (some 114) (.pointer (some ⟨bb, ob + i * 2, none⟩)) rfl rfl (by kernel_rfl) (by kernel_rfl) (by kernel_rfl) (by kernel_rfl) (fun _ _ _ h => h) (yl_pure (by kernel_rfl) (fun _ => by kernel_rfl)) ?_
            refine At.take 6 (some 115) (.int .i64 b.f4[i].f0) rfl rfl (by kernel_rfl) (by kernel_rfl) (by kernel_rfl) (by kernel_rfl) (fun _ _ _ h => h) (yl_load 19 ⟨bb, ob + i * 2, none⟩ (.int .i64 b.f4[i].f0) (List.mem_cons_of_mem _ (List.mem_cons_self)) [18, 19] (by kernel_rfl) rfl (by kernel_rfl) (fun _ => by kernel_rfl)) ?_
            refine At.take 7 (some 116) (.pointer (some ⟨w.heap.size + 1, 2, none⟩)) rfl rfl (by kernel_rfl) (by kernel_rfl) (by kernel_rfl) (by kernel_rfl) (fun _ _ _ h => h) (yl_pure (by kernel_rfl) (fun _ => by kernel_rfl)) ?_
            refine At.take 8 (some 117) (.int .i64 b.f2) rfl rfl (by kernel_rfl) (by kernel_rfl) (by kernel_rfl) (by kernel_rfl) (fun _ _ _ h => h) (yl_load 19 ⟨w.heap.size + 1, 2, none⟩ (.int .i64 b.f2) (List.mem_cons_of_mem _ (List.mem_cons_of_mem _ (List.mem_cons_self))) [9, 11, 18, 19] (by kernel_rfl) rfl (by kernel_rfl) (fun _ => by kernel_rfl)) ?_
            refine At.take 9 (some 118) (.int .i64 (b.f2 + 1)) rfl rfl (by kernel_rfl) (by kernel_rfl) (by kernel_rfl) (by kernel_rfl) (fun _ _ _ h => h) (yl_is (.int .i64 (IntKind.i64.wrap (b.f2 + 1))) (by rw [HWR.out.1]) (by kernel_rfl) (fun _ => by kernel_rfl)) ?_
            refine At.take 10 (some 119) (.int .i64 (i : Int)) rfl rfl (by kernel_rfl) (by kernel_rfl) (by kernel_rfl) (by kernel_rfl) (fun _ _ _ h => h) (yl_pure (by kernel_rfl) (fun _ => by kernel_rfl)) ?_
            refine At.take 11 (some 120) (.int .i64 (b.f2 + 1 + (i : Int))) rfl rfl (by kernel_rfl) (by kernel_rfl) (by kernel_rfl) (by kernel_rfl) (fun _ _ _ h => h) (yl_is (.int .i64 (IntKind.i64.wrap (b.f2 + 1 + (i : Int)))) (by rw [HWR.out.2]) (by kernel_rfl) (fun _ => by kernel_rfl)) ?_
            refine At.take 12 (some 121) (.pointer (some ⟨w.heap.size + 1, 4, none⟩)) rfl rfl (by kernel_rfl) (by kernel_rfl) (by kernel_rfl) (by kernel_rfl) (fun _ _ _ h => h) (yl_pure (by kernel_rfl) (fun _ => by kernel_rfl)) ?_
            refine At.take 13 (some 122) (.slice (some ⟨bb, ob, none⟩) b.f4.length cb) rfl rfl (by kernel_rfl) (by kernel_rfl) (by kernel_rfl) (by kernel_rfl) (fun _ _ _ h => h) (yl_load 19 ⟨w.heap.size + 1, 4, none⟩ (.slice (some ⟨bb, ob, none⟩) b.f4.length cb) (List.mem_cons_of_mem _ (List.mem_cons_of_mem _ (List.mem_cons_of_mem _ (List.mem_cons_self)))) [15, 16, 17, 18, 19] (by kernel_rfl) rfl (by kernel_rfl) (fun _ => by kernel_rfl)) ?_
            refine At.take 14 (some 123) (.int .i64 (i : Int)) rfl rfl (by kernel_rfl) (by kernel_rfl) (by kernel_rfl) (by kernel_rfl) (fun _ _ _ h => h) (yl_pure (by kernel_rfl) (fun _ => by kernel_rfl)) ?_
            refine At.take 15 (some 124) (.pointer (some ⟨bb, ob + i * 2, none⟩)) rfl rfl (by kernel_rfl) (by kernel_rfl) (by kernel_rfl) (by kernel_rfl) (fun _ _ _ h => h) (yl_pure (by kernel_rfl) (fun w => by go_simp)) ?_
            refine At.take 16 (some 125) (.pointer (some ⟨bb, ob + i * 2 + 1, none⟩)) rfl rfl (by kernel_rfl) (by kernel_rfl) (by kernel_rfl) (by kernel_rfl) (fun _ _ _ h => h) (yl_pure (by kernel_rfl) (fun _ => by kernel_rfl)) ?_
            refine At.take 17 (some 126) (.string b.f4[i].f1) rfl rfl (by kernel_rfl) (by kernel_rfl) (by kernel_rfl) (by kernel_rfl) (fun _ _ _ h => h) (yl_load 19 ⟨bb, ob + i * 2 + 1, none⟩ (.string b.f4[i].f1) (List.mem_cons_of_mem _ (List.mem_cons_of_mem _ (List.mem_cons_of_mem _ (List.mem_cons_of_mem _ (List.mem_cons_self))))) [18, 19] (by kernel_rfl) rfl (by kernel_rfl) (fun _ => by kernel_rfl)) ?_
            refine At.take 18 (some 127) (.agg #[.int .i64 2, .int .i64 b.f4[i].f0, .int .i64 (b.f2 + 1 + (i : Int)), .int .i64 0, .string b.f4[i].f1]) rfl rfl (by kernel_rfl) (by kernel_rfl) (by kernel_rfl) (by kernel_rfl) (fun _ _ _ h => h) (yl_pure (by kernel_rfl) (fun _ => by kernel_rfl)) ?_
            refine At.step 19 (some 128) rfl rfl (by kernel_rfl) (by kernel_rfl) (fun u W => u = .slice (some ⟨wr.drew.heap.size, 0, none⟩) 1 1 ∧ W = wr.drew.alloc (.cells #[.int .i64 2, .int .i64 b.f4[i].f0, .int .i64 (b.f2 + 1 + (i : Int)), .int .i64 0, .string b.f4[i].f1] 44)) (gives_run (by kernel_rfl)) ?_
            rintro u WB ⟨rfl, hWB⟩
            refine ⟨by subst hWB; exact held_cons (.inl (by kernel_rfl)) (held_cons (.inl (by kernel_rfl)) (held_cons (.inl (by kernel_rfl)) (held_cons (.inl (by kernel_rfl)) (held_cons (.inl (by kernel_rfl)) (held_nil))))), ?_⟩
            have HOB : Hid (WB.ownsRow (w.heap.size + 2) 44 5 u6 L.length (rRec L)) := by rw [hWB]; exact (show wr.drew.ownsRow _ _ _ _ _ _ from HO.out).alloc _
            have HBB : Hid (Below (w.heap.size + 2) W0 WB) := by rw [hWB]; exact (HBr.out.drew).alloc (by have := HBr.out.size; have := HZ0.out; show _ ≤ wr.heap.size; omega) _
            obtain ⟨v', WC, hrunC, hownC, hgrowC, _⟩ := run_append_own (P := Try.prog) WB (w.heap.size + 2) 38 38 44 iR (.agg #[.int .i64 0, .int .i64 0, .int .i64 0, .int .i64 0, .string ⟨#[]⟩]) 5 48 Try.underlying38 hiR hR0 hR1 hR2 rfl (by decide) u6 L.length _ HOB.out ⟨wr.drew.heap.size, 0, none⟩ 1 1 [.int .i64 2, .int .i64 b.f4[i].f0, .int .i64 (b.f2 + 1 + (i : Int)), .int .i64 0, .string b.f4[i].f1] rfl (by rw [hWB]; exact cells_newW wr.drew _ _) (by intro u hu; simp only [List.mem_cons, List.not_mem_nil, or_false] at hu; rcases hu with rfl | rfl | rfl | rfl | rfl <;> rfl) (by have := HLL.out; unfold maxLen; omega) (by have := HLL.out; omega) (by have := HBB.out.size; have := HZ0.out; omega)
            refine At.step 20 (some 129) rfl rfl (by kernel_rfl) (by kernel_rfl) (fun u W => u = v' ∧ W = WC) (gives_append (fun _ => by kernel_rfl) hrunC) ?_
            rintro u WC' ⟨rfl, hWC⟩
            subst hWC
            refine ⟨held_cons (.inl (by kernel_rfl)) (held_cons (.inl (by kernel_rfl)) (held_cons (.inl (by kernel_rfl)) (held_cons (.inl (by kernel_rfl)) (held_cons (.inl (by kernel_rfl)) (held_nil))))), ?_⟩
            refine At.take 21 (some 6) (u) rfl rfl (by kernel_rfl) (by kernel_rfl) (by kernel_rfl) (by kernel_rfl) (fun _ _ _ h => h) (yl_pure (by kernel_rfl) (fun _ => by kernel_rfl)) ?_
            refine At.done (by kernel_rfl) ?_
            simp only [Act.put, List.setIfInBounds_toArray, List.set_cons_zero, List.set_cons_succ]
            have HOE : Hid _ := own_snocRec (r := ⟨2, b.f4[i].f0, b.f2 + 1 + i, 0, b.f4[i].f1⟩) hownC
            have HBE : Hid (Below (w.heap.size + 2) W0 WC') := HBB.out.grown hgrowC (by have := HBB.out.size; have := HZ0.out; omega) (ownBlock_ge HOB.out)
            clear hownC hgrowC hrunC HOB HBB hWB d0 d1 d2 d3 d4 e0 e1 e2 e3 e4 c0 c1 HWR
            go_wp2
            go_roundw
            case rel => exact ⟨i + 1, by omega, by omega, by go_num, by rw [HSU.out]; exact HOE.out, HBE.out⟩
            case measure => simp [intOf]; omega
          · have hie : i = b.f4.length := by omega
            subst hie
            go_wp2
            go_ret2
            exact ⟨_, rfl, own_lowW HO.out (by omega), HBw.out⟩
  · have m0 : (a.f0 != b.f0) = true := by simpa using hm
    clear hm
    have HC0 : Hid (ch0 a b = [hdRec b]) := by show _ = _; unfold ch0; rw [if_neg hs]
    have HFT : Hid (decide (fitH a b) = true) := decide_eq_true (HQF.out.resolve_left hs)
    obtain ⟨W3, hW3⟩ : ∃ W, W = w2.alloc (.cells #[.int .i64 1, .int .i64 b.f0, .int .i64 0, .int .i64 b.f1, .string ⟨#[]⟩] 44) := ⟨_, rfl⟩
    have HW3 : Hid (w2.alloc (.cells #[.int .i64 1, .int .i64 b.f0, .int .i64 0, .int .i64 b.f1, .string ⟨#[]⟩] 44) = W3) := hW3.symm
    have HN2 : Hid (w.heap.size + 3 ≤ w2.heap.size) := by show _ ≤ _; have := HQ2.out.size; have := HZ0.out; omega
    have HX3 : Hid (W3.heap[w2.heap.size]? = some (.cells #[.int .i64 1, .int .i64 b.f0, .int .i64 0, .int .i64 b.f1, .string ⟨#[]⟩] 44)) := by rw [hW3]; exact alloc_last _ _
    have HQ3 : Hid (Below (w.heap.size + 2) W0 W3) := by rw [hW3]; exact HQ2.out.alloc (by have := HN2.out; omega) _
    have HO3 : Hid (W3.ownsRow (w.heap.size + 2) 44 5 (.slice (some ⟨w.heap.size + 2, 0, none⟩) 0 0) 0 []) := by rw [hW3]; exact HO2.out.alloc _
    have hn2 : w.heap.size + 3 ≤ w2.heap.size := HN2.out
    have nx : w.heap.size ≠ w2.heap.size := by omega
    have lx : w.heap.size < w2.heap.size := by omega
    clear hs hW3
    go_wp2_with fail
    rw [HW3.out]
    refine (specFits_c a b pa ca W3 HNA.out HA2.out).mono ?_
    rintro e w4 ⟨rfl, b4⟩
    have HX4 : Hid (w4.heap[w2.heap.size]? = some (.cells #[.int .i64 1, .int .i64 b.f0, .int .i64 0, .int .i64 b.f1, .string ⟨#[]⟩] 44)) := (b4.block _ (lt_of_some HX3.out)).trans HX3.out
    have HQ4 : Hid (Below (w.heap.size + 2) W0 w4) := HQ3.out.trans (b4.mono (by have := HQ3.out.size; have := HZ0.out; omega))
    have HO4 : Hid (w4.ownsRow (w.heap.size + 2) 44 5 (.slice (some ⟨w.heap.size + 2, 0, none⟩) 0 0) 0 []) := own_bel HO3.out b4 (Nat.le_refl _)
    clear b4 nx lx m0 n2 n3 d0 d1 d2 d3 d4 e0 e1 e2 e3 e4
    rw [HFT.out]
    obtain ⟨f0, f1, f2, f3, f4⟩ := box5 HX4.out
    have hN4 : w.heap.size + 2 ≤ w4.heap.size := by have := HQ4.out.size; have := HZ0.out; omega
    go_wp2_with (at_builtin; refine wpList_append_own _ rfl _ _ 38 rfl (w.heap.size + 2) 44 iR (.agg #[.int .i64 0, .int .i64 0, .int .i64 0, .int .i64 0, .string ⟨#[]⟩]) 5 48 Try.underlying38 hiR hR0 hR1 hR2 rfl (by decide) _ _ _ rfl (HO4.out.alloc _) ⟨w4.heap.size, 0, none⟩ 1 1 [.int .i64 1, .int .i64 b.f0, .int .i64 0, .int .i64 b.f1, .string ⟨#[]⟩] rfl rfl (cells_newW w4 _ _) (by intro u hu; simp only [List.mem_cons, List.not_mem_nil, or_false] at hu; rcases hu with rfl | rfl | rfl | rfl | rfl <;> rfl) (by decide) (by decide) (by simp; omega) ?_)
    intro u6 w5 hown5 hgr5 _
    have HO5 : Hid (w5.ownsRow (w.heap.size + 2) 44 5 u6 (ch0 a b).length (rRec (ch0 a b))) := by rw [HC0.out]; exact hown5
    have HQ5 : Hid (Below (w.heap.size + 2) W0 w5) := (HQ4.out.alloc (by omega) _).grown hgr5 (by simp; omega) (ownBlock_ge HO4.out)
    clear hown5 hgr5 f0 f1 f2 f3 f4 hn2 hN4 HX3 HX4 HO3 HO4 HW3
    go_wp2_with fail
    go_loopw [8] (fun iv wr => ∃ k : Nat, k ≤ al a.f4 b.f4 ∧ iv = .int .i64 (k : Int) ∧ Hid (wr.ownsRow (w.heap.size + 2) 44 5 u6 (ch0 a b).length (rRec (ch0 a b))) ∧ Hid (Below (w.heap.size + 2) W0 wr)) (fun iv _ => a.f4.length - (intOf iv).toNat)
    case atStart => exact ⟨0, Nat.zero_le _, rfl, HO5.out, HQ5.out⟩
    case round =>
      obtain ⟨k, hk, rfl, HO, HBr⟩ := hrel
      have hal := al_le a.f4 b.f4
      have HBw : Hid (Below w.heap.size w wr) := HB0.out.trans (HBr.out.mono (by omega))
      obtain ⟨⟨d0, d1, d2, d3, d4⟩, ⟨e0, e1, e2, e3, e4⟩⟩ := HX.out wr HBr.out
      by_cases h1 : k < a.f4.length
      rotate_left
      · have hA : decide ((k : Int) < (a.f4.length : Int)) = false := decide_eq_false (by omega)
        have HE : Hid (k = al a.f4 b.f4) := al_stop hk (fun h _ => absurd h h1)
        go_upto_region 10 with fail
        refine wp_region_told (fun W => W = wr.drew) (by kernel_rfl) (by kernel_rfl) rfl ?_
        refine told_pure (some 60) (.int .i64 (k : Int)) rfl (by kernel_rfl) (fun _ => by kernel_rfl) ?_
        refine told_pure (some 61) (.pointer (some ⟨w.heap.size, 4, none⟩)) rfl (by kernel_rfl) (fun _ => by kernel_rfl) ?_
        refine told_load (some 62) ⟨w.heap.size, 4, none⟩ (.slice pa a.f4.length ca) rfl (by kernel_rfl) (fun _ => by kernel_rfl) (fun _ hS => (by subst hS; exact d4)) ?_
        refine told_pure (some 63) (.int .i64 a.f4.length) rfl (by kernel_rfl) (fun _ => by kernel_rfl) ?_
        refine told_is (some 64) (.bool (decide ((k : Int) < (a.f4.length : Int)))) (.bool false) (by rw [hA]) rfl (by kernel_rfl) (fun _ => by kernel_rfl) ?_
        refine told_pure (some 65) (.bool false) rfl (by kernel_rfl) (fun _ => by kernel_rfl) ?_
        refine told_skip (some 66) rfl (by kernel_rfl) ?_
        refine told_skip (some 67) rfl (by kernel_rfl) ?_
        refine told_skip (some 68) rfl (by kernel_rfl) ?_
        refine told_skip (some 69) rfl (by kernel_rfl) ?_
        refine told_skip (some 70) rfl (by kernel_rfl) ?_
        refine told_pure (some 71) (.bool false) rfl (by kernel_rfl) (fun _ => by kernel_rfl) ?_
        refine told_pure (some 72) (.bool false) rfl (by kernel_rfl) (fun _ => by kernel_rfl) ?_
        refine told_skip (some 73) rfl (by kernel_rfl) ?_
        refine told_skip (some 74) rfl (by kernel_rfl) ?_
        refine told_skip (some 75) rfl (by kernel_rfl) ?_
        refine told_skip (some 76) rfl (by kernel_rfl) ?_
        refine told_skip (some 77) rfl (by kernel_rfl) ?_
        refine told_skip (some 78) rfl (by kernel_rfl) ?_
        refine told_skip (some 79) rfl (by kernel_rfl) ?_
        refine told_skip (some 80) rfl (by kernel_rfl) ?_
        refine told_skip (some 81) rfl (by kernel_rfl) ?_
        refine told_skip (some 82) rfl (by kernel_rfl) ?_
        refine told_skip (some 83) rfl (by kernel_rfl) ?_
        refine told_pure (some 84) (.bool false) rfl (by kernel_rfl) (fun _ => by kernel_rfl) ?_
        refine told_nil ?_
        intro w9 hS9
        subst hS9
        simp only [Act.put, List.setIfInBounds_toArray, List.set_cons_zero, List.set_cons_succ]
        have HC1 : Hid (ch1 a b = ch0 a b) := by show _ = _; unfold ch1; rw [if_neg (by rw [← HE.out]; omega), List.append_nil]
        have hnlt : ¬ (k : Int) < a.f4.length := by omega
        have HOC : Hid (wr.drew.ownsRow (w.heap.size + 2) 44 5 u6 (ch1 a b).length (rRec (ch1 a b))) := by rw [HC1.out]; exact HO.out
        have HQC : Hid (Below (w.heap.size + 2) W0 wr.drew) := HBr.out.drew
        have HKE : Hid (k = al a.f4 b.f4) := HE.out
        clear h1 hk hA hal HE HC1 HO
        go_wp2_with fail
        rw [HKE.out]
        clear hnlt d0 d1 d2 d3 d4 e0 e1 e2 e3 e4
        clear HKE
        go_loopw [6, 9] (fun ov iv wr => ∃ i : Nat, al a.f4 b.f4 ≤ i ∧ i ≤ b.f4.length ∧ iv = .int .i64 (i : Int) ∧ Hid (wr.ownsRow (w.heap.size + 2) 44 5 ov (chP a b (i - al a.f4 b.f4)).length (rRec (chP a b (i - al a.f4 b.f4)))) ∧ Hid (Below (w.heap.size + 2) W0 wr)) (fun _ iv _ => b.f4.length - (intOf iv).toNat)
        case atStart => exact ⟨al a.f4 b.f4, Nat.le_refl _, (al_le _ _).2, rfl, by rw [Nat.sub_self, chP_zero]; exact HOC.out, HQC.out⟩
        case round =>
          obtain ⟨i, hai, hi, rfl, HO, HBr⟩ := hrel
          have HBw : Hid (Below w.heap.size w wr) := HB0.out.trans (HBr.out.mono (by omega))
          obtain ⟨⟨d0, d1, d2, d3, d4⟩, ⟨e0, e1, e2, e3, e4⟩⟩ := HX.out wr HBr.out
          have HLL : Hid ((chP a b (i - al a.f4 b.f4)).length ≤ 1048600) := by show _ ≤ _; have := chP_len a b (i - al a.f4 b.f4); omega
          by_cases hlt : i < b.f4.length
          · have hlt' : (i : Int) < b.f4.length := by omega
            have HSU : Hid (chP a b (i + 1 - al a.f4 b.f4) = chP a b (i - al a.f4 b.f4) ++ [⟨2, b.f4[i].f0, b.f2 + 1 + i, 0, b.f4[i].f1⟩]) := by
              show _ = _
              rw [show i + 1 - al a.f4 b.f4 = (i - al a.f4 b.f4) + 1 by omega, chP_succ, show al a.f4 b.f4 + (i - al a.f4 b.f4) = i by omega, en_at hlt]
            generalize chP a b (i - al a.f4 b.f4) = L at HO HLL HSU
            obtain ⟨bb, ob, cb', hv, hbb, hcb⟩ := HRB.out.some (by omega) (by decide)
            simp only [Value.slice.injEq, true_and] at hv
            first
              | (obtain ⟨rfl, rfl⟩ := hv)
              | (simp only [Option.some.injEq, Addr.mk.injEq, and_true] at hv; obtain ⟨⟨e1, e2⟩, rfl⟩ := hv; replace e1 := e1.symm; replace e2 := e2.symm; subst e1; subst e2)
            have c0 : wr.cell? ⟨bb, ob + i * 2, none⟩ = some (.int .i64 (b.f4[i]).f0) := by rw [HBw.out.cell (by exact hbb), hcb (i * 2) (by omega)]; exact flat_at cEntry 2 cEntry_len b.f4 i 0 hlt (by decide)
            have c1 : wr.cell? ⟨bb, ob + i * 2 + 1, none⟩ = some (.string (b.f4[i]).f1) := by rw [HBw.out.cell (by exact hbb), Nat.add_assoc, hcb (i * 2 + 1) (by omega)]; exact flat_at cEntry 2 cEntry_len b.f4 i 1 hlt (by decide)
            have HWR : Hid (IntKind.i64.wrap (b.f2 + 1) = b.f2 + 1 ∧ IntKind.i64.wrap (b.f2 + 1 + (i : Int)) = b.f2 + 1 + (i : Int)) := ⟨IntWalk.i64_in _ (by have := HB2.out; omega), IntWalk.i64_in _ (by have := HB2.out; omega)⟩
            clear hcb
            go_upto_region 17 with fail
            refine wp_region_L [⟨19, fun W => W.cell? ⟨w.heap.size + 1, 4, none⟩ = some (.slice (some ⟨bb, ob, none⟩) b.f4.length cb)⟩, ⟨19, fun W => W.cell? ⟨bb, ob + i * 2, none⟩ = some (.int .i64 b.f4[i].f0)⟩, ⟨19, fun W => W.cell? ⟨w.heap.size + 1, 2, none⟩ = some (.int .i64 b.f2)⟩, ⟨19, fun W => W.cell? ⟨w.heap.size + 1, 4, none⟩ = some (.slice (some ⟨bb, ob, none⟩) b.f4.length cb)⟩, ⟨19, fun W => W.cell? ⟨bb, ob + i * 2 + 1, none⟩ = some (.string b.f4[i].f1)⟩] (by kernel_rfl) (fun f hf => by
                simp only [List.mem_cons, List.not_mem_nil, or_false] at hf
                rcases hf with rfl | rfl | rfl | rfl | rfl
                · exact e4
                · exact c0
                · exact e2
                · exact e4
                · exact c1
                ) ?_
            refine At.take 0 (some 109) (u6) rfl rfl (by kernel_rfl) (by kernel_rfl) (by kernel_rfl) (by kernel_rfl) (fun _ _ _ h => h) (yl_pure (by kernel_rfl) (fun _ => by kernel_rfl)) ?_
            refine At.take 1 (some 110) (.pointer (some ⟨w.heap.size + 1, 4, none⟩)) rfl rfl (by kernel_rfl) (by kernel_rfl) (by kernel_rfl) (by kernel_rfl) (fun _ _ _ h => h) (yl_pure (by kernel_rfl) (fun _ => by kernel_rfl)) ?_
            refine At.take 2 (some 111) (.slice (some ⟨bb, ob, none⟩) b.f4.length cb) rfl rfl (by kernel_rfl) (by kernel_rfl) (by kernel_rfl) (by kernel_rfl) (fun _ _ _ h => h) (yl_load 19 ⟨w.heap.size + 1, 4, none⟩ (.slice (some ⟨bb, ob, none⟩) b.f4.length cb) (List.mem_cons_self) [4, 5, 6, 18, 19] (by kernel_rfl) rfl (by kernel_rfl) (fun _ => by kernel_rfl)) ?_
            refine At.take 3 (some 112) (.int .i64 (i : Int)) rfl rfl (by kernel_rfl) (by kernel_rfl) (by kernel_rfl) (by kernel_rfl) (fun _ _ _ h => h) (yl_pure (by kernel_rfl) (fun _ => by kernel_rfl)) ?_
            refine At.take 4 (some 113) (.pointer (some ⟨bb, ob + i * 2, none⟩)) rfl rfl (by kernel_rfl) (by kernel_rfl) (by kernel_rfl) (by kernel_rfl) (fun _ _ _ h => h) (yl_pure (by kernel_rfl) (fun w => by go_simp)) ?_
            refine At.take 5 (some 114) (.pointer (some ⟨bb, ob + i * 2, none⟩)) rfl rfl (by kernel_rfl) (by kernel_rfl) (by kernel_rfl) (by kernel_rfl) (fun _ _ _ h => h) (yl_pure (by kernel_rfl) (fun _ => by kernel_rfl)) ?_
            refine At.take 6 (some 115) (.int .i64 b.f4[i].f0) rfl rfl (by kernel_rfl) (by kernel_rfl) (by kernel_rfl) (by kernel_rfl) (fun _ _ _ h => h) (yl_load 19 ⟨bb, ob + i * 2, none⟩ (.int .i64 b.f4[i].f0) (List.mem_cons_of_mem _ (List.mem_cons_self)) [18, 19] (by kernel_rfl) rfl (by kernel_rfl) (fun _ => by kernel_rfl)) ?_
            refine At.take 7 (some 116) (.pointer (some ⟨w.heap.size + 1, 2, none⟩)) rfl rfl (by kernel_rfl) (by kernel_rfl) (by kernel_rfl) (by kernel_rfl) (fun _ _ _ h => h) (yl_pure (by kernel_rfl) (fun _ => by kernel_rfl)) ?_
            refine At.take 8 (some 117) (.int .i64 b.f2) rfl rfl (by kernel_rfl) (by kernel_rfl) (by kernel_rfl) (by kernel_rfl) (fun _ _ _ h => h) (yl_load 19 ⟨w.heap.size + 1, 2, none⟩ (.int .i64 b.f2) (List.mem_cons_of_mem _ (List.mem_cons_of_mem _ (List.mem_cons_self))) [9, 11, 18, 19] (by kernel_rfl) rfl (by kernel_rfl) (fun _ => by kernel_rfl)) ?_
            refine At.take 9 (some 118) (.int .i64 (b.f2 + 1)) rfl rfl (by kernel_rfl) (by kernel_rfl) (by kernel_rfl) (by kernel_rfl) (fun _ _ _ h => h) (yl_is (.int .i64 (IntKind.i64.wrap (b.f2 + 1))) (by rw [HWR.out.1]) (by kernel_rfl) (fun _ => by kernel_rfl)) ?_
            refine At.take 10 (some 119) (.int .i64 (i : Int)) rfl rfl (by kernel_rfl) (by kernel_rfl) (by kernel_rfl) (by kernel_rfl) (fun _ _ _ h => h) (yl_pure (by kernel_rfl) (fun _ => by kernel_rfl)) ?_
            refine At.take 11 (some 120) (.int .i64 (b.f2 + 1 + (i : Int))) rfl rfl (by kernel_rfl) (by kernel_rfl) (by kernel_rfl) (by kernel_rfl) (fun _ _ _ h => h) (yl_is (.int .i64 (IntKind.i64.wrap (b.f2 + 1 + (i : Int)))) (by rw [HWR.out.2]) (by kernel_rfl) (fun _ => by kernel_rfl)) ?_
            refine At.take 12 (some 121) (.pointer (some ⟨w.heap.size + 1, 4, none⟩)) rfl rfl (by kernel_rfl) (by kernel_rfl) (by kernel_rfl) (by kernel_rfl) (fun _ _ _ h => h) (yl_pure (by kernel_rfl) (fun _ => by kernel_rfl)) ?_
            refine At.take 13 (some 122) (.slice (some ⟨bb, ob, none⟩) b.f4.length cb) rfl rfl (by kernel_rfl) (by kernel_rfl) (by kernel_rfl) (by kernel_rfl) (fun _ _ _ h => h) (yl_load 19 ⟨w.heap.size + 1, 4, none⟩ (.slice (some ⟨bb, ob, none⟩) b.f4.length cb) (List.mem_cons_of_mem _ (List.mem_cons_of_mem _ (List.mem_cons_of_mem _ (List.mem_cons_self)))) [15, 16, 17, 18, 19] (by kernel_rfl) rfl (by kernel_rfl) (fun _ => by kernel_rfl)) ?_
            refine At.take 14 (some 123) (.int .i64 (i : Int)) rfl rfl (by kernel_rfl) (by kernel_rfl) (by kernel_rfl) (by kernel_rfl) (fun _ _ _ h => h) (yl_pure (by kernel_rfl) (fun _ => by kernel_rfl)) ?_
            refine At.take 15 (some 124) (.pointer (some ⟨bb, ob + i * 2, none⟩)) rfl rfl (by kernel_rfl) (by kernel_rfl) (by kernel_rfl) (by kernel_rfl) (fun _ _ _ h => h) (yl_pure (by kernel_rfl) (fun w => by go_simp)) ?_
            refine At.take 16 (some 125) (.pointer (some ⟨bb, ob + i * 2 + 1, none⟩)) rfl rfl (by kernel_rfl) (by kernel_rfl) (by kernel_rfl) (by kernel_rfl) (fun _ _ _ h => h) (yl_pure (by kernel_rfl) (fun _ => by kernel_rfl)) ?_
            refine At.take 17 (some 126) (.string b.f4[i].f1) rfl rfl (by kernel_rfl) (by kernel_rfl) (by kernel_rfl) (by kernel_rfl) (fun _ _ _ h => h) (yl_load 19 ⟨bb, ob + i * 2 + 1, none⟩ (.string b.f4[i].f1) (List.mem_cons_of_mem _ (List.mem_cons_of_mem _ (List.mem_cons_of_mem _ (List.mem_cons_of_mem _ (List.mem_cons_self))))) [18, 19] (by kernel_rfl) rfl (by kernel_rfl) (fun _ => by kernel_rfl)) ?_
            refine At.take 18 (some 127) (.agg #[.int .i64 2, .int .i64 b.f4[i].f0, .int .i64 (b.f2 + 1 + (i : Int)), .int .i64 0, .string b.f4[i].f1]) rfl rfl (by kernel_rfl) (by kernel_rfl) (by kernel_rfl) (by kernel_rfl) (fun _ _ _ h => h) (yl_pure (by kernel_rfl) (fun _ => by kernel_rfl)) ?_
            refine At.step 19 (some 128) rfl rfl (by kernel_rfl) (by kernel_rfl) (fun u W => u = .slice (some ⟨wr.drew.heap.size, 0, none⟩) 1 1 ∧ W = wr.drew.alloc (.cells #[.int .i64 2, .int .i64 b.f4[i].f0, .int .i64 (b.f2 + 1 + (i : Int)), .int .i64 0, .string b.f4[i].f1] 44)) (gives_run (by kernel_rfl)) ?_
            rintro u WB ⟨rfl, hWB⟩
            refine ⟨by subst hWB; exact held_cons (.inl (by kernel_rfl)) (held_cons (.inl (by kernel_rfl)) (held_cons (.inl (by kernel_rfl)) (held_cons (.inl (by kernel_rfl)) (held_cons (.inl (by kernel_rfl)) (held_nil))))), ?_⟩
            have HOB : Hid (WB.ownsRow (w.heap.size + 2) 44 5 u6 L.length (rRec L)) := by rw [hWB]; exact (show wr.drew.ownsRow _ _ _ _ _ _ from HO.out).alloc _
            have HBB : Hid (Below (w.heap.size + 2) W0 WB) := by rw [hWB]; exact (HBr.out.drew).alloc (by have := HBr.out.size; have := HZ0.out; show _ ≤ wr.heap.size; omega) _
            obtain ⟨v', WC, hrunC, hownC, hgrowC, _⟩ := run_append_own (P := Try.prog) WB (w.heap.size + 2) 38 38 44 iR (.agg #[.int .i64 0, .int .i64 0, .int .i64 0, .int .i64 0, .string ⟨#[]⟩]) 5 48 Try.underlying38 hiR hR0 hR1 hR2 rfl (by decide) u6 L.length _ HOB.out ⟨wr.drew.heap.size, 0, none⟩ 1 1 [.int .i64 2, .int .i64 b.f4[i].f0, .int .i64 (b.f2 + 1 + (i : Int)), .int .i64 0, .string b.f4[i].f1] rfl (by rw [hWB]; exact cells_newW wr.drew _ _) (by intro u hu; simp only [List.mem_cons, List.not_mem_nil, or_false] at hu; rcases hu with rfl | rfl | rfl | rfl | rfl <;> rfl) (by have := HLL.out; unfold maxLen; omega) (by have := HLL.out; omega) (by have := HBB.out.size; have := HZ0.out; omega)
            refine At.step 20 (some 129) rfl rfl (by kernel_rfl) (by kernel_rfl) (fun u W => u = v' ∧ W = WC) (gives_append (fun _ => by kernel_rfl) hrunC) ?_
            rintro u WC' ⟨rfl, hWC⟩
            subst hWC
            refine ⟨held_cons (.inl (by kernel_rfl)) (held_cons (.inl (by kernel_rfl)) (held_cons (.inl (by kernel_rfl)) (held_cons (.inl (by kernel_rfl)) (held_cons (.inl (by kernel_rfl)) (held_nil))))), ?_⟩
            refine At.take 21 (some 6) (u) rfl rfl (by kernel_rfl) (by kernel_rfl) (by kernel_rfl) (by kernel_rfl) (fun _ _ _ h => h) (yl_pure (by kernel_rfl) (fun _ => by kernel_rfl)) ?_
            refine At.done (by kernel_rfl) ?_
            simp only [Act.put, List.setIfInBounds_toArray, List.set_cons_zero, List.set_cons_succ]
            have HOE : Hid _ := own_snocRec (r := ⟨2, b.f4[i].f0, b.f2 + 1 + i, 0, b.f4[i].f1⟩) hownC
            have HBE : Hid (Below (w.heap.size + 2) W0 WC') := HBB.out.grown hgrowC (by have := HBB.out.size; have := HZ0.out; omega) (ownBlock_ge HOB.out)
            clear hownC hgrowC hrunC HOB HBB hWB d0 d1 d2 d3 d4 e0 e1 e2 e3 e4 c0 c1 HWR
            go_wp2
            go_roundw
            case rel => exact ⟨i + 1, by omega, by omega, by go_num, by rw [HSU.out]; exact HOE.out, HBE.out⟩
            case measure => simp [intOf]; omega
          · have hie : i = b.f4.length := by omega
            subst hie
            go_wp2
            go_ret2
            exact ⟨_, rfl, own_lowW HO.out (by omega), HBw.out⟩
      have hA : decide ((k : Int) < (a.f4.length : Int)) = true := decide_eq_true (by omega)
      by_cases h2 : k < b.f4.length
      rotate_left
      · have hB : decide ((k : Int) < (b.f4.length : Int)) = false := decide_eq_false (by omega)
        have HE : Hid (k = al a.f4 b.f4) := al_stop hk (fun _ h => absurd h h2)
        go_upto_region 10 with fail
        refine wp_region_told (fun W => W = wr.drew) (by kernel_rfl) (by kernel_rfl) rfl ?_
        refine told_pure (some 60) (.int .i64 (k : Int)) rfl (by kernel_rfl) (fun _ => by kernel_rfl) ?_
        refine told_pure (some 61) (.pointer (some ⟨w.heap.size, 4, none⟩)) rfl (by kernel_rfl) (fun _ => by kernel_rfl) ?_
        refine told_load (some 62) ⟨w.heap.size, 4, none⟩ (.slice pa a.f4.length ca) rfl (by kernel_rfl) (fun _ => by kernel_rfl) (fun _ hS => (by subst hS; exact d4)) ?_
        refine told_pure (some 63) (.int .i64 a.f4.length) rfl (by kernel_rfl) (fun _ => by kernel_rfl) ?_
        refine told_is (some 64) (.bool (decide ((k : Int) < (a.f4.length : Int)))) (.bool true) (by rw [hA]) rfl (by kernel_rfl) (fun _ => by kernel_rfl) ?_
        refine told_pure (some 65) (.bool true) rfl (by kernel_rfl) (fun _ => by kernel_rfl) ?_
        refine told_pure (some 66) (.int .i64 (k : Int)) rfl (by kernel_rfl) (fun _ => by kernel_rfl) ?_
        refine told_pure (some 67) (.pointer (some ⟨w.heap.size + 1, 4, none⟩)) rfl (by kernel_rfl) (fun _ => by kernel_rfl) ?_
        refine told_load (some 68) ⟨w.heap.size + 1, 4, none⟩ (.slice pb b.f4.length cb) rfl (by kernel_rfl) (fun _ => by kernel_rfl) (fun _ hS => (by subst hS; exact e4)) ?_
        refine told_pure (some 69) (.int .i64 b.f4.length) rfl (by kernel_rfl) (fun _ => by kernel_rfl) ?_
        refine told_is (some 70) (.bool (decide ((k : Int) < (b.f4.length : Int)))) (.bool false) (by rw [hB]) rfl (by kernel_rfl) (fun _ => by kernel_rfl) ?_
        refine told_pure (some 71) (.bool false) rfl (by kernel_rfl) (fun _ => by kernel_rfl) ?_
        refine told_pure (some 72) (.bool false) rfl (by kernel_rfl) (fun _ => by kernel_rfl) ?_
        refine told_skip (some 73) rfl (by kernel_rfl) ?_
        refine told_skip (some 74) rfl (by kernel_rfl) ?_
        refine told_skip (some 75) rfl (by kernel_rfl) ?_
        refine told_skip (some 76) rfl (by kernel_rfl) ?_
        refine told_skip (some 77) rfl (by kernel_rfl) ?_
        refine told_skip (some 78) rfl (by kernel_rfl) ?_
        refine told_skip (some 79) rfl (by kernel_rfl) ?_
        refine told_skip (some 80) rfl (by kernel_rfl) ?_
        refine told_skip (some 81) rfl (by kernel_rfl) ?_
        refine told_skip (some 82) rfl (by kernel_rfl) ?_
        refine told_skip (some 83) rfl (by kernel_rfl) ?_
        refine told_pure (some 84) (.bool false) rfl (by kernel_rfl) (fun _ => by kernel_rfl) ?_
        refine told_nil ?_
        intro w9 hS9
        subst hS9
        simp only [Act.put, List.setIfInBounds_toArray, List.set_cons_zero, List.set_cons_succ]
        have HC1 : Hid (ch1 a b = ch0 a b ++ [ctR a k]) := by show _ = _; unfold ch1; rw [if_pos (by rw [← HE.out]; exact h1), ← HE.out]
        have hlt : (k : Int) < a.f4.length := by omega
        have HKE : Hid (k = al a.f4 b.f4) := HE.out
        have HO' : Hid (wr.drew.ownsRow (w.heap.size + 2) 44 5 u6 (ch0 a b).length (rRec (ch0 a b))) := HO.out
        have HQ' : Hid (Below (w.heap.size + 2) W0 wr.drew) := HBr.out.drew
        have hB2 := HA2.out
        have hN' : w.heap.size + 2 ≤ wr.drew.heap.size := by have := HQ'.out.size; have := HZ0.out; omega
        have hN2 : w.heap.size + 2 ≤ wr.heap.size := hN'
        have hL0 := ch0_len a b
        have wr1 : IntKind.i64.wrap (a.f2 + (k : Int)) = a.f2 + (k : Int) := IntWalk.i64_in _ (by omega)
        have wr2 : IntKind.i64.wrap (a.f2 + (k : Int) + 1) = a.f2 + (k : Int) + 1 := IntWalk.i64_in _ (by omega)
        clear h1 hk hA hB hal HE h2
        obtain ⟨iR, hiR, hR0, hR1, hR2⟩ := info_parts infoRec
        go_wp2_with (at_builtin; refine wpList_append_own _ rfl _ _ 38 rfl (w.heap.size + 2) 44 iR (.agg #[.int .i64 0, .int .i64 0, .int .i64 0, .int .i64 0, .string ⟨#[]⟩]) 5 48 Try.underlying38 hiR hR0 hR1 hR2 rfl (by decide) _ _ _ rfl (HO'.out.alloc _) ⟨wr.drew.heap.size, 0, none⟩ 1 1 [.int .i64 3, .int .i64 0, .int .i64 (a.f2 + (k : Int) + 1), .int .i64 0, .string ⟨#[]⟩] rfl rfl (cells_newW wr.drew _ _) (by intro u hu; simp only [List.mem_cons, List.not_mem_nil, or_false] at hu; rcases hu with rfl | rfl | rfl | rfl | rfl <;> rfl) (by unfold maxLen; omega) (by omega) (by simp; omega) ?_)
        intro v6 w6 hown6 hgr6 _
        have HOC : Hid (w6.ownsRow (w.heap.size + 2) 44 5 v6 (ch1 a b).length (rRec (ch1 a b))) := by rw [HC1.out]; exact own_snocRec (r := ctR a k) hown6
        have HQC : Hid (Below (w.heap.size + 2) W0 w6) := (HQ'.out.alloc (by omega) _).grown hgr6 (by simp; omega) (ownBlock_ge HO'.out)
        clear hown6 hgr6 hlt hB2 hN' hN2 hL0 wr1 wr2 HO' HQ' HC1
        clear d0 d1 d2 d3 d4 e0 e1 e2 e3 e4
        go_wp2_with fail
        rw [HKE.out]
        clear HKE
        go_loopw [6, 9] (fun ov iv wr => ∃ i : Nat, al a.f4 b.f4 ≤ i ∧ i ≤ b.f4.length ∧ iv = .int .i64 (i : Int) ∧ Hid (wr.ownsRow (w.heap.size + 2) 44 5 ov (chP a b (i - al a.f4 b.f4)).length (rRec (chP a b (i - al a.f4 b.f4)))) ∧ Hid (Below (w.heap.size + 2) W0 wr)) (fun _ iv _ => b.f4.length - (intOf iv).toNat)
        case atStart => exact ⟨al a.f4 b.f4, Nat.le_refl _, (al_le _ _).2, rfl, by rw [Nat.sub_self, chP_zero]; exact HOC.out, HQC.out⟩
        case round =>
          obtain ⟨i, hai, hi, rfl, HO, HBr⟩ := hrel
          have HBw : Hid (Below w.heap.size w wr) := HB0.out.trans (HBr.out.mono (by omega))
          obtain ⟨⟨d0, d1, d2, d3, d4⟩, ⟨e0, e1, e2, e3, e4⟩⟩ := HX.out wr HBr.out
          have HLL : Hid ((chP a b (i - al a.f4 b.f4)).length ≤ 1048600) := by show _ ≤ _; have := chP_len a b (i - al a.f4 b.f4); omega
          by_cases hlt : i < b.f4.length
          · have hlt' : (i : Int) < b.f4.length := by omega
            have HSU : Hid (chP a b (i + 1 - al a.f4 b.f4) = chP a b (i - al a.f4 b.f4) ++ [⟨2, b.f4[i].f0, b.f2 + 1 + i, 0, b.f4[i].f1⟩]) := by
              show _ = _
              rw [show i + 1 - al a.f4 b.f4 = (i - al a.f4 b.f4) + 1 by omega, chP_succ, show al a.f4 b.f4 + (i - al a.f4 b.f4) = i by omega, en_at hlt]
            generalize chP a b (i - al a.f4 b.f4) = L at HO HLL HSU
            obtain ⟨bb, ob, cb', hv, hbb, hcb⟩ := HRB.out.some (by omega) (by decide)
            simp only [Value.slice.injEq, true_and] at hv
            first
              | (obtain ⟨rfl, rfl⟩ := hv)
              | (simp only [Option.some.injEq, Addr.mk.injEq, and_true] at hv; obtain ⟨⟨e1, e2⟩, rfl⟩ := hv; replace e1 := e1.symm; replace e2 := e2.symm; subst e1; subst e2)
            have c0 : wr.cell? ⟨bb, ob + i * 2, none⟩ = some (.int .i64 (b.f4[i]).f0) := by rw [HBw.out.cell (by exact hbb), hcb (i * 2) (by omega)]; exact flat_at cEntry 2 cEntry_len b.f4 i 0 hlt (by decide)
            have c1 : wr.cell? ⟨bb, ob + i * 2 + 1, none⟩ = some (.string (b.f4[i]).f1) := by rw [HBw.out.cell (by exact hbb), Nat.add_assoc, hcb (i * 2 + 1) (by omega)]; exact flat_at cEntry 2 cEntry_len b.f4 i 1 hlt (by decide)
            have HWR : Hid (IntKind.i64.wrap (b.f2 + 1) = b.f2 + 1 ∧ IntKind.i64.wrap (b.f2 + 1 + (i : Int)) = b.f2 + 1 + (i : Int)) := ⟨IntWalk.i64_in _ (by have := HB2.out; omega), IntWalk.i64_in _ (by have := HB2.out; omega)⟩
            clear hcb
            go_upto_region 17 with fail
            refine wp_region_L [⟨19, fun W => W.cell? ⟨w.heap.size + 1, 4, none⟩ = some (.slice (some ⟨bb, ob, none⟩) b.f4.length cb)⟩, ⟨19, fun W => W.cell? ⟨bb, ob + i * 2, none⟩ = some (.int .i64 b.f4[i].f0)⟩, ⟨19, fun W => W.cell? ⟨w.heap.size + 1, 2, none⟩ = some (.int .i64 b.f2)⟩, ⟨19, fun W => W.cell? ⟨w.heap.size + 1, 4, none⟩ = some (.slice (some ⟨bb, ob, none⟩) b.f4.length cb)⟩, ⟨19, fun W => W.cell? ⟨bb, ob + i * 2 + 1, none⟩ = some (.string b.f4[i].f1)⟩] (by kernel_rfl) (fun f hf => by
                simp only [List.mem_cons, List.not_mem_nil, or_false] at hf
                rcases hf with rfl | rfl | rfl | rfl | rfl
                · exact e4
                · exact c0
                · exact e2
                · exact e4
                · exact c1
                ) ?_
            refine At.take 0 (some 109) (u6) rfl rfl (by kernel_rfl) (by kernel_rfl) (by kernel_rfl) (by kernel_rfl) (fun _ _ _ h => h) (yl_pure (by kernel_rfl) (fun _ => by kernel_rfl)) ?_
            refine At.take 1 (some 110) (.pointer (some ⟨w.heap.size + 1, 4, none⟩)) rfl rfl (by kernel_rfl) (by kernel_rfl) (by kernel_rfl) (by kernel_rfl) (fun _ _ _ h => h) (yl_pure (by kernel_rfl) (fun _ => by kernel_rfl)) ?_
            refine At.take 2 (some 111) (.slice (some ⟨bb, ob, none⟩) b.f4.length cb) rfl rfl (by kernel_rfl) (by kernel_rfl) (by kernel_rfl) (by kernel_rfl) (fun _ _ _ h => h) (yl_load 19 ⟨w.heap.size + 1, 4, none⟩ (.slice (some ⟨bb, ob, none⟩) b.f4.length cb) (List.mem_cons_self) [4, 5, 6, 18, 19] (by kernel_rfl) rfl (by kernel_rfl) (fun _ => by kernel_rfl)) ?_
            refine At.take 3 (some 112) (.int .i64 (i : Int)) rfl rfl (by kernel_rfl) (by kernel_rfl) (by kernel_rfl) (by kernel_rfl) (fun _ _ _ h => h) (yl_pure (by kernel_rfl) (fun _ => by kernel_rfl)) ?_
            refine At.take 4 (some 113) (.pointer (some ⟨bb, ob + i * 2, none⟩)) rfl rfl (by kernel_rfl) (by kernel_rfl) (by kernel_rfl) (by kernel_rfl) (fun _ _ _ h => h) (yl_pure (by kernel_rfl) (fun w => by go_simp)) ?_
            refine At.take 5 (some 114) (.pointer (some ⟨bb, ob + i * 2, none⟩)) rfl rfl (by kernel_rfl) (by kernel_rfl) (by kernel_rfl) (by kernel_rfl) (fun _ _ _ h => h) (yl_pure (by kernel_rfl) (fun _ => by kernel_rfl)) ?_
            refine At.take 6 (some 115) (.int .i64 b.f4[i].f0) rfl rfl (by kernel_rfl) (by kernel_rfl) (by kernel_rfl) (by kernel_rfl) (fun _ _ _ h => h) (yl_load 19 ⟨bb, ob + i * 2, none⟩ (.int .i64 b.f4[i].f0) (List.mem_cons_of_mem _ (List.mem_cons_self)) [18, 19] (by kernel_rfl) rfl (by kernel_rfl) (fun _ => by kernel_rfl)) ?_
            refine At.take 7 (some 116) (.pointer (some ⟨w.heap.size + 1, 2, none⟩)) rfl rfl (by kernel_rfl) (by kernel_rfl) (by kernel_rfl) (by kernel_rfl) (fun _ _ _ h => h) (yl_pure (by kernel_rfl) (fun _ => by kernel_rfl)) ?_
            refine At.take 8 (some 117) (.int .i64 b.f2) rfl rfl (by kernel_rfl) (by kernel_rfl) (by kernel_rfl) (by kernel_rfl) (fun _ _ _ h => h) (yl_load 19 ⟨w.heap.size + 1, 2, none⟩ (.int .i64 b.f2) (List.mem_cons_of_mem _ (List.mem_cons_of_mem _ (List.mem_cons_self))) [9, 11, 18, 19] (by kernel_rfl) rfl (by kernel_rfl) (fun _ => by kernel_rfl)) ?_
            refine At.take 9 (some 118) (.int .i64 (b.f2 + 1)) rfl rfl (by kernel_rfl) (by kernel_rfl) (by kernel_rfl) (by kernel_rfl) (fun _ _ _ h => h) (yl_is (.int .i64 (IntKind.i64.wrap (b.f2 + 1))) (by rw [HWR.out.1]) (by kernel_rfl) (fun _ => by kernel_rfl)) ?_
            refine At.take 10 (some 119) (.int .i64 (i : Int)) rfl rfl (by kernel_rfl) (by kernel_rfl) (by kernel_rfl) (by kernel_rfl) (fun _ _ _ h => h) (yl_pure (by kernel_rfl) (fun _ => by kernel_rfl)) ?_
            refine At.take 11 (some 120) (.int .i64 (b.f2 + 1 + (i : Int))) rfl rfl (by kernel_rfl) (by kernel_rfl) (by kernel_rfl) (by kernel_rfl) (fun _ _ _ h => h) (yl_is (.int .i64 (IntKind.i64.wrap (b.f2 + 1 + (i : Int)))) (by rw [HWR.out.2]) (by kernel_rfl) (fun _ => by kernel_rfl)) ?_
            refine At.take 12 (some 121) (.pointer (some ⟨w.heap.size + 1, 4, none⟩)) rfl rfl (by kernel_rfl) (by kernel_rfl) (by kernel_rfl) (by kernel_rfl) (fun _ _ _ h => h) (yl_pure (by kernel_rfl) (fun _ => by kernel_rfl)) ?_
            refine At.take 13 (some 122) (.slice (some ⟨bb, ob, none⟩) b.f4.length cb) rfl rfl (by kernel_rfl) (by kernel_rfl) (by kernel_rfl) (by kernel_rfl) (fun _ _ _ h => h) (yl_load 19 ⟨w.heap.size + 1, 4, none⟩ (.slice (some ⟨bb, ob, none⟩) b.f4.length cb) (List.mem_cons_of_mem _ (List.mem_cons_of_mem _ (List.mem_cons_of_mem _ (List.mem_cons_self)))) [15, 16, 17, 18, 19] (by kernel_rfl) rfl (by kernel_rfl) (fun _ => by kernel_rfl)) ?_
            refine At.take 14 (some 123) (.int .i64 (i : Int)) rfl rfl (by kernel_rfl) (by kernel_rfl) (by kernel_rfl) (by kernel_rfl) (fun _ _ _ h => h) (yl_pure (by kernel_rfl) (fun _ => by kernel_rfl)) ?_
            refine At.take 15 (some 124) (.pointer (some ⟨bb, ob + i * 2, none⟩)) rfl rfl (by kernel_rfl) (by kernel_rfl) (by kernel_rfl) (by kernel_rfl) (fun _ _ _ h => h) (yl_pure (by kernel_rfl) (fun w => by go_simp)) ?_
            refine At.take 16 (some 125) (.pointer (some ⟨bb, ob + i * 2 + 1, none⟩)) rfl rfl (by kernel_rfl) (by kernel_rfl) (by kernel_rfl) (by kernel_rfl) (fun _ _ _ h => h) (yl_pure (by kernel_rfl) (fun _ => by kernel_rfl)) ?_
            refine At.take 17 (some 126) (.string b.f4[i].f1) rfl rfl (by kernel_rfl) (by kernel_rfl) (by kernel_rfl) (by kernel_rfl) (fun _ _ _ h => h) (yl_load 19 ⟨bb, ob + i * 2 + 1, none⟩ (.string b.f4[i].f1) (List.mem_cons_of_mem _ (List.mem_cons_of_mem _ (List.mem_cons_of_mem _ (List.mem_cons_of_mem _ (List.mem_cons_self))))) [18, 19] (by kernel_rfl) rfl (by kernel_rfl) (fun _ => by kernel_rfl)) ?_
            refine At.take 18 (some 127) (.agg #[.int .i64 2, .int .i64 b.f4[i].f0, .int .i64 (b.f2 + 1 + (i : Int)), .int .i64 0, .string b.f4[i].f1]) rfl rfl (by kernel_rfl) (by kernel_rfl) (by kernel_rfl) (by kernel_rfl) (fun _ _ _ h => h) (yl_pure (by kernel_rfl) (fun _ => by kernel_rfl)) ?_
            refine At.step 19 (some 128) rfl rfl (by kernel_rfl) (by kernel_rfl) (fun u W => u = .slice (some ⟨wr.drew.heap.size, 0, none⟩) 1 1 ∧ W = wr.drew.alloc (.cells #[.int .i64 2, .int .i64 b.f4[i].f0, .int .i64 (b.f2 + 1 + (i : Int)), .int .i64 0, .string b.f4[i].f1] 44)) (gives_run (by kernel_rfl)) ?_
            rintro u WB ⟨rfl, hWB⟩
            refine ⟨by subst hWB; exact held_cons (.inl (by kernel_rfl)) (held_cons (.inl (by kernel_rfl)) (held_cons (.inl (by kernel_rfl)) (held_cons (.inl (by kernel_rfl)) (held_cons (.inl (by kernel_rfl)) (held_nil))))), ?_⟩
            have HOB : Hid (WB.ownsRow (w.heap.size + 2) 44 5 u6 L.length (rRec L)) := by rw [hWB]; exact (show wr.drew.ownsRow _ _ _ _ _ _ from HO.out).alloc _
            have HBB : Hid (Below (w.heap.size + 2) W0 WB) := by rw [hWB]; exact (HBr.out.drew).alloc (by have := HBr.out.size; have := HZ0.out; show _ ≤ wr.heap.size; omega) _
            obtain ⟨v', WC, hrunC, hownC, hgrowC, _⟩ := run_append_own (P := Try.prog) WB (w.heap.size + 2) 38 38 44 iR (.agg #[.int .i64 0, .int .i64 0, .int .i64 0, .int .i64 0, .string ⟨#[]⟩]) 5 48 Try.underlying38 hiR hR0 hR1 hR2 rfl (by decide) u6 L.length _ HOB.out ⟨wr.drew.heap.size, 0, none⟩ 1 1 [.int .i64 2, .int .i64 b.f4[i].f0, .int .i64 (b.f2 + 1 + (i : Int)), .int .i64 0, .string b.f4[i].f1] rfl (by rw [hWB]; exact cells_newW wr.drew _ _) (by intro u hu; simp only [List.mem_cons, List.not_mem_nil, or_false] at hu; rcases hu with rfl | rfl | rfl | rfl | rfl <;> rfl) (by have := HLL.out; unfold maxLen; omega) (by have := HLL.out; omega) (by have := HBB.out.size; have := HZ0.out; omega)
            refine At.step 20 (some 129) rfl rfl (by kernel_rfl) (by kernel_rfl) (fun u W => u = v' ∧ W = WC) (gives_append (fun _ => by kernel_rfl) hrunC) ?_
            rintro u WC' ⟨rfl, hWC⟩
            subst hWC
            refine ⟨held_cons (.inl (by kernel_rfl)) (held_cons (.inl (by kernel_rfl)) (held_cons (.inl (by kernel_rfl)) (held_cons (.inl (by kernel_rfl)) (held_cons (.inl (by kernel_rfl)) (held_nil))))), ?_⟩
            refine At.take 21 (some 6) (u) rfl rfl (by kernel_rfl) (by kernel_rfl) (by kernel_rfl) (by kernel_rfl) (fun _ _ _ h => h) (yl_pure (by kernel_rfl) (fun _ => by kernel_rfl)) ?_
            refine At.done (by kernel_rfl) ?_
            simp only [Act.put, List.setIfInBounds_toArray, List.set_cons_zero, List.set_cons_succ]
            have HOE : Hid _ := own_snocRec (r := ⟨2, b.f4[i].f0, b.f2 + 1 + i, 0, b.f4[i].f1⟩) hownC
            have HBE : Hid (Below (w.heap.size + 2) W0 WC') := HBB.out.grown hgrowC (by have := HBB.out.size; have := HZ0.out; omega) (ownBlock_ge HOB.out)
            clear hownC hgrowC hrunC HOB HBB hWB d0 d1 d2 d3 d4 e0 e1 e2 e3 e4 c0 c1 HWR
            go_wp2
            go_roundw
            case rel => exact ⟨i + 1, by omega, by omega, by go_num, by rw [HSU.out]; exact HOE.out, HBE.out⟩
            case measure => simp [intOf]; omega
          · have hie : i = b.f4.length := by omega
            subst hie
            go_wp2
            go_ret2
            exact ⟨_, rfl, own_lowW HO.out (by omega), HBw.out⟩
      have hB : decide ((k : Int) < (b.f4.length : Int)) = true := decide_eq_true (by omega)
      obtain ⟨ba, oa, ca', hv, hba, hca⟩ := HRA.out.some (by omega) (by decide)
      simp only [Value.slice.injEq, true_and] at hv
      obtain ⟨rfl, rfl⟩ := hv
      obtain ⟨bb, ob, cb', hv, hbb, hcb⟩ := HRB.out.some (by omega) (by decide)
      simp only [Value.slice.injEq, true_and] at hv
      obtain ⟨rfl, rfl⟩ := hv
      have c0 : wr.cell? ⟨ba, oa + k * 2, none⟩ = some (.int .i64 (a.f4[k]).f0) := by rw [HBw.out.cell (by exact hba), hca (k * 2) (by omega)]; exact flat_at cEntry 2 cEntry_len a.f4 k 0 h1 (by decide)
      have c1 : wr.cell? ⟨ba, oa + k * 2 + 1, none⟩ = some (.string (a.f4[k]).f1) := by rw [HBw.out.cell (by exact hba), Nat.add_assoc, hca (k * 2 + 1) (by omega)]; exact flat_at cEntry 2 cEntry_len a.f4 k 1 h1 (by decide)
      have g0 : wr.cell? ⟨bb, ob + k * 2, none⟩ = some (.int .i64 (b.f4[k]).f0) := by rw [HBw.out.cell (by exact hbb), hcb (k * 2) (by omega)]; exact flat_at cEntry 2 cEntry_len b.f4 k 0 h2 (by decide)
      have g1 : wr.cell? ⟨bb, ob + k * 2 + 1, none⟩ = some (.string (b.f4[k]).f1) := by rw [HBw.out.cell (by exact hbb), Nat.add_assoc, hcb (k * 2 + 1) (by omega)]; exact flat_at cEntry 2 cEntry_len b.f4 k 1 h2 (by decide)
      clear hca hcb
      have heq := fun W => eqEE a.f4[k] b.f4[k] W
      by_cases he : eqE a.f4[k] b.f4[k]
      · have HE : Hid (k + 1 ≤ al a.f4 b.f4) := al_step hk h1 h2 he
        rw [decide_eq_true he] at heq
        generalize a.f4[k] = X at c0 c1 heq
        generalize b.f4[k] = Y at g0 g1 heq
        clear he hk
        go_upto_region 10 with fail
        refine wp_region_told (fun W => W = wr.drew) (by kernel_rfl) (by kernel_rfl) rfl ?_
        refine told_pure (some 60) (.int .i64 (k : Int)) rfl (by kernel_rfl) (fun _ => by kernel_rfl) ?_
        refine told_pure (some 61) (.pointer (some ⟨w.heap.size, 4, none⟩)) rfl (by kernel_rfl) (fun _ => by kernel_rfl) ?_
        refine told_load (some 62) ⟨w.heap.size, 4, none⟩ (.slice (some ⟨ba, oa, none⟩) a.f4.length ca) rfl (by kernel_rfl) (fun _ => by kernel_rfl) (fun _ hS => (by subst hS; exact d4)) ?_
        refine told_pure (some 63) (.int .i64 a.f4.length) rfl (by kernel_rfl) (fun _ => by kernel_rfl) ?_
        refine told_is (some 64) (.bool (decide ((k : Int) < (a.f4.length : Int)))) (.bool true) (by rw [hA]) rfl (by kernel_rfl) (fun _ => by kernel_rfl) ?_
        refine told_pure (some 65) (.bool true) rfl (by kernel_rfl) (fun _ => by kernel_rfl) ?_
        refine told_pure (some 66) (.int .i64 (k : Int)) rfl (by kernel_rfl) (fun _ => by kernel_rfl) ?_
        refine told_pure (some 67) (.pointer (some ⟨w.heap.size + 1, 4, none⟩)) rfl (by kernel_rfl) (fun _ => by kernel_rfl) ?_
        refine told_load (some 68) ⟨w.heap.size + 1, 4, none⟩ (.slice (some ⟨bb, ob, none⟩) b.f4.length cb) rfl (by kernel_rfl) (fun _ => by kernel_rfl) (fun _ hS => (by subst hS; exact e4)) ?_
        refine told_pure (some 69) (.int .i64 b.f4.length) rfl (by kernel_rfl) (fun _ => by kernel_rfl) ?_
        refine told_is (some 70) (.bool (decide ((k : Int) < (b.f4.length : Int)))) (.bool true) (by rw [hB]) rfl (by kernel_rfl) (fun _ => by kernel_rfl) ?_
        refine told_pure (some 71) (.bool true) rfl (by kernel_rfl) (fun _ => by kernel_rfl) ?_
        refine told_pure (some 72) (.bool true) rfl (by kernel_rfl) (fun _ => by kernel_rfl) ?_
        refine told_pure (some 73) (.pointer (some ⟨w.heap.size, 4, none⟩)) rfl (by kernel_rfl) (fun _ => by kernel_rfl) ?_
        refine told_load (some 74) ⟨w.heap.size, 4, none⟩ (.slice (some ⟨ba, oa, none⟩) a.f4.length ca) rfl (by kernel_rfl) (fun _ => by kernel_rfl) (fun _ hS => (by subst hS; exact d4)) ?_
        refine told_pure (some 75) (.int .i64 (k : Int)) rfl (by kernel_rfl) (fun _ => by kernel_rfl) ?_
        refine told_pure (some 76) (.pointer (some ⟨ba, oa + k * 2, none⟩)) rfl (by kernel_rfl) (fun w => by go_simp) ?_
        refine told_loads (some 77) ⟨ba, oa + k * 2, none⟩ [.int .i64 X.f0, .string X.f1] rfl (by kernel_rfl) (fun _ => by kernel_rfl) (fun W hS => by subst hS; exact cells2W c0 c1) ?_
        refine told_pure (some 78) (.pointer (some ⟨w.heap.size + 1, 4, none⟩)) rfl (by kernel_rfl) (fun _ => by kernel_rfl) ?_
        refine told_load (some 79) ⟨w.heap.size + 1, 4, none⟩ (.slice (some ⟨bb, ob, none⟩) b.f4.length cb) rfl (by kernel_rfl) (fun _ => by kernel_rfl) (fun _ hS => (by subst hS; exact e4)) ?_
        refine told_pure (some 80) (.int .i64 (k : Int)) rfl (by kernel_rfl) (fun _ => by kernel_rfl) ?_
        refine told_pure (some 81) (.pointer (some ⟨bb, ob + k * 2, none⟩)) rfl (by kernel_rfl) (fun w => by go_simp) ?_
        refine told_loads (some 82) ⟨bb, ob + k * 2, none⟩ [.int .i64 Y.f0, .string Y.f1] rfl (by kernel_rfl) (fun _ => by kernel_rfl) (fun W hS => by subst hS; exact cells2W g0 g1) ?_
        refine told_run (some 83) (.bool true) (binOp .eql 66 (.agg #[.int .i64 X.f0, .string X.f1]) (.agg #[.int .i64 Y.f0, .string Y.f1])) rfl (by kernel_rfl) (fun _ => by kernel_rfl) (fun W _ => heq W) ?_
        refine told_pure (some 84) (.bool true) rfl (by kernel_rfl) (fun _ => by kernel_rfl) ?_
        refine told_nil ?_
        intro w9 hS9
        subst hS9
        simp only [Act.put, List.setIfInBounds_toArray, List.set_cons_zero, List.set_cons_succ]
        go_wp2
        go_roundw
        case rel => exact ⟨k + 1, HE.out, by go_num, HO.out, HBr.out.drew⟩
        case measure => simp [intOf]; omega
      · have HE : Hid (k = al a.f4 b.f4) := al_stop hk (fun _ _ => he)
        rw [decide_eq_false he] at heq
        generalize a.f4[k] = X at c0 c1 heq
        generalize b.f4[k] = Y at g0 g1 heq
        clear he
        go_upto_region 10 with fail
        refine wp_region_told (fun W => W = wr.drew) (by kernel_rfl) (by kernel_rfl) rfl ?_
        refine told_pure (some 60) (.int .i64 (k : Int)) rfl (by kernel_rfl) (fun _ => by kernel_rfl) ?_
        refine told_pure (some 61) (.pointer (some ⟨w.heap.size, 4, none⟩)) rfl (by kernel_rfl) (fun _ => by kernel_rfl) ?_
        refine told_load (some 62) ⟨w.heap.size, 4, none⟩ (.slice (some ⟨ba, oa, none⟩) a.f4.length ca) rfl (by kernel_rfl) (fun _ => by kernel_rfl) (fun _ hS => (by subst hS; exact d4)) ?_
        refine told_pure (some 63) (.int .i64 a.f4.length) rfl (by kernel_rfl) (fun _ => by kernel_rfl) ?_
        refine told_is (some 64) (.bool (decide ((k : Int) < (a.f4.length : Int)))) (.bool true) (by rw [hA]) rfl (by kernel_rfl) (fun _ => by kernel_rfl) ?_
        refine told_pure (some 65) (.bool true) rfl (by kernel_rfl) (fun _ => by kernel_rfl) ?_
        refine told_pure (some 66) (.int .i64 (k : Int)) rfl (by kernel_rfl) (fun _ => by kernel_rfl) ?_
        refine told_pure (some 67) (.pointer (some ⟨w.heap.size + 1, 4, none⟩)) rfl (by kernel_rfl) (fun _ => by kernel_rfl) ?_
        refine told_load (some 68) ⟨w.heap.size + 1, 4, none⟩ (.slice (some ⟨bb, ob, none⟩) b.f4.length cb) rfl (by kernel_rfl) (fun _ => by kernel_rfl) (fun _ hS => (by subst hS; exact e4)) ?_
        refine told_pure (some 69) (.int .i64 b.f4.length) rfl (by kernel_rfl) (fun _ => by kernel_rfl) ?_
        refine told_is (some 70) (.bool (decide ((k : Int) < (b.f4.length : Int)))) (.bool true) (by rw [hB]) rfl (by kernel_rfl) (fun _ => by kernel_rfl) ?_
        refine told_pure (some 71) (.bool true) rfl (by kernel_rfl) (fun _ => by kernel_rfl) ?_
        refine told_pure (some 72) (.bool true) rfl (by kernel_rfl) (fun _ => by kernel_rfl) ?_
        refine told_pure (some 73) (.pointer (some ⟨w.heap.size, 4, none⟩)) rfl (by kernel_rfl) (fun _ => by kernel_rfl) ?_
        refine told_load (some 74) ⟨w.heap.size, 4, none⟩ (.slice (some ⟨ba, oa, none⟩) a.f4.length ca) rfl (by kernel_rfl) (fun _ => by kernel_rfl) (fun _ hS => (by subst hS; exact d4)) ?_
        refine told_pure (some 75) (.int .i64 (k : Int)) rfl (by kernel_rfl) (fun _ => by kernel_rfl) ?_
        refine told_pure (some 76) (.pointer (some ⟨ba, oa + k * 2, none⟩)) rfl (by kernel_rfl) (fun w => by go_simp) ?_
        refine told_loads (some 77) ⟨ba, oa + k * 2, none⟩ [.int .i64 X.f0, .string X.f1] rfl (by kernel_rfl) (fun _ => by kernel_rfl) (fun W hS => by subst hS; exact cells2W c0 c1) ?_
        refine told_pure (some 78) (.pointer (some ⟨w.heap.size + 1, 4, none⟩)) rfl (by kernel_rfl) (fun _ => by kernel_rfl) ?_
        refine told_load (some 79) ⟨w.heap.size + 1, 4, none⟩ (.slice (some ⟨bb, ob, none⟩) b.f4.length cb) rfl (by kernel_rfl) (fun _ => by kernel_rfl) (fun _ hS => (by subst hS; exact e4)) ?_
        refine told_pure (some 80) (.int .i64 (k : Int)) rfl (by kernel_rfl) (fun _ => by kernel_rfl) ?_
        refine told_pure (some 81) (.pointer (some ⟨bb, ob + k * 2, none⟩)) rfl (by kernel_rfl) (fun w => by go_simp) ?_
        refine told_loads (some 82) ⟨bb, ob + k * 2, none⟩ [.int .i64 Y.f0, .string Y.f1] rfl (by kernel_rfl) (fun _ => by kernel_rfl) (fun W hS => by subst hS; exact cells2W g0 g1) ?_
        refine told_run (some 83) (.bool false) (binOp .eql 66 (.agg #[.int .i64 X.f0, .string X.f1]) (.agg #[.int .i64 Y.f0, .string Y.f1])) rfl (by kernel_rfl) (fun _ => by kernel_rfl) (fun W _ => heq W) ?_
        refine told_pure (some 84) (.bool false) rfl (by kernel_rfl) (fun _ => by kernel_rfl) ?_
        refine told_nil ?_
        intro w9 hS9
        subst hS9
        simp only [Act.put, List.setIfInBounds_toArray, List.set_cons_zero, List.set_cons_succ]
        have HC1 : Hid (ch1 a b = ch0 a b ++ [ctR a k]) := by show _ = _; unfold ch1; rw [if_pos (by rw [← HE.out]; exact h1), ← HE.out]
        have hlt : (k : Int) < a.f4.length := by omega
        have HKE : Hid (k = al a.f4 b.f4) := HE.out
        have HO' : Hid (wr.drew.ownsRow (w.heap.size + 2) 44 5 u6 (ch0 a b).length (rRec (ch0 a b))) := HO.out
        have HQ' : Hid (Below (w.heap.size + 2) W0 wr.drew) := HBr.out.drew
        have hB2 := HA2.out
        have hN' : w.heap.size + 2 ≤ wr.drew.heap.size := by have := HQ'.out.size; have := HZ0.out; omega
        have hN2 : w.heap.size + 2 ≤ wr.heap.size := hN'
        have hL0 := ch0_len a b
        have wr1 : IntKind.i64.wrap (a.f2 + (k : Int)) = a.f2 + (k : Int) := IntWalk.i64_in _ (by omega)
        have wr2 : IntKind.i64.wrap (a.f2 + (k : Int) + 1) = a.f2 + (k : Int) + 1 := IntWalk.i64_in _ (by omega)
        clear h1 hk hA hB hal HE h2 heq c0 c1 g0 g1
        obtain ⟨iR, hiR, hR0, hR1, hR2⟩ := info_parts infoRec
        go_wp2_with (at_builtin; refine wpList_append_own _ rfl _ _ 38 rfl (w.heap.size + 2) 44 iR (.agg #[.int .i64 0, .int .i64 0, .int .i64 0, .int .i64 0, .string ⟨#[]⟩]) 5 48 Try.underlying38 hiR hR0 hR1 hR2 rfl (by decide) _ _ _ rfl (HO'.out.alloc _) ⟨wr.drew.heap.size, 0, none⟩ 1 1 [.int .i64 3, .int .i64 0, .int .i64 (a.f2 + (k : Int) + 1), .int .i64 0, .string ⟨#[]⟩] rfl rfl (cells_newW wr.drew _ _) (by intro u hu; simp only [List.mem_cons, List.not_mem_nil, or_false] at hu; rcases hu with rfl | rfl | rfl | rfl | rfl <;> rfl) (by unfold maxLen; omega) (by omega) (by simp; omega) ?_)
        intro v6 w6 hown6 hgr6 _
        have HOC : Hid (w6.ownsRow (w.heap.size + 2) 44 5 v6 (ch1 a b).length (rRec (ch1 a b))) := by rw [HC1.out]; exact own_snocRec (r := ctR a k) hown6
        have HQC : Hid (Below (w.heap.size + 2) W0 w6) := (HQ'.out.alloc (by omega) _).grown hgr6 (by simp; omega) (ownBlock_ge HO'.out)
        clear hown6 hgr6 hlt hB2 hN' hN2 hL0 wr1 wr2 HO' HQ' HC1
        clear d0 d1 d2 d3 d4 e0 e1 e2 e3 e4
        go_wp2_with fail
        rw [HKE.out]
        clear HKE
        go_loopw [6, 9] (fun ov iv wr => ∃ i : Nat, al a.f4 b.f4 ≤ i ∧ i ≤ b.f4.length ∧ iv = .int .i64 (i : Int) ∧ Hid (wr.ownsRow (w.heap.size + 2) 44 5 ov (chP a b (i - al a.f4 b.f4)).length (rRec (chP a b (i - al a.f4 b.f4)))) ∧ Hid (Below (w.heap.size + 2) W0 wr)) (fun _ iv _ => b.f4.length - (intOf iv).toNat)
        case atStart => exact ⟨al a.f4 b.f4, Nat.le_refl _, (al_le _ _).2, rfl, by rw [Nat.sub_self, chP_zero]; exact HOC.out, HQC.out⟩
        case round =>
          obtain ⟨i, hai, hi, rfl, HO, HBr⟩ := hrel
          have HBw : Hid (Below w.heap.size w wr) := HB0.out.trans (HBr.out.mono (by omega))
          obtain ⟨⟨d0, d1, d2, d3, d4⟩, ⟨e0, e1, e2, e3, e4⟩⟩ := HX.out wr HBr.out
          have HLL : Hid ((chP a b (i - al a.f4 b.f4)).length ≤ 1048600) := by show _ ≤ _; have := chP_len a b (i - al a.f4 b.f4); omega
          by_cases hlt : i < b.f4.length
          · have hlt' : (i : Int) < b.f4.length := by omega
            have HSU : Hid (chP a b (i + 1 - al a.f4 b.f4) = chP a b (i - al a.f4 b.f4) ++ [⟨2, b.f4[i].f0, b.f2 + 1 + i, 0, b.f4[i].f1⟩]) := by
              show _ = _
              rw [show i + 1 - al a.f4 b.f4 = (i - al a.f4 b.f4) + 1 by omega, chP_succ, show al a.f4 b.f4 + (i - al a.f4 b.f4) = i by omega, en_at hlt]
            generalize chP a b (i - al a.f4 b.f4) = L at HO HLL HSU
            obtain ⟨bb, ob, cb', hv, hbb, hcb⟩ := HRB.out.some (by omega) (by decide)
            simp only [Value.slice.injEq, true_and] at hv
            first
              | (obtain ⟨rfl, rfl⟩ := hv)
              | (simp only [Option.some.injEq, Addr.mk.injEq, and_true] at hv; obtain ⟨⟨e1, e2⟩, rfl⟩ := hv; replace e1 := e1.symm; replace e2 := e2.symm; subst e1; subst e2)
            have c0 : wr.cell? ⟨bb, ob + i * 2, none⟩ = some (.int .i64 (b.f4[i]).f0) := by rw [HBw.out.cell (by exact hbb), hcb (i * 2) (by omega)]; exact flat_at cEntry 2 cEntry_len b.f4 i 0 hlt (by decide)
            have c1 : wr.cell? ⟨bb, ob + i * 2 + 1, none⟩ = some (.string (b.f4[i]).f1) := by rw [HBw.out.cell (by exact hbb), Nat.add_assoc, hcb (i * 2 + 1) (by omega)]; exact flat_at cEntry 2 cEntry_len b.f4 i 1 hlt (by decide)
            have HWR : Hid (IntKind.i64.wrap (b.f2 + 1) = b.f2 + 1 ∧ IntKind.i64.wrap (b.f2 + 1 + (i : Int)) = b.f2 + 1 + (i : Int)) := ⟨IntWalk.i64_in _ (by have := HB2.out; omega), IntWalk.i64_in _ (by have := HB2.out; omega)⟩
            clear hcb
            go_upto_region 17 with fail
            refine wp_region_L [⟨19, fun W => W.cell? ⟨w.heap.size + 1, 4, none⟩ = some (.slice (some ⟨bb, ob, none⟩) b.f4.length cb)⟩, ⟨19, fun W => W.cell? ⟨bb, ob + i * 2, none⟩ = some (.int .i64 b.f4[i].f0)⟩, ⟨19, fun W => W.cell? ⟨w.heap.size + 1, 2, none⟩ = some (.int .i64 b.f2)⟩, ⟨19, fun W => W.cell? ⟨w.heap.size + 1, 4, none⟩ = some (.slice (some ⟨bb, ob, none⟩) b.f4.length cb)⟩, ⟨19, fun W => W.cell? ⟨bb, ob + i * 2 + 1, none⟩ = some (.string b.f4[i].f1)⟩] (by kernel_rfl) (fun f hf => by
                simp only [List.mem_cons, List.not_mem_nil, or_false] at hf
                rcases hf with rfl | rfl | rfl | rfl | rfl
                · exact e4
                · exact c0
                · exact e2
                · exact e4
                · exact c1
                ) ?_
            refine At.take 0 (some 109) (u6) rfl rfl (by kernel_rfl) (by kernel_rfl) (by kernel_rfl) (by kernel_rfl) (fun _ _ _ h => h) (yl_pure (by kernel_rfl) (fun _ => by kernel_rfl)) ?_
            refine At.take 1 (some 110) (.pointer (some ⟨w.heap.size + 1, 4, none⟩)) rfl rfl (by kernel_rfl) (by kernel_rfl) (by kernel_rfl) (by kernel_rfl) (fun _ _ _ h => h) (yl_pure (by kernel_rfl) (fun _ => by kernel_rfl)) ?_
            refine At.take 2 (some 111) (.slice (some ⟨bb, ob, none⟩) b.f4.length cb) rfl rfl (by kernel_rfl) (by kernel_rfl) (by kernel_rfl) (by kernel_rfl) (fun _ _ _ h => h) (yl_load 19 ⟨w.heap.size + 1, 4, none⟩ (.slice (some ⟨bb, ob, none⟩) b.f4.length cb) (List.mem_cons_self) [4, 5, 6, 18, 19] (by kernel_rfl) rfl (by kernel_rfl) (fun _ => by kernel_rfl)) ?_
            refine At.take 3 (some 112) (.int .i64 (i : Int)) rfl rfl (by kernel_rfl) (by kernel_rfl) (by kernel_rfl) (by kernel_rfl) (fun _ _ _ h => h) (yl_pure (by kernel_rfl) (fun _ => by kernel_rfl)) ?_
            refine At.take 4 (some 113) (.pointer (some ⟨bb, ob + i * 2, none⟩)) rfl rfl (by kernel_rfl) (by kernel_rfl) (by kernel_rfl) (by kernel_rfl) (fun _ _ _ h => h) (yl_pure (by kernel_rfl) (fun w => by go_simp)) ?_
            refine At.take 5 (some 114) (.pointer (some ⟨bb, ob + i * 2, none⟩)) rfl rfl (by kernel_rfl) (by kernel_rfl) (by kernel_rfl) (by kernel_rfl) (fun _ _ _ h => h) (yl_pure (by kernel_rfl) (fun _ => by kernel_rfl)) ?_
            refine At.take 6 (some 115) (.int .i64 b.f4[i].f0) rfl rfl (by kernel_rfl) (by kernel_rfl) (by kernel_rfl) (by kernel_rfl) (fun _ _ _ h => h) (yl_load 19 ⟨bb, ob + i * 2, none⟩ (.int .i64 b.f4[i].f0) (List.mem_cons_of_mem _ (List.mem_cons_self)) [18, 19] (by kernel_rfl) rfl (by kernel_rfl) (fun _ => by kernel_rfl)) ?_
            refine At.take 7 (some 116) (.pointer (some ⟨w.heap.size + 1, 2, none⟩)) rfl rfl (by kernel_rfl) (by kernel_rfl) (by kernel_rfl) (by kernel_rfl) (fun _ _ _ h => h) (yl_pure (by kernel_rfl) (fun _ => by kernel_rfl)) ?_
            refine At.take 8 (some 117) (.int .i64 b.f2) rfl rfl (by kernel_rfl) (by kernel_rfl) (by kernel_rfl) (by kernel_rfl) (fun _ _ _ h => h) (yl_load 19 ⟨w.heap.size + 1, 2, none⟩ (.int .i64 b.f2) (List.mem_cons_of_mem _ (List.mem_cons_of_mem _ (List.mem_cons_self))) [9, 11, 18, 19] (by kernel_rfl) rfl (by kernel_rfl) (fun _ => by kernel_rfl)) ?_
            refine At.take 9 (some 118) (.int .i64 (b.f2 + 1)) rfl rfl (by kernel_rfl) (by kernel_rfl) (by kernel_rfl) (by kernel_rfl) (fun _ _ _ h => h) (yl_is (.int .i64 (IntKind.i64.wrap (b.f2 + 1))) (by rw [HWR.out.1]) (by kernel_rfl) (fun _ => by kernel_rfl)) ?_
            refine At.take 10 (some 119) (.int .i64 (i : Int)) rfl rfl (by kernel_rfl) (by kernel_rfl) (by kernel_rfl) (by kernel_rfl) (fun _ _ _ h => h) (yl_pure (by kernel_rfl) (fun _ => by kernel_rfl)) ?_
            refine At.take 11 (some 120) (.int .i64 (b.f2 + 1 + (i : Int))) rfl rfl (by kernel_rfl) (by kernel_rfl) (by kernel_rfl) (by kernel_rfl) (fun _ _ _ h => h) (yl_is (.int .i64 (IntKind.i64.wrap (b.f2 + 1 + (i : Int)))) (by rw [HWR.out.2]) (by kernel_rfl) (fun _ => by kernel_rfl)) ?_
            refine At.take 12 (some 121) (.pointer (some ⟨w.heap.size + 1, 4, none⟩)) rfl rfl (by kernel_rfl) (by kernel_rfl) (by kernel_rfl) (by kernel_rfl) (fun _ _ _ h => h) (yl_pure (by kernel_rfl) (fun _ => by kernel_rfl)) ?_
            refine At.take 13 (some 122) (.slice (some ⟨bb, ob, none⟩) b.f4.length cb) rfl rfl (by kernel_rfl) (by kernel_rfl) (by kernel_rfl) (by kernel_rfl) (fun _ _ _ h => h) (yl_load 19 ⟨w.heap.size + 1, 4, none⟩ (.slice (some ⟨bb, ob, none⟩) b.f4.length cb) (List.mem_cons_of_mem _ (List.mem_cons_of_mem _ (List.mem_cons_of_mem _ (List.mem_cons_self)))) [15, 16, 17, 18, 19] (by kernel_rfl) rfl (by kernel_rfl) (fun _ => by kernel_rfl)) ?_
            refine At.take 14 (some 123) (.int .i64 (i : Int)) rfl rfl (by kernel_rfl) (by kernel_rfl) (by kernel_rfl) (by kernel_rfl) (fun _ _ _ h => h) (yl_pure (by kernel_rfl) (fun _ => by kernel_rfl)) ?_
            refine At.take 15 (some 124) (.pointer (some ⟨bb, ob + i * 2, none⟩)) rfl rfl (by kernel_rfl) (by kernel_rfl) (by kernel_rfl) (by kernel_rfl) (fun _ _ _ h => h) (yl_pure (by kernel_rfl) (fun w => by go_simp)) ?_
            refine At.take 16 (some 125) (.pointer (some ⟨bb, ob + i * 2 + 1, none⟩)) rfl rfl (by kernel_rfl) (by kernel_rfl) (by kernel_rfl) (by kernel_rfl) (fun _ _ _ h => h) (yl_pure (by kernel_rfl) (fun _ => by kernel_rfl)) ?_
            refine At.take 17 (some 126) (.string b.f4[i].f1) rfl rfl (by kernel_rfl) (by kernel_rfl) (by kernel_rfl) (by kernel_rfl) (fun _ _ _ h => h) (yl_load 19 ⟨bb, ob + i * 2 + 1, none⟩ (.string b.f4[i].f1) (List.mem_cons_of_mem _ (List.mem_cons_of_mem _ (List.mem_cons_of_mem _ (List.mem_cons_of_mem _ (List.mem_cons_self))))) [18, 19] (by kernel_rfl) rfl (by kernel_rfl) (fun _ => by kernel_rfl)) ?_
            refine At.take 18 (some 127) (.agg #[.int .i64 2, .int .i64 b.f4[i].f0, .int .i64 (b.f2 + 1 + (i : Int)), .int .i64 0, .string b.f4[i].f1]) rfl rfl (by kernel_rfl) (by kernel_rfl) (by kernel_rfl) (by kernel_rfl) (fun _ _ _ h => h) (yl_pure (by kernel_rfl) (fun _ => by kernel_rfl)) ?_
            refine At.step 19 (some 128) rfl rfl (by kernel_rfl) (by kernel_rfl) (fun u W => u = .slice (some ⟨wr.drew.heap.size, 0, none⟩) 1 1 ∧ W = wr.drew.alloc (.cells #[.int .i64 2, .int .i64 b.f4[i].f0, .int .i64 (b.f2 + 1 + (i : Int)), .int .i64 0, .string b.f4[i].f1] 44)) (gives_run (by kernel_rfl)) ?_
            rintro u WB ⟨rfl, hWB⟩
            refine ⟨by subst hWB; exact held_cons (.inl (by kernel_rfl)) (held_cons (.inl (by kernel_rfl)) (held_cons (.inl (by kernel_rfl)) (held_cons (.inl (by kernel_rfl)) (held_cons (.inl (by kernel_rfl)) (held_nil))))), ?_⟩
            have HOB : Hid (WB.ownsRow (w.heap.size + 2) 44 5 u6 L.length (rRec L)) := by rw [hWB]; exact (show wr.drew.ownsRow _ _ _ _ _ _ from HO.out).alloc _
            have HBB : Hid (Below (w.heap.size + 2) W0 WB) := by rw [hWB]; exact (HBr.out.drew).alloc (by have := HBr.out.size; have := HZ0.out; show _ ≤ wr.heap.size; omega) _
            obtain ⟨v', WC, hrunC, hownC, hgrowC, _⟩ := run_append_own (P := Try.prog) WB (w.heap.size + 2) 38 38 44 iR (.agg #[.int .i64 0, .int .i64 0, .int .i64 0, .int .i64 0, .string ⟨#[]⟩]) 5 48 Try.underlying38 hiR hR0 hR1 hR2 rfl (by decide) u6 L.length _ HOB.out ⟨wr.drew.heap.size, 0, none⟩ 1 1 [.int .i64 2, .int .i64 b.f4[i].f0, .int .i64 (b.f2 + 1 + (i : Int)), .int .i64 0, .string b.f4[i].f1] rfl (by rw [hWB]; exact cells_newW wr.drew _ _) (by intro u hu; simp only [List.mem_cons, List.not_mem_nil, or_false] at hu; rcases hu with rfl | rfl | rfl | rfl | rfl <;> rfl) (by have := HLL.out; unfold maxLen; omega) (by have := HLL.out; omega) (by have := HBB.out.size; have := HZ0.out; omega)
            refine At.step 20 (some 129) rfl rfl (by kernel_rfl) (by kernel_rfl) (fun u W => u = v' ∧ W = WC) (gives_append (fun _ => by kernel_rfl) hrunC) ?_
            rintro u WC' ⟨rfl, hWC⟩
            subst hWC
            refine ⟨held_cons (.inl (by kernel_rfl)) (held_cons (.inl (by kernel_rfl)) (held_cons (.inl (by kernel_rfl)) (held_cons (.inl (by kernel_rfl)) (held_cons (.inl (by kernel_rfl)) (held_nil))))), ?_⟩
            refine At.take 21 (some 6) (u) rfl rfl (by kernel_rfl) (by kernel_rfl) (by kernel_rfl) (by kernel_rfl) (fun _ _ _ h => h) (yl_pure (by kernel_rfl) (fun _ => by kernel_rfl)) ?_
            refine At.done (by kernel_rfl) ?_
            simp only [Act.put, List.setIfInBounds_toArray, List.set_cons_zero, List.set_cons_succ]
            have HOE : Hid _ := own_snocRec (r := ⟨2, b.f4[i].f0, b.f2 + 1 + i, 0, b.f4[i].f1⟩) hownC
            have HBE : Hid (Below (w.heap.size + 2) W0 WC') := HBB.out.grown hgrowC (by have := HBB.out.size; have := HZ0.out; omega) (ownBlock_ge HOB.out)
            clear hownC hgrowC hrunC HOB HBB hWB d0 d1 d2 d3 d4 e0 e1 e2 e3 e4 c0 c1 HWR
            go_wp2
            go_roundw
            case rel => exact ⟨i + 1, by omega, by omega, by go_num, by rw [HSU.out]; exact HOE.out, HBE.out⟩
            case measure => simp [intOf]; omega
          · have hie : i = b.f4.length := by omega
            subst hie
            go_wp2
            go_ret2
            exact ⟨_, rfl, own_lowW HO.out (by omega), HBw.out⟩

end Go.Proofs.Ytefbenojkajnoaa
