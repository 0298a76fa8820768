/- ReadSnap of the program. -/
import Derived.Test.YtocjijognmhfmaaDoorKrSpec
namespace Go.Proofs.YtocjijognmhfmaaDoor
open Go.RowKit
set_option linter.unusedVariables false
set_option linter.unusedSimpArgs false

set_option maxRecDepth 20000 in
set_option maxHeartbeats 4000000 in
theorem implReadS_yes (s : ByteArray) (w : World) (a0 a2 : Addr) (hE : ErrB w a0 a2) (hG : 2 < w.heap.size) (hT : Tab w kL) (hs : s.size ≤ 1048576) (h : rsOk s) : Calls Tryd.prog 9 #[.string s] w fun e w' => e = .returned (.tuple #[.agg #[.int .i64 (rsN s 44).f0, .int .i64 (rsN s 44).f1, .string (rsN s 44).f2], .bool true]) ∧ Below w.heap.size w w' := by
  have hm : s.size ≤ maxLen := by unfold maxLen; omega
  have HM : Hid (s.size ≤ maxLen) := hm
  have HS : Hid (s.size ≤ 1048576) := hs
  obtain ⟨W0, hW0⟩ : ∃ W, W = w.alloc (.cells #[.int .i64 0, .int .i64 0, .string ⟨#[]⟩] 25) := ⟨_, rfl⟩
  have HW0 : Hid (w.alloc (.cells #[.int .i64 0, .int .i64 0, .string ⟨#[]⟩] 25) = W0) := hW0.symm
  have HX0 : Hid (W0.heap[w.heap.size]? = some (.cells #[.int .i64 0, .int .i64 0, .string ⟨#[]⟩] 25)) := by rw [hW0]; exact alloc_lastV _ _
  have HB0 : Hid (Below w.heap.size w W0) := by rw [hW0]; exact (Below.refl _ _).alloc (Nat.le_refl _) _
  clear hW0 hm
  have HE0 : Hid (ErrB W0 a0 a2) := hE.keep HB0.out
  have HG0 : Hid (2 < w.heap.size) := hG
  have HT0 : Hid (Tab w kL) := hT
  clear hE hG hT
  obtain ⟨hu, heq⟩ := h
  obtain ⟨T, hT⟩ : ∃ T, s.extract 8 (8 + 44) = T := ⟨_, rfl⟩
  obtain ⟨D, hD⟩ : ∃ D, s.extract (8 + 44) s.size = D := ⟨_, rfl⟩
  obtain ⟨N, hN⟩ : ∃ N : Int, ((8 + 44 : Nat) : Int) = N := ⟨_, rfl⟩
  have hTs : T.size = 44 := by rw [← hT]; have h9 := ext_size s 8 (8 + 44) hu.2.2.2.1; omega
  have hDs : D.size = s.size - (8 + 44) := by rw [← hD]; simp
  obtain ⟨a, ha⟩ : ∃ a, rd T 4 = a := ⟨_, rfl⟩
  obtain ⟨b, hbb⟩ : ∃ b, rd (T.extract 4 T.size) 4 = b := ⟨_, rfl⟩
  have HA : Hid (rd T 4 = a) := ha
  have HBb : Hid (rd (T.extract 4 T.size) 4 = b) := hbb
  have HTS : Hid (T.size = 44 ∧ 44 ≤ 2000) := ⟨hTs, hu.2.1⟩
  have HDS : Hid (D.size ≤ 1048576) := by show _ ≤ _; have := HS.out; omega
  have HRS : Hid (rsN s 44 = ⟨a, b, D⟩) := by show _ = _; unfold rsN; rw [hT, hD, ha, hbb]
  have hsz : 8 + 44 ≤ s.size := hu.2.2.2.1
  have hsl : ∀ W, (Instr.slice 9 (.string s) (some (.int .i64 N)) none none).run Tryd.prog W = .ok (.string D) W := fun W => by rw [← hD]; exact sl_atK s (8 + 44) N hN.symm hsz W
  have hwr : IntKind.i64.wrap ((s.size : Int) - N) = (s.size : Int) - N := IntWalk.i64_in _ (by omega)
  have HUN : Hid (Calls Tryd.prog 21 #[.string s] W0 fun e w' => e = .returned (.tuple #[.string T, .int .i64 N, .int .i64 0]) ∧ Below W0.heap.size W0 w') := by
    have h1 := implUn_ok s 44 W0 a0 a2 HE0.out HM.out hu
    rw [hT, hN] at h1
    exact h1
  have HEQ : Hid (snT ⟨a, b, D⟩ = s) := by show _ = _; rw [← HRS.out]; exact heq
  rw [HRS.out]
  have h8 : ¬ (T.size : Int) < 8 := by omega
  have h4T : (4 : Int) ≤ (T.size : Int) := by omega
  clear hu heq hT hD hN ha hbb hTs hDs hsz
  go_enter Tryd.func9, Tryd.ntmps9
  go_wp2_with fail
  rw [HW0.out]
  refine HUN.out.mono ?_
  rintro e w1 ⟨rfl, b1⟩
  have HXw1 : Hid (w1.heap[w.heap.size]? = some (.cells #[.int .i64 0, .int .i64 0, .string ⟨#[]⟩] 25)) := (b1.block _ (lt_of_someV HX0.out)).trans HX0.out
  have HBw1 : Hid (Below w.heap.size w w1) := HB0.out.trans (b1.mono HB0.out.size)
  clear b1
  clear HUN
  go_wp2_with fail
  refine (implRd_yes T 4 w1 (by omega) (by omega) (by have := HTS.out; omega) (by have := HTS.out; unfold maxLen; omega)).mono ?_
  rintro e wq ⟨rfl, hwq⟩
  replace hwq := hwq.symm
  subst hwq
  rw [HA.out]
  go_wp2_with fail
  refine (implRd_yes (T.extract 4 T.size) 4 _ (by omega) (by omega) (by simp; have := HTS.out; omega) (by simp; have := HTS.out; unfold maxLen; omega)).mono ?_
  rintro e wq ⟨rfl, hwq⟩
  replace hwq := hwq.symm
  subst hwq
  rw [HBb.out]
  go_wp2_with fail
  refine (clone_c D w1 (by have := HDS.out; omega)).mono ?_
  rintro e w2 ⟨rfl, b2⟩
  have HXw2 : Hid (w2.heap[w.heap.size]? = some (.cells #[.int .i64 0, .int .i64 0, .string ⟨#[]⟩] 25)) := (b2.block _ (lt_of_someV HXw1.out)).trans HXw1.out
  have HBw2 : Hid (Below w.heap.size w w2) := HBw1.out.trans (b2.mono HBw1.out.size)
  clear b2
  obtain ⟨WY, hWY⟩ : ∃ W, W = w2.alloc (.cells #[.int .i64 a, .int .i64 b, .string D] 25) := ⟨_, rfl⟩
  have HWY : Hid (w2.alloc (.cells #[.int .i64 a, .int .i64 b, .string D] 25) = WY) := hWY.symm
  have HYY : Hid (WY.heap[w2.heap.size]? = some (.cells #[.int .i64 a, .int .i64 b, .string D] 25)) := by rw [hWY]; exact alloc_lastV _ _
  have HBc : Hid (Below w2.heap.size w2 WY) := by rw [hWY]; exact (Below.refl _ _).alloc (Nat.le_refl _) _
  clear hWY
  obtain ⟨y0, y1, y2⟩ := box3V HYY.out
  go_wp2_with fail
  rw [HWY.out]
  refine (implShowS_c ⟨a, b, D⟩ WY (by have := HDS.out; show D.size ≤ _; omega) (Nat.lt_of_lt_of_le HG0.out (Nat.le_trans HBw2.out.size HBc.out.size)) ((HT0.out.below HBw2.out HG0.out).below HBc.out (Nat.lt_of_lt_of_le HG0.out HBw2.out.size))).mono ?_
  rintro e w4 ⟨rfl, b4⟩
  have HY4 : Hid (w4.heap[w2.heap.size]? = some (.cells #[.int .i64 a, .int .i64 b, .string D] 25)) := (b4.block _ (lt_of_someV HYY.out)).trans HYY.out
  have HXw4 : Hid (w4.heap[w.heap.size]? = some (.cells #[.int .i64 0, .int .i64 0, .string ⟨#[]⟩] 25)) := (b4.block _ (Nat.lt_of_lt_of_le (lt_of_someV HXw2.out) HBc.out.size)).trans ((HBc.out.block _ (lt_of_someV HXw2.out)).trans HXw2.out)
  have HBw4 : Hid (Below w.heap.size w w4) := HBw2.out.trans ((HBc.out.trans (b4.mono HBc.out.size)).mono HBw2.out.size)
  clear b4 y0 y1 y2
  obtain ⟨y0, y1, y2⟩ := box3V HY4.out
  have HBQ : Hid (((snT ⟨a, b, D⟩).toList == s.toList) = true) := by show _ = _; rw [beq_ba]; exact decide_eq_true HEQ.out
  have hbq := HBQ.out
  generalize snT ⟨a, b, D⟩ = Z at hbq ⊢
  obtain ⟨z0, z1, z2⟩ := box3V HXw4.out
  have zf0 := frz HXw4.out 0
  have zf1 := frz HXw4.out 1
  have zf2 := frz HXw4.out 2
  go_wp2
  refine bodyPost_ret (v := .tuple #[.agg #[.int .i64 a, .int .i64 b, .string D], .bool true]) (by simp [results, Tryd.results9, go_sem, z0, z1, z2]) rfl ⟨rfl, ?_⟩
  exact ((HBw4.out.setCell (Nat.le_refl _) _).setCell (Nat.le_refl _) _).setCell (Nat.le_refl _) _

set_option maxRecDepth 20000 in
set_option maxHeartbeats 4000000 in
theorem implReadS_no (s : ByteArray) (w : World) (a0 a2 : Addr) (hE : ErrB w a0 a2) (hG : 2 < w.heap.size) (hT : Tab w kL) (hs : s.size ≤ 1048576) (h : ¬ rsOk s) : Calls Tryd.prog 9 #[.string s] w fun e w' => e = .returned (.tuple #[.agg #[.int .i64 0, .int .i64 0, .string ⟨#[]⟩], .bool false]) ∧ Below w.heap.size w w' := by
  have hm : s.size ≤ maxLen := by unfold maxLen; omega
  have HM : Hid (s.size ≤ maxLen) := hm
  have HS : Hid (s.size ≤ 1048576) := hs
  obtain ⟨W0, hW0⟩ : ∃ W, W = w.alloc (.cells #[.int .i64 0, .int .i64 0, .string ⟨#[]⟩] 25) := ⟨_, rfl⟩
  have HW0 : Hid (w.alloc (.cells #[.int .i64 0, .int .i64 0, .string ⟨#[]⟩] 25) = W0) := hW0.symm
  have HX0 : Hid (W0.heap[w.heap.size]? = some (.cells #[.int .i64 0, .int .i64 0, .string ⟨#[]⟩] 25)) := by rw [hW0]; exact alloc_lastV _ _
  have HB0 : Hid (Below w.heap.size w W0) := by rw [hW0]; exact (Below.refl _ _).alloc (Nat.le_refl _) _
  clear hW0 hm
  have HE0 : Hid (ErrB W0 a0 a2) := hE.keep HB0.out
  have HG0 : Hid (2 < w.heap.size) := hG
  have HT0 : Hid (Tab w kL) := hT
  clear hE hG hT
  rcases u_cases s with hu | hu | ⟨n, hu⟩
  · go_enter Tryd.func9, Tryd.ntmps9
    go_wp2_with fail
    rw [HW0.out]
    refine (implUn_short s W0 a0 a2 HE0.out HM.out hu).mono ?_
    rintro e w1 ⟨rfl, b1⟩
    have HXw1 : Hid (w1.heap[w.heap.size]? = some (.cells #[.int .i64 0, .int .i64 0, .string ⟨#[]⟩] 25)) := (b1.block _ (lt_of_someV HX0.out)).trans HX0.out
    have HBw1 : Hid (Below w.heap.size w w1) := HB0.out.trans (b1.mono HB0.out.size)
    clear b1
    obtain ⟨z0, z1, z2⟩ := box3V HXw1.out
    have zf0 := frz HXw1.out 0
    have zf1 := frz HXw1.out 1
    have zf2 := frz HXw1.out 2
    go_wp2
    refine bodyPost_ret (v := .tuple #[.agg #[.int .i64 0, .int .i64 0, .string ⟨#[]⟩], .bool false]) (by simp [results, Tryd.results9, go_sem, z0, z1, z2]) rfl ⟨rfl, ?_⟩
    exact ((HBw1.out.setCell (Nat.le_refl _) _).setCell (Nat.le_refl _) _).setCell (Nat.le_refl _) _
  · go_enter Tryd.func9, Tryd.ntmps9
    go_wp2_with fail
    rw [HW0.out]
    refine (implUn_bad s W0 a0 a2 HE0.out HM.out hu).mono ?_
    rintro e w1 ⟨rfl, b1⟩
    have HXw1 : Hid (w1.heap[w.heap.size]? = some (.cells #[.int .i64 0, .int .i64 0, .string ⟨#[]⟩] 25)) := (b1.block _ (lt_of_someV HX0.out)).trans HX0.out
    have HBw1 : Hid (Below w.heap.size w w1) := HB0.out.trans (b1.mono HB0.out.size)
    clear b1
    obtain ⟨z0, z1, z2⟩ := box3V HXw1.out
    have zf0 := frz HXw1.out 0
    have zf1 := frz HXw1.out 1
    have zf2 := frz HXw1.out 2
    go_wp2
    refine bodyPost_ret (v := .tuple #[.agg #[.int .i64 0, .int .i64 0, .string ⟨#[]⟩], .bool false]) (by simp [results, Tryd.results9, go_sem, z0, z1, z2]) rfl ⟨rfl, ?_⟩
    exact ((HBw1.out.setCell (Nat.le_refl _) _).setCell (Nat.le_refl _) _).setCell (Nat.le_refl _) _
  · obtain ⟨T, hT⟩ : ∃ T, s.extract 8 (8 + n) = T := ⟨_, rfl⟩
    obtain ⟨D, hD⟩ : ∃ D, s.extract (8 + n) s.size = D := ⟨_, rfl⟩
    obtain ⟨N, hN⟩ : ∃ N : Int, ((8 + n : Nat) : Int) = N := ⟨_, rfl⟩
    have hTs : T.size = n := by rw [← hT]; have h9 := ext_size s 8 (8 + n) hu.2.2.2.1; omega
    have hDs : D.size = s.size - (8 + n) := by rw [← hD]; simp
    obtain ⟨a, ha⟩ : ∃ a, rd T 4 = a := ⟨_, rfl⟩
    obtain ⟨b, hbb⟩ : ∃ b, rd (T.extract 4 T.size) 4 = b := ⟨_, rfl⟩
    have HA : Hid (rd T 4 = a) := ha
    have HBb : Hid (rd (T.extract 4 T.size) 4 = b) := hbb
    have HTS : Hid (T.size = n ∧ n ≤ 2000) := ⟨hTs, hu.2.1⟩
    have HDS : Hid (D.size ≤ 1048576) := by show _ ≤ _; have := HS.out; omega
    have HRS : Hid (rsN s n = ⟨a, b, D⟩) := by show _ = _; unfold rsN; rw [hT, hD, ha, hbb]
    have hsz : 8 + n ≤ s.size := hu.2.2.2.1
    have hsl : ∀ W, (Instr.slice 9 (.string s) (some (.int .i64 N)) none none).run Tryd.prog W = .ok (.string D) W := fun W => by rw [← hD]; exact sl_atK s (8 + n) N hN.symm hsz W
    have hwr : IntKind.i64.wrap ((s.size : Int) - N) = (s.size : Int) - N := IntWalk.i64_in _ (by omega)
    have HUN : Hid (Calls Tryd.prog 21 #[.string s] W0 fun e w' => e = .returned (.tuple #[.string T, .int .i64 N, .int .i64 0]) ∧ Below W0.heap.size W0 w') := by
      have h1 := implUn_ok s n W0 a0 a2 HE0.out HM.out hu
      rw [hT, hN] at h1
      exact h1
    have HNE : Hid (¬ snT ⟨a, b, D⟩ = s) := fun e => by
      by_cases h44 : n = 44
      · subst h44
        exact h ⟨hu, by rw [HRS.out]; exact e⟩
      · exact rs_no hu h44 _ e
    by_cases h8 : (T.size : Int) < 8
    · clear hu hT hD hN ha hbb hTs hDs hsz h
      go_enter Tryd.func9, Tryd.ntmps9
      go_wp2_with fail
      rw [HW0.out]
      refine HUN.out.mono ?_
      rintro e w1 ⟨rfl, b1⟩
      have HXw1 : Hid (w1.heap[w.heap.size]? = some (.cells #[.int .i64 0, .int .i64 0, .string ⟨#[]⟩] 25)) := (b1.block _ (lt_of_someV HX0.out)).trans HX0.out
      have HBw1 : Hid (Below w.heap.size w w1) := HB0.out.trans (b1.mono HB0.out.size)
      clear b1
      clear HUN
      obtain ⟨z0, z1, z2⟩ := box3V HXw1.out
      have zf0 := frz HXw1.out 0
      have zf1 := frz HXw1.out 1
      have zf2 := frz HXw1.out 2
      go_wp2
      refine bodyPost_ret (v := .tuple #[.agg #[.int .i64 0, .int .i64 0, .string ⟨#[]⟩], .bool false]) (by simp [results, Tryd.results9, go_sem, z0, z1, z2]) rfl ⟨rfl, ?_⟩
      exact ((HBw1.out.setCell (Nat.le_refl _) _).setCell (Nat.le_refl _) _).setCell (Nat.le_refl _) _
    have h4T : (4 : Int) ≤ (T.size : Int) := by omega
    clear hu hT hD hN ha hbb hTs hDs hsz h
    go_enter Tryd.func9, Tryd.ntmps9
    go_wp2_with fail
    rw [HW0.out]
    refine HUN.out.mono ?_
    rintro e w1 ⟨rfl, b1⟩
    have HXw1 : Hid (w1.heap[w.heap.size]? = some (.cells #[.int .i64 0, .int .i64 0, .string ⟨#[]⟩] 25)) := (b1.block _ (lt_of_someV HX0.out)).trans HX0.out
    have HBw1 : Hid (Below w.heap.size w w1) := HB0.out.trans (b1.mono HB0.out.size)
    clear b1
    clear HUN
    go_wp2_with fail
    refine (implRd_yes T 4 w1 (by omega) (by omega) (by omega) (by have := HTS.out; unfold maxLen; omega)).mono ?_
    rintro e wq ⟨rfl, hwq⟩
    replace hwq := hwq.symm
    subst hwq
    rw [HA.out]
    go_wp2_with fail
    refine (implRd_yes (T.extract 4 T.size) 4 _ (by omega) (by omega) (by simp; have := HTS.out; omega) (by simp; have := HTS.out; unfold maxLen; omega)).mono ?_
    rintro e wq ⟨rfl, hwq⟩
    replace hwq := hwq.symm
    subst hwq
    rw [HBb.out]
    go_wp2_with fail
    refine (clone_c D w1 (by have := HDS.out; omega)).mono ?_
    rintro e w2 ⟨rfl, b2⟩
    have HXw2 : Hid (w2.heap[w.heap.size]? = some (.cells #[.int .i64 0, .int .i64 0, .string ⟨#[]⟩] 25)) := (b2.block _ (lt_of_someV HXw1.out)).trans HXw1.out
    have HBw2 : Hid (Below w.heap.size w w2) := HBw1.out.trans (b2.mono HBw1.out.size)
    clear b2
    obtain ⟨WY, hWY⟩ : ∃ W, W = w2.alloc (.cells #[.int .i64 a, .int .i64 b, .string D] 25) := ⟨_, rfl⟩
    have HWY : Hid (w2.alloc (.cells #[.int .i64 a, .int .i64 b, .string D] 25) = WY) := hWY.symm
    have HYY : Hid (WY.heap[w2.heap.size]? = some (.cells #[.int .i64 a, .int .i64 b, .string D] 25)) := by rw [hWY]; exact alloc_lastV _ _
    have HBc : Hid (Below w2.heap.size w2 WY) := by rw [hWY]; exact (Below.refl _ _).alloc (Nat.le_refl _) _
    clear hWY
    obtain ⟨y0, y1, y2⟩ := box3V HYY.out
    go_wp2_with fail
    rw [HWY.out]
    refine (implShowS_c ⟨a, b, D⟩ WY (by have := HDS.out; show D.size ≤ _; omega) (Nat.lt_of_lt_of_le HG0.out (Nat.le_trans HBw2.out.size HBc.out.size)) ((HT0.out.below HBw2.out HG0.out).below HBc.out (Nat.lt_of_lt_of_le HG0.out HBw2.out.size))).mono ?_
    rintro e w4 ⟨rfl, b4⟩
    have HY4 : Hid (w4.heap[w2.heap.size]? = some (.cells #[.int .i64 a, .int .i64 b, .string D] 25)) := (b4.block _ (lt_of_someV HYY.out)).trans HYY.out
    have HXw4 : Hid (w4.heap[w.heap.size]? = some (.cells #[.int .i64 0, .int .i64 0, .string ⟨#[]⟩] 25)) := (b4.block _ (Nat.lt_of_lt_of_le (lt_of_someV HXw2.out) HBc.out.size)).trans ((HBc.out.block _ (lt_of_someV HXw2.out)).trans HXw2.out)
    have HBw4 : Hid (Below w.heap.size w w4) := HBw2.out.trans ((HBc.out.trans (b4.mono HBc.out.size)).mono HBw2.out.size)
    clear b4 y0 y1 y2
    obtain ⟨y0, y1, y2⟩ := box3V HY4.out
    have HBQ : Hid (((snT ⟨a, b, D⟩).toList == s.toList) = false) := by show _ = _; rw [beq_ba]; exact decide_eq_false HNE.out
    have hbq := HBQ.out
    generalize snT ⟨a, b, D⟩ = Z at hbq ⊢
    obtain ⟨z0, z1, z2⟩ := box3V HXw4.out
    have zf0 := frz HXw4.out 0
    have zf1 := frz HXw4.out 1
    have zf2 := frz HXw4.out 2
    go_wp2
    refine bodyPost_ret (v := .tuple #[.agg #[.int .i64 0, .int .i64 0, .string ⟨#[]⟩], .bool false]) (by simp [results, Tryd.results9, go_sem, z0, z1, z2]) rfl ⟨rfl, ?_⟩
    exact ((HBw4.out.setCell (Nat.le_refl _) _).setCell (Nat.le_refl _) _).setCell (Nat.le_refl _) _

end Go.Proofs.YtocjijognmhfmaaDoor
