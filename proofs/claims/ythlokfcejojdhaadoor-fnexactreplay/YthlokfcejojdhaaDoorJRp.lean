/- beginWal of the program. -/
import Derived.Test.YthlokfcejojdhaaDoorRpSpec
import Derived.Test.YthlokfcejojdhaaDoorWvImpl
import Derived.Test.YthlokfcejojdhaaDoorJWy
import Derived.Test.YthlokfcejojdhaaDoorJFs
namespace Go.Proofs.YthlokfcejojdhaaDoor
open Go.RowKit
set_option linter.unusedVariables false
set_option linter.unusedSimpArgs false

theorem begin_c (t i : Int) (w : World) : Calls Tryd.prog 50 #[.agg #[.int .i64 t, .int .i64 i]] w fun e w' => e = .returned (.agg #[.int .i64 t, .int .i64 (-1), .int .i64 i, .int .i64 t, .slice none 0 0]) ∧ Below w.heap.size w w' := by
  obtain ⟨W0, hW0⟩ : ∃ W, W = (w.alloc (.cells #[.int .i64 t, .int .i64 i] 40)).alloc (.cells #[.int .i64 0, .int .i64 0, .int .i64 0, .int .i64 0, .slice none 0 0] 26) := ⟨_, rfl⟩
  have HW0 : Hid ((w.alloc (.cells #[.int .i64 t, .int .i64 i] 40)).alloc (.cells #[.int .i64 0, .int .i64 0, .int .i64 0, .int .i64 0, .slice none 0 0] 26) = W0) := hW0.symm
  have HB0 : Hid (Below w.heap.size w W0) := by rw [hW0]; exact ((Below.refl _ _).alloc (Nat.le_refl _) _).alloc (by simp) _
  have hk0 : W0.heap[w.heap.size]? = some (.cells #[.int .i64 t, .int .i64 i] 40) := by rw [hW0]; exact (Below.heap_alloc _ _ _ (by simp)).trans (alloc_last w _)
  have HK1 : Hid (W0.heap[w.heap.size + 1]? = some (.cells #[.int .i64 0, .int .i64 0, .int .i64 0, .int .i64 0, .slice none 0 0] 26)) := by show _ = _; rw [hW0]; have := alloc_last (w.alloc (.cells #[.int .i64 t, .int .i64 i] 40)) (.cells #[.int .i64 0, .int .i64 0, .int .i64 0, .int .i64 0, .slice none 0 0] 26); rw [World.size_alloc] at this; exact this
  obtain ⟨d0, d1⟩ := box2S hk0
  have zf := frz5 HK1.out
  obtain ⟨z0, z1, z2, z3, z4⟩ := box5 HK1.out
  obtain ⟨t0, t1, t2, t3, t4⟩ := box5 (store5 (.int .i64 t) (.int .i64 (-1)) (.int .i64 i) (.int .i64 t) (.slice none 0 0) HK1.out)
  have HBF : Hid (Below w.heap.size w (((((W0.setCell ⟨w.heap.size + 1, 0, none⟩ (.int .i64 t)).setCell ⟨w.heap.size + 1, 1, none⟩ (.int .i64 (-1))).setCell ⟨w.heap.size + 1, 2, none⟩ (.int .i64 i)).setCell ⟨w.heap.size + 1, 3, none⟩ (.int .i64 t)).setCell ⟨w.heap.size + 1, 4, none⟩ (.slice none 0 0))) := store5_bel (.int .i64 t) (.int .i64 (-1)) (.int .i64 i) (.int .i64 t) (.slice none 0 0) HB0.out (Nat.le_succ _)
  clear hW0 hk0
  go_enter Tryd.func50, Tryd.ntmps50
  go_upto_region 1 with fail
  rw [HW0.out]
  go_wp2
  exact bodyPost_ret (v := .agg #[.int .i64 t, .int .i64 (-1), .int .i64 i, .int .i64 t, .slice none 0 0]) (by simp [results, Tryd.results50, go_sem, t0, t1, t2, t3, t4]) rfl ⟨rfl, HBF.out⟩

set_option maxRecDepth 20000 in
set_option maxHeartbeats 4000000 in
theorem begin_no (s : ByteArray) (w : World) (hs : s.size ≤ 2000) (h : ¬ (okR (rdR s) ∧ (rdR s).f0 = 4)) : Calls Tryd.prog 28 #[.string s] w fun e w' => e = .returned (.tuple #[.agg #[.int .i64 0, .int .i64 0, .int .i64 0, .int .i64 0, .slice none 0 0], .bool false]) ∧ Below w.heap.size w w' := by
  have HH : Hid (¬ (okR (rdR s) ∧ (rdR s).f0 = 4)) := h
  obtain ⟨W0, hW0⟩ : ∃ W, W = w.alloc (.cells #[.int .i64 0, .int .i64 0, .int .i64 0, .int .i64 0, .slice none 0 0] 26) := ⟨_, rfl⟩
  have HW0 : Hid (w.alloc (.cells #[.int .i64 0, .int .i64 0, .int .i64 0, .int .i64 0, .slice none 0 0] 26) = W0) := hW0.symm
  have HB0 : Hid (Below w.heap.size w W0) := by rw [hW0]; exact (Below.refl _ _).alloc (Nat.le_refl _) _
  have HX0 : Hid (W0.heap[w.heap.size]? = some (.cells #[.int .i64 0, .int .i64 0, .int .i64 0, .int .i64 0, .slice none 0 0] 26)) := by rw [hW0]; exact alloc_last _ _
  clear hW0 h
  go_enter Tryd.func28, Tryd.ntmps28
  go_wp2_with fail
  rw [HW0.out]
  refine (readRec_c s W0 (by omega)).mono ?_
  rintro e w1 ⟨rfl, b1⟩
  have HB1 : Hid (Below w.heap.size w w1) := HB0.out.trans (b1.mono HB0.out.size)
  have HX1 : Hid (w1.heap[w.heap.size]? = some (.cells #[.int .i64 0, .int .i64 0, .int .i64 0, .int .i64 0, .slice none 0 0] 26)) := (b1.block _ (lt_of_some HX0.out)).trans HX0.out
  clear b1
  generalize decide (okR (rdR s)) = g
  by_cases q1 : (rdR s).f0 = 1
  · rw [show recV (rdR s) = .iface 42 (.agg #[.int .i64 (rdR s).f1, .int .i64 (rdR s).f3]) from recV_1 q1]
    have hta := ta14 (.agg #[.int .i64 (rdR s).f1, .int .i64 (rdR s).f3])
    obtain ⟨W2, hW2⟩ : ∃ W, W = w1.alloc (.cells #[.int .i64 0, .int .i64 0] 40) := ⟨_, rfl⟩
    have HW2 : Hid (w1.alloc (.cells #[.int .i64 0, .int .i64 0] 40) = W2) := hW2.symm
    have hb2 : Below w1.heap.size w1 W2 := by rw [hW2]; exact (Below.refl _ _).alloc (Nat.le_refl _) _
    have HX2 : Hid (W2.heap[w.heap.size]? = some (.cells #[.int .i64 0, .int .i64 0, .int .i64 0, .int .i64 0, .slice none 0 0] 26)) := (hb2.block _ (lt_of_some HX1.out)).trans HX1.out
    have HB2 : Hid (Below w.heap.size w W2) := HB1.out.trans (hb2.mono HB1.out.size)
    clear hb2 hW2
    go_upto_region 3 with fail
    rw [HW2.out]
    have zf := frz5 HX2.out
    obtain ⟨z0, z1, z2, z3, z4⟩ := box5 HX2.out
    obtain ⟨t0, t1, t2, t3, t4⟩ := box5 (store5 (.int .i64 0) (.int .i64 0) (.int .i64 0) (.int .i64 0) (.slice none 0 0) HX2.out)
    have HBF : Hid (Below w.heap.size w (((((W2.setCell ⟨w.heap.size, 0, none⟩ (.int .i64 0)).setCell ⟨w.heap.size, 1, none⟩ (.int .i64 0)).setCell ⟨w.heap.size, 2, none⟩ (.int .i64 0)).setCell ⟨w.heap.size, 3, none⟩ (.int .i64 0)).setCell ⟨w.heap.size, 4, none⟩ (.slice none 0 0))) := store5_bel (.int .i64 0) (.int .i64 0) (.int .i64 0) (.int .i64 0) (.slice none 0 0) HB2.out (Nat.le_refl _)
    go_wp2
    exact bodyPost_ret (v := .tuple #[.agg #[.int .i64 0, .int .i64 0, .int .i64 0, .int .i64 0, .slice none 0 0], .bool false]) (by simp [results, Tryd.results28, go_sem, t0, t1, t2, t3, t4]) rfl ⟨rfl, HBF.out⟩
  by_cases q2 : (rdR s).f0 = 2
  · rw [show recV (rdR s) = .iface 85 (.agg #[.int .i64 (rdR s).f2, .int .i64 (rdR s).f1, .string (rdR s).f4]) from recV_2 q2]
    have hta := ta24 (.agg #[.int .i64 (rdR s).f2, .int .i64 (rdR s).f1, .string (rdR s).f4])
    obtain ⟨W2, hW2⟩ : ∃ W, W = w1.alloc (.cells #[.int .i64 0, .int .i64 0] 40) := ⟨_, rfl⟩
    have HW2 : Hid (w1.alloc (.cells #[.int .i64 0, .int .i64 0] 40) = W2) := hW2.symm
    have hb2 : Below w1.heap.size w1 W2 := by rw [hW2]; exact (Below.refl _ _).alloc (Nat.le_refl _) _
    have HX2 : Hid (W2.heap[w.heap.size]? = some (.cells #[.int .i64 0, .int .i64 0, .int .i64 0, .int .i64 0, .slice none 0 0] 26)) := (hb2.block _ (lt_of_some HX1.out)).trans HX1.out
    have HB2 : Hid (Below w.heap.size w W2) := HB1.out.trans (hb2.mono HB1.out.size)
    clear hb2 hW2
    go_upto_region 3 with fail
    rw [HW2.out]
    have zf := frz5 HX2.out
    obtain ⟨z0, z1, z2, z3, z4⟩ := box5 HX2.out
    obtain ⟨t0, t1, t2, t3, t4⟩ := box5 (store5 (.int .i64 0) (.int .i64 0) (.int .i64 0) (.int .i64 0) (.slice none 0 0) HX2.out)
    have HBF : Hid (Below w.heap.size w (((((W2.setCell ⟨w.heap.size, 0, none⟩ (.int .i64 0)).setCell ⟨w.heap.size, 1, none⟩ (.int .i64 0)).setCell ⟨w.heap.size, 2, none⟩ (.int .i64 0)).setCell ⟨w.heap.size, 3, none⟩ (.int .i64 0)).setCell ⟨w.heap.size, 4, none⟩ (.slice none 0 0))) := store5_bel (.int .i64 0) (.int .i64 0) (.int .i64 0) (.int .i64 0) (.slice none 0 0) HB2.out (Nat.le_refl _)
    go_wp2
    exact bodyPost_ret (v := .tuple #[.agg #[.int .i64 0, .int .i64 0, .int .i64 0, .int .i64 0, .slice none 0 0], .bool false]) (by simp [results, Tryd.results28, go_sem, t0, t1, t2, t3, t4]) rfl ⟨rfl, HBF.out⟩
  by_cases q3 : (rdR s).f0 = 3
  · rw [show recV (rdR s) = .iface 91 (.agg #[.int .i64 (rdR s).f2]) from recV_3 q3]
    have hta := ta34 (.agg #[.int .i64 (rdR s).f2])
    obtain ⟨W2, hW2⟩ : ∃ W, W = w1.alloc (.cells #[.int .i64 0, .int .i64 0] 40) := ⟨_, rfl⟩
    have HW2 : Hid (w1.alloc (.cells #[.int .i64 0, .int .i64 0] 40) = W2) := hW2.symm
    have hb2 : Below w1.heap.size w1 W2 := by rw [hW2]; exact (Below.refl _ _).alloc (Nat.le_refl _) _
    have HX2 : Hid (W2.heap[w.heap.size]? = some (.cells #[.int .i64 0, .int .i64 0, .int .i64 0, .int .i64 0, .slice none 0 0] 26)) := (hb2.block _ (lt_of_some HX1.out)).trans HX1.out
    have HB2 : Hid (Below w.heap.size w W2) := HB1.out.trans (hb2.mono HB1.out.size)
    clear hb2 hW2
    go_upto_region 3 with fail
    rw [HW2.out]
    have zf := frz5 HX2.out
    obtain ⟨z0, z1, z2, z3, z4⟩ := box5 HX2.out
    obtain ⟨t0, t1, t2, t3, t4⟩ := box5 (store5 (.int .i64 0) (.int .i64 0) (.int .i64 0) (.int .i64 0) (.slice none 0 0) HX2.out)
    have HBF : Hid (Below w.heap.size w (((((W2.setCell ⟨w.heap.size, 0, none⟩ (.int .i64 0)).setCell ⟨w.heap.size, 1, none⟩ (.int .i64 0)).setCell ⟨w.heap.size, 2, none⟩ (.int .i64 0)).setCell ⟨w.heap.size, 3, none⟩ (.int .i64 0)).setCell ⟨w.heap.size, 4, none⟩ (.slice none 0 0))) := store5_bel (.int .i64 0) (.int .i64 0) (.int .i64 0) (.int .i64 0) (.slice none 0 0) HB2.out (Nat.le_refl _)
    go_wp2
    exact bodyPost_ret (v := .tuple #[.agg #[.int .i64 0, .int .i64 0, .int .i64 0, .int .i64 0, .slice none 0 0], .bool false]) (by simp [results, Tryd.results28, go_sem, t0, t1, t2, t3, t4]) rfl ⟨rfl, HBF.out⟩
  have q4 : (rdR s).f0 ≠ 4 := fun h => by
    have hno : ¬ okR (rdR s) := fun hk => HH.out ⟨hk, h⟩
    have e : rdR s = noR := rdR_no (fun hh => hno ((rdR_iff s).2 hh))
    rw [e] at h
    exact absurd h (by decide)
  rw [show recV (rdR s) = .nilIface by unfold recV; rw [if_neg q1, if_neg q2, if_neg q3, if_neg q4]]
  have hta := ta04 (.nilIface)
  obtain ⟨W2, hW2⟩ : ∃ W, W = w1.alloc (.cells #[.int .i64 0, .int .i64 0] 40) := ⟨_, rfl⟩
  have HW2 : Hid (w1.alloc (.cells #[.int .i64 0, .int .i64 0] 40) = W2) := hW2.symm
  have hb2 : Below w1.heap.size w1 W2 := by rw [hW2]; exact (Below.refl _ _).alloc (Nat.le_refl _) _
  have HX2 : Hid (W2.heap[w.heap.size]? = some (.cells #[.int .i64 0, .int .i64 0, .int .i64 0, .int .i64 0, .slice none 0 0] 26)) := (hb2.block _ (lt_of_some HX1.out)).trans HX1.out
  have HB2 : Hid (Below w.heap.size w W2) := HB1.out.trans (hb2.mono HB1.out.size)
  clear hb2 hW2
  go_upto_region 3 with fail
  rw [HW2.out]
  have zf := frz5 HX2.out
  obtain ⟨z0, z1, z2, z3, z4⟩ := box5 HX2.out
  obtain ⟨t0, t1, t2, t3, t4⟩ := box5 (store5 (.int .i64 0) (.int .i64 0) (.int .i64 0) (.int .i64 0) (.slice none 0 0) HX2.out)
  have HBF : Hid (Below w.heap.size w (((((W2.setCell ⟨w.heap.size, 0, none⟩ (.int .i64 0)).setCell ⟨w.heap.size, 1, none⟩ (.int .i64 0)).setCell ⟨w.heap.size, 2, none⟩ (.int .i64 0)).setCell ⟨w.heap.size, 3, none⟩ (.int .i64 0)).setCell ⟨w.heap.size, 4, none⟩ (.slice none 0 0))) := store5_bel (.int .i64 0) (.int .i64 0) (.int .i64 0) (.int .i64 0) (.slice none 0 0) HB2.out (Nat.le_refl _)
  go_wp2
  exact bodyPost_ret (v := .tuple #[.agg #[.int .i64 0, .int .i64 0, .int .i64 0, .int .i64 0, .slice none 0 0], .bool false]) (by simp [results, Tryd.results28, go_sem, t0, t1, t2, t3, t4]) rfl ⟨rfl, HBF.out⟩

set_option maxRecDepth 20000 in
set_option maxHeartbeats 4000000 in
theorem begin_yes (s : ByteArray) (w : World) (hs : s.size ≤ 2000) (h : okR (rdR s) ∧ (rdR s).f0 = 4) : Calls Tryd.prog 28 #[.string s] w fun e w' => e = .returned (.tuple #[.agg #[.int .i64 (rdR s).f1, .int .i64 (-1), .int .i64 (rdR s).f2, .int .i64 (rdR s).f1, .slice none 0 0], .bool true]) ∧ Below w.heap.size w w' := by
  have HH : Hid (okR (rdR s) ∧ (rdR s).f0 = 4) := h
  obtain ⟨W0, hW0⟩ : ∃ W, W = w.alloc (.cells #[.int .i64 0, .int .i64 0, .int .i64 0, .int .i64 0, .slice none 0 0] 26) := ⟨_, rfl⟩
  have HW0 : Hid (w.alloc (.cells #[.int .i64 0, .int .i64 0, .int .i64 0, .int .i64 0, .slice none 0 0] 26) = W0) := hW0.symm
  have HB0 : Hid (Below w.heap.size w W0) := by rw [hW0]; exact (Below.refl _ _).alloc (Nat.le_refl _) _
  have HX0 : Hid (W0.heap[w.heap.size]? = some (.cells #[.int .i64 0, .int .i64 0, .int .i64 0, .int .i64 0, .slice none 0 0] 26)) := by rw [hW0]; exact alloc_last _ _
  clear hW0 h
  go_enter Tryd.func28, Tryd.ntmps28
  go_wp2_with fail
  rw [HW0.out]
  refine (readRec_c s W0 (by omega)).mono ?_
  rintro e w1 ⟨rfl, b1⟩
  have HB1 : Hid (Below w.heap.size w w1) := HB0.out.trans (b1.mono HB0.out.size)
  have HX1 : Hid (w1.heap[w.heap.size]? = some (.cells #[.int .i64 0, .int .i64 0, .int .i64 0, .int .i64 0, .slice none 0 0] 26)) := (b1.block _ (lt_of_some HX0.out)).trans HX0.out
  clear b1
  generalize decide (okR (rdR s)) = g
  rw [show recV (rdR s) = .iface 40 (.agg #[.int .i64 (rdR s).f1, .int .i64 (rdR s).f2]) by unfold recV; rw [if_neg (by have := HH.out.2; omega), if_neg (by have := HH.out.2; omega), if_neg (by have := HH.out.2; omega), if_pos HH.out.2]]
  have hta := ta44 (.agg #[.int .i64 (rdR s).f1, .int .i64 (rdR s).f2])
  obtain ⟨a, ha⟩ : ∃ a, (rdR s).f1 = a := ⟨_, rfl⟩
  obtain ⟨b, hb⟩ : ∃ b, (rdR s).f2 = b := ⟨_, rfl⟩
  have HA : Hid ((rdR s).f1 = a) := ha
  have HBq : Hid ((rdR s).f2 = b) := hb
  rw [ha, hb] at hta ⊢
  clear ha hb
  obtain ⟨W2, hW2⟩ : ∃ W, W = w1.alloc (.cells #[.int .i64 a, .int .i64 b] 40) := ⟨_, rfl⟩
  have HW2 : Hid (w1.alloc (.cells #[.int .i64 a, .int .i64 b] 40) = W2) := hW2.symm
  have hb2 : Below w1.heap.size w1 W2 := by rw [hW2]; exact (Below.refl _ _).alloc (Nat.le_refl _) _
  have HX2 : Hid (W2.heap[w.heap.size]? = some (.cells #[.int .i64 0, .int .i64 0, .int .i64 0, .int .i64 0, .slice none 0 0] 26)) := (hb2.block _ (lt_of_some HX1.out)).trans HX1.out
  have HB2 : Hid (Below w.heap.size w W2) := HB1.out.trans (hb2.mono HB1.out.size)
  have hx2 : W2.heap[w1.heap.size]? = some (.cells #[.int .i64 a, .int .i64 b] 40) := by rw [hW2]; exact alloc_last _ _
  obtain ⟨d0, d1⟩ := box2S hx2
  clear hb2 hW2 hx2
  go_upto_region 3 with fail
  rw [HW2.out]
  go_wp2_with fail
  refine (begin_c a b W2).mono ?_
  rintro e w3 ⟨rfl, b3⟩
  have HX3 : Hid (w3.heap[w.heap.size]? = some (.cells #[.int .i64 0, .int .i64 0, .int .i64 0, .int .i64 0, .slice none 0 0] 26)) := (b3.block _ (lt_of_some HX2.out)).trans HX2.out
  have HB3 : Hid (Below w.heap.size w w3) := HB2.out.trans (b3.mono HB2.out.size)
  clear b3 d0 d1
  have zf := frz5 HX3.out
  obtain ⟨z0, z1, z2, z3, z4⟩ := box5 HX3.out
  obtain ⟨t0, t1, t2, t3, t4⟩ := box5 (store5 (.int .i64 a) (.int .i64 (-1)) (.int .i64 b) (.int .i64 a) (.slice none 0 0) HX3.out)
  have HBF : Hid (Below w.heap.size w (((((w3.setCell ⟨w.heap.size, 0, none⟩ (.int .i64 a)).setCell ⟨w.heap.size, 1, none⟩ (.int .i64 (-1))).setCell ⟨w.heap.size, 2, none⟩ (.int .i64 b)).setCell ⟨w.heap.size, 3, none⟩ (.int .i64 a)).setCell ⟨w.heap.size, 4, none⟩ (.slice none 0 0))) := store5_bel (.int .i64 a) (.int .i64 (-1)) (.int .i64 b) (.int .i64 a) (.slice none 0 0) HB3.out (Nat.le_refl _)
  go_wp2
  exact bodyPost_ret (v := .tuple #[.agg #[.int .i64 a, .int .i64 (-1), .int .i64 b, .int .i64 a, .slice none 0 0], .bool true]) (by simp [results, Tryd.results28, go_sem, t0, t1, t2, t3, t4]) rfl ⟨by rw [HA.out, HBq.out], HBF.out⟩

end Go.Proofs.YthlokfcejojdhaaDoor

/- The walk of the program's reader of all frames. -/
namespace Go.Proofs.YthlokfcejojdhaaDoor
open Go.RowKit
set_option linter.unusedVariables false

/-- What framesOf hands back. -/
def FoR (s : ByteArray) (w : World) (e : Ending) (w' : World) : Prop :=
  ∃ v L, ∃ k : Nat, ∃ a, e = .returned (.tuple #[v, fe a (k : Int)]) ∧ Frs s L k ∧ OwnS w' w.heap.size v L ∧ Below w.heap.size w w'

set_option maxRecDepth 20000 in
set_option maxHeartbeats 2000000 in
theorem implFo (s : ByteArray) (w : World) (a0 a2 : Addr) (hE : ErrB w a0 a2) (hm : s.size ≤ 1048576) :
    Calls Tryd.prog 48 #[.string s] w (FoR s w) := by
  obtain ⟨i0, hi, hz0, hz1, hz2⟩ := info_parts infoS
  have HX : Hid (s.size ≤ maxLen) := by show _ ≤ _; unfold maxLen; omega
  have hml : (1048577 : Nat) ≤ maxLen := by unfold maxLen; omega
  have HE : Hid (ErrB w a0 a2) := hE
  have fe0 : Hid (∀ k : Int, fe a0 k = .iface 96 (.agg #[.iface 155 (.pointer (some a0)), .int .i64 k])) := fun _ => rfl
  have fe2 : Hid (∀ k : Int, fe a2 k = .iface 96 (.agg #[.iface 155 (.pointer (some a2)), .int .i64 k])) := fun _ => rfl
  clear hE
  go_enter Tryd.func48, Tryd.ntmps48
  go_wp2
  go_loopw [4, 5] (fun v kv wr => ∃ (acc : List ByteArray) (k : Nat), kv = .int .i64 (k : Int) ∧ k ≤ s.size ∧ acc.length ≤ k ∧ wr.ownsRow w.heap.size 9 1 v acc.length (acc.map Value.string) ∧ Below w.heap.size w wr ∧ Hid (UptoF s k acc)) (fun _ kv _ => s.size - (intOf kv).toNat)
  case atStart => exact ⟨[], 0, rfl, Nat.zero_le _, Nat.zero_le _, World.ownsRow_nil _ _ _ _, Below.refl _ _, upto_zero s (ext_all s)⟩
  case round =>
    obtain ⟨acc, k, rfl, hk, hal, hown, hbel, HU⟩ := hrel
    have hsz := hbel.size
    have HEr : Hid (ErrB wr a0 a2) := HE.out.keep hbel
    have hk' : (k : Int) ≤ s.size := by omega
    obtain ⟨T, hT⟩ : ∃ T, s.extract k s.size = T := ⟨_, rfl⟩
    have HT : Hid (s.extract k s.size = T) := hT
    rcases u_cases T with h | h | ⟨n, h⟩
    · have HF : Hid (Frs s acc k) := upto_end HU.out (by rw [hT]; exact Or.inl h)
      have H : Hid (UShort T) := h
      clear h HU hT
      go_wp2_with fail
      refine (at_short s T k _ a0 a2 HEr.out.toErrs HX.out hk HT.out H.out).mono ?_
      rintro e w1 ⟨rfl, b1⟩
      have hown1 := own_bel hown b1 (Nat.le_refl _)
      have hbel1 := hbel.trans (b1.mono hsz)
      clear hown hbel b1
      rw [fe0.out]
      go_wp2
      go_ret2
      exact ⟨_, acc, k, a0, by rw [fe0.out]; rfl, HF.out, hown1, hbel1⟩
    · have HF : Hid (Frs s acc k) := upto_end HU.out (by rw [hT]; exact Or.inr h)
      have H : Hid (UBad T) := h
      clear h HU hT
      go_wp2_with fail
      refine (at_bad s T k _ a0 a2 HEr.out.toErrs HX.out hk HT.out H.out).mono ?_
      rintro e w1 ⟨rfl, b1⟩
      have hown1 := own_bel hown b1 (Nat.le_refl _)
      have hbel1 := hbel.trans (b1.mono hsz)
      clear hown hbel b1
      rw [fe2.out]
      go_wp2
      go_ret2
      exact ⟨_, acc, k, a2, by rw [fe2.out]; rfl, HF.out, hown1, hbel1⟩
    · have HF : Hid (UptoF s (k + (8 + n)) (acc ++ [T.extract 8 (8 + n)])) := by have := upto_more hk HU.out (by rw [hT]; exact h); rw [hT] at this; exact this
      have hle : k + (8 + n) ≤ s.size := ok_le hk (by rw [hT]; exact h)
      have H : Hid (UOk T n) := h
      have hY : (T.extract 8 (8 + n)).size = n := by rw [ext_size _ _ _ h.2.2.2.1]; omega
      clear h HU hT
      go_wp2_with fail
      refine (at_ok s T k n _ a0 a2 HEr.out.toErrs HX.out hk HT.out H.out).mono ?_
      rintro e w1 ⟨rfl, b1⟩
      have hown1 := own_bel hown b1 (Nat.le_refl _)
      have hbel1 := hbel.trans (b1.mono hsz)
      have hsz1 := hbel1.size
      clear hown hbel b1
      generalize T.extract 8 (8 + n) = Y at HF hY ⊢
      go_wp2_with (at_builtin; refine wpList_append_own _ rfl _ _ 64 rfl w.heap.size 9 i0 (.string ⟨#[]⟩) 1 16 Tryd.underlying64 hi hz0 hz1 hz2 rfl (by decide) _ _ _ rfl (hown1.alloc _) ⟨w1.heap.size, 0, none⟩ 1 1 [.string Y] rfl rfl (cell_one_new _ _ _) (by intro u hu; simp at hu; subst hu; rfl) (by omega) (by omega) (by simp; omega) ?_)
      intro v' w2 hown2 hgrow _
      have R1 := own_snocS hown2
      unfold OwnS at R1
      have R2 := below_append hbel1 (Nat.le_refl _) hown1 hgrow
      clear hown2 hgrow hown1 hbel1
      go_wp2
      go_roundw
      case rel => first | exact ⟨acc ++ [Y], k + (8 + n), by go_num, hle, by simp; omega, R1, R2, HF⟩ | ((repeat apply Exists.intro); exact ⟨⟨acc ++ [Y], k + (8 + n), by go_num, hle, by simp; omega, R1, R2, HF⟩, rfl⟩)
      case measure => simp [intOf]; omega

theorem asW_below {B : Nat} {w : World} (tb : Nat) (x y : Value) (hB : B ≤ w.heap.size) (ht : B ≤ tb) : Below B w (asW w tb x y) := by
  unfold asW
  refine below_setRow ?_ ht _
  refine Below.alloc (Below.alloc (Below.alloc (Below.alloc (Below.refl _ _) hB _) ?_ _) ?_ _) ?_ _
  all_goals (simp; omega)

theorem asW_cell {w : World} (tb : Nat) (x y : Value) (old : Array Value) (ht : w.heap[tb]? = some (.cells old 96 (0, 0))) : (asW w tb x y).cell? ⟨tb, 1, none⟩ = some y := by
  unfold asW
  rw [cell_setRow_same _ tb 1 old _ 96 (0, 0) (heap_old (heap_old (heap_old (heap_old ht))))]
  rfl

set_option maxRecDepth 20000 in
set_option maxHeartbeats 2000000 in
theorem implFs (s : ByteArray) (w : World) (a0 a2 : Addr) (hE : ErrB w a0 a2) (hg : w.cell? ⟨0, 0, none⟩ = some (.iface 141 (.agg #[.pointer (some ⟨3, 51, none⟩)]))) (hm : s.size ≤ 1048576) :
    Calls Tryd.prog 27 #[.string s] w (FsR s w) := by
  have HE : Hid (ErrB w a0 a2) := hE
  have HG : Hid (w.cell? ⟨0, 0, none⟩ = some (.iface 141 (.agg #[.pointer (some ⟨3, 51, none⟩)]))) := hg
  have HL : Hid (2 < w.heap.size) := hE.lt
  clear hE hg
  go_enter Tryd.func27, Tryd.ntmps27
  go_wp2_with fail
  refine (implFo s _ a0 a2 HE.out hm).mono ?_
  rintro e w1 ⟨v, L, k, a, rfl, hf, hown, b1⟩
  have HF : Hid (Frs s L k) := hf
  have HO : Hid (OwnS w1 w.heap.size v L) := hown
  have HB : Hid (Below w.heap.size w w1) := b1
  clear hf hown b1
  have ht : Hid ((w1.alloc (.cells #[.nilIface, .int .i64 0] 96)).heap[w1.heap.size]? = some (.cells #[.nilIface, .int .i64 0] 96 (0, 0))) := heap_top _ _
  have hg1 : Hid ((w1.alloc (.cells #[.nilIface, .int .i64 0] 96)).cell? ⟨0, 0, none⟩ = some (.iface 141 (.agg #[.pointer (some ⟨3, 51, none⟩)]))) := cell_old (by rw [HB.out.cell (by show 0 < w.heap.size; have := HL.out; omega)]; exact HG.out)
  go_wp2_with fail
  refine (as_hit a k w1.heap.size #[.nilIface, .int .i64 0] _ hg1.out ht.out rfl).mono ?_
  rintro e w2 ⟨rfl, hw⟩
  have hc : w2.cell? ⟨w1.heap.size, 1, none⟩ = some (.int .i64 (k : Int)) := by rw [hw]; exact asW_cell _ _ _ _ ht.out
  have HB2 : Hid (Below w1.heap.size w1 w2) := by
    show Below _ _ _
    rw [hw]
    exact ((Below.refl _ w1).alloc (Nat.le_refl _) _).trans (asW_below _ _ _ (by simp) (Nat.le_refl _))
  clear hw ht hg1
  go_wp2
  go_quiet (fail)
  go_wp2
  go_ret2
  exact ⟨v, L, k, rfl, HF.out, HO.out.keep (bel_drewNU HB2.out _), bel_drewNU (HB.out.trans (HB2.out.mono HB.out.size)) _⟩

end Go.Proofs.YthlokfcejojdhaaDoor

/- Replay of the program. -/
namespace Go.Proofs.YthlokfcejojdhaaDoor
open Go.RowKit
set_option linter.unusedVariables false
set_option linter.unusedSimpArgs false

/-- While the bodies are read by the program: the answer's place, the log's, its row, the bodies. -/
structure RiS (w : World) (L : List ByteArray) (v : Value) (wb : Nat) (W : World) (x : S_Wal) (q : Option Addr) (c : Nat) : Prop where
  down : Below w.heap.size w W
  out : W.heap[w.heap.size]? = some (.cells #[.int .i64 0, .int .i64 0, .int .i64 0, .int .i64 0, .slice none 0 0] 26)
  wal : W.heap[wb]? = some (.cells #[.int .i64 x.f0, .int .i64 x.f1, .int .i64 x.f2, .int .i64 x.f3, .slice q x.f4.length c] 26)
  row : OwWal W (wb + 1) x (.slice q x.f4.length c)
  bod : OwnS W w.heap.size v L
  bl : ∀ k, v.ownBlock = some k → k < wb
  o1 : w.heap.size < wb

theorem own_belB {w w' : World} {base N : Nat} {e : TypeId} {size : Nat} {v : Value} {n : Nat} {xs : List Value} (h : w.ownsRow base e size v n xs) (hb : Below N w w') (hN : ∀ k, v.ownBlock = some k → k < N) : w'.ownsRow base e size v n xs := by
  obtain ⟨h1, h2⟩ := h
  refine ⟨h1, ?_⟩
  rcases h2 with h2 | ⟨g, cap, cur, hv, hg, hh, r⟩
  · exact Or.inl h2
  · exact Or.inr ⟨g, cap, cur, hv, hg, by rw [hb.block g (hN g (by rw [hv]; rfl))]; exact hh, r⟩

section
variable {w W W' : World} {L : List ByteArray} {v : Value} {wb : Nat} {x : S_Wal} {q : Option Addr} {c : Nat}
theorem RiS.bel (S : RiS w L v wb W x q c) (h : Below W.heap.size W W') : RiS w L v wb W' x q c :=
  ⟨S.down.trans (h.mono S.down.size), (h.block _ (lt_of_some S.out)).trans S.out, (h.block _ (lt_of_some S.wal)).trans S.wal, own_bel S.row h (Nat.le_refl _), own_bel S.bod h (Nat.le_refl _), S.bl, S.o1⟩

theorem RiS.st (S : RiS w L v wb W x q c) {y : S_Wal} {q2 : Option Addr} {c2 : Nat} (hx : W'.heap[wb]? = some (.cells #[.int .i64 y.f0, .int .i64 y.f1, .int .i64 y.f2, .int .i64 y.f3, .slice q2 y.f4.length c2] 26)) (ho : W'.ownsRow (wb + 1) 63 2 (.slice q2 y.f4.length c2) y.f4.length (rEntry y.f4)) (h : Below wb W W') : RiS w L v wb W' y q2 c2 :=
  ⟨S.down.trans (h.mono (Nat.le_of_lt S.o1)), (h.block _ S.o1).trans S.out, hx, ho, own_belB S.bod h S.bl, S.bl, S.o1⟩
end

theorem capS {w : World} {base : Nat} {p : Option Addr} {n c sz : Nat} {e : TypeId} {xs : List Value} (h : w.ownsRow base e sz (.slice p n c) n xs) : n ≤ c := by
  obtain ⟨_, ⟨hv, h0⟩ | ⟨g, cap, cur, hv, _, _, hc, _⟩⟩ := h
  · simp only [Value.slice.injEq] at hv
    omega
  · simp only [Value.slice.injEq] at hv
    omega

set_option maxRecDepth 20000 in
set_option maxHeartbeats 8000000 in
theorem implReplay_c (s : ByteArray) (L : List ByteArray) (k0 : Nat) (w : World) (a0 a2 : Addr) (hE : ErrB w a0 a2) (hg : w.cell? ⟨0, 0, none⟩ = some (.iface 141 (.agg #[.pointer (some ⟨3, 51, none⟩)]))) (hF : Frs s L k0) (hm : s.size ≤ 1048576) :
    Calls Tryd.prog 9 #[.string s] w (RpR L w) := by
  have HF : Hid (Frs s L k0) := hF
  have HSM : Hid (∀ b ∈ L, b.size ≤ 2000) := hF.small
  have HLL : Hid (L.length ≤ 1048576) := by have := hF.le; show _ ≤ _; omega
  have hll : (L.length : Int) ≤ 1048576 := by have := HLL.out; omega
  obtain ⟨W0, hW0⟩ : ∃ W, W = w.alloc (.cells #[.int .i64 0, .int .i64 0, .int .i64 0, .int .i64 0, .slice none 0 0] 26) := ⟨_, rfl⟩
  have HW0 : Hid (w.alloc (.cells #[.int .i64 0, .int .i64 0, .int .i64 0, .int .i64 0, .slice none 0 0] 26) = W0) := hW0.symm
  have HX0 : Hid (W0.heap[w.heap.size]? = some (.cells #[.int .i64 0, .int .i64 0, .int .i64 0, .int .i64 0, .slice none 0 0] 26)) := by rw [hW0]; exact alloc_last _ _
  have HB0 : Hid (Below w.heap.size w W0) := by rw [hW0]; exact (Below.refl _ _).alloc (Nat.le_refl _) _
  have HE0 : Hid (ErrB W0 a0 a2) := hE.keep HB0.out
  have HG0 : Hid (W0.cell? ⟨0, 0, none⟩ = some (.iface 141 (.agg #[.pointer (some ⟨3, 51, none⟩)]))) := by
    show _ = _
    rw [HB0.out.cell (by have := hE.lt; show 0 < w.heap.size; omega)]
    exact hg
  clear hF hW0 hE hg
  go_enter Tryd.func9, Tryd.ntmps9
  go_wp2_with fail
  rw [HW0.out]
  refine (implFs s W0 a0 a2 HE0.out HG0.out hm).mono ?_
  rintro e w1 ⟨v, L', k', rfl, hfr, ho, b1⟩
  obtain ⟨rfl, rfl⟩ := hfr.unique HF.out
  obtain ⟨qb, cb, rfl⟩ := own_sliceS ho
  have HB1 : Hid (Below w.heap.size w w1) := HB0.out.trans (b1.mono HB0.out.size)
  have HO1 : Hid (OwnS w1 w.heap.size (.slice qb L'.length cb) L') := own_low ho HB0.out.size
  have HX1 : Hid (w1.heap[w.heap.size]? = some (.cells #[.int .i64 0, .int .i64 0, .int .i64 0, .int .i64 0, .slice none 0 0] 26)) := (b1.block _ (lt_of_some HX0.out)).trans HX0.out
  have hcb : L'.length ≤ cb := capS HO1.out
  clear hfr ho b1
  by_cases hl0 : L'.length = 0
  · have e0 : L' = [] := List.eq_nil_of_length_eq_zero hl0
    subst e0
    have zf := frz5 HX1.out
    obtain ⟨z0, z1, z2, z3, z4⟩ := box5 HX1.out
    obtain ⟨t0, t1, t2, t3, t4⟩ := box5 (store5 (.int .i64 0) (.int .i64 0) (.int .i64 0) (.int .i64 0) (.slice none 0 0) HX1.out)
    have HFO : Hid (OwWal (((((w1.setCell ⟨w.heap.size, 0, none⟩ (.int .i64 0)).setCell ⟨w.heap.size, 1, none⟩ (.int .i64 0)).setCell ⟨w.heap.size, 2, none⟩ (.int .i64 0)).setCell ⟨w.heap.size, 3, none⟩ (.int .i64 0)).setCell ⟨w.heap.size, 4, none⟩ (.slice none 0 0)) w.heap.size zeroW (.slice none zeroW.f4.length 0)) := World.ownsRow_nil _ _ _ _
    have HFB : Hid (Below w.heap.size w (((((w1.setCell ⟨w.heap.size, 0, none⟩ (.int .i64 0)).setCell ⟨w.heap.size, 1, none⟩ (.int .i64 0)).setCell ⟨w.heap.size, 2, none⟩ (.int .i64 0)).setCell ⟨w.heap.size, 3, none⟩ (.int .i64 0)).setCell ⟨w.heap.size, 4, none⟩ (.slice none 0 0))) := store5_bel (.int .i64 0) (.int .i64 0) (.int .i64 0) (.int .i64 0) (.slice none 0 0) HB1.out (Nat.le_refl _)
    have HFA : Hid (rpA [] = ((zeroW, 0), false)) := rpA_nil
    go_wp2
    exact bodyPost_ret (v := .tuple #[.agg #[.int .i64 0, .int .i64 0, .int .i64 0, .int .i64 0, .slice none 0 0], .int .i64 0, .bool false]) (by simp [results, Tryd.results9, go_sem, t0, t1, t2, t3, t4]) rfl (rpR_mk HFA.out HFO.out HFB.out)
  have hl0b : ((L'.length : Int) == 0) = false := by simp only [beq_eq_false_iff_ne, ne_eq]; omega
  have hlp : (0 : Int) < (L'.length : Int) := by omega
  have HLP : Hid (0 < L'.length) := by show _ < _; omega
  obtain ⟨b0, l0, hbl⟩ : ∃ b l, L' = b :: l := List.exists_cons_of_ne_nil (fun h => hl0 (by rw [h]; rfl))
  have HBL : Hid (L' = b0 :: l0) := hbl
  obtain ⟨gb, ob, cb', hv, hgb, hgc⟩ := (RowR.own HO1.out).some (by omega) (by decide)
  simp only [Value.slice.injEq, true_and] at hv
  obtain ⟨rfl, rfl⟩ := hv
  have HCL : Hid (∀ (i : Nat) (hi : i < L'.length) (W : World), OwnS W w.heap.size (.slice (some ⟨gb, ob, none⟩) L'.length cb) L' → W.cell? ⟨gb, ob + i, none⟩ = some (.string L'[i])) := fun i hi W hW => by
    obtain ⟨g2, o2, c2, hv, _, hc⟩ := (RowR.own hW).some HLP.out (by decide)
    simp only [Value.slice.injEq, Option.some.injEq, Addr.mk.injEq, and_true, true_and] at hv
    obtain ⟨⟨rfl, rfl⟩, rfl⟩ := hv
    rw [hc i (by omega), List.getElem?_map, List.getElem?_eq_getElem hi]
    rfl
  have HC0 : Hid (∀ W : World, OwnS W w.heap.size (.slice (some ⟨gb, ob, none⟩) L'.length cb) L' → W.cell? ⟨gb, ob, none⟩ = some (.string b0)) := fun W hW => by
    have := HCL.out 0 HLP.out W hW
    have e : L'[0]'HLP.out = b0 := by simp only [HBL.out, List.getElem_cons_zero]
    rw [e] at this
    exact this
  have c0 := HC0.out w1 HO1.out
  have hb0s : b0.size ≤ 2000 := HSM.out b0 (by rw [hbl]; exact List.mem_cons_self)
  have HB0S : Hid (b0.size ≤ 2000) := hb0s
  clear hgc hbl
  go_wp2_with fail
  by_cases hb : okR (rdR b0) ∧ (rdR b0).f0 = 4
  rotate_left
  · have HNB : Hid (¬ (okR (rdR b0) ∧ (rdR b0).f0 = 4)) := hb
    refine (begin_no b0 w1 hb0s hb).mono ?_
    rintro e w2 ⟨rfl, b2⟩
    have HB2 : Hid (Below w.heap.size w w2) := HB1.out.trans (b2.mono HB1.out.size)
    have HX2 : Hid (w2.heap[w.heap.size]? = some (.cells #[.int .i64 0, .int .i64 0, .int .i64 0, .int .i64 0, .slice none 0 0] 26)) := (b2.block _ (lt_of_some HX1.out)).trans HX1.out
    obtain ⟨W2, hW2⟩ : ∃ W, W = w2.alloc (.cells #[.int .i64 0, .int .i64 0, .int .i64 0, .int .i64 0, .slice none 0 0] 26) := ⟨_, rfl⟩
    have HW2 : Hid (w2.alloc (.cells #[.int .i64 0, .int .i64 0, .int .i64 0, .int .i64 0, .slice none 0 0] 26) = W2) := hW2.symm
    have hb2 : Below w2.heap.size w2 W2 := by rw [hW2]; exact (Below.refl _ _).alloc (Nat.le_refl _) _
    have HXW : Hid (W2.heap[w.heap.size]? = some (.cells #[.int .i64 0, .int .i64 0, .int .i64 0, .int .i64 0, .slice none 0 0] 26)) := (hb2.block _ (lt_of_some HX2.out)).trans HX2.out
    have HBW : Hid (Below w.heap.size w W2) := HB2.out.trans (hb2.mono HB2.out.size)
    clear b2 hb hb2 hW2 c0
    go_upto_region 5 with fail
    rw [HW2.out]
    have zf := frz5 HXW.out
    obtain ⟨z0, z1, z2, z3, z4⟩ := box5 HXW.out
    obtain ⟨t0, t1, t2, t3, t4⟩ := box5 (store5 (.int .i64 0) (.int .i64 0) (.int .i64 0) (.int .i64 0) (.slice none 0 0) HXW.out)
    have HFO : Hid (OwWal (((((W2.setCell ⟨w.heap.size, 0, none⟩ (.int .i64 0)).setCell ⟨w.heap.size, 1, none⟩ (.int .i64 0)).setCell ⟨w.heap.size, 2, none⟩ (.int .i64 0)).setCell ⟨w.heap.size, 3, none⟩ (.int .i64 0)).setCell ⟨w.heap.size, 4, none⟩ (.slice none 0 0)) w.heap.size zeroW (.slice none zeroW.f4.length 0)) := World.ownsRow_nil _ _ _ _
    have HFB : Hid (Below w.heap.size w (((((W2.setCell ⟨w.heap.size, 0, none⟩ (.int .i64 0)).setCell ⟨w.heap.size, 1, none⟩ (.int .i64 0)).setCell ⟨w.heap.size, 2, none⟩ (.int .i64 0)).setCell ⟨w.heap.size, 3, none⟩ (.int .i64 0)).setCell ⟨w.heap.size, 4, none⟩ (.slice none 0 0))) := store5_bel (.int .i64 0) (.int .i64 0) (.int .i64 0) (.int .i64 0) (.slice none 0 0) HBW.out (Nat.le_refl _)
    have HFA : Hid (rpA L' = ((zeroW, 0), false)) := by show _ = _; rw [HBL.out]; exact rpA_no HNB.out
    go_wp2
    exact bodyPost_ret (v := .tuple #[.agg #[.int .i64 0, .int .i64 0, .int .i64 0, .int .i64 0, .slice none 0 0], .int .i64 0, .bool false]) (by simp [results, Tryd.results9, go_sem, t0, t1, t2, t3, t4]) rfl (rpR_mk HFA.out HFO.out HFB.out)
  have HRP : Hid (RpS L' (bgW (rdR b0)) (8 + (b0.size : Int)) 1) := by show RpS _ _ _ _; rw [HBL.out]; exact rp_begin hb0s hb
  refine (begin_yes b0 w1 hb0s hb).mono ?_
  rintro e w2 ⟨rfl, b2⟩
  have HB2 : Hid (Below w.heap.size w w2) := HB1.out.trans (b2.mono HB1.out.size)
  have HO2 : Hid (OwnS w2 w.heap.size (.slice (some ⟨gb, ob, none⟩) L'.length cb) L') := own_bel HO1.out b2 (Nat.le_refl _)
  have HX2 : Hid (w2.heap[w.heap.size]? = some (.cells #[.int .i64 0, .int .i64 0, .int .i64 0, .int .i64 0, .slice none 0 0] 26)) := (b2.block _ (lt_of_some HX1.out)).trans HX1.out
  obtain ⟨W3, hW3⟩ : ∃ W, W = w2.alloc (.cells #[.int .i64 (rdR b0).f1, .int .i64 (-1), .int .i64 (rdR b0).f2, .int .i64 (rdR b0).f1, .slice none 0 0] 26) := ⟨_, rfl⟩
  have HW3 : Hid (w2.alloc (.cells #[.int .i64 (rdR b0).f1, .int .i64 (-1), .int .i64 (rdR b0).f2, .int .i64 (rdR b0).f1, .slice none 0 0] 26) = W3) := hW3.symm
  obtain ⟨wb, hwb⟩ : ∃ n, w2.heap.size = n := ⟨_, rfl⟩
  have HWB : Hid (w2.heap.size = wb) := hwb
  obtain ⟨v, hvv⟩ : ∃ v, Value.slice (some ⟨gb, ob, none⟩) L'.length cb = v := ⟨_, rfl⟩
  have HVV : Hid (Value.slice (some ⟨gb, ob, none⟩) L'.length cb = v) := hvv
  have S3 : Hid (RiS w L' v wb W3 (bgW (rdR b0)) none 0) := by
    have hb3 : Below w2.heap.size w2 W3 := by rw [hW3]; exact (Below.refl _ _).alloc (Nat.le_refl _) _
    rw [← hvv]
    exact ⟨HB2.out.trans (hb3.mono HB2.out.size), (hb3.block _ (lt_of_some HX2.out)).trans HX2.out, by rw [hW3, ← hwb]; exact alloc_last _ _, World.ownsRow_nil _ _ _ _, own_bel HO2.out hb3 (Nat.le_refl _), fun k hk => by rw [← hwb]; exact (HO2.out.lt k hk).2, by rw [← hwb]; exact lt_of_some HX2.out⟩
  have c3 : W3.cell? ⟨gb, ob, none⟩ = some (.string b0) := HC0.out W3 (by rw [hvv]; exact S3.out.bod)
  have e8 : IntKind.i64.wrap (8 + (b0.size : Int)) = 8 + (b0.size : Int) := IntWalk.i64_in _ (by omega)
  generalize rdR b0 = rr at S3 HRP HW3 ⊢
  clear hb hW3 hwb hvv hl0 b2 c0
  go_upto_region 5 with fail
  rw [HW3.out, HWB.out]
  have h1l : (1 : Int) ≤ (L'.length : Int) := by omega
  have h1c : (1 : Int) ≤ (cb : Int) := by omega
  have h1n : 1 ≤ L'.length := by omega
  have hlc : L'.length ≤ cb := hcb
  by_cases hcb1 : cb = 1
  · go_wp2_with fail
    obtain ⟨n0, hn0⟩ : ∃ n, 8 + (b0.size : Int) = n := ⟨_, rfl⟩
    rw [hn0] at HRP ⊢
    clear e8 hn0 c3 hb0s
    generalize bgW rr = x0 at S3 HRP
    obtain ⟨q0, hq0⟩ : ∃ q : Option Addr, none = q := ⟨_, rfl⟩
    obtain ⟨cc0, hcc0⟩ : ∃ c : Nat, 0 = c := ⟨_, rfl⟩
    have S4 : Hid (RiS w L' v wb W3 x0 q0 cc0) := by rw [← hq0, ← hcc0]; exact S3.out
    clear S3 hq0 hcc0
    go_loopw [9, 41] (fun nv iv wr => ∃ (k : Nat) (n : Int) (x : S_Wal) (q : Option Addr) (c : Nat), nv = .int .i64 n ∧ iv = .int .i64 (k : Int) ∧ k + 1 ≤ L'.length ∧ Hid (RpS L' x n (k + 1)) ∧ Hid (RiS w L' v wb wr x q c)) (fun _ iv _ => L'.length - (intOf iv).toNat)
    case atStart => exact ⟨0, n0, x0, q0, cc0, rfl, rfl, HLP.out, HRP, S4⟩
    case round =>
      clear S4 HRP
      obtain ⟨k, n, x, q, c, rfl, rfl, hk, HP, S⟩ := hrel
      by_cases hlt : k < L'.length - 1
      · exfalso; omega
      · have hlt' : ¬ (k : Int) < ((L'.length - 1 : Nat) : Int) := by omega
        have HAL : Hid (rpA L' = ((x, n), true)) := HP.out.last (by omega)
        obtain ⟨y0, y1, y2, y3, y4⟩ := box5 S.out.wal
        have zf := frz5 S.out.out
        obtain ⟨z0, z1, z2, z3, z4⟩ := box5 S.out.out
        obtain ⟨t0, t1, t2, t3, t4⟩ := box5 (store5 (.int .i64 x.f0) (.int .i64 x.f1) (.int .i64 x.f2) (.int .i64 x.f3) (.slice q x.f4.length c) S.out.out)
        have HFO : Hid (OwWal (((((wr.setCell ⟨w.heap.size, 0, none⟩ (.int .i64 x.f0)).setCell ⟨w.heap.size, 1, none⟩ (.int .i64 x.f1)).setCell ⟨w.heap.size, 2, none⟩ (.int .i64 x.f2)).setCell ⟨w.heap.size, 3, none⟩ (.int .i64 x.f3)).setCell ⟨w.heap.size, 4, none⟩ (.slice q x.f4.length c)) w.heap.size x (.slice q x.f4.length c)) := own_low (store5_own (.int .i64 x.f0) (.int .i64 x.f1) (.int .i64 x.f2) (.int .i64 x.f3) (.slice q x.f4.length c) S.out.row (by have := S.out.o1; omega)) (by have := S.out.o1; omega)
        have HFB : Hid (Below w.heap.size w (((((wr.setCell ⟨w.heap.size, 0, none⟩ (.int .i64 x.f0)).setCell ⟨w.heap.size, 1, none⟩ (.int .i64 x.f1)).setCell ⟨w.heap.size, 2, none⟩ (.int .i64 x.f2)).setCell ⟨w.heap.size, 3, none⟩ (.int .i64 x.f3)).setCell ⟨w.heap.size, 4, none⟩ (.slice q x.f4.length c))) := store5_bel (.int .i64 x.f0) (.int .i64 x.f1) (.int .i64 x.f2) (.int .i64 x.f3) (.slice q x.f4.length c) S.out.down (Nat.le_refl _)
        have HFA : Hid (rpA L' = ((x, n), true)) := HAL.out
        go_wp2
        exact bodyPost_ret (v := .tuple #[.agg #[.int .i64 x.f0, .int .i64 x.f1, .int .i64 x.f2, .int .i64 x.f3, .slice q x.f4.length c], .int .i64 n, .bool true]) (by simp [results, Tryd.results9, go_sem, t0, t1, t2, t3, t4]) rfl (rpR_mk HFA.out HFO.out HFB.out)

  go_wp2_with fail
  obtain ⟨n0, hn0⟩ : ∃ n, 8 + (b0.size : Int) = n := ⟨_, rfl⟩
  rw [hn0] at HRP ⊢
  clear e8 hn0 c3 hb0s
  generalize bgW rr = x0 at S3 HRP
  obtain ⟨q0, hq0⟩ : ∃ q : Option Addr, none = q := ⟨_, rfl⟩
  obtain ⟨cc0, hcc0⟩ : ∃ c : Nat, 0 = c := ⟨_, rfl⟩
  have S4 : Hid (RiS w L' v wb W3 x0 q0 cc0) := by rw [← hq0, ← hcc0]; exact S3.out
  clear S3 hq0 hcc0
  go_loopw [9, 41] (fun nv iv wr => ∃ (k : Nat) (n : Int) (x : S_Wal) (q : Option Addr) (c : Nat), nv = .int .i64 n ∧ iv = .int .i64 (k : Int) ∧ k + 1 ≤ L'.length ∧ Hid (RpS L' x n (k + 1)) ∧ Hid (RiS w L' v wb wr x q c)) (fun _ iv _ => L'.length - (intOf iv).toNat)
  case atStart => exact ⟨0, n0, x0, q0, cc0, rfl, rfl, HLP.out, HRP, S4⟩
  case round =>
    clear S4 HRP
    obtain ⟨k, n, x, q, c, rfl, rfl, hk, HP, S⟩ := hrel
    by_cases hlt : k < L'.length - 1
    · have hlt' : (k : Int) < ((L'.length - 1 : Nat) : Int) := by omega
      have hk1 : k + 1 < L'.length := by omega
      have hcn : ¬ cb = 1 := by omega
      have HSB : Hid ((L'[k + 1]).size ≤ 2000) := HSM.out _ (List.getElem_mem hk1)
      have ck : wr.cell? ⟨gb, ob + 1 + k, none⟩ = some (.string L'[k + 1]) := by
        have := HCL.out (k + 1) hk1 wr (by rw [HVV.out]; exact S.out.bod)
        rw [show ob + 1 + k = ob + (k + 1) by omega]
        exact this
      have HNX : Hid (okR (rdR L'[k + 1]) ∧ fitsR x (rdR L'[k + 1]) → RpS L' (stepF x (rdR L'[k + 1])) (n + (8 + ((L'[k + 1]).size : Int))) (k + 1 + 1)) := fun h => HP.out.next hk1 HSB.out h
      have HST : Hid (¬ (okR (rdR L'[k + 1]) ∧ fitsR x (rdR L'[k + 1])) → rpA L' = ((x, n), true)) := fun h => HP.out.stop hk1 h
      generalize L'[k + 1] = B at ck HSB HNX HST
      have hn1 := HP.out.low
      have hn2 := HP.out.high
      have hbs := HSB.out
      have e8 : IntKind.i64.wrap (8 + (B.size : Int)) = 8 + (B.size : Int) := IntWalk.i64_in _ (by omega)
      have e9 : IntKind.i64.wrap (n + (8 + (B.size : Int))) = n + (8 + (B.size : Int)) := IntWalk.i64_in _ (by omega)
      go_wp2_with fail
      refine (readRec_c B wr (by omega)).mono ?_
      rintro e w4 ⟨rfl, b4⟩
      have S4 : Hid (RiS w L' v wb w4 x q c) := S.out.bel b4
      have HRS : Hid ((rdR B).f4.size ≤ 900) := rdR_small B
      have HLN : Hid (x.f4.length ≤ 60 ∧ (0 ≤ x.f2 ∧ x.f2 ≤ 100000)) := okW_len HP.out.ok
      clear b4 ck S hn1 hn2
      generalize rdR B = r' at HNX HST HRS ⊢
      by_cases hok : okR r'
      rotate_left
      · rw [decide_eq_false hok]
        have HAL : Hid (rpA L' = ((x, n), true)) := HST.out (fun h => hok h.1)
        obtain ⟨y0, y1, y2, y3, y4⟩ := box5 S4.out.wal
        generalize recV r' = vr
        clear hok
        have zf := frz5 S4.out.out
        obtain ⟨z0, z1, z2, z3, z4⟩ := box5 S4.out.out
        obtain ⟨t0, t1, t2, t3, t4⟩ := box5 (store5 (.int .i64 x.f0) (.int .i64 x.f1) (.int .i64 x.f2) (.int .i64 x.f3) (.slice q x.f4.length c) S4.out.out)
        have HFO : Hid (OwWal (((((w4.setCell ⟨w.heap.size, 0, none⟩ (.int .i64 x.f0)).setCell ⟨w.heap.size, 1, none⟩ (.int .i64 x.f1)).setCell ⟨w.heap.size, 2, none⟩ (.int .i64 x.f2)).setCell ⟨w.heap.size, 3, none⟩ (.int .i64 x.f3)).setCell ⟨w.heap.size, 4, none⟩ (.slice q x.f4.length c)) w.heap.size x (.slice q x.f4.length c)) := own_low (store5_own (.int .i64 x.f0) (.int .i64 x.f1) (.int .i64 x.f2) (.int .i64 x.f3) (.slice q x.f4.length c) S4.out.row (by have := S4.out.o1; omega)) (by have := S4.out.o1; omega)
        have HFB : Hid (Below w.heap.size w (((((w4.setCell ⟨w.heap.size, 0, none⟩ (.int .i64 x.f0)).setCell ⟨w.heap.size, 1, none⟩ (.int .i64 x.f1)).setCell ⟨w.heap.size, 2, none⟩ (.int .i64 x.f2)).setCell ⟨w.heap.size, 3, none⟩ (.int .i64 x.f3)).setCell ⟨w.heap.size, 4, none⟩ (.slice q x.f4.length c))) := store5_bel (.int .i64 x.f0) (.int .i64 x.f1) (.int .i64 x.f2) (.int .i64 x.f3) (.slice q x.f4.length c) S4.out.down (Nat.le_refl _)
        have HFA : Hid (rpA L' = ((x, n), true)) := HAL.out
        go_wp2
        exact bodyPost_ret (v := .tuple #[.agg #[.int .i64 x.f0, .int .i64 x.f1, .int .i64 x.f2, .int .i64 x.f3, .slice q x.f4.length c], .int .i64 n, .bool true]) (by simp [results, Tryd.results9, go_sem, t0, t1, t2, t3, t4]) rfl (rpR_mk HFA.out HFO.out HFB.out)
      rw [decide_eq_true hok]
      have HOK : Hid (okR r') := hok
      by_cases q1 : r'.f0 = 1
      · skip
        have HQ : Hid (r'.f0 = 1) := q1
        rw [show recV r' = .iface 42 (.agg #[.int .i64 r'.f1, .int .i64 r'.f3]) from recV_1 q1]
        have hinv := inv_hard (.agg #[.int .i64 r'.f1, .int .i64 r'.f3]) (.pointer (some ⟨wb, 0, none⟩))
        clear hok
        go_wp2_with fail
        refine (step_hard x r' q c wb (wb + 1) wb w4 HQ.out (by have := HRS.out; omega) (okR_idx HOK.out) ⟨by have := HLN.out.1; omega, HLN.out.2⟩ S4.out.wal S4.out.row ⟨Nat.le_refl _, Nat.le_succ _⟩ (lt_of_some S4.out.wal)).mono ?_
        rintro e w5 ⟨rfl, q5, c5, hx5, ho5, b5⟩
        by_cases hfit : fitsR x r'
        · rw [decide_eq_true hfit]
          have hst : stG x r' = stepF x r' := if_pos hfit
          rw [hst] at hx5 ho5
          have hnx := HNX.out ⟨HOK.out, hfit⟩
          have HPN : Hid (RpS L' (stepF x r') (n + (8 + (B.size : Int))) (k + 1 + 1)) := hnx
          have S5 : Hid (RiS w L' v wb w5 (stepF x r') q5 c5) := S4.out.st hx5 ho5 b5
          generalize stepF x r' = Y at HPN S5
          clear hx5 ho5 b5 hst hnx hfit hinv
          go_wp2
          go_roundw
          case rel => first | exact ⟨k + 1, _, Y, q5, c5, rfl, by go_num, by omega, HPN, S5⟩ | ((repeat apply Exists.intro); exact ⟨⟨k + 1, _, Y, q5, c5, rfl, by go_num, by omega, HPN, S5⟩, rfl⟩)
          case measure => simp [intOf]; omega
        · rw [decide_eq_false hfit]
          have hst : stG x r' = x := if_neg hfit
          rw [hst] at hx5 ho5
          have S5 : Hid (RiS w L' v wb w5 x q5 c5) := S4.out.st hx5 ho5 b5
          have HAL : Hid (rpA L' = ((x, n), true)) := HST.out (fun h => hfit h.2)
          clear hx5 ho5 b5 hst hfit hinv
          obtain ⟨y0, y1, y2, y3, y4⟩ := box5 S5.out.wal
          have zf := frz5 S5.out.out
          obtain ⟨z0, z1, z2, z3, z4⟩ := box5 S5.out.out
          obtain ⟨t0, t1, t2, t3, t4⟩ := box5 (store5 (.int .i64 x.f0) (.int .i64 x.f1) (.int .i64 x.f2) (.int .i64 x.f3) (.slice q5 x.f4.length c5) S5.out.out)
          have HFO : Hid (OwWal (((((w5.setCell ⟨w.heap.size, 0, none⟩ (.int .i64 x.f0)).setCell ⟨w.heap.size, 1, none⟩ (.int .i64 x.f1)).setCell ⟨w.heap.size, 2, none⟩ (.int .i64 x.f2)).setCell ⟨w.heap.size, 3, none⟩ (.int .i64 x.f3)).setCell ⟨w.heap.size, 4, none⟩ (.slice q5 x.f4.length c5)) w.heap.size x (.slice q5 x.f4.length c5)) := own_low (store5_own (.int .i64 x.f0) (.int .i64 x.f1) (.int .i64 x.f2) (.int .i64 x.f3) (.slice q5 x.f4.length c5) S5.out.row (by have := S5.out.o1; omega)) (by have := S5.out.o1; omega)
          have HFB : Hid (Below w.heap.size w (((((w5.setCell ⟨w.heap.size, 0, none⟩ (.int .i64 x.f0)).setCell ⟨w.heap.size, 1, none⟩ (.int .i64 x.f1)).setCell ⟨w.heap.size, 2, none⟩ (.int .i64 x.f2)).setCell ⟨w.heap.size, 3, none⟩ (.int .i64 x.f3)).setCell ⟨w.heap.size, 4, none⟩ (.slice q5 x.f4.length c5))) := store5_bel (.int .i64 x.f0) (.int .i64 x.f1) (.int .i64 x.f2) (.int .i64 x.f3) (.slice q5 x.f4.length c5) S5.out.down (Nat.le_refl _)
          have HFA : Hid (rpA L' = ((x, n), true)) := HAL.out
          go_wp2
          exact bodyPost_ret (v := .tuple #[.agg #[.int .i64 x.f0, .int .i64 x.f1, .int .i64 x.f2, .int .i64 x.f3, .slice q5 x.f4.length c5], .int .i64 n, .bool true]) (by simp [results, Tryd.results9, go_sem, t0, t1, t2, t3, t4]) rfl (rpR_mk HFA.out HFO.out HFB.out)
      by_cases q2 : r'.f0 = 2
      · skip
        have HQ : Hid (r'.f0 = 2) := q2
        rw [show recV r' = .iface 85 (.agg #[.int .i64 r'.f2, .int .i64 r'.f1, .string r'.f4]) from recV_2 q2]
        have hinv := inv_entry (.agg #[.int .i64 r'.f2, .int .i64 r'.f1, .string r'.f4]) (.pointer (some ⟨wb, 0, none⟩))
        clear hok
        go_wp2_with fail
        refine (step_entry x r' q c wb (wb + 1) wb w4 HQ.out (by have := HRS.out; omega) (okR_idx HOK.out) ⟨by have := HLN.out.1; omega, HLN.out.2⟩ S4.out.wal S4.out.row ⟨Nat.le_refl _, Nat.le_succ _⟩ (lt_of_some S4.out.wal)).mono ?_
        rintro e w5 ⟨rfl, q5, c5, hx5, ho5, b5⟩
        by_cases hfit : fitsR x r'
        · rw [decide_eq_true hfit]
          have hst : stG x r' = stepF x r' := if_pos hfit
          rw [hst] at hx5 ho5
          have hnx := HNX.out ⟨HOK.out, hfit⟩
          have HPN : Hid (RpS L' (stepF x r') (n + (8 + (B.size : Int))) (k + 1 + 1)) := hnx
          have S5 : Hid (RiS w L' v wb w5 (stepF x r') q5 c5) := S4.out.st hx5 ho5 b5
          generalize stepF x r' = Y at HPN S5
          clear hx5 ho5 b5 hst hnx hfit hinv
          go_wp2
          go_roundw
          case rel => first | exact ⟨k + 1, _, Y, q5, c5, rfl, by go_num, by omega, HPN, S5⟩ | ((repeat apply Exists.intro); exact ⟨⟨k + 1, _, Y, q5, c5, rfl, by go_num, by omega, HPN, S5⟩, rfl⟩)
          case measure => simp [intOf]; omega
        · rw [decide_eq_false hfit]
          have hst : stG x r' = x := if_neg hfit
          rw [hst] at hx5 ho5
          have S5 : Hid (RiS w L' v wb w5 x q5 c5) := S4.out.st hx5 ho5 b5
          have HAL : Hid (rpA L' = ((x, n), true)) := HST.out (fun h => hfit h.2)
          clear hx5 ho5 b5 hst hfit hinv
          obtain ⟨y0, y1, y2, y3, y4⟩ := box5 S5.out.wal
          have zf := frz5 S5.out.out
          obtain ⟨z0, z1, z2, z3, z4⟩ := box5 S5.out.out
          obtain ⟨t0, t1, t2, t3, t4⟩ := box5 (store5 (.int .i64 x.f0) (.int .i64 x.f1) (.int .i64 x.f2) (.int .i64 x.f3) (.slice q5 x.f4.length c5) S5.out.out)
          have HFO : Hid (OwWal (((((w5.setCell ⟨w.heap.size, 0, none⟩ (.int .i64 x.f0)).setCell ⟨w.heap.size, 1, none⟩ (.int .i64 x.f1)).setCell ⟨w.heap.size, 2, none⟩ (.int .i64 x.f2)).setCell ⟨w.heap.size, 3, none⟩ (.int .i64 x.f3)).setCell ⟨w.heap.size, 4, none⟩ (.slice q5 x.f4.length c5)) w.heap.size x (.slice q5 x.f4.length c5)) := own_low (store5_own (.int .i64 x.f0) (.int .i64 x.f1) (.int .i64 x.f2) (.int .i64 x.f3) (.slice q5 x.f4.length c5) S5.out.row (by have := S5.out.o1; omega)) (by have := S5.out.o1; omega)
          have HFB : Hid (Below w.heap.size w (((((w5.setCell ⟨w.heap.size, 0, none⟩ (.int .i64 x.f0)).setCell ⟨w.heap.size, 1, none⟩ (.int .i64 x.f1)).setCell ⟨w.heap.size, 2, none⟩ (.int .i64 x.f2)).setCell ⟨w.heap.size, 3, none⟩ (.int .i64 x.f3)).setCell ⟨w.heap.size, 4, none⟩ (.slice q5 x.f4.length c5))) := store5_bel (.int .i64 x.f0) (.int .i64 x.f1) (.int .i64 x.f2) (.int .i64 x.f3) (.slice q5 x.f4.length c5) S5.out.down (Nat.le_refl _)
          have HFA : Hid (rpA L' = ((x, n), true)) := HAL.out
          go_wp2
          exact bodyPost_ret (v := .tuple #[.agg #[.int .i64 x.f0, .int .i64 x.f1, .int .i64 x.f2, .int .i64 x.f3, .slice q5 x.f4.length c5], .int .i64 n, .bool true]) (by simp [results, Tryd.results9, go_sem, t0, t1, t2, t3, t4]) rfl (rpR_mk HFA.out HFO.out HFB.out)
      by_cases q3 : r'.f0 = 3
      · skip
        have HQ : Hid (r'.f0 = 3) := q3
        rw [show recV r' = .iface 91 (.agg #[.int .i64 r'.f2]) from recV_3 q3]
        have hinv := inv_cut (.agg #[.int .i64 r'.f2]) (.pointer (some ⟨wb, 0, none⟩))
        clear hok
        go_wp2_with fail
        refine (step_cut x r' q c wb (wb + 1) wb w4 HQ.out (by have := HRS.out; omega) (okR_idx HOK.out) ⟨by have := HLN.out.1; omega, HLN.out.2⟩ S4.out.wal S4.out.row ⟨Nat.le_refl _, Nat.le_succ _⟩ (lt_of_some S4.out.wal)).mono ?_
        rintro e w5 ⟨rfl, q5, c5, hx5, ho5, b5⟩
        by_cases hfit : fitsR x r'
        · rw [decide_eq_true hfit]
          have hst : stG x r' = stepF x r' := if_pos hfit
          rw [hst] at hx5 ho5
          have hnx := HNX.out ⟨HOK.out, hfit⟩
          have HPN : Hid (RpS L' (stepF x r') (n + (8 + (B.size : Int))) (k + 1 + 1)) := hnx
          have S5 : Hid (RiS w L' v wb w5 (stepF x r') q5 c5) := S4.out.st hx5 ho5 b5
          generalize stepF x r' = Y at HPN S5
          clear hx5 ho5 b5 hst hnx hfit hinv
          go_wp2
          go_roundw
          case rel => first | exact ⟨k + 1, _, Y, q5, c5, rfl, by go_num, by omega, HPN, S5⟩ | ((repeat apply Exists.intro); exact ⟨⟨k + 1, _, Y, q5, c5, rfl, by go_num, by omega, HPN, S5⟩, rfl⟩)
          case measure => simp [intOf]; omega
        · rw [decide_eq_false hfit]
          have hst : stG x r' = x := if_neg hfit
          rw [hst] at hx5 ho5
          have S5 : Hid (RiS w L' v wb w5 x q5 c5) := S4.out.st hx5 ho5 b5
          have HAL : Hid (rpA L' = ((x, n), true)) := HST.out (fun h => hfit h.2)
          clear hx5 ho5 b5 hst hfit hinv
          obtain ⟨y0, y1, y2, y3, y4⟩ := box5 S5.out.wal
          have zf := frz5 S5.out.out
          obtain ⟨z0, z1, z2, z3, z4⟩ := box5 S5.out.out
          obtain ⟨t0, t1, t2, t3, t4⟩ := box5 (store5 (.int .i64 x.f0) (.int .i64 x.f1) (.int .i64 x.f2) (.int .i64 x.f3) (.slice q5 x.f4.length c5) S5.out.out)
          have HFO : Hid (OwWal (((((w5.setCell ⟨w.heap.size, 0, none⟩ (.int .i64 x.f0)).setCell ⟨w.heap.size, 1, none⟩ (.int .i64 x.f1)).setCell ⟨w.heap.size, 2, none⟩ (.int .i64 x.f2)).setCell ⟨w.heap.size, 3, none⟩ (.int .i64 x.f3)).setCell ⟨w.heap.size, 4, none⟩ (.slice q5 x.f4.length c5)) w.heap.size x (.slice q5 x.f4.length c5)) := own_low (store5_own (.int .i64 x.f0) (.int .i64 x.f1) (.int .i64 x.f2) (.int .i64 x.f3) (.slice q5 x.f4.length c5) S5.out.row (by have := S5.out.o1; omega)) (by have := S5.out.o1; omega)
          have HFB : Hid (Below w.heap.size w (((((w5.setCell ⟨w.heap.size, 0, none⟩ (.int .i64 x.f0)).setCell ⟨w.heap.size, 1, none⟩ (.int .i64 x.f1)).setCell ⟨w.heap.size, 2, none⟩ (.int .i64 x.f2)).setCell ⟨w.heap.size, 3, none⟩ (.int .i64 x.f3)).setCell ⟨w.heap.size, 4, none⟩ (.slice q5 x.f4.length c5))) := store5_bel (.int .i64 x.f0) (.int .i64 x.f1) (.int .i64 x.f2) (.int .i64 x.f3) (.slice q5 x.f4.length c5) S5.out.down (Nat.le_refl _)
          have HFA : Hid (rpA L' = ((x, n), true)) := HAL.out
          go_wp2
          exact bodyPost_ret (v := .tuple #[.agg #[.int .i64 x.f0, .int .i64 x.f1, .int .i64 x.f2, .int .i64 x.f3, .slice q5 x.f4.length c5], .int .i64 n, .bool true]) (by simp [results, Tryd.results9, go_sem, t0, t1, t2, t3, t4]) rfl (rpR_mk HFA.out HFO.out HFB.out)
      have q4 : r'.f0 = 4 := by rcases hok with h | h | h | h <;> omega
      rw [show recV r' = .iface 40 (.agg #[.int .i64 r'.f1, .int .i64 r'.f2]) by unfold recV; rw [if_neg q1, if_neg q2, if_neg q3, if_pos q4]]
      have hinv := inv_base (.agg #[.int .i64 r'.f1, .int .i64 r'.f2]) (.pointer (some ⟨wb, 0, none⟩))
      have HAL : Hid (rpA L' = ((x, n), true)) := HST.out (fun h => fits_0 q1 q2 q3 h.2)
      clear hok q1 q2 q3 q4
      go_wp2_with fail
      refine (step_base r'.f1 r'.f2 ⟨wb, 0, none⟩ w4).mono ?_
      rintro e w5 ⟨rfl, b5⟩
      have S5 : Hid (RiS w L' v wb w5 x q c) := S4.out.bel b5
      clear b5 hinv
      obtain ⟨y0, y1, y2, y3, y4⟩ := box5 S5.out.wal
      have zf := frz5 S5.out.out
      obtain ⟨z0, z1, z2, z3, z4⟩ := box5 S5.out.out
      obtain ⟨t0, t1, t2, t3, t4⟩ := box5 (store5 (.int .i64 x.f0) (.int .i64 x.f1) (.int .i64 x.f2) (.int .i64 x.f3) (.slice q x.f4.length c) S5.out.out)
      have HFO : Hid (OwWal (((((w5.setCell ⟨w.heap.size, 0, none⟩ (.int .i64 x.f0)).setCell ⟨w.heap.size, 1, none⟩ (.int .i64 x.f1)).setCell ⟨w.heap.size, 2, none⟩ (.int .i64 x.f2)).setCell ⟨w.heap.size, 3, none⟩ (.int .i64 x.f3)).setCell ⟨w.heap.size, 4, none⟩ (.slice q x.f4.length c)) w.heap.size x (.slice q x.f4.length c)) := own_low (store5_own (.int .i64 x.f0) (.int .i64 x.f1) (.int .i64 x.f2) (.int .i64 x.f3) (.slice q x.f4.length c) S5.out.row (by have := S5.out.o1; omega)) (by have := S5.out.o1; omega)
      have HFB : Hid (Below w.heap.size w (((((w5.setCell ⟨w.heap.size, 0, none⟩ (.int .i64 x.f0)).setCell ⟨w.heap.size, 1, none⟩ (.int .i64 x.f1)).setCell ⟨w.heap.size, 2, none⟩ (.int .i64 x.f2)).setCell ⟨w.heap.size, 3, none⟩ (.int .i64 x.f3)).setCell ⟨w.heap.size, 4, none⟩ (.slice q x.f4.length c))) := store5_bel (.int .i64 x.f0) (.int .i64 x.f1) (.int .i64 x.f2) (.int .i64 x.f3) (.slice q x.f4.length c) S5.out.down (Nat.le_refl _)
      have HFA : Hid (rpA L' = ((x, n), true)) := HAL.out
      go_wp2
      exact bodyPost_ret (v := .tuple #[.agg #[.int .i64 x.f0, .int .i64 x.f1, .int .i64 x.f2, .int .i64 x.f3, .slice q x.f4.length c], .int .i64 n, .bool true]) (by simp [results, Tryd.results9, go_sem, t0, t1, t2, t3, t4]) rfl (rpR_mk HFA.out HFO.out HFB.out)
    · have hlt' : ¬ (k : Int) < ((L'.length - 1 : Nat) : Int) := by omega
      have HAL : Hid (rpA L' = ((x, n), true)) := HP.out.last (by omega)
      obtain ⟨y0, y1, y2, y3, y4⟩ := box5 S.out.wal
      have zf := frz5 S.out.out
      obtain ⟨z0, z1, z2, z3, z4⟩ := box5 S.out.out
      obtain ⟨t0, t1, t2, t3, t4⟩ := box5 (store5 (.int .i64 x.f0) (.int .i64 x.f1) (.int .i64 x.f2) (.int .i64 x.f3) (.slice q x.f4.length c) S.out.out)
      have HFO : Hid (OwWal (((((wr.setCell ⟨w.heap.size, 0, none⟩ (.int .i64 x.f0)).setCell ⟨w.heap.size, 1, none⟩ (.int .i64 x.f1)).setCell ⟨w.heap.size, 2, none⟩ (.int .i64 x.f2)).setCell ⟨w.heap.size, 3, none⟩ (.int .i64 x.f3)).setCell ⟨w.heap.size, 4, none⟩ (.slice q x.f4.length c)) w.heap.size x (.slice q x.f4.length c)) := own_low (store5_own (.int .i64 x.f0) (.int .i64 x.f1) (.int .i64 x.f2) (.int .i64 x.f3) (.slice q x.f4.length c) S.out.row (by have := S.out.o1; omega)) (by have := S.out.o1; omega)
      have HFB : Hid (Below w.heap.size w (((((wr.setCell ⟨w.heap.size, 0, none⟩ (.int .i64 x.f0)).setCell ⟨w.heap.size, 1, none⟩ (.int .i64 x.f1)).setCell ⟨w.heap.size, 2, none⟩ (.int .i64 x.f2)).setCell ⟨w.heap.size, 3, none⟩ (.int .i64 x.f3)).setCell ⟨w.heap.size, 4, none⟩ (.slice q x.f4.length c))) := store5_bel (.int .i64 x.f0) (.int .i64 x.f1) (.int .i64 x.f2) (.int .i64 x.f3) (.slice q x.f4.length c) S.out.down (Nat.le_refl _)
      have HFA : Hid (rpA L' = ((x, n), true)) := HAL.out
      go_wp2
      exact bodyPost_ret (v := .tuple #[.agg #[.int .i64 x.f0, .int .i64 x.f1, .int .i64 x.f2, .int .i64 x.f3, .slice q x.f4.length c], .int .i64 n, .bool true]) (by simp [results, Tryd.results9, go_sem, t0, t1, t2, t3, t4]) rfl (rpR_mk HFA.out HFO.out HFB.out)

end Go.Proofs.YthlokfcejojdhaaDoor
