/- WalStep of the program. -/
import Derived.Test.YtengfkakiohfaaaWyEntry
import Derived.Test.YtengfkakiohfaaaWyStep
import Derived.Test.YtengfkakiohfaaaWwImpl
namespace Go.Proofs.Ytengfkakiohfaaa
open Go.RowKit
set_option linter.unusedVariables false
set_option linter.unusedSimpArgs false

theorem ofV_yes {r : S_Rec} (h : okR r) : ofV r = recV r := by
  unfold ofV
  first | exact if_pos h | simp [h]

theorem okR_idx {r : S_Rec} (h : okR r) : 0 ≤ r.f2 ∧ r.f2 ≤ 1000000 := by
  unfold okR at h
  omega

theorem recV_1 {r : S_Rec} (h : r.f0 = 1) : recV r = .iface 58 (.agg #[.int .i64 r.f1, .int .i64 r.f3]) := by unfold recV; rw [if_pos h]
theorem recV_2 {r : S_Rec} (h : r.f0 = 2) : recV r = .iface 89 (.agg #[.int .i64 r.f2, .int .i64 r.f1, .string r.f4]) := by unfold recV; rw [if_neg (by omega), if_pos h]
theorem recV_3 {r : S_Rec} (h : r.f0 = 3) : recV r = .iface 61 (.agg #[.int .i64 r.f2]) := by unfold recV; rw [if_neg (by omega), if_neg (by omega), if_pos h]
theorem recV_4 {r : S_Rec} (h : r.f0 = 4) : recV r = .iface 92 (.agg #[.int .i64 r.f1, .int .i64 r.f2]) := by unfold recV; rw [if_neg (by omega), if_neg (by omega), if_neg (by omega), if_pos h]

theorem ws_st {x : S_Wal} {r : S_Rec} (h : okW x) (h2 : okR r) : wsF x r = stG x r ∧ wsB x r = decide (fitsR x r) := by
  by_cases hf : fitsR x r
  · have := ws_yes h ⟨h2, hf⟩
    exact ⟨this.1.trans (if_pos hf).symm, this.2.trans (decide_eq_true hf).symm⟩
  · have := ws_no h (fun h' => hf h'.2)
    exact ⟨this.1.trans (if_neg hf).symm, this.2.trans (decide_eq_false hf).symm⟩

theorem step_none {x : S_Wal} {r : S_Rec} {b base B : Nat} {w w' : World} {e : Ending} {q : Option Addr} {c : Nat} (h : ¬ fitsR x r) (h1 : w.heap[b]? = some (.cells #[.int .i64 x.f0, .int .i64 x.f1, .int .i64 x.f2, .int .i64 x.f3, .slice q x.f4.length c] 26)) (h2 : w.ownsRow base 68 2 (.slice q x.f4.length c) x.f4.length (rEntry x.f4)) (hB : B ≤ w.heap.size) (he : e = .returned (.bool false)) (hb : Below w.heap.size w w') : StR x r b base B w e w' := by
  rw [he]
  exact stR_no h ((hb.block _ (lt_of_some h1)).trans h1) (own_bel h2 hb (Nat.le_refl _)) (hb.mono hB)

set_option maxRecDepth 20000 in
set_option maxHeartbeats 4000000 in
theorem implWalStep_c (x : S_Wal) (r : S_Rec) (p : Option Addr) (cap : Nat) (w : World) (hn : x.f4.length ≤ 1048576) (hs : ∀ y ∈ x.f4, sEntry y) (hz : sRec r) (hz2 : r.f4.size ≤ 1048576) (hr : RowR w (.slice p x.f4.length cap) x.f4.length 2 (rEntry x.f4)) :
    Calls Try.prog 9 #[.agg #[.int .i64 x.f0, .int .i64 x.f1, .int .i64 x.f2, .int .i64 x.f3, .slice p x.f4.length cap], .agg #[.int .i64 r.f0, .int .i64 r.f1, .int .i64 r.f2, .int .i64 r.f3, .string r.f4]] w (WsR x r w) := by
  have HZ2 : Hid (r.f4.size ≤ 1048576) := hz2
  clear hz2
  obtain ⟨W0, hW0⟩ : ∃ W, W = ((w.alloc (.cells #[.int .i64 x.f0, .int .i64 x.f1, .int .i64 x.f2, .int .i64 x.f3, .slice p x.f4.length cap] 26)).alloc (.cells #[.int .i64 r.f0, .int .i64 r.f1, .int .i64 r.f2, .int .i64 r.f3, .string r.f4] 35)).alloc (.cells #[.int .i64 0, .int .i64 0, .int .i64 0, .int .i64 0, .slice none 0 0] 26) := ⟨_, rfl⟩
  have HW0 : Hid (((w.alloc (.cells #[.int .i64 x.f0, .int .i64 x.f1, .int .i64 x.f2, .int .i64 x.f3, .slice p x.f4.length cap] 26)).alloc (.cells #[.int .i64 r.f0, .int .i64 r.f1, .int .i64 r.f2, .int .i64 r.f3, .string r.f4] 35)).alloc (.cells #[.int .i64 0, .int .i64 0, .int .i64 0, .int .i64 0, .slice none 0 0] 26) = W0) := hW0.symm
  have HZ0 : Hid (W0.heap.size = w.heap.size + 3) := by show _ = _; rw [hW0]; simp
  have HB0 : Hid (Below w.heap.size w W0) := by rw [hW0]; exact (((Below.refl _ _).alloc (Nat.le_refl _) _).alloc (by simp) _).alloc (by simp; omega) _
  have HX0 : Hid (W0.heap[w.heap.size]? = some (.cells #[.int .i64 x.f0, .int .i64 x.f1, .int .i64 x.f2, .int .i64 x.f3, .slice p x.f4.length cap] 26)) := by
    rw [hW0, Below.heap_alloc _ _ _ (by simp; omega), Below.heap_alloc _ _ _ (by simp)]
    exact alloc_last _ _
  have HY0 : Hid (W0.heap[w.heap.size + 1]? = some (.cells #[.int .i64 r.f0, .int .i64 r.f1, .int .i64 r.f2, .int .i64 r.f3, .string r.f4] 35)) := by
    rw [hW0, Below.heap_alloc _ _ _ (by simp)]
    have := alloc_last (w.alloc (.cells #[.int .i64 x.f0, .int .i64 x.f1, .int .i64 x.f2, .int .i64 x.f3, .slice p x.f4.length cap] 26)) (.cells #[.int .i64 r.f0, .int .i64 r.f1, .int .i64 r.f2, .int .i64 r.f3, .string r.f4] 35)
    rw [World.size_alloc] at this
    exact this
  have HV0 : Hid (W0.heap[w.heap.size + 2]? = some (.cells #[.int .i64 0, .int .i64 0, .int .i64 0, .int .i64 0, .slice none 0 0] 26)) := by
    rw [hW0]
    have := alloc_last ((w.alloc (.cells #[.int .i64 x.f0, .int .i64 x.f1, .int .i64 x.f2, .int .i64 x.f3, .slice p x.f4.length cap] 26)).alloc (.cells #[.int .i64 r.f0, .int .i64 r.f1, .int .i64 r.f2, .int .i64 r.f3, .string r.f4] 35)) (.cells #[.int .i64 0, .int .i64 0, .int .i64 0, .int .i64 0, .slice none 0 0] 26)
    rw [World.size_alloc, World.size_alloc] at this
    exact this
  have HRW : Hid (RowR W0 (.slice p x.f4.length cap) x.f4.length 2 (rEntry x.f4)) := RowR.keep hr HB0.out (Nat.le_refl _)
  have HN : Hid (x.f4.length ≤ 1048576) := hn
  have HS : Hid (∀ y ∈ x.f4, sEntry y) := hs
  have HSR : Hid (sRec r) := hz
  clear hn hr hW0 hs hz
  obtain ⟨d0, d1, d2, d3, d4⟩ := box5 HX0.out
  go_enter Try.func9, Try.ntmps9
  go_wp2_with fail
  rw [HW0.out]
  refine (implWalOk_c x p cap W0 HN.out HS.out HRW.out).mono ?_
  rintro e w1 ⟨rfl, b1⟩
  have HX1 : Hid (w1.heap[w.heap.size]? = some (.cells #[.int .i64 x.f0, .int .i64 x.f1, .int .i64 x.f2, .int .i64 x.f3, .slice p x.f4.length cap] 26)) := (b1.block _ (lt_of_some HX0.out)).trans HX0.out
  have HY1 : Hid (w1.heap[w.heap.size + 1]? = some (.cells #[.int .i64 r.f0, .int .i64 r.f1, .int .i64 r.f2, .int .i64 r.f3, .string r.f4] 35)) := (b1.block _ (lt_of_some HY0.out)).trans HY0.out
  have HV1 : Hid (w1.heap[w.heap.size + 2]? = some (.cells #[.int .i64 0, .int .i64 0, .int .i64 0, .int .i64 0, .slice none 0 0] 26)) := (b1.block _ (lt_of_some HV0.out)).trans HV0.out
  have HB1 : Hid (Below w.heap.size w w1) := HB0.out.trans (b1.mono HB0.out.size)
  have HZ1 : Hid (w.heap.size + 3 ≤ w1.heap.size) := by have := b1.size; have := HZ0.out; show _ ≤ _; omega
  have HR1 : Hid (RowR w1 (.slice p x.f4.length cap) x.f4.length 2 (rEntry x.f4)) := RowR.keep HRW.out b1 (Nat.le_refl _)
  clear b1 d0 d1 d2 d3 d4
  by_cases hok : okW x
  rotate_left
  · rw [decide_eq_false hok]
    have HE : Hid (wsF x r = zeroW ∧ wsB x r = false) := ws_bad hok
    clear hok
    obtain ⟨z0, z1, z2, z3, z4⟩ := box5 HV1.out
    have zf := frz5 HV1.out
    have HOF : Hid (OwWal ((((((w1.setCell ⟨w.heap.size + 2, 0, none⟩ ((.int .i64 0))).setCell ⟨w.heap.size + 2, 1, none⟩ ((.int .i64 0))).setCell ⟨w.heap.size + 2, 2, none⟩ ((.int .i64 0))).setCell ⟨w.heap.size + 2, 3, none⟩ ((.int .i64 0))).setCell ⟨w.heap.size + 2, 4, none⟩ ((.slice none 0 0)))) w.heap.size (zeroW) (.slice none 0 0)) := own_low (store5_own (.int .i64 0) (.int .i64 0) (.int .i64 0) (.int .i64 0) (.slice none 0 0) (show w1.ownsRow (w.heap.size + 3) _ 2 (.slice none 0 0) 0 (rEntry []) from ⟨rfl, Or.inl ⟨rfl, rfl⟩⟩) (by omega)) (by omega)
    have HBF : Hid (Below w.heap.size w ((((((w1.setCell ⟨w.heap.size + 2, 0, none⟩ ((.int .i64 0))).setCell ⟨w.heap.size + 2, 1, none⟩ ((.int .i64 0))).setCell ⟨w.heap.size + 2, 2, none⟩ ((.int .i64 0))).setCell ⟨w.heap.size + 2, 3, none⟩ ((.int .i64 0))).setCell ⟨w.heap.size + 2, 4, none⟩ ((.slice none 0 0))))) := store5_bel (.int .i64 0) (.int .i64 0) (.int .i64 0) (.int .i64 0) (.slice none 0 0) HB1.out (by omega)
    obtain ⟨t0, t1, t2, t3, t4⟩ := box5 (store5 (.int .i64 0) (.int .i64 0) (.int .i64 0) (.int .i64 0) (.slice none 0 0) HV1.out)
    go_wp2
    refine bodyPost_ret (v := .tuple #[.agg #[.int .i64 0, .int .i64 0, .int .i64 0, .int .i64 0, .slice none 0 0], .bool false]) (by simp [results, Try.results9, go_sem, t0, t1, t2, t3, t4]) rfl ?_
    exact wsR_mk (y := zeroW) HE.out HOF.out HBF.out
  rw [decide_eq_true hok]
  have HOK : Hid (okW x) := hok
  have HLN : Hid (x.f4.length ≤ 60 ∧ (0 ≤ x.f2 ∧ x.f2 ≤ 100000)) := okW_len hok
  have HDA : Hid (∀ y ∈ x.f4, y.f1.size ≤ 281474976710656) := okW_data hok
  clear hok
  obtain ⟨d0, d1, d2, d3, d4⟩ := box5 HX1.out
  go_wp2_with fail
  refine (copyWal_c x p cap w1 HN.out HDA.out HR1.out).mono ?_
  rintro e w2 ⟨q, c, rfl, ho2, b2⟩
  have HY2 : Hid (w2.heap[w.heap.size + 1]? = some (.cells #[.int .i64 r.f0, .int .i64 r.f1, .int .i64 r.f2, .int .i64 r.f3, .string r.f4] 35)) := (b2.block _ (lt_of_some HY1.out)).trans HY1.out
  have HV2 : Hid (w2.heap[w.heap.size + 2]? = some (.cells #[.int .i64 0, .int .i64 0, .int .i64 0, .int .i64 0, .slice none 0 0] 26)) := (b2.block _ (lt_of_some HV1.out)).trans HV1.out
  have HB2 : Hid (Below w.heap.size w w2) := HB1.out.trans (b2.mono HB1.out.size)
  have HZ2s : Hid (w1.heap.size ≤ w2.heap.size) := b2.size
  clear d0 d1 d2 d3 d4
  obtain ⟨e0, e1, e2, e3, e4⟩ := box5 HY2.out
  obtain ⟨W3, hW3⟩ : ∃ W, W = w2.alloc (.cells #[.int .i64 x.f0, .int .i64 x.f1, .int .i64 x.f2, .int .i64 x.f3, .slice q x.f4.length c] 26) := ⟨_, rfl⟩
  have HW3 : Hid (w2.alloc (.cells #[.int .i64 x.f0, .int .i64 x.f1, .int .i64 x.f2, .int .i64 x.f3, .slice q x.f4.length c] 26) = W3) := hW3.symm
  have HX3 : Hid (W3.heap[w2.heap.size]? = some (.cells #[.int .i64 x.f0, .int .i64 x.f1, .int .i64 x.f2, .int .i64 x.f3, .slice q x.f4.length c] 26)) := by rw [hW3]; exact alloc_last _ _
  have HY3 : Hid (W3.heap[w.heap.size + 1]? = some (.cells #[.int .i64 r.f0, .int .i64 r.f1, .int .i64 r.f2, .int .i64 r.f3, .string r.f4] 35)) := by rw [hW3, Below.heap_alloc _ _ _ (lt_of_some HY2.out)]; exact HY2.out
  have HV3 : Hid (W3.heap[w.heap.size + 2]? = some (.cells #[.int .i64 0, .int .i64 0, .int .i64 0, .int .i64 0, .slice none 0 0] 26)) := by rw [hW3, Below.heap_alloc _ _ _ (lt_of_some HV2.out)]; exact HV2.out
  have HB3 : Hid (Below w.heap.size w W3) := by rw [hW3]; exact HB2.out.alloc HB2.out.size _
  have HO3 : Hid (W3.ownsRow w1.heap.size 68 2 (.slice q x.f4.length c) x.f4.length (rEntry x.f4)) := by rw [hW3]; exact (show w2.ownsRow _ _ _ _ _ _ from ho2).alloc _
  have HLT : Hid (w.heap.size + 1 < w2.heap.size) := lt_of_some HY2.out
  clear hW3 ho2 b2
  have hne1 : ¬ w.heap.size + 1 = w2.heap.size := by have := HLT.out; omega
  have hlt1 : w.heap.size + 1 < w2.heap.size := HLT.out
  go_wp2_with fail
  rw [HW3.out]
  refine (recordOf_c r W3 HZ2.out).mono ?_
  rintro e w4 ⟨rfl, b4⟩
  have HX4 : Hid (w4.heap[w2.heap.size]? = some (.cells #[.int .i64 x.f0, .int .i64 x.f1, .int .i64 x.f2, .int .i64 x.f3, .slice q x.f4.length c] 26)) := (b4.block _ (lt_of_some HX3.out)).trans HX3.out
  have HY4 : Hid (w4.heap[w.heap.size + 1]? = some (.cells #[.int .i64 r.f0, .int .i64 r.f1, .int .i64 r.f2, .int .i64 r.f3, .string r.f4] 35)) := (b4.block _ (lt_of_some HY3.out)).trans HY3.out
  have HV4 : Hid (w4.heap[w.heap.size + 2]? = some (.cells #[.int .i64 0, .int .i64 0, .int .i64 0, .int .i64 0, .slice none 0 0] 26)) := (b4.block _ (lt_of_some HV3.out)).trans HV3.out
  have HB4 : Hid (Below w.heap.size w w4) := HB3.out.trans (b4.mono HB3.out.size)
  have HO4 : Hid (w4.ownsRow w1.heap.size 68 2 (.slice q x.f4.length c) x.f4.length (rEntry x.f4)) := own_bel HO3.out b4 (Nat.le_refl _)
  have HSZ4 : Hid (w1.heap.size ≤ w4.heap.size ∧ w2.heap.size < w4.heap.size) := by have := lt_of_some HX4.out; have := HZ2s.out; show _ ∧ _; omega
  clear b4 e0 e1 e2 e3 e4 hne1 hlt1
  by_cases hrk : okR r
  rotate_left
  · rw [decide_eq_false hrk]
    have HE : Hid (¬ (okR r ∧ fitsR x r)) := fun h => hrk h.1
    clear hrk
    obtain ⟨a0, a1, a2, a3, a4⟩ := box5 HX4.out
    obtain ⟨z0, z1, z2, z3, z4⟩ := box5 HV4.out
    have zf := frz5 HV4.out
    have HOF : Hid (OwWal ((((((w4.setCell ⟨w.heap.size + 2, 0, none⟩ ((.int .i64 x.f0))).setCell ⟨w.heap.size + 2, 1, none⟩ ((.int .i64 x.f1))).setCell ⟨w.heap.size + 2, 2, none⟩ ((.int .i64 x.f2))).setCell ⟨w.heap.size + 2, 3, none⟩ ((.int .i64 x.f3))).setCell ⟨w.heap.size + 2, 4, none⟩ ((.slice q x.f4.length c)))) w.heap.size (x) (.slice q x.f4.length c)) := own_low (store5_own (.int .i64 x.f0) (.int .i64 x.f1) (.int .i64 x.f2) (.int .i64 x.f3) (.slice q x.f4.length c) HO4.out (by have := HZ1.out; omega)) (by have := HZ1.out; omega)
    have HBF : Hid (Below w.heap.size w ((((((w4.setCell ⟨w.heap.size + 2, 0, none⟩ ((.int .i64 x.f0))).setCell ⟨w.heap.size + 2, 1, none⟩ ((.int .i64 x.f1))).setCell ⟨w.heap.size + 2, 2, none⟩ ((.int .i64 x.f2))).setCell ⟨w.heap.size + 2, 3, none⟩ ((.int .i64 x.f3))).setCell ⟨w.heap.size + 2, 4, none⟩ ((.slice q x.f4.length c))))) := store5_bel (.int .i64 x.f0) (.int .i64 x.f1) (.int .i64 x.f2) (.int .i64 x.f3) (.slice q x.f4.length c) HB4.out (by omega)
    obtain ⟨t0, t1, t2, t3, t4⟩ := box5 (store5 (.int .i64 x.f0) (.int .i64 x.f1) (.int .i64 x.f2) (.int .i64 x.f3) (.slice q x.f4.length c) HV4.out)
    go_wp2
    refine bodyPost_ret (v := .tuple #[.agg #[.int .i64 x.f0, .int .i64 x.f1, .int .i64 x.f2, .int .i64 x.f3, .slice q x.f4.length c], .bool false]) (by simp [results, Try.results9, go_sem, t0, t1, t2, t3, t4]) rfl ?_
    exact wsR_mk (y := x) (ws_no HOK.out HE.out) HOF.out HBF.out
  rw [decide_eq_true hrk]
  have HRK : Hid (okR r) := hrk
  have HOF0 : Hid (ofV r = recV r) := ofV_yes hrk
  have HRI : Hid (0 ≤ r.f2 ∧ r.f2 ≤ 1000000) := okR_idx hrk
  rw [HOF0.out]
  by_cases q1 : r.f0 = 1
  · have HQ : Hid (r.f0 = 1) := q1
    have HV : Hid (recV r = .iface 58 (.agg #[.int .i64 r.f1, .int .i64 r.f3])) := recV_1 q1
    rw [HV.out]
    have hinv := inv_hard (.agg #[.int .i64 r.f1, .int .i64 r.f3]) (.pointer (some ⟨w2.heap.size, 0, none⟩))
    clear hrk q1
    go_wp2_with fail
    refine (step_hard x r q c w2.heap.size w1.heap.size w1.heap.size w4 HQ.out HZ2.out HRI.out ⟨HN.out, HLN.out.2⟩ HX4.out HO4.out ⟨HZ2s.out, Nat.le_refl _⟩ HSZ4.out.1).mono ?_
    rintro e w5 ⟨rfl, q5, c5, hx5, ho5, b5⟩
    have HX5 : Hid (w5.heap[w2.heap.size]? = some (.cells #[.int .i64 (stG x r).f0, .int .i64 (stG x r).f1, .int .i64 (stG x r).f2, .int .i64 (stG x r).f3, .slice q5 (stG x r).f4.length c5] 26)) := hx5
    have HV5 : Hid (w5.heap[w.heap.size + 2]? = some (.cells #[.int .i64 0, .int .i64 0, .int .i64 0, .int .i64 0, .slice none 0 0] 26)) := (b5.block _ (by have := HZ1.out; omega)).trans HV4.out
    have HO5 : Hid (w5.ownsRow w1.heap.size 68 2 (.slice q5 (stG x r).f4.length c5) (stG x r).f4.length (rEntry (stG x r).f4)) := ho5
    have HB5 : Hid (Below w.heap.size w w5) := HB4.out.trans (b5.mono (by have := HZ1.out; omega))
    clear hx5 ho5 b5
    obtain ⟨y, hy⟩ : ∃ y, stG x r = y := ⟨_, rfl⟩
    have HYE : Hid (wsF x r = y ∧ wsB x r = decide (fitsR x r)) := by rw [← hy]; exact ws_st HOK.out HRK.out
    rw [hy] at HX5 HO5
    generalize decide (fitsR x r) = g at HYE ⊢
    clear hy hinv
    obtain ⟨a0, a1, a2, a3, a4⟩ := box5 HX5.out
    obtain ⟨z0, z1, z2, z3, z4⟩ := box5 HV5.out
    have zf := frz5 HV5.out
    have HOF : Hid (OwWal ((((((w5.setCell ⟨w.heap.size + 2, 0, none⟩ ((.int .i64 y.f0))).setCell ⟨w.heap.size + 2, 1, none⟩ ((.int .i64 y.f1))).setCell ⟨w.heap.size + 2, 2, none⟩ ((.int .i64 y.f2))).setCell ⟨w.heap.size + 2, 3, none⟩ ((.int .i64 y.f3))).setCell ⟨w.heap.size + 2, 4, none⟩ ((.slice q5 y.f4.length c5)))) w.heap.size (y) (.slice q5 y.f4.length c5)) := own_low (store5_own (.int .i64 y.f0) (.int .i64 y.f1) (.int .i64 y.f2) (.int .i64 y.f3) (.slice q5 y.f4.length c5) HO5.out (by have := HZ1.out; omega)) (by have := HZ1.out; omega)
    have HBF : Hid (Below w.heap.size w ((((((w5.setCell ⟨w.heap.size + 2, 0, none⟩ ((.int .i64 y.f0))).setCell ⟨w.heap.size + 2, 1, none⟩ ((.int .i64 y.f1))).setCell ⟨w.heap.size + 2, 2, none⟩ ((.int .i64 y.f2))).setCell ⟨w.heap.size + 2, 3, none⟩ ((.int .i64 y.f3))).setCell ⟨w.heap.size + 2, 4, none⟩ ((.slice q5 y.f4.length c5))))) := store5_bel (.int .i64 y.f0) (.int .i64 y.f1) (.int .i64 y.f2) (.int .i64 y.f3) (.slice q5 y.f4.length c5) HB5.out (by omega)
    obtain ⟨t0, t1, t2, t3, t4⟩ := box5 (store5 (.int .i64 y.f0) (.int .i64 y.f1) (.int .i64 y.f2) (.int .i64 y.f3) (.slice q5 y.f4.length c5) HV5.out)
    go_wp2
    refine bodyPost_ret (v := .tuple #[.agg #[.int .i64 y.f0, .int .i64 y.f1, .int .i64 y.f2, .int .i64 y.f3, .slice q5 y.f4.length c5], .bool g]) (by simp [results, Try.results9, go_sem, t0, t1, t2, t3, t4]) rfl ?_
    exact wsR_mk (y := y) HYE.out HOF.out HBF.out
  by_cases q2 : r.f0 = 2
  · have HQ : Hid (r.f0 = 2) := q2
    have HV : Hid (recV r = .iface 89 (.agg #[.int .i64 r.f2, .int .i64 r.f1, .string r.f4])) := recV_2 q2
    rw [HV.out]
    have hinv := inv_entry (.agg #[.int .i64 r.f2, .int .i64 r.f1, .string r.f4]) (.pointer (some ⟨w2.heap.size, 0, none⟩))
    clear hrk q1 q2
    go_wp2_with fail
    refine (step_entry x r q c w2.heap.size w1.heap.size w1.heap.size w4 HQ.out HZ2.out HRI.out ⟨HN.out, HLN.out.2⟩ HX4.out HO4.out ⟨HZ2s.out, Nat.le_refl _⟩ HSZ4.out.1).mono ?_
    rintro e w5 ⟨rfl, q5, c5, hx5, ho5, b5⟩
    have HX5 : Hid (w5.heap[w2.heap.size]? = some (.cells #[.int .i64 (stG x r).f0, .int .i64 (stG x r).f1, .int .i64 (stG x r).f2, .int .i64 (stG x r).f3, .slice q5 (stG x r).f4.length c5] 26)) := hx5
    have HV5 : Hid (w5.heap[w.heap.size + 2]? = some (.cells #[.int .i64 0, .int .i64 0, .int .i64 0, .int .i64 0, .slice none 0 0] 26)) := (b5.block _ (by have := HZ1.out; omega)).trans HV4.out
    have HO5 : Hid (w5.ownsRow w1.heap.size 68 2 (.slice q5 (stG x r).f4.length c5) (stG x r).f4.length (rEntry (stG x r).f4)) := ho5
    have HB5 : Hid (Below w.heap.size w w5) := HB4.out.trans (b5.mono (by have := HZ1.out; omega))
    clear hx5 ho5 b5
    obtain ⟨y, hy⟩ : ∃ y, stG x r = y := ⟨_, rfl⟩
    have HYE : Hid (wsF x r = y ∧ wsB x r = decide (fitsR x r)) := by rw [← hy]; exact ws_st HOK.out HRK.out
    rw [hy] at HX5 HO5
    generalize decide (fitsR x r) = g at HYE ⊢
    clear hy hinv
    obtain ⟨a0, a1, a2, a3, a4⟩ := box5 HX5.out
    obtain ⟨z0, z1, z2, z3, z4⟩ := box5 HV5.out
    have zf := frz5 HV5.out
    have HOF : Hid (OwWal ((((((w5.setCell ⟨w.heap.size + 2, 0, none⟩ ((.int .i64 y.f0))).setCell ⟨w.heap.size + 2, 1, none⟩ ((.int .i64 y.f1))).setCell ⟨w.heap.size + 2, 2, none⟩ ((.int .i64 y.f2))).setCell ⟨w.heap.size + 2, 3, none⟩ ((.int .i64 y.f3))).setCell ⟨w.heap.size + 2, 4, none⟩ ((.slice q5 y.f4.length c5)))) w.heap.size (y) (.slice q5 y.f4.length c5)) := own_low (store5_own (.int .i64 y.f0) (.int .i64 y.f1) (.int .i64 y.f2) (.int .i64 y.f3) (.slice q5 y.f4.length c5) HO5.out (by have := HZ1.out; omega)) (by have := HZ1.out; omega)
    have HBF : Hid (Below w.heap.size w ((((((w5.setCell ⟨w.heap.size + 2, 0, none⟩ ((.int .i64 y.f0))).setCell ⟨w.heap.size + 2, 1, none⟩ ((.int .i64 y.f1))).setCell ⟨w.heap.size + 2, 2, none⟩ ((.int .i64 y.f2))).setCell ⟨w.heap.size + 2, 3, none⟩ ((.int .i64 y.f3))).setCell ⟨w.heap.size + 2, 4, none⟩ ((.slice q5 y.f4.length c5))))) := store5_bel (.int .i64 y.f0) (.int .i64 y.f1) (.int .i64 y.f2) (.int .i64 y.f3) (.slice q5 y.f4.length c5) HB5.out (by omega)
    obtain ⟨t0, t1, t2, t3, t4⟩ := box5 (store5 (.int .i64 y.f0) (.int .i64 y.f1) (.int .i64 y.f2) (.int .i64 y.f3) (.slice q5 y.f4.length c5) HV5.out)
    go_wp2
    refine bodyPost_ret (v := .tuple #[.agg #[.int .i64 y.f0, .int .i64 y.f1, .int .i64 y.f2, .int .i64 y.f3, .slice q5 y.f4.length c5], .bool g]) (by simp [results, Try.results9, go_sem, t0, t1, t2, t3, t4]) rfl ?_
    exact wsR_mk (y := y) HYE.out HOF.out HBF.out
  by_cases q3 : r.f0 = 3
  · have HQ : Hid (r.f0 = 3) := q3
    have HV : Hid (recV r = .iface 61 (.agg #[.int .i64 r.f2])) := recV_3 q3
    rw [HV.out]
    have hinv := inv_cut (.agg #[.int .i64 r.f2]) (.pointer (some ⟨w2.heap.size, 0, none⟩))
    clear hrk q1 q2 q3
    go_wp2_with fail
    refine (step_cut x r q c w2.heap.size w1.heap.size w1.heap.size w4 HQ.out HZ2.out HRI.out ⟨HN.out, HLN.out.2⟩ HX4.out HO4.out ⟨HZ2s.out, Nat.le_refl _⟩ HSZ4.out.1).mono ?_
    rintro e w5 ⟨rfl, q5, c5, hx5, ho5, b5⟩
    have HX5 : Hid (w5.heap[w2.heap.size]? = some (.cells #[.int .i64 (stG x r).f0, .int .i64 (stG x r).f1, .int .i64 (stG x r).f2, .int .i64 (stG x r).f3, .slice q5 (stG x r).f4.length c5] 26)) := hx5
    have HV5 : Hid (w5.heap[w.heap.size + 2]? = some (.cells #[.int .i64 0, .int .i64 0, .int .i64 0, .int .i64 0, .slice none 0 0] 26)) := (b5.block _ (by have := HZ1.out; omega)).trans HV4.out
    have HO5 : Hid (w5.ownsRow w1.heap.size 68 2 (.slice q5 (stG x r).f4.length c5) (stG x r).f4.length (rEntry (stG x r).f4)) := ho5
    have HB5 : Hid (Below w.heap.size w w5) := HB4.out.trans (b5.mono (by have := HZ1.out; omega))
    clear hx5 ho5 b5
    obtain ⟨y, hy⟩ : ∃ y, stG x r = y := ⟨_, rfl⟩
    have HYE : Hid (wsF x r = y ∧ wsB x r = decide (fitsR x r)) := by rw [← hy]; exact ws_st HOK.out HRK.out
    rw [hy] at HX5 HO5
    generalize decide (fitsR x r) = g at HYE ⊢
    clear hy hinv
    obtain ⟨a0, a1, a2, a3, a4⟩ := box5 HX5.out
    obtain ⟨z0, z1, z2, z3, z4⟩ := box5 HV5.out
    have zf := frz5 HV5.out
    have HOF : Hid (OwWal ((((((w5.setCell ⟨w.heap.size + 2, 0, none⟩ ((.int .i64 y.f0))).setCell ⟨w.heap.size + 2, 1, none⟩ ((.int .i64 y.f1))).setCell ⟨w.heap.size + 2, 2, none⟩ ((.int .i64 y.f2))).setCell ⟨w.heap.size + 2, 3, none⟩ ((.int .i64 y.f3))).setCell ⟨w.heap.size + 2, 4, none⟩ ((.slice q5 y.f4.length c5)))) w.heap.size (y) (.slice q5 y.f4.length c5)) := own_low (store5_own (.int .i64 y.f0) (.int .i64 y.f1) (.int .i64 y.f2) (.int .i64 y.f3) (.slice q5 y.f4.length c5) HO5.out (by have := HZ1.out; omega)) (by have := HZ1.out; omega)
    have HBF : Hid (Below w.heap.size w ((((((w5.setCell ⟨w.heap.size + 2, 0, none⟩ ((.int .i64 y.f0))).setCell ⟨w.heap.size + 2, 1, none⟩ ((.int .i64 y.f1))).setCell ⟨w.heap.size + 2, 2, none⟩ ((.int .i64 y.f2))).setCell ⟨w.heap.size + 2, 3, none⟩ ((.int .i64 y.f3))).setCell ⟨w.heap.size + 2, 4, none⟩ ((.slice q5 y.f4.length c5))))) := store5_bel (.int .i64 y.f0) (.int .i64 y.f1) (.int .i64 y.f2) (.int .i64 y.f3) (.slice q5 y.f4.length c5) HB5.out (by omega)
    obtain ⟨t0, t1, t2, t3, t4⟩ := box5 (store5 (.int .i64 y.f0) (.int .i64 y.f1) (.int .i64 y.f2) (.int .i64 y.f3) (.slice q5 y.f4.length c5) HV5.out)
    go_wp2
    refine bodyPost_ret (v := .tuple #[.agg #[.int .i64 y.f0, .int .i64 y.f1, .int .i64 y.f2, .int .i64 y.f3, .slice q5 y.f4.length c5], .bool g]) (by simp [results, Try.results9, go_sem, t0, t1, t2, t3, t4]) rfl ?_
    exact wsR_mk (y := y) HYE.out HOF.out HBF.out
  have q4 : r.f0 = 4 := by unfold okR at hrk; omega
  have HV : Hid (recV r = .iface 92 (.agg #[.int .i64 r.f1, .int .i64 r.f2])) := recV_4 q4
  have HNF : Hid (¬ fitsR x r) := fits_0 q1 q2 q3
  rw [HV.out]
  have hinv := inv_base (.agg #[.int .i64 r.f1, .int .i64 r.f2]) (.pointer (some ⟨w2.heap.size, 0, none⟩))
  clear hrk q1 q2 q3 q4
  go_wp2_with fail
  refine ((step_base r.f1 r.f2 ⟨w2.heap.size, 0, none⟩ w4).mono fun e w' ⟨he, hb⟩ => (step_none (B := w1.heap.size) HNF.out HX4.out HO4.out HSZ4.out.1 he hb)).mono ?_
  rintro e w5 ⟨rfl, q5, c5, hx5, ho5, b5⟩
  have HX5 : Hid (w5.heap[w2.heap.size]? = some (.cells #[.int .i64 (stG x r).f0, .int .i64 (stG x r).f1, .int .i64 (stG x r).f2, .int .i64 (stG x r).f3, .slice q5 (stG x r).f4.length c5] 26)) := hx5
  have HV5 : Hid (w5.heap[w.heap.size + 2]? = some (.cells #[.int .i64 0, .int .i64 0, .int .i64 0, .int .i64 0, .slice none 0 0] 26)) := (b5.block _ (by have := HZ1.out; omega)).trans HV4.out
  have HO5 : Hid (w5.ownsRow w1.heap.size 68 2 (.slice q5 (stG x r).f4.length c5) (stG x r).f4.length (rEntry (stG x r).f4)) := ho5
  have HB5 : Hid (Below w.heap.size w w5) := HB4.out.trans (b5.mono (by have := HZ1.out; omega))
  clear hx5 ho5 b5
  obtain ⟨y, hy⟩ : ∃ y, stG x r = y := ⟨_, rfl⟩
  have HYE : Hid (wsF x r = y ∧ wsB x r = decide (fitsR x r)) := by rw [← hy]; exact ws_st HOK.out HRK.out
  rw [hy] at HX5 HO5
  generalize decide (fitsR x r) = g at HYE ⊢
  clear hy hinv
  obtain ⟨a0, a1, a2, a3, a4⟩ := box5 HX5.out
  obtain ⟨z0, z1, z2, z3, z4⟩ := box5 HV5.out
  have zf := frz5 HV5.out
  have HOF : Hid (OwWal ((((((w5.setCell ⟨w.heap.size + 2, 0, none⟩ ((.int .i64 y.f0))).setCell ⟨w.heap.size + 2, 1, none⟩ ((.int .i64 y.f1))).setCell ⟨w.heap.size + 2, 2, none⟩ ((.int .i64 y.f2))).setCell ⟨w.heap.size + 2, 3, none⟩ ((.int .i64 y.f3))).setCell ⟨w.heap.size + 2, 4, none⟩ ((.slice q5 y.f4.length c5)))) w.heap.size (y) (.slice q5 y.f4.length c5)) := own_low (store5_own (.int .i64 y.f0) (.int .i64 y.f1) (.int .i64 y.f2) (.int .i64 y.f3) (.slice q5 y.f4.length c5) HO5.out (by have := HZ1.out; omega)) (by have := HZ1.out; omega)
  have HBF : Hid (Below w.heap.size w ((((((w5.setCell ⟨w.heap.size + 2, 0, none⟩ ((.int .i64 y.f0))).setCell ⟨w.heap.size + 2, 1, none⟩ ((.int .i64 y.f1))).setCell ⟨w.heap.size + 2, 2, none⟩ ((.int .i64 y.f2))).setCell ⟨w.heap.size + 2, 3, none⟩ ((.int .i64 y.f3))).setCell ⟨w.heap.size + 2, 4, none⟩ ((.slice q5 y.f4.length c5))))) := store5_bel (.int .i64 y.f0) (.int .i64 y.f1) (.int .i64 y.f2) (.int .i64 y.f3) (.slice q5 y.f4.length c5) HB5.out (by omega)
  obtain ⟨t0, t1, t2, t3, t4⟩ := box5 (store5 (.int .i64 y.f0) (.int .i64 y.f1) (.int .i64 y.f2) (.int .i64 y.f3) (.slice q5 y.f4.length c5) HV5.out)
  go_wp2
  refine bodyPost_ret (v := .tuple #[.agg #[.int .i64 y.f0, .int .i64 y.f1, .int .i64 y.f2, .int .i64 y.f3, .slice q5 y.f4.length c5], .bool g]) (by simp [results, Try.results9, go_sem, t0, t1, t2, t3, t4]) rfl ?_
  exact wsR_mk (y := y) HYE.out HOF.out HBF.out

end Go.Proofs.Ytengfkakiohfaaa
