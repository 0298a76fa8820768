/- WalStep of the specification. -/
import Derived.Test.YtengfkakiohfaaaWyFits
namespace Go.Proofs.Ytengfkakiohfaaa
open Go.RowKit
set_option linter.unusedVariables false
set_option linter.unusedSimpArgs false

/-- What a call that lays a record behind a log answers. -/
def WsR (x : S_Wal) (r : S_Rec) (w : World) (e : Ending) (w' : World) : Prop :=
  ∃ q c, e = .returned (.tuple #[.agg #[.int .i64 (wsF x r).f0, .int .i64 (wsF x r).f1, .int .i64 (wsF x r).f2, .int .i64 (wsF x r).f3, .slice q (wsF x r).f4.length c], .bool (wsB x r)]) ∧ OwWal w' w.heap.size (wsF x r) (.slice q (wsF x r).f4.length c) ∧ Below w.heap.size w w'

theorem wsR_mk {x : S_Wal} {r : S_Rec} {w w' : World} {y : S_Wal} {b : Bool} {q : Option Addr} {c : Nat} (h : wsF x r = y ∧ wsB x r = b) (ho : OwWal w' w.heap.size y (.slice q y.f4.length c)) (hb : Below w.heap.size w w') : WsR x r w (.returned (.tuple #[.agg #[.int .i64 y.f0, .int .i64 y.f1, .int .i64 y.f2, .int .i64 y.f3, .slice q y.f4.length c], .bool b])) w' := by
  obtain ⟨h1, h2⟩ := h
  unfold WsR
  rw [h1, h2]
  exact ⟨q, c, rfl, ho, hb⟩

theorem cell_two_newS (w : World) (a b : Value) (t : TypeId) : ∀ j u, ([a, b] : List Value)[j]? = some u → (w.alloc (.cells #[a, b] t)).cell? ((⟨w.heap.size, 0, none⟩ : Addr).add j) = some u := fun j u h => by
  rw [Addr.add_mid, Nat.zero_add]
  simp only [World.cell?, alloc_last]
  simpa using h

/-- What stands below the call's own row stays behind an append. -/
theorem heap_grownS {w w1 : World} {base k : Nat} {e : TypeId} {size n : Nat} {v : Value} {xs : List Value} {o o2 : Obj} (ho : w.ownsRow base e size v n xs) (hg : (w.alloc o2).grownBy w1 v.ownBlock) (hk : k < base) (h : w.heap[k]? = some o) : w1.heap[k]? = some o := by
  have hlt := lt_of_some h
  rw [hg.block k (by rw [World.size_alloc]; omega) (fun e1 => by have := (ho.lt k e1.symm).1; omega)]
  rw [← h]
  exact (((Below.refl w.heap.size w).alloc (Nat.le_refl _) o2).block k hlt)

set_option maxRecDepth 20000 in
set_option maxHeartbeats 4000000 in
theorem specWalStep_c (x : S_Wal) (r : S_Rec) (p : Option Addr) (cap : Nat) (w : World) (hn : x.f4.length ≤ 1048576) (hs : ∀ y ∈ x.f4, sEntry y) (hz : sRec r) (hr : RowR w (.slice p x.f4.length cap) x.f4.length 2 (rEntry x.f4)) :
    Calls Try.prog 15 #[.agg #[.int .i64 x.f0, .int .i64 x.f1, .int .i64 x.f2, .int .i64 x.f3, .slice p x.f4.length cap], .agg #[.int .i64 r.f0, .int .i64 r.f1, .int .i64 r.f2, .int .i64 r.f3, .string r.f4]] w (WsR x r w) := by
  obtain ⟨W0, hW0⟩ : ∃ W, W = ((w.alloc (.cells #[.int .i64 x.f0, .int .i64 x.f1, .int .i64 x.f2, .int .i64 x.f3, .slice p x.f4.length cap] 26)).alloc (.cells #[.int .i64 r.f0, .int .i64 r.f1, .int .i64 r.f2, .int .i64 r.f3, .string r.f4] 35)).alloc (.cells #[.int .i64 0, .int .i64 0, .int .i64 0, .int .i64 0, .slice none 0 0] 26) := ⟨_, rfl⟩
  have HW0 : Hid (((w.alloc (.cells #[.int .i64 x.f0, .int .i64 x.f1, .int .i64 x.f2, .int .i64 x.f3, .slice p x.f4.length cap] 26)).alloc (.cells #[.int .i64 r.f0, .int .i64 r.f1, .int .i64 r.f2, .int .i64 r.f3, .string r.f4] 35)).alloc (.cells #[.int .i64 0, .int .i64 0, .int .i64 0, .int .i64 0, .slice none 0 0] 26) = W0) := hW0.symm
  have HZ0 : Hid (W0.heap.size = w.heap.size + 3) := by show _ = _; rw [hW0]; simp
  have HB0 : Hid (Below w.heap.size w W0) := by rw [hW0]; exact (((Below.refl _ _).alloc (Nat.le_refl _) _).alloc (by simp) _).alloc (by simp; omega) _
  have HX0 : Hid (W0.heap[w.heap.size]? = some (.cells #[.int .i64 x.f0, .int .i64 x.f1, .int .i64 x.f2, .int .i64 x.f3, .slice p x.f4.length cap] 26)) := by
    rw [hW0, Below.heap_alloc _ _ _ (by simp; omega), Below.heap_alloc _ _ _ (by simp)]
    exact alloc_last _ _
  have HY0 : Hid (W0.heap[w.heap.size + 1]? = some (.cells #[.int .i64 r.f0, .int .i64 r.f1, .int .i64 r.f2, .int .i64 r.f3, .string r.f4] 35)) := by
    rw [hW0, Below.heap_alloc _ _ _ (by simp)]
    have := alloc_last (w.alloc (.cells #[.int .i64 x.f0, .int .i64 x.f1, .int .i64 x.f2, .int .i64 x.f3, .slice p x.f4.length cap] 26)) (.cells #[.int .i64 r.f0, .int .i64 r.f1, .int .i64 r.f2, .int .i64 r.f3, .string r.f4] 35)
    rw [World.size_alloc] at this
    exact this
  have HV0 : Hid (W0.heap[w.heap.size + 2]? = some (.cells #[.int .i64 0, .int .i64 0, .int .i64 0, .int .i64 0, .slice none 0 0] 26)) := by
    rw [hW0]
    have := alloc_last ((w.alloc (.cells #[.int .i64 x.f0, .int .i64 x.f1, .int .i64 x.f2, .int .i64 x.f3, .slice p x.f4.length cap] 26)).alloc (.cells #[.int .i64 r.f0, .int .i64 r.f1, .int .i64 r.f2, .int .i64 r.f3, .string r.f4] 35)) (.cells #[.int .i64 0, .int .i64 0, .int .i64 0, .int .i64 0, .slice none 0 0] 26)
    rw [World.size_alloc, World.size_alloc] at this
    exact this
  have HRW : Hid (RowR W0 (.slice p x.f4.length cap) x.f4.length 2 (rEntry x.f4)) := RowR.keep hr HB0.out (Nat.le_refl _)
  have HN : Hid (x.f4.length ≤ 1048576) := hn
  have HS : Hid (∀ y ∈ x.f4, sEntry y) := hs
  have HSR : Hid (sRec r) := hz
  clear hn hr hW0 hs hz
  obtain ⟨d0, d1, d2, d3, d4⟩ := box5 HX0.out
  go_enter Try.func15, Try.ntmps15
  go_wp2_with fail
  rw [HW0.out]
  refine (specWalOk_c x p cap W0 HN.out HS.out HRW.out).mono ?_
  rintro e w1 ⟨rfl, b1⟩
  have HX1 : Hid (w1.heap[w.heap.size]? = some (.cells #[.int .i64 x.f0, .int .i64 x.f1, .int .i64 x.f2, .int .i64 x.f3, .slice p x.f4.length cap] 26)) := (b1.block _ (lt_of_some HX0.out)).trans HX0.out
  have HY1 : Hid (w1.heap[w.heap.size + 1]? = some (.cells #[.int .i64 r.f0, .int .i64 r.f1, .int .i64 r.f2, .int .i64 r.f3, .string r.f4] 35)) := (b1.block _ (lt_of_some HY0.out)).trans HY0.out
  have HV1 : Hid (w1.heap[w.heap.size + 2]? = some (.cells #[.int .i64 0, .int .i64 0, .int .i64 0, .int .i64 0, .slice none 0 0] 26)) := (b1.block _ (lt_of_some HV0.out)).trans HV0.out
  have HB1 : Hid (Below w.heap.size w w1) := HB0.out.trans (b1.mono HB0.out.size)
  have HZ1 : Hid (w.heap.size + 3 ≤ w1.heap.size) := by have := b1.size; have := HZ0.out; show _ ≤ _; omega
  have HR1 : Hid (RowR w1 (.slice p x.f4.length cap) x.f4.length 2 (rEntry x.f4)) := RowR.keep HRW.out b1 (Nat.le_refl _)
  clear b1 d0 d1 d2 d3 d4
  by_cases hok : okW x
  rotate_left
  · rw [decide_eq_false hok]
    have HE : Hid (wsF x r = zeroW ∧ wsB x r = false) := ws_bad hok
    clear hok
    obtain ⟨z0, z1, z2, z3, z4⟩ := box5 HV1.out
    have zf := frz5 HV1.out
    have HOF : Hid (OwWal ((((((w1.setCell ⟨w.heap.size + 2, 0, none⟩ ((.int .i64 0))).setCell ⟨w.heap.size + 2, 1, none⟩ ((.int .i64 0))).setCell ⟨w.heap.size + 2, 2, none⟩ ((.int .i64 0))).setCell ⟨w.heap.size + 2, 3, none⟩ ((.int .i64 0))).setCell ⟨w.heap.size + 2, 4, none⟩ ((.slice none 0 0)))) w.heap.size (zeroW) (.slice none 0 0)) := own_low (store5_own (.int .i64 0) (.int .i64 0) (.int .i64 0) (.int .i64 0) (.slice none 0 0) (show w1.ownsRow (w.heap.size + 3) _ 2 (.slice none 0 0) 0 (rEntry []) from ⟨rfl, Or.inl ⟨rfl, rfl⟩⟩) (by omega)) (by omega)
    have HBF : Hid (Below w.heap.size w ((((((w1.setCell ⟨w.heap.size + 2, 0, none⟩ ((.int .i64 0))).setCell ⟨w.heap.size + 2, 1, none⟩ ((.int .i64 0))).setCell ⟨w.heap.size + 2, 2, none⟩ ((.int .i64 0))).setCell ⟨w.heap.size + 2, 3, none⟩ ((.int .i64 0))).setCell ⟨w.heap.size + 2, 4, none⟩ ((.slice none 0 0))))) := store5_bel (.int .i64 0) (.int .i64 0) (.int .i64 0) (.int .i64 0) (.slice none 0 0) HB1.out (by omega)
    obtain ⟨t0, t1, t2, t3, t4⟩ := box5 (store5 (.int .i64 0) (.int .i64 0) (.int .i64 0) (.int .i64 0) (.slice none 0 0) HV1.out)
    go_wp2
    refine bodyPost_ret (v := .tuple #[.agg #[.int .i64 0, .int .i64 0, .int .i64 0, .int .i64 0, .slice none 0 0], .bool false]) (by simp [results, Try.results15, go_sem, t0, t1, t2, t3, t4]) rfl ?_
    exact wsR_mk (y := zeroW) HE.out HOF.out HBF.out
  rw [decide_eq_true hok]
  have HOK : Hid (okW x) := hok
  have HLN : Hid (x.f4.length ≤ 60 ∧ (0 ≤ x.f2 ∧ x.f2 ≤ 100000)) := okW_len hok
  clear hok
  obtain ⟨d0, d1, d2, d3, d4⟩ := box5 HX1.out
  go_wp2_with fail
  refine (specCopyW_c x p cap w1 HN.out HR1.out).mono ?_
  rintro e w2 ⟨q, c, rfl, ho2, b2⟩
  have HX2 : Hid (w2.heap[w.heap.size]? = some (.cells #[.int .i64 x.f0, .int .i64 x.f1, .int .i64 x.f2, .int .i64 x.f3, .slice p x.f4.length cap] 26)) := (b2.block _ (lt_of_some HX1.out)).trans HX1.out
  have HY2 : Hid (w2.heap[w.heap.size + 1]? = some (.cells #[.int .i64 r.f0, .int .i64 r.f1, .int .i64 r.f2, .int .i64 r.f3, .string r.f4] 35)) := (b2.block _ (lt_of_some HY1.out)).trans HY1.out
  have HV2 : Hid (w2.heap[w.heap.size + 2]? = some (.cells #[.int .i64 0, .int .i64 0, .int .i64 0, .int .i64 0, .slice none 0 0] 26)) := (b2.block _ (lt_of_some HV1.out)).trans HV1.out
  have HB2 : Hid (Below w.heap.size w w2) := HB1.out.trans (b2.mono HB1.out.size)
  clear d0 d1 d2 d3 d4
  obtain ⟨d0, d1, d2, d3, d4⟩ := box5 HX2.out
  have df := frz5 HX2.out
  obtain ⟨e0, e1, e2, e3, e4⟩ := box5 HY2.out
  obtain ⟨W3, hW3⟩ : ∃ W, W = (((((w2.setCell ⟨w.heap.size, 0, none⟩ ((.int .i64 x.f0))).setCell ⟨w.heap.size, 1, none⟩ ((.int .i64 x.f1))).setCell ⟨w.heap.size, 2, none⟩ ((.int .i64 x.f2))).setCell ⟨w.heap.size, 3, none⟩ ((.int .i64 x.f3))).setCell ⟨w.heap.size, 4, none⟩ ((.slice q x.f4.length c))) := ⟨_, rfl⟩
  have HW3 : Hid ((((((w2.setCell ⟨w.heap.size, 0, none⟩ ((.int .i64 x.f0))).setCell ⟨w.heap.size, 1, none⟩ ((.int .i64 x.f1))).setCell ⟨w.heap.size, 2, none⟩ ((.int .i64 x.f2))).setCell ⟨w.heap.size, 3, none⟩ ((.int .i64 x.f3))).setCell ⟨w.heap.size, 4, none⟩ ((.slice q x.f4.length c))) = W3) := hW3.symm
  have HX3 : Hid (W3.heap[w.heap.size]? = some (.cells #[.int .i64 x.f0, .int .i64 x.f1, .int .i64 x.f2, .int .i64 x.f3, .slice q x.f4.length c] 26)) := by rw [hW3]; exact store5 (.int .i64 x.f0) (.int .i64 x.f1) (.int .i64 x.f2) (.int .i64 x.f3) (.slice q x.f4.length c) HX2.out
  have HY3 : Hid (W3.heap[w.heap.size + 1]? = some (.cells #[.int .i64 r.f0, .int .i64 r.f1, .int .i64 r.f2, .int .i64 r.f3, .string r.f4] 35)) := by rw [hW3]; exact (store5_ne (.int .i64 x.f0) (.int .i64 x.f1) (.int .i64 x.f2) (.int .i64 x.f3) (.slice q x.f4.length c) (by omega)).trans HY2.out
  have HV3 : Hid (W3.heap[w.heap.size + 2]? = some (.cells #[.int .i64 0, .int .i64 0, .int .i64 0, .int .i64 0, .slice none 0 0] 26)) := by rw [hW3]; exact (store5_ne (.int .i64 x.f0) (.int .i64 x.f1) (.int .i64 x.f2) (.int .i64 x.f3) (.slice q x.f4.length c) (by omega)).trans HV2.out
  have HB3 : Hid (Below w.heap.size w W3) := by rw [hW3]; exact store5_bel (.int .i64 x.f0) (.int .i64 x.f1) (.int .i64 x.f2) (.int .i64 x.f3) (.slice q x.f4.length c) HB2.out (Nat.le_refl _)
  have HO3 : Hid (W3.ownsRow w1.heap.size 68 2 (.slice q x.f4.length c) x.f4.length (rEntry x.f4)) := by rw [hW3]; exact store5_own (.int .i64 x.f0) (.int .i64 x.f1) (.int .i64 x.f2) (.int .i64 x.f3) (.slice q x.f4.length c) ho2 (by have := HZ1.out; omega)
  have HSZ3 : Hid (w1.heap.size ≤ W3.heap.size) := by show _ ≤ _; have := b2.size; rw [hW3]; simpa using this
  clear hW3 ho2 b2
  go_wp2_with fail
  rw [HW3.out]
  refine (specRecOk_c r W3 HSR.out).mono ?_
  rintro e w4 ⟨rfl, b4⟩
  have HX4 : Hid (w4.heap[w.heap.size]? = some (.cells #[.int .i64 x.f0, .int .i64 x.f1, .int .i64 x.f2, .int .i64 x.f3, .slice q x.f4.length c] 26)) := (b4.block _ (lt_of_some HX3.out)).trans HX3.out
  have HY4 : Hid (w4.heap[w.heap.size + 1]? = some (.cells #[.int .i64 r.f0, .int .i64 r.f1, .int .i64 r.f2, .int .i64 r.f3, .string r.f4] 35)) := (b4.block _ (lt_of_some HY3.out)).trans HY3.out
  have HV4 : Hid (w4.heap[w.heap.size + 2]? = some (.cells #[.int .i64 0, .int .i64 0, .int .i64 0, .int .i64 0, .slice none 0 0] 26)) := (b4.block _ (lt_of_some HV3.out)).trans HV3.out
  have HB4 : Hid (Below w.heap.size w w4) := HB3.out.trans (b4.mono HB3.out.size)
  have HSZ4 : Hid (w1.heap.size ≤ w4.heap.size) := Nat.le_trans HSZ3.out b4.size
  have HO4 : Hid (w4.ownsRow w1.heap.size 68 2 (.slice q x.f4.length c) x.f4.length (rEntry x.f4)) := own_bel HO3.out b4 (Nat.le_refl _)
  have HZ1' : Hid (w.heap.size < w1.heap.size) := by have := HZ1.out; show _ < _; omega
  clear b4 d0 d1 d2 d3 d4 df e0 e1 e2 e3 e4
  by_cases hrk : okR r
  rotate_left
  · rw [decide_eq_false hrk]
    have HE : Hid (¬ (okR r ∧ fitsR x r)) := fun h => hrk h.1
    clear hrk
    obtain ⟨a0, a1, a2, a3, a4⟩ := box5 HX4.out
    obtain ⟨z0, z1, z2, z3, z4⟩ := box5 HV4.out
    have zf := frz5 HV4.out
    have HOF : Hid (OwWal ((((((w4.setCell ⟨w.heap.size + 2, 0, none⟩ ((.int .i64 x.f0))).setCell ⟨w.heap.size + 2, 1, none⟩ ((.int .i64 x.f1))).setCell ⟨w.heap.size + 2, 2, none⟩ ((.int .i64 x.f2))).setCell ⟨w.heap.size + 2, 3, none⟩ ((.int .i64 x.f3))).setCell ⟨w.heap.size + 2, 4, none⟩ ((.slice q x.f4.length c)))) w.heap.size (x) (.slice q x.f4.length c)) := own_low (store5_own (.int .i64 x.f0) (.int .i64 x.f1) (.int .i64 x.f2) (.int .i64 x.f3) (.slice q x.f4.length c) HO4.out (by have := HZ1.out; omega)) (by have := HZ1.out; omega)
    have HBF : Hid (Below w.heap.size w ((((((w4.setCell ⟨w.heap.size + 2, 0, none⟩ ((.int .i64 x.f0))).setCell ⟨w.heap.size + 2, 1, none⟩ ((.int .i64 x.f1))).setCell ⟨w.heap.size + 2, 2, none⟩ ((.int .i64 x.f2))).setCell ⟨w.heap.size + 2, 3, none⟩ ((.int .i64 x.f3))).setCell ⟨w.heap.size + 2, 4, none⟩ ((.slice q x.f4.length c))))) := store5_bel (.int .i64 x.f0) (.int .i64 x.f1) (.int .i64 x.f2) (.int .i64 x.f3) (.slice q x.f4.length c) HB4.out (by omega)
    obtain ⟨t0, t1, t2, t3, t4⟩ := box5 (store5 (.int .i64 x.f0) (.int .i64 x.f1) (.int .i64 x.f2) (.int .i64 x.f3) (.slice q x.f4.length c) HV4.out)
    go_wp2
    refine bodyPost_ret (v := .tuple #[.agg #[.int .i64 x.f0, .int .i64 x.f1, .int .i64 x.f2, .int .i64 x.f3, .slice q x.f4.length c], .bool false]) (by simp [results, Try.results15, go_sem, t0, t1, t2, t3, t4]) rfl ?_
    exact wsR_mk (y := x) (ws_no HOK.out HE.out) HOF.out HBF.out
  rw [decide_eq_true hrk]
  have HRK : Hid (okR r) := hrk
  clear hrk
  obtain ⟨d0, d1, d2, d3, d4⟩ := box5 HX4.out
  obtain ⟨e0, e1, e2, e3, e4⟩ := box5 HY4.out
  go_wp2_with fail
  refine (specFitsR_c x r q c w4 HN.out HLN.out.2 (RowR.own HO4.out)).mono ?_
  rintro e w5 ⟨rfl, b5⟩
  have HX5 : Hid (w5.heap[w.heap.size]? = some (.cells #[.int .i64 x.f0, .int .i64 x.f1, .int .i64 x.f2, .int .i64 x.f3, .slice q x.f4.length c] 26)) := (b5.block _ (lt_of_some HX4.out)).trans HX4.out
  have HY5 : Hid (w5.heap[w.heap.size + 1]? = some (.cells #[.int .i64 r.f0, .int .i64 r.f1, .int .i64 r.f2, .int .i64 r.f3, .string r.f4] 35)) := (b5.block _ (lt_of_some HY4.out)).trans HY4.out
  have HV5 : Hid (w5.heap[w.heap.size + 2]? = some (.cells #[.int .i64 0, .int .i64 0, .int .i64 0, .int .i64 0, .slice none 0 0] 26)) := (b5.block _ (lt_of_some HV4.out)).trans HV4.out
  have HB5 : Hid (Below w.heap.size w w5) := HB4.out.trans (b5.mono HB4.out.size)
  have HSZ : Hid (w1.heap.size ≤ w5.heap.size) := Nat.le_trans HSZ4.out b5.size
  have HO5 : Hid (w5.ownsRow w1.heap.size 68 2 (.slice q x.f4.length c) x.f4.length (rEntry x.f4)) := own_bel HO4.out b5 (Nat.le_refl _)
  clear b5 d0 d1 d2 d3 d4 e0 e1 e2 e3 e4
  by_cases hfit : fitsR x r
  rotate_left
  · rw [decide_eq_false hfit]
    have HE : Hid (¬ (okR r ∧ fitsR x r)) := fun h => hfit h.2
    clear hfit
    obtain ⟨a0, a1, a2, a3, a4⟩ := box5 HX5.out
    obtain ⟨z0, z1, z2, z3, z4⟩ := box5 HV5.out
    have zf := frz5 HV5.out
    have HOF : Hid (OwWal ((((((w5.setCell ⟨w.heap.size + 2, 0, none⟩ ((.int .i64 x.f0))).setCell ⟨w.heap.size + 2, 1, none⟩ ((.int .i64 x.f1))).setCell ⟨w.heap.size + 2, 2, none⟩ ((.int .i64 x.f2))).setCell ⟨w.heap.size + 2, 3, none⟩ ((.int .i64 x.f3))).setCell ⟨w.heap.size + 2, 4, none⟩ ((.slice q x.f4.length c)))) w.heap.size (x) (.slice q x.f4.length c)) := own_low (store5_own (.int .i64 x.f0) (.int .i64 x.f1) (.int .i64 x.f2) (.int .i64 x.f3) (.slice q x.f4.length c) HO5.out (by have := HZ1.out; omega)) (by have := HZ1.out; omega)
    have HBF : Hid (Below w.heap.size w ((((((w5.setCell ⟨w.heap.size + 2, 0, none⟩ ((.int .i64 x.f0))).setCell ⟨w.heap.size + 2, 1, none⟩ ((.int .i64 x.f1))).setCell ⟨w.heap.size + 2, 2, none⟩ ((.int .i64 x.f2))).setCell ⟨w.heap.size + 2, 3, none⟩ ((.int .i64 x.f3))).setCell ⟨w.heap.size + 2, 4, none⟩ ((.slice q x.f4.length c))))) := store5_bel (.int .i64 x.f0) (.int .i64 x.f1) (.int .i64 x.f2) (.int .i64 x.f3) (.slice q x.f4.length c) HB5.out (by omega)
    obtain ⟨t0, t1, t2, t3, t4⟩ := box5 (store5 (.int .i64 x.f0) (.int .i64 x.f1) (.int .i64 x.f2) (.int .i64 x.f3) (.slice q x.f4.length c) HV5.out)
    go_wp2
    refine bodyPost_ret (v := .tuple #[.agg #[.int .i64 x.f0, .int .i64 x.f1, .int .i64 x.f2, .int .i64 x.f3, .slice q x.f4.length c], .bool false]) (by simp [results, Try.results15, go_sem, t0, t1, t2, t3, t4]) rfl ?_
    exact wsR_mk (y := x) (ws_no HOK.out HE.out) HOF.out HBF.out
  rw [decide_eq_true hfit]
  have HE : Hid (wsF x r = stepF x r ∧ wsB x r = true) := ws_yes HOK.out ⟨HRK.out, hfit⟩
  by_cases q1 : r.f0 = 1
  · have HE1 : Hid (wsF x r = ⟨r.f1, r.f3, x.f2, x.f3, x.f4⟩ ∧ wsB x r = true) := by have := HE.out; rw [step_1 q1] at this; exact this
    have k1 : (r.f0 == 1) = true := beq_iff_eq.2 q1
    clear hfit q1
    obtain ⟨d0, d1, d2, d3, d4⟩ := box5 HX5.out
    have df := frz5 HX5.out
    obtain ⟨e0, e1, e2, e3, e4⟩ := box5 HY5.out
    obtain ⟨z0, z1, z2, z3, z4⟩ := box5 HV5.out
    have zf := frz5 HV5.out
    have HV6 : Hid (((w5.setCell ⟨w.heap.size, 0, none⟩ (.int .i64 r.f1)).setCell ⟨w.heap.size, 1, none⟩ (.int .i64 r.f3)).heap[w.heap.size + 2]? = some (.cells #[.int .i64 0, .int .i64 0, .int .i64 0, .int .i64 0, .slice none 0 0] 26)) := by show _ = _; rw [Below.heap_setCell _ _ _ _ (by show w.heap.size + 2 ≠ w.heap.size; omega), Below.heap_setCell _ _ _ _ (by show w.heap.size + 2 ≠ w.heap.size; omega)]; exact HV5.out
    have HO6 : Hid (((w5.setCell ⟨w.heap.size, 0, none⟩ (.int .i64 r.f1)).setCell ⟨w.heap.size, 1, none⟩ (.int .i64 r.f3)).ownsRow w1.heap.size 68 2 (.slice q x.f4.length c) x.f4.length (rEntry x.f4)) := own_set_lt (own_set_lt HO5.out _ (by exact HZ1'.out)) _ (by exact HZ1'.out)
    have HB6 : Hid (Below w.heap.size w ((w5.setCell ⟨w.heap.size, 0, none⟩ (.int .i64 r.f1)).setCell ⟨w.heap.size, 1, none⟩ (.int .i64 r.f3))) := (HB5.out.setCell (Nat.le_refl _) _).setCell (Nat.le_refl _) _
    have HOF : Hid (OwWal ((((((((w5.setCell ⟨w.heap.size, 0, none⟩ (.int .i64 r.f1)).setCell ⟨w.heap.size, 1, none⟩ (.int .i64 r.f3)).setCell ⟨w.heap.size + 2, 0, none⟩ ((.int .i64 r.f1))).setCell ⟨w.heap.size + 2, 1, none⟩ ((.int .i64 r.f3))).setCell ⟨w.heap.size + 2, 2, none⟩ ((.int .i64 x.f2))).setCell ⟨w.heap.size + 2, 3, none⟩ ((.int .i64 x.f3))).setCell ⟨w.heap.size + 2, 4, none⟩ ((.slice q x.f4.length c)))) w.heap.size (⟨r.f1, r.f3, x.f2, x.f3, x.f4⟩) (.slice q x.f4.length c)) := own_low (store5_own (.int .i64 r.f1) (.int .i64 r.f3) (.int .i64 x.f2) (.int .i64 x.f3) (.slice q x.f4.length c) HO6.out (by have := HZ1.out; omega)) (by have := HZ1.out; omega)
    have HBF : Hid (Below w.heap.size w ((((((((w5.setCell ⟨w.heap.size, 0, none⟩ (.int .i64 r.f1)).setCell ⟨w.heap.size, 1, none⟩ (.int .i64 r.f3)).setCell ⟨w.heap.size + 2, 0, none⟩ ((.int .i64 r.f1))).setCell ⟨w.heap.size + 2, 1, none⟩ ((.int .i64 r.f3))).setCell ⟨w.heap.size + 2, 2, none⟩ ((.int .i64 x.f2))).setCell ⟨w.heap.size + 2, 3, none⟩ ((.int .i64 x.f3))).setCell ⟨w.heap.size + 2, 4, none⟩ ((.slice q x.f4.length c))))) := store5_bel (.int .i64 r.f1) (.int .i64 r.f3) (.int .i64 x.f2) (.int .i64 x.f3) (.slice q x.f4.length c) HB6.out (by omega)
    obtain ⟨t0, t1, t2, t3, t4⟩ := box5 (store5 (.int .i64 r.f1) (.int .i64 r.f3) (.int .i64 x.f2) (.int .i64 x.f3) (.slice q x.f4.length c) HV6.out)
    go_wp2
    refine bodyPost_ret (v := .tuple #[.agg #[.int .i64 r.f1, .int .i64 r.f3, .int .i64 x.f2, .int .i64 x.f3, .slice q x.f4.length c], .bool true]) (by simp [results, Try.results15, go_sem, t0, t1, t2, t3, t4]) rfl ?_
    exact wsR_mk (y := ⟨r.f1, r.f3, x.f2, x.f3, x.f4⟩) HE1.out HOF.out HBF.out
  have k1 : (r.f0 == 1) = false := beq_eq_false_iff_ne.2 q1
  by_cases q2 : r.f0 = 2
  · have HE1 : Hid (wsF x r = ⟨x.f0, x.f1, x.f2, x.f3, x.f4 ++ ([⟨r.f1, r.f4⟩] : List S_Entry)⟩ ∧ wsB x r = true) := by have := HE.out; rw [step_2 q2] at this; exact this
    have k2 : (r.f0 == 2) = true := beq_iff_eq.2 q2
    clear hfit q1 q2
    obtain ⟨i0, hi, hz0, hz1, hz2⟩ := info_parts infoEntry
    have hml : (1048577 : Nat) ≤ maxLen := by unfold maxLen; omega
    have hlen := HLN.out.1
    have hown1 := HO5.out
    have hsz1 : w1.heap.size ≤ w5.heap.size := by
      rcases hown1.2 with ⟨h1, h2⟩ | ⟨g, _, _, _, hg, hh, _⟩
      · exact HSZ.out
      · exact HSZ.out
    obtain ⟨d0, d1, d2, d3, d4⟩ := box5 HX5.out
    have df := frz5 HX5.out
    obtain ⟨e0, e1, e2, e3, e4⟩ := box5 HY5.out
    go_wp2_with (at_builtin; refine wpList_append_own _ rfl _ _ 24 rfl w1.heap.size 68 i0 (.agg #[.int .i64 0, .string ⟨#[]⟩]) 2 24 Try.underlying24 hi hz0 hz1 hz2 rfl (by decide) _ _ _ rfl (hown1.alloc _) ⟨w5.heap.size, 0, none⟩ 1 1 [.int .i64 r.f1, .string r.f4] rfl rfl (cell_two_newS _ _ _ _) (by intro u hu; simp at hu; rcases hu with rfl | rfl <;> rfl) (by omega) (by omega) (by simp; omega) ?_)
    intro v' w6 hown6 hgrow _
    obtain ⟨q3, c3, hv3⟩ := own_sliceS hown6
    subst hv3
    have R1 : w6.ownsRow w1.heap.size 68 2 (.slice q3 (x.f4.length + 1) c3) (x.f4 ++ ([⟨r.f1, r.f4⟩] : List S_Entry)).length (rEntry (x.f4 ++ ([⟨r.f1, r.f4⟩] : List S_Entry))) := by rw [rEntry_one, List.length_append]; exact hown6
    have HX6 : Hid (w6.heap[w.heap.size]? = some (.cells #[.int .i64 x.f0, .int .i64 x.f1, .int .i64 x.f2, .int .i64 x.f3, .slice q x.f4.length c] 26)) := heap_grownS hown1 hgrow (by have := HZ1.out; omega) HX5.out
    have HV6 : Hid (w6.heap[w.heap.size + 2]? = some (.cells #[.int .i64 0, .int .i64 0, .int .i64 0, .int .i64 0, .slice none 0 0] 26)) := heap_grownS hown1 hgrow (by have := HZ1.out; omega) HV5.out
    have hB6 := below_append HB5.out (Nat.le_refl _) (own_low hown1 (by have := HZ1.out; omega)) hgrow
    have HV7 : Hid ((w6.setCell ⟨w.heap.size, 4, none⟩ (.slice q3 (x.f4.length + 1) c3)).heap[w.heap.size + 2]? = some (.cells #[.int .i64 0, .int .i64 0, .int .i64 0, .int .i64 0, .slice none 0 0] 26)) := by show _ = _; rw [Below.heap_setCell _ _ _ _ (by show w.heap.size + 2 ≠ w.heap.size; omega)]; exact HV6.out
    have HO7 : Hid ((w6.setCell ⟨w.heap.size, 4, none⟩ (.slice q3 (x.f4.length + 1) c3)).ownsRow w1.heap.size 68 2 (.slice q3 (x.f4.length + 1) c3) (x.f4 ++ ([⟨r.f1, r.f4⟩] : List S_Entry)).length (rEntry (x.f4 ++ ([⟨r.f1, r.f4⟩] : List S_Entry)))) := own_set_lt R1 _ (by exact HZ1'.out)
    have HB7 : Hid (Below w.heap.size w (w6.setCell ⟨w.heap.size, 4, none⟩ (.slice q3 (x.f4.length + 1) c3))) := hB6.setCell (Nat.le_refl _) _
    clear hown6 hgrow hown1 R1 hB6 d0 d1 d2 d3 d4 df e0 e1 e2 e3 e4
    obtain ⟨d0, d1, d2, d3, d4⟩ := box5 HX6.out
    have df := frz5 HX6.out 4
    obtain ⟨z0, z1, z2, z3, z4⟩ := box5 HV6.out
    have zf := frz5 HV6.out
    have HOF : Hid (OwWal (((((((w6.setCell ⟨w.heap.size, 4, none⟩ (.slice q3 (x.f4.length + 1) c3)).setCell ⟨w.heap.size + 2, 0, none⟩ ((.int .i64 x.f0))).setCell ⟨w.heap.size + 2, 1, none⟩ ((.int .i64 x.f1))).setCell ⟨w.heap.size + 2, 2, none⟩ ((.int .i64 x.f2))).setCell ⟨w.heap.size + 2, 3, none⟩ ((.int .i64 x.f3))).setCell ⟨w.heap.size + 2, 4, none⟩ ((.slice q3 (x.f4.length + 1) c3)))) w.heap.size (⟨x.f0, x.f1, x.f2, x.f3, x.f4 ++ ([⟨r.f1, r.f4⟩] : List S_Entry)⟩) (.slice q3 (x.f4.length + 1) c3)) := own_low (store5_own (.int .i64 x.f0) (.int .i64 x.f1) (.int .i64 x.f2) (.int .i64 x.f3) (.slice q3 (x.f4.length + 1) c3) HO7.out (by have := HZ1.out; omega)) (by have := HZ1.out; omega)
    have HBF : Hid (Below w.heap.size w (((((((w6.setCell ⟨w.heap.size, 4, none⟩ (.slice q3 (x.f4.length + 1) c3)).setCell ⟨w.heap.size + 2, 0, none⟩ ((.int .i64 x.f0))).setCell ⟨w.heap.size + 2, 1, none⟩ ((.int .i64 x.f1))).setCell ⟨w.heap.size + 2, 2, none⟩ ((.int .i64 x.f2))).setCell ⟨w.heap.size + 2, 3, none⟩ ((.int .i64 x.f3))).setCell ⟨w.heap.size + 2, 4, none⟩ ((.slice q3 (x.f4.length + 1) c3))))) := store5_bel (.int .i64 x.f0) (.int .i64 x.f1) (.int .i64 x.f2) (.int .i64 x.f3) (.slice q3 (x.f4.length + 1) c3) HB7.out (by omega)
    obtain ⟨t0, t1, t2, t3, t4⟩ := box5 (store5 (.int .i64 x.f0) (.int .i64 x.f1) (.int .i64 x.f2) (.int .i64 x.f3) (.slice q3 (x.f4.length + 1) c3) HV7.out)
    go_wp2
    refine bodyPost_ret (v := .tuple #[.agg #[.int .i64 x.f0, .int .i64 x.f1, .int .i64 x.f2, .int .i64 x.f3, .slice q3 (x.f4.length + 1) c3], .bool true]) (by simp [results, Try.results15, go_sem, t0, t1, t2, t3, t4]) rfl ?_
    have HL7 : (x.f4 ++ [(⟨r.f1, r.f4⟩ : S_Entry)]).length = x.f4.length + 1 := by rw [List.length_append]; rfl
    have := wsR_mk (q := q3) (c := c3) (y := ⟨x.f0, x.f1, x.f2, x.f3, x.f4 ++ ([⟨r.f1, r.f4⟩] : List S_Entry)⟩) HE1.out (by rw [HL7]; exact HOF.out) HBF.out
    rw [HL7] at this
    exact this
  have k2 : (r.f0 == 2) = false := beq_eq_false_iff_ne.2 q2
  have q3 : r.f0 = 3 := by
    rcases hfit with h | h | h
    · exact absurd h.1 q1
    · exact absurd h.1 q2
    · exact h.1
  have hf3 := (fits_3 q3).1 hfit
  obtain ⟨k, hk⟩ : ∃ k, k = (r.f2 - x.f2 - 1).toNat := ⟨_, rfl⟩
  have HKL : Hid (k ≤ x.f4.length) := by unfold fit3 at hf3; show _ ≤ _; omega
  have HE1 : Hid (wsF x r = ⟨x.f0, x.f1, x.f2, x.f3, x.f4.take k⟩ ∧ wsB x r = true) := by have := HE.out; rw [step_3 q3, ← hk] at this; exact this
  have hw1 : IntKind.i64.wrap (r.f2 - x.f2) = r.f2 - x.f2 := IntWalk.i64_in _ (by have := HLN.out; unfold fit3 at hf3; omega)
  have hw2 : IntKind.i64.wrap (r.f2 - x.f2 - 1) = (k : Int) := by rw [IntWalk.i64_in _ (by have := HLN.out; unfold fit3 at hf3; omega)]; unfold fit3 at hf3; omega
  have hkc : k ≤ c := by
    have h := HKL.out
    rcases HO5.out.2 with ⟨h1, h2⟩ | ⟨g, cap', _, hv, _, _, hle, _⟩
    · omega
    · simp only [Value.slice.injEq] at hv; omega
  clear hk
  have hsl : ∀ W, (Instr.slice 24 (.slice q x.f4.length c) none (some (.int .i64 (k : Int))) none).run Try.prog W = .ok (.slice q k c) W := fun W => by
    have hkc' : (k : Int) ≤ (c : Int) := by omega
    go_simp
  have HL7 : Hid ((x.f4.take k).length = k) := by have := HKL.out; show _ = _; rw [List.length_take]; omega
  have HO6 : Hid (w5.ownsRow w1.heap.size 68 2 (.slice q k c) (x.f4.take k).length (rEntry (x.f4.take k))) := own_cutS HO5.out HKL.out
  clear hfit q1 q2 q3 hf3 hkc
  obtain ⟨d0, d1, d2, d3, d4⟩ := box5 HX5.out
  have df := frz5 HX5.out 4
  obtain ⟨e0, e1, e2, e3, e4⟩ := box5 HY5.out
  obtain ⟨z0, z1, z2, z3, z4⟩ := box5 HV5.out
  have zf := frz5 HV5.out
  have HV7 : Hid ((w5.setCell ⟨w.heap.size, 4, none⟩ (.slice q k c)).heap[w.heap.size + 2]? = some (.cells #[.int .i64 0, .int .i64 0, .int .i64 0, .int .i64 0, .slice none 0 0] 26)) := by show _ = _; rw [Below.heap_setCell _ _ _ _ (by show w.heap.size + 2 ≠ w.heap.size; omega)]; exact HV5.out
  have HO7 : Hid ((w5.setCell ⟨w.heap.size, 4, none⟩ (.slice q k c)).ownsRow w1.heap.size 68 2 (.slice q k c) (x.f4.take k).length (rEntry (x.f4.take k))) := own_set_lt HO6.out _ (by exact HZ1'.out)
  have HB7 : Hid (Below w.heap.size w (w5.setCell ⟨w.heap.size, 4, none⟩ (.slice q k c))) := HB5.out.setCell (Nat.le_refl _) _
  have HOF : Hid (OwWal (((((((w5.setCell ⟨w.heap.size, 4, none⟩ (.slice q k c)).setCell ⟨w.heap.size + 2, 0, none⟩ ((.int .i64 x.f0))).setCell ⟨w.heap.size + 2, 1, none⟩ ((.int .i64 x.f1))).setCell ⟨w.heap.size + 2, 2, none⟩ ((.int .i64 x.f2))).setCell ⟨w.heap.size + 2, 3, none⟩ ((.int .i64 x.f3))).setCell ⟨w.heap.size + 2, 4, none⟩ ((.slice q k c)))) w.heap.size (⟨x.f0, x.f1, x.f2, x.f3, x.f4.take k⟩) (.slice q k c)) := own_low (store5_own (.int .i64 x.f0) (.int .i64 x.f1) (.int .i64 x.f2) (.int .i64 x.f3) (.slice q k c) HO7.out (by have := HZ1.out; omega)) (by have := HZ1.out; omega)
  have HBF : Hid (Below w.heap.size w (((((((w5.setCell ⟨w.heap.size, 4, none⟩ (.slice q k c)).setCell ⟨w.heap.size + 2, 0, none⟩ ((.int .i64 x.f0))).setCell ⟨w.heap.size + 2, 1, none⟩ ((.int .i64 x.f1))).setCell ⟨w.heap.size + 2, 2, none⟩ ((.int .i64 x.f2))).setCell ⟨w.heap.size + 2, 3, none⟩ ((.int .i64 x.f3))).setCell ⟨w.heap.size + 2, 4, none⟩ ((.slice q k c))))) := store5_bel (.int .i64 x.f0) (.int .i64 x.f1) (.int .i64 x.f2) (.int .i64 x.f3) (.slice q k c) HB7.out (by omega)
  obtain ⟨t0, t1, t2, t3, t4⟩ := box5 (store5 (.int .i64 x.f0) (.int .i64 x.f1) (.int .i64 x.f2) (.int .i64 x.f3) (.slice q k c) HV7.out)
  go_wp2
  refine bodyPost_ret (v := .tuple #[.agg #[.int .i64 x.f0, .int .i64 x.f1, .int .i64 x.f2, .int .i64 x.f3, .slice q k c], .bool true]) (by simp [results, Try.results15, go_sem, t0, t1, t2, t3, t4]) rfl ?_
  have := wsR_mk (q := q) (c := c) (y := ⟨x.f0, x.f1, x.f2, x.f3, x.f4.take k⟩) HE1.out (by rw [HL7.out]; exact HOF.out) HBF.out
  rw [HL7.out] at this
  exact this

end Go.Proofs.Ytengfkakiohfaaa
