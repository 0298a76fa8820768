/- Replay of the specification. -/
import Derived.Test.YthlokfcejojdhaaDoorRpMath
import Derived.Test.YthlokfcejojdhaaDoorJFs
import Derived.Test.YthlokfcejojdhaaDoorJRv
import Derived.Test.YthlokfcejojdhaaDoorJWs
import Derived.Test.YthlokfcejojdhaaDoorJWx
namespace Go.Proofs.YthlokfcejojdhaaDoor
open Go.RowKit
set_option linter.unusedVariables false
set_option linter.unusedSimpArgs false

theorem rdR_small (B : ByteArray) : (rdR B).f4.size ≤ 900 := by
  by_cases h : hasR B ∧ okR (rawR B)
  · rw [rdR_yes h.1 h.2]
    exact okR_data h.2
  · rw [rdR_no h]
    exact Nat.zero_le _

/-- What Replay answers of the bodies L. -/
def RpR (L : List ByteArray) (w : World) (e : Ending) (w' : World) : Prop :=
  ∃ q c, e = .returned (.tuple #[.agg #[.int .i64 (rpA L).1.1.f0, .int .i64 (rpA L).1.1.f1, .int .i64 (rpA L).1.1.f2, .int .i64 (rpA L).1.1.f3, .slice q (rpA L).1.1.f4.length c], .int .i64 (rpA L).1.2, .bool (rpA L).2]) ∧ OwWal w' w.heap.size (rpA L).1.1 (.slice q (rpA L).1.1.f4.length c) ∧ Below w.heap.size w w'

theorem rpR_mk {L : List ByteArray} {w w' : World} {x : S_Wal} {n : Int} {b : Bool} {q : Option Addr} {c : Nat} (h : rpA L = ((x, n), b)) (ho : OwWal w' w.heap.size x (.slice q x.f4.length c)) (hb : Below w.heap.size w w') : RpR L w (.returned (.tuple #[.agg #[.int .i64 x.f0, .int .i64 x.f1, .int .i64 x.f2, .int .i64 x.f3, .slice q x.f4.length c], .int .i64 n, .bool b])) w' := by
  unfold RpR
  rw [h]
  exact ⟨q, c, rfl, ho, hb⟩

/-- While the bodies are read: the answer's place, the record's and the log's, the log's row, the bodies. -/
structure RqS (w : World) (L : List ByteArray) (v : Value) (rb wb : Nat) (W : World) (r : S_Rec) (x : S_Wal) (q : Option Addr) (c : Nat) : Prop where
  down : Below w.heap.size w W
  out : W.heap[w.heap.size]? = some (.cells #[.int .i64 0, .int .i64 0, .int .i64 0, .int .i64 0, .slice none 0 0] 26)
  rcd : W.heap[rb]? = some (.cells #[.int .i64 r.f0, .int .i64 r.f1, .int .i64 r.f2, .int .i64 r.f3, .string r.f4] 57)
  wal : W.heap[wb]? = some (.cells #[.int .i64 x.f0, .int .i64 x.f1, .int .i64 x.f2, .int .i64 x.f3, .slice q x.f4.length c] 26)
  row : OwWal W (wb + 1) x (.slice q x.f4.length c)
  bod : OwnS W w.heap.size v L
  bl : ∀ k, v.ownBlock = some k → k < rb
  o1 : w.heap.size < rb
  o2 : rb < wb

section
variable {w W W' : World} {L : List ByteArray} {v : Value} {rb wb : Nat} {r : S_Rec} {x : S_Wal} {q : Option Addr} {c : Nat}
theorem RqS.bel (S : RqS w L v rb wb W r x q c) (h : Below W.heap.size W W') : RqS w L v rb wb W' r x q c :=
  ⟨S.down.trans (h.mono S.down.size), (h.block _ (lt_of_some S.out)).trans S.out, (h.block _ (lt_of_some S.rcd)).trans S.rcd, (h.block _ (lt_of_some S.wal)).trans S.wal, own_bel S.row h (Nat.le_refl _), own_bel S.bod h (Nat.le_refl _), S.bl, S.o1, S.o2⟩

theorem own5 {base : Nat} {e : TypeId} {size n : Nat} {u : Value} {xs : List Value} {b : Nat} (a0 a1 a2 a3 a4 : Value) (h : W.ownsRow base e size u n xs) (hne : ∀ k, u.ownBlock = some k → k ≠ b) : (((((W.setCell ⟨b, 0, none⟩ (a0)).setCell ⟨b, 1, none⟩ (a1)).setCell ⟨b, 2, none⟩ (a2)).setCell ⟨b, 3, none⟩ (a3)).setCell ⟨b, 4, none⟩ (a4)).ownsRow base e size u n xs :=
  own_setS (own_setS (own_setS (own_setS (own_setS h _ hne) _ hne) _ hne) _ hne) _ hne

theorem RqS.setRec (S : RqS w L v rb wb W r x q c) (r2 : S_Rec) : RqS w L v rb wb (((((W.setCell ⟨rb, 0, none⟩ (.int .i64 r2.f0)).setCell ⟨rb, 1, none⟩ (.int .i64 r2.f1)).setCell ⟨rb, 2, none⟩ (.int .i64 r2.f2)).setCell ⟨rb, 3, none⟩ (.int .i64 r2.f3)).setCell ⟨rb, 4, none⟩ (.string r2.f4)) r2 x q c :=
  ⟨store5_bel (.int .i64 r2.f0) (.int .i64 r2.f1) (.int .i64 r2.f2) (.int .i64 r2.f3) (.string r2.f4) S.down (Nat.le_of_lt S.o1), (store5_ne (.int .i64 r2.f0) (.int .i64 r2.f1) (.int .i64 r2.f2) (.int .i64 r2.f3) (.string r2.f4) (by have := S.o1; omega)).trans S.out, store5 (.int .i64 r2.f0) (.int .i64 r2.f1) (.int .i64 r2.f2) (.int .i64 r2.f3) (.string r2.f4) S.rcd, (store5_ne (.int .i64 r2.f0) (.int .i64 r2.f1) (.int .i64 r2.f2) (.int .i64 r2.f3) (.string r2.f4) (by have := S.o2; omega)).trans S.wal, store5_own (.int .i64 r2.f0) (.int .i64 r2.f1) (.int .i64 r2.f2) (.int .i64 r2.f3) (.string r2.f4) S.row (by have := S.o2; omega), own5 (.int .i64 r2.f0) (.int .i64 r2.f1) (.int .i64 r2.f2) (.int .i64 r2.f3) (.string r2.f4) S.bod (fun k hk => by have := S.bl k hk; omega), S.bl, S.o1, S.o2⟩

theorem RqS.setWal (S : RqS w L v rb wb W r x q c) {y : S_Wal} {q2 : Option Addr} {c2 : Nat} (ho : OwWal W (wb + 1) y (.slice q2 y.f4.length c2)) : RqS w L v rb wb (((((W.setCell ⟨wb, 0, none⟩ (.int .i64 y.f0)).setCell ⟨wb, 1, none⟩ (.int .i64 y.f1)).setCell ⟨wb, 2, none⟩ (.int .i64 y.f2)).setCell ⟨wb, 3, none⟩ (.int .i64 y.f3)).setCell ⟨wb, 4, none⟩ (.slice q2 y.f4.length c2)) r y q2 c2 :=
  ⟨store5_bel (.int .i64 y.f0) (.int .i64 y.f1) (.int .i64 y.f2) (.int .i64 y.f3) (.slice q2 y.f4.length c2) S.down (by have := S.o1; have := S.o2; omega), (store5_ne (.int .i64 y.f0) (.int .i64 y.f1) (.int .i64 y.f2) (.int .i64 y.f3) (.slice q2 y.f4.length c2) (by have := S.o1; have := S.o2; omega)).trans S.out, (store5_ne (.int .i64 y.f0) (.int .i64 y.f1) (.int .i64 y.f2) (.int .i64 y.f3) (.slice q2 y.f4.length c2) (by have := S.o2; omega)).trans S.rcd, store5 (.int .i64 y.f0) (.int .i64 y.f1) (.int .i64 y.f2) (.int .i64 y.f3) (.slice q2 y.f4.length c2) S.wal, store5_own (.int .i64 y.f0) (.int .i64 y.f1) (.int .i64 y.f2) (.int .i64 y.f3) (.slice q2 y.f4.length c2) ho (by omega), own5 (.int .i64 y.f0) (.int .i64 y.f1) (.int .i64 y.f2) (.int .i64 y.f3) (.slice q2 y.f4.length c2) S.bod (fun k hk => by have := S.bl k hk; have := S.o2; omega), S.bl, S.o1, S.o2⟩
end

set_option maxRecDepth 20000 in
set_option maxHeartbeats 8000000 in
theorem specReplay_c (s : ByteArray) (L : List ByteArray) (k0 : Nat) (w : World) (hF : Frs s L k0) (hm : s.size ≤ 1048576) :
    Calls Tryd.prog 12 #[.string s] w (RpR L w) := by
  have HF : Hid (Frs s L k0) := hF
  have HSM : Hid (∀ b ∈ L, b.size ≤ 2000) := hF.small
  have HLL : Hid (L.length ≤ 1048576) := by have := hF.le; show _ ≤ _; omega
  have hll : (L.length : Int) ≤ 1048576 := by have := HLL.out; omega
  obtain ⟨W0, hW0⟩ : ∃ W, W = w.alloc (.cells #[.int .i64 0, .int .i64 0, .int .i64 0, .int .i64 0, .slice none 0 0] 26) := ⟨_, rfl⟩
  have HW0 : Hid (w.alloc (.cells #[.int .i64 0, .int .i64 0, .int .i64 0, .int .i64 0, .slice none 0 0] 26) = W0) := hW0.symm
  have HX0 : Hid (W0.heap[w.heap.size]? = some (.cells #[.int .i64 0, .int .i64 0, .int .i64 0, .int .i64 0, .slice none 0 0] 26)) := by rw [hW0]; exact alloc_last _ _
  have HB0 : Hid (Below w.heap.size w W0) := by rw [hW0]; exact (Below.refl _ _).alloc (Nat.le_refl _) _
  clear hF hW0
  go_enter Tryd.func12, Tryd.ntmps12
  go_wp2_with fail
  rw [HW0.out]
  refine (specFs s W0 hm).mono ?_
  rintro e w1 ⟨v, L', k', rfl, hfr, ho, b1⟩
  obtain ⟨rfl, rfl⟩ := hfr.unique HF.out
  obtain ⟨qb, cb, rfl⟩ := own_sliceS ho
  have HB1 : Hid (Below w.heap.size w w1) := HB0.out.trans (b1.mono HB0.out.size)
  have HO1 : Hid (OwnS w1 w.heap.size (.slice qb L'.length cb) L') := own_low ho HB0.out.size
  have HX1 : Hid (w1.heap[w.heap.size]? = some (.cells #[.int .i64 0, .int .i64 0, .int .i64 0, .int .i64 0, .slice none 0 0] 26)) := (b1.block _ (lt_of_some HX0.out)).trans HX0.out
  clear hfr ho b1
  by_cases hl0 : L'.length = 0
  · have e0 : L' = [] := List.eq_nil_of_length_eq_zero hl0
    subst e0
    have zf := frz5 HX1.out
    obtain ⟨z0, z1, z2, z3, z4⟩ := box5 HX1.out
    obtain ⟨t0, t1, t2, t3, t4⟩ := box5 (store5 (.int .i64 0) (.int .i64 0) (.int .i64 0) (.int .i64 0) (.slice none 0 0) HX1.out)
    have HFO : Hid (OwWal (((((w1.setCell ⟨w.heap.size, 0, none⟩ (.int .i64 0)).setCell ⟨w.heap.size, 1, none⟩ (.int .i64 0)).setCell ⟨w.heap.size, 2, none⟩ (.int .i64 0)).setCell ⟨w.heap.size, 3, none⟩ (.int .i64 0)).setCell ⟨w.heap.size, 4, none⟩ (.slice none 0 0)) w.heap.size zeroW (.slice none zeroW.f4.length 0)) := World.ownsRow_nil _ _ _ _
    have HFB : Hid (Below w.heap.size w (((((w1.setCell ⟨w.heap.size, 0, none⟩ (.int .i64 0)).setCell ⟨w.heap.size, 1, none⟩ (.int .i64 0)).setCell ⟨w.heap.size, 2, none⟩ (.int .i64 0)).setCell ⟨w.heap.size, 3, none⟩ (.int .i64 0)).setCell ⟨w.heap.size, 4, none⟩ (.slice none 0 0))) := store5_bel (.int .i64 0) (.int .i64 0) (.int .i64 0) (.int .i64 0) (.slice none 0 0) HB1.out (Nat.le_refl _)
    have HFA : Hid (rpA [] = ((zeroW, 0), false)) := rpA_nil
    go_wp2
    exact bodyPost_ret (v := .tuple #[.agg #[.int .i64 0, .int .i64 0, .int .i64 0, .int .i64 0, .slice none 0 0], .int .i64 0, .bool false]) (by simp [results, Tryd.results12, go_sem, t0, t1, t2, t3, t4]) rfl (rpR_mk HFA.out HFO.out HFB.out)
  have hl0b : ((L'.length : Int) == 0) = false := by simp only [beq_eq_false_iff_ne, ne_eq]; omega
  have hlp : (0 : Int) < (L'.length : Int) := by omega
  have HLP : Hid (0 < L'.length) := by show _ < _; omega
  obtain ⟨b0, l0, hbl⟩ : ∃ b l, L' = b :: l := List.exists_cons_of_ne_nil (fun h => hl0 (by rw [h]; rfl))
  have HBL : Hid (L' = b0 :: l0) := hbl
  obtain ⟨gb, ob, cb', hv, hgb, hgc⟩ := (RowR.own HO1.out).some (by omega) (by decide)
  simp only [Value.slice.injEq, true_and] at hv
  obtain ⟨rfl, rfl⟩ := hv
  have HCL : Hid (∀ (i : Nat) (hi : i < L'.length) (W : World), OwnS W w.heap.size (.slice (some ⟨gb, ob, none⟩) L'.length cb) L' → W.cell? ⟨gb, ob + i, none⟩ = some (.string L'[i])) := fun i hi W hW => by
    obtain ⟨g2, o2, c2, hv, _, hc⟩ := (RowR.own hW).some HLP.out (by decide)
    simp only [Value.slice.injEq, Option.some.injEq, Addr.mk.injEq, and_true, true_and] at hv
    obtain ⟨⟨rfl, rfl⟩, rfl⟩ := hv
    rw [hc i (by omega), List.getElem?_map, List.getElem?_eq_getElem hi]
    rfl
  have c0 : w1.cell? ⟨gb, ob, none⟩ = some (.string b0) := by
    have := HCL.out 0 HLP.out w1 HO1.out
    have e : L'[0]'HLP.out = b0 := by simp only [hbl, List.getElem_cons_zero]
    rw [e] at this
    exact this
  have hb0s : b0.size ≤ 2000 := HSM.out b0 (by rw [hbl]; exact List.mem_cons_self)
  have HB0S : Hid (b0.size ≤ 2000) := hb0s
  clear hgc hbl
  go_wp2_with fail
  refine (specRead_c b0 w1 (by omega)).mono ?_
  rintro e w2 ⟨rfl, b2⟩
  have HB2 : Hid (Below w.heap.size w w2) := HB1.out.trans (b2.mono HB1.out.size)
  have HO2 : Hid (OwnS w2 w.heap.size (.slice (some ⟨gb, ob, none⟩) L'.length cb) L') := own_bel HO1.out b2 (Nat.le_refl _)
  have HX2 : Hid (w2.heap[w.heap.size]? = some (.cells #[.int .i64 0, .int .i64 0, .int .i64 0, .int .i64 0, .slice none 0 0] 26)) := (b2.block _ (lt_of_some HX1.out)).trans HX1.out
  obtain ⟨rb, hrb⟩ : ∃ n, w2.heap.size = n := ⟨_, rfl⟩
  have HRB : Hid (w2.heap.size = rb) := hrb
  obtain ⟨W2, hW2⟩ : ∃ W, W = w2.alloc (.cells #[.int .i64 (rdR b0).f0, .int .i64 (rdR b0).f1, .int .i64 (rdR b0).f2, .int .i64 (rdR b0).f3, .string (rdR b0).f4] 57) := ⟨_, rfl⟩
  have HW2 : Hid (w2.alloc (.cells #[.int .i64 (rdR b0).f0, .int .i64 (rdR b0).f1, .int .i64 (rdR b0).f2, .int .i64 (rdR b0).f3, .string (rdR b0).f4] 57) = W2) := hW2.symm
  have hbw : Below w2.heap.size w2 W2 := by rw [hW2]; exact (Below.refl _ _).alloc (Nat.le_refl _) _
  have HR2 : Hid (W2.heap[rb]? = some (.cells #[.int .i64 (rdR b0).f0, .int .i64 (rdR b0).f1, .int .i64 (rdR b0).f2, .int .i64 (rdR b0).f3, .string (rdR b0).f4] 57)) := by rw [hW2, ← hrb]; exact alloc_last _ _
  have HBW : Hid (Below w.heap.size w W2) := HB2.out.trans (hbw.mono HB2.out.size)
  have HOW : Hid (OwnS W2 w.heap.size (.slice (some ⟨gb, ob, none⟩) L'.length cb) L') := own_bel HO2.out hbw (Nat.le_refl _)
  have HXW : Hid (W2.heap[w.heap.size]? = some (.cells #[.int .i64 0, .int .i64 0, .int .i64 0, .int .i64 0, .slice none 0 0] 26)) := (hbw.block _ (lt_of_some HX2.out)).trans HX2.out
  have HGL : Hid (gb < rb) := by show _ < _; rw [← hrb]; exact (HO2.out.lt gb rfl).2
  have HSR : Hid (w.heap.size < rb) := by show _ < _; rw [← hrb]; exact lt_of_some HX2.out
  have HSZ2 : Hid (W2.heap.size = rb + 1) := by show _ = _; rw [hW2, ← hrb]; simp
  clear hbw hW2 b2 c0 hrb
  go_upto_region 5 with fail
  rw [HW2.out, HRB.out]
  obtain ⟨r0, r1, r2, r3, r4⟩ := box5 HR2.out
  by_cases hok : okR (rdR b0)
  rotate_left
  · rw [decide_eq_false hok]
    have zf := frz5 HXW.out
    obtain ⟨z0, z1, z2, z3, z4⟩ := box5 HXW.out
    obtain ⟨t0, t1, t2, t3, t4⟩ := box5 (store5 (.int .i64 0) (.int .i64 0) (.int .i64 0) (.int .i64 0) (.slice none 0 0) HXW.out)
    have HFO : Hid (OwWal (((((W2.setCell ⟨w.heap.size, 0, none⟩ (.int .i64 0)).setCell ⟨w.heap.size, 1, none⟩ (.int .i64 0)).setCell ⟨w.heap.size, 2, none⟩ (.int .i64 0)).setCell ⟨w.heap.size, 3, none⟩ (.int .i64 0)).setCell ⟨w.heap.size, 4, none⟩ (.slice none 0 0)) w.heap.size zeroW (.slice none zeroW.f4.length 0)) := World.ownsRow_nil _ _ _ _
    have HFB : Hid (Below w.heap.size w (((((W2.setCell ⟨w.heap.size, 0, none⟩ (.int .i64 0)).setCell ⟨w.heap.size, 1, none⟩ (.int .i64 0)).setCell ⟨w.heap.size, 2, none⟩ (.int .i64 0)).setCell ⟨w.heap.size, 3, none⟩ (.int .i64 0)).setCell ⟨w.heap.size, 4, none⟩ (.slice none 0 0))) := store5_bel (.int .i64 0) (.int .i64 0) (.int .i64 0) (.int .i64 0) (.slice none 0 0) HBW.out (Nat.le_refl _)
    have HFA : Hid (rpA L' = ((zeroW, 0), false)) := by show _ = _; rw [HBL.out]; exact rpA_no (fun h => hok h.1)
    go_wp2
    exact bodyPost_ret (v := .tuple #[.agg #[.int .i64 0, .int .i64 0, .int .i64 0, .int .i64 0, .slice none 0 0], .int .i64 0, .bool false]) (by simp [results, Tryd.results12, go_sem, t0, t1, t2, t3, t4]) rfl (rpR_mk HFA.out HFO.out HFB.out)
  rw [decide_eq_true hok]
  by_cases hk4 : (rdR b0).f0 = 4
  rotate_left
  · have hk4b : ((rdR b0).f0 != 4) = true := by simp [hk4]
    have zf := frz5 HXW.out
    obtain ⟨z0, z1, z2, z3, z4⟩ := box5 HXW.out
    obtain ⟨t0, t1, t2, t3, t4⟩ := box5 (store5 (.int .i64 0) (.int .i64 0) (.int .i64 0) (.int .i64 0) (.slice none 0 0) HXW.out)
    have HFO : Hid (OwWal (((((W2.setCell ⟨w.heap.size, 0, none⟩ (.int .i64 0)).setCell ⟨w.heap.size, 1, none⟩ (.int .i64 0)).setCell ⟨w.heap.size, 2, none⟩ (.int .i64 0)).setCell ⟨w.heap.size, 3, none⟩ (.int .i64 0)).setCell ⟨w.heap.size, 4, none⟩ (.slice none 0 0)) w.heap.size zeroW (.slice none zeroW.f4.length 0)) := World.ownsRow_nil _ _ _ _
    have HFB : Hid (Below w.heap.size w (((((W2.setCell ⟨w.heap.size, 0, none⟩ (.int .i64 0)).setCell ⟨w.heap.size, 1, none⟩ (.int .i64 0)).setCell ⟨w.heap.size, 2, none⟩ (.int .i64 0)).setCell ⟨w.heap.size, 3, none⟩ (.int .i64 0)).setCell ⟨w.heap.size, 4, none⟩ (.slice none 0 0))) := store5_bel (.int .i64 0) (.int .i64 0) (.int .i64 0) (.int .i64 0) (.slice none 0 0) HBW.out (Nat.le_refl _)
    have HFA : Hid (rpA L' = ((zeroW, 0), false)) := by show _ = _; rw [HBL.out]; exact rpA_no (fun h => hk4 h.2)
    go_wp2
    exact bodyPost_ret (v := .tuple #[.agg #[.int .i64 0, .int .i64 0, .int .i64 0, .int .i64 0, .slice none 0 0], .int .i64 0, .bool false]) (by simp [results, Tryd.results12, go_sem, t0, t1, t2, t3, t4]) rfl (rpR_mk HFA.out HFO.out HFB.out)
  have HRP : Hid (RpS L' (bgW (rdR b0)) (8 + (b0.size : Int)) 1) := by show RpS _ _ _ _; rw [HBL.out]; exact rp_begin hb0s ⟨hok, hk4⟩
  have c2 : W2.cell? ⟨gb, ob, none⟩ = some (.string b0) := by
    have := HCL.out 0 HLP.out W2 HOW.out
    have e : L'[0]'HLP.out = b0 := by simp only [HBL.out, List.getElem_cons_zero]
    rw [e] at this
    exact this
  obtain ⟨W3, hW3⟩ : ∃ W, W = W2.alloc (.cells #[.int .i64 (rdR b0).f1, .int .i64 (-1), .int .i64 (rdR b0).f2, .int .i64 (rdR b0).f1, .slice none 0 0] 26) := ⟨_, rfl⟩
  have HW3 : Hid (W2.alloc (.cells #[.int .i64 (rdR b0).f1, .int .i64 (-1), .int .i64 (rdR b0).f2, .int .i64 (rdR b0).f1, .slice none 0 0] 26) = W3) := hW3.symm
  obtain ⟨wb, hwb⟩ : ∃ n, W2.heap.size = n := ⟨_, rfl⟩
  have HWB : Hid (W2.heap.size = wb) := hwb
  obtain ⟨v, hvv⟩ : ∃ v, Value.slice (some ⟨gb, ob, none⟩) L'.length cb = v := ⟨_, rfl⟩
  have HVV : Hid (Value.slice (some ⟨gb, ob, none⟩) L'.length cb = v) := hvv
  have S3 : Hid (RqS w L' v rb wb W3 (rdR b0) (bgW (rdR b0)) none 0) := by
    have hb3 : Below W2.heap.size W2 W3 := by rw [hW3]; exact (Below.refl _ _).alloc (Nat.le_refl _) _
    rw [← hvv]
    exact ⟨HBW.out.trans (hb3.mono HBW.out.size), (hb3.block _ (lt_of_some HXW.out)).trans HXW.out, (hb3.block _ (lt_of_some HR2.out)).trans HR2.out, by rw [hW3, ← hwb]; exact alloc_last _ _, World.ownsRow_nil _ _ _ _, own_bel HOW.out hb3 (Nat.le_refl _), fun k hk => by simp only [Value.ownBlock, Option.some.injEq] at hk; have := HGL.out; omega, HSR.out, by have := HSZ2.out; omega⟩
  have c3 : W3.cell? ⟨gb, ob, none⟩ = some (.string b0) := by
    have := HCL.out 0 HLP.out W3 (by rw [hvv]; exact S3.out.bod)
    have e : L'[0]'HLP.out = b0 := by simp only [HBL.out, List.getElem_cons_zero]
    rw [e] at this
    exact this
  have e8 : IntKind.i64.wrap (8 + (b0.size : Int)) = 8 + (b0.size : Int) := IntWalk.i64_in _ (by omega)
  generalize rdR b0 = rr at r0 r1 r2 r3 r4 S3 HRP hk4 HW3
  clear hok hW3 hwb hvv hl0
  go_upto_region 8 with fail
  rw [HW3.out, HWB.out]
  clear c2 r0 r1 r2 r3 r4 hk4
  go_wp2_with fail
  obtain ⟨n0, hn0⟩ : ∃ n, 8 + (b0.size : Int) = n := ⟨_, rfl⟩
  rw [hn0] at HRP ⊢
  clear e8 hn0 c3 hb0s
  generalize bgW rr = x0 at S3 HRP
  obtain ⟨q0, hq0⟩ : ∃ q : Option Addr, none = q := ⟨_, rfl⟩
  obtain ⟨cc0, hcc0⟩ : ∃ c : Nat, 0 = c := ⟨_, rfl⟩
  have S4 : Hid (RqS w L' v rb wb W3 rr x0 q0 cc0) := by rw [← hq0, ← hcc0]; exact S3.out
  clear S3 hq0 hcc0
  go_loopw [10, 11] (fun nv iv wr => ∃ (k : Nat) (n : Int) (r : S_Rec) (x : S_Wal) (q : Option Addr) (c : Nat), nv = .int .i64 n ∧ iv = .int .i64 (k : Int) ∧ k ≤ L'.length ∧ Hid (RpS L' x n k) ∧ Hid (RqS w L' v rb wb wr r x q c)) (fun _ iv _ => L'.length - (intOf iv).toNat)
  case atStart => exact ⟨1, n0, rr, x0, q0, cc0, rfl, rfl, HLP.out, HRP, S4⟩
  case round =>
    clear S4 HRP
    obtain ⟨k, n, r, x, q, c, rfl, rfl, hk, HP, S⟩ := hrel
    by_cases hlt : k < L'.length
    · have hlt' : (k : Int) < L'.length := by omega
      have HSB : Hid ((L'[k]).size ≤ 2000) := HSM.out _ (List.getElem_mem hlt)
      have ck : wr.cell? ⟨gb, ob + k, none⟩ = some (.string L'[k]) := HCL.out k hlt wr (by rw [HVV.out]; exact S.out.bod)
      have HNX : Hid (okR (rdR L'[k]) ∧ fitsR x (rdR L'[k]) → RpS L' (stepF x (rdR L'[k])) (n + (8 + ((L'[k]).size : Int))) (k + 1)) := fun h => HP.out.next hlt HSB.out h
      have HST : Hid (¬ (okR (rdR L'[k]) ∧ fitsR x (rdR L'[k])) → rpA L' = ((x, n), true)) := fun h => HP.out.stop hlt h
      generalize hB : L'[k] = B at ck HSB HNX HST
      have HBK : Hid (L'[k] = B) := hB
      clear hB
      go_wp2_with fail
      refine (specRead_c B wr (by have := HSB.out; omega)).mono ?_
      rintro e w3 ⟨rfl, b3⟩
      have S3 : Hid (RqS w L' v rb wb w3 r x q c) := S.out.bel b3
      clear b3 ck S
      have HRS : Hid ((rdR B).f4.size ≤ 900) := rdR_small B
      generalize rdR B = r' at HNX HST HRS ⊢
      obtain ⟨WC, hWC⟩ : ∃ W, W = (((((w3.setCell ⟨rb, 0, none⟩ (.int .i64 r'.f0)).setCell ⟨rb, 1, none⟩ (.int .i64 r'.f1)).setCell ⟨rb, 2, none⟩ (.int .i64 r'.f2)).setCell ⟨rb, 3, none⟩ (.int .i64 r'.f3)).setCell ⟨rb, 4, none⟩ (.string r'.f4)) := ⟨_, rfl⟩
      have HWC : Hid ((((((w3.setCell ⟨rb, 0, none⟩ (.int .i64 r'.f0)).setCell ⟨rb, 1, none⟩ (.int .i64 r'.f1)).setCell ⟨rb, 2, none⟩ (.int .i64 r'.f2)).setCell ⟨rb, 3, none⟩ (.int .i64 r'.f3)).setCell ⟨rb, 4, none⟩ (.string r'.f4)) = WC) := hWC.symm
      have S4 : Hid (RqS w L' v rb wb WC r' x q c) := by rw [hWC]; exact S3.out.setRec r'
      have zf := frz5 S3.out.rcd
      obtain ⟨z0, z1, z2, z3, z4⟩ := box5 S3.out.rcd
      clear hWC
      go_upto_region 13 with fail
      rw [HWC.out]
      clear zf z0 z1 z2 z3 z4
      obtain ⟨t0, t1, t2, t3, t4⟩ := box5 S4.out.rcd
      obtain ⟨y0, y1, y2, y3, y4⟩ := box5 S4.out.wal
      have HOKX : Hid (okW x) := HP.out.ok
      have HWS : Hid (Calls Tryd.prog 32 #[.agg #[.int .i64 x.f0, .int .i64 x.f1, .int .i64 x.f2, .int .i64 x.f3, .slice q x.f4.length c], .agg #[.int .i64 r'.f0, .int .i64 r'.f1, .int .i64 r'.f2, .int .i64 r'.f3, .string r'.f4]] WC (WsR x r' WC)) := specWalStep_c x r' q c WC (by have := (okW_len HOKX.out).1; omega) (fun y hy => by have := okE_data _ _ _ HOKX.out.2 y hy; show y.f1.size ≤ maxLen; unfold maxLen; omega) (by show r'.f4.size ≤ maxLen; have := HRS.out; unfold maxLen; omega) (RowR.own S4.out.row)
      go_wp2_with fail
      refine HWS.out.mono ?_
      rintro e w5 ⟨q', c', rfl, ho, b5⟩
      have S5 : Hid (RqS w L' v rb wb w5 r' x q c) := S4.out.bel b5
      have HCS : Hid (wb < WC.heap.size) := lt_of_some S4.out.wal
      clear b5 t0 t1 t2 t3 t4 y0 y1 y2 y3 y4 HWS
      by_cases hfit : okR r' ∧ fitsR x r'
      rotate_left
      · obtain ⟨e1, e2⟩ := ws_no HOKX.out hfit
        rw [e1, e2]
        have HAL : Hid (rpA L' = ((x, n), true)) := HST.out hfit
        obtain ⟨W6, hW6⟩ : ∃ W, W = w5.alloc (.cells #[.int .i64 x.f0, .int .i64 x.f1, .int .i64 x.f2, .int .i64 x.f3, .slice q' x.f4.length c'] 26) := ⟨_, rfl⟩
        have HW6 : Hid (w5.alloc (.cells #[.int .i64 x.f0, .int .i64 x.f1, .int .i64 x.f2, .int .i64 x.f3, .slice q' x.f4.length c'] 26) = W6) := hW6.symm
        have S6 : Hid (RqS w L' v rb wb W6 r' x q c) := by rw [hW6]; exact S5.out.bel ((Below.refl _ _).alloc (Nat.le_refl _) _)
        clear hW6 ho e1 e2
        go_upto_region 14 with fail
        rw [HW6.out]
        obtain ⟨y0, y1, y2, y3, y4⟩ := box5 S6.out.wal
        obtain ⟨z0, z1, z2, z3, z4⟩ := box5 S6.out.out
        by_cases hok : okR r'
        · have hnf : ¬ fitsR x r' := fun h => hfit ⟨hok, h⟩
          rw [decide_eq_true hok]
          have zf := frz5 S6.out.out
          obtain ⟨z0, z1, z2, z3, z4⟩ := box5 S6.out.out
          obtain ⟨t0, t1, t2, t3, t4⟩ := box5 (store5 (.int .i64 x.f0) (.int .i64 x.f1) (.int .i64 x.f2) (.int .i64 x.f3) (.slice q x.f4.length c) S6.out.out)
          have HFO : Hid (OwWal (((((W6.setCell ⟨w.heap.size, 0, none⟩ (.int .i64 x.f0)).setCell ⟨w.heap.size, 1, none⟩ (.int .i64 x.f1)).setCell ⟨w.heap.size, 2, none⟩ (.int .i64 x.f2)).setCell ⟨w.heap.size, 3, none⟩ (.int .i64 x.f3)).setCell ⟨w.heap.size, 4, none⟩ (.slice q x.f4.length c)) w.heap.size x (.slice q x.f4.length c)) := own_low (store5_own (.int .i64 x.f0) (.int .i64 x.f1) (.int .i64 x.f2) (.int .i64 x.f3) (.slice q x.f4.length c) S6.out.row (by have := S6.out.o1; have := S6.out.o2; omega)) (by have := S6.out.o1; have := S6.out.o2; omega)
          have HFB : Hid (Below w.heap.size w (((((W6.setCell ⟨w.heap.size, 0, none⟩ (.int .i64 x.f0)).setCell ⟨w.heap.size, 1, none⟩ (.int .i64 x.f1)).setCell ⟨w.heap.size, 2, none⟩ (.int .i64 x.f2)).setCell ⟨w.heap.size, 3, none⟩ (.int .i64 x.f3)).setCell ⟨w.heap.size, 4, none⟩ (.slice q x.f4.length c))) := store5_bel (.int .i64 x.f0) (.int .i64 x.f1) (.int .i64 x.f2) (.int .i64 x.f3) (.slice q x.f4.length c) S6.out.down (Nat.le_refl _)
          have HFA : Hid (rpA L' = ((x, n), true)) := HAL.out
          go_wp2
          exact bodyPost_ret (v := .tuple #[.agg #[.int .i64 x.f0, .int .i64 x.f1, .int .i64 x.f2, .int .i64 x.f3, .slice q x.f4.length c], .int .i64 n, .bool true]) (by simp [results, Tryd.results12, go_sem, t0, t1, t2, t3, t4]) rfl (rpR_mk HFA.out HFO.out HFB.out)
        · rw [decide_eq_false hok]
          have zf := frz5 S6.out.out
          obtain ⟨z0, z1, z2, z3, z4⟩ := box5 S6.out.out
          obtain ⟨t0, t1, t2, t3, t4⟩ := box5 (store5 (.int .i64 x.f0) (.int .i64 x.f1) (.int .i64 x.f2) (.int .i64 x.f3) (.slice q x.f4.length c) S6.out.out)
          have HFO : Hid (OwWal (((((W6.setCell ⟨w.heap.size, 0, none⟩ (.int .i64 x.f0)).setCell ⟨w.heap.size, 1, none⟩ (.int .i64 x.f1)).setCell ⟨w.heap.size, 2, none⟩ (.int .i64 x.f2)).setCell ⟨w.heap.size, 3, none⟩ (.int .i64 x.f3)).setCell ⟨w.heap.size, 4, none⟩ (.slice q x.f4.length c)) w.heap.size x (.slice q x.f4.length c)) := own_low (store5_own (.int .i64 x.f0) (.int .i64 x.f1) (.int .i64 x.f2) (.int .i64 x.f3) (.slice q x.f4.length c) S6.out.row (by have := S6.out.o1; have := S6.out.o2; omega)) (by have := S6.out.o1; have := S6.out.o2; omega)
          have HFB : Hid (Below w.heap.size w (((((W6.setCell ⟨w.heap.size, 0, none⟩ (.int .i64 x.f0)).setCell ⟨w.heap.size, 1, none⟩ (.int .i64 x.f1)).setCell ⟨w.heap.size, 2, none⟩ (.int .i64 x.f2)).setCell ⟨w.heap.size, 3, none⟩ (.int .i64 x.f3)).setCell ⟨w.heap.size, 4, none⟩ (.slice q x.f4.length c))) := store5_bel (.int .i64 x.f0) (.int .i64 x.f1) (.int .i64 x.f2) (.int .i64 x.f3) (.slice q x.f4.length c) S6.out.down (Nat.le_refl _)
          have HFA : Hid (rpA L' = ((x, n), true)) := HAL.out
          go_wp2
          exact bodyPost_ret (v := .tuple #[.agg #[.int .i64 x.f0, .int .i64 x.f1, .int .i64 x.f2, .int .i64 x.f3, .slice q x.f4.length c], .int .i64 n, .bool true]) (by simp [results, Tryd.results12, go_sem, t0, t1, t2, t3, t4]) rfl (rpR_mk HFA.out HFO.out HFB.out)
      obtain ⟨e1, e2⟩ := ws_yes HOKX.out hfit
      rw [decide_eq_true hfit.1]
      rw [e1] at ho ⊢
      rw [e2]
      have hnx := HNX.out hfit
      have HPN : Hid (RpS L' (stepF x r') (n + (8 + (B.size : Int))) (k + 1)) := hnx
      generalize stepF x r' = Y at ho HPN ⊢
      have HOY : Hid (OwWal w5 (wb + 1) Y (.slice q' Y.f4.length c')) := own_low ho HCS.out
      obtain ⟨W6, hW6⟩ : ∃ W, W = w5.alloc (.cells #[.int .i64 Y.f0, .int .i64 Y.f1, .int .i64 Y.f2, .int .i64 Y.f3, .slice q' Y.f4.length c'] 26) := ⟨_, rfl⟩
      have HW6 : Hid (w5.alloc (.cells #[.int .i64 Y.f0, .int .i64 Y.f1, .int .i64 Y.f2, .int .i64 Y.f3, .slice q' Y.f4.length c'] 26) = W6) := hW6.symm
      have hb6 : Below w5.heap.size w5 W6 := by rw [hW6]; exact (Below.refl _ _).alloc (Nat.le_refl _) _
      have S6 : Hid (RqS w L' v rb wb W6 r' x q c) := S5.out.bel hb6
      have HOY6 : Hid (OwWal W6 (wb + 1) Y (.slice q' Y.f4.length c')) := OwWal.keep HOY.out hb6 (Nat.le_refl _)
      have hx6 : W6.heap[w5.heap.size]? = some (.cells #[.int .i64 Y.f0, .int .i64 Y.f1, .int .i64 Y.f2, .int .i64 Y.f3, .slice q' Y.f4.length c'] 26) := by rw [hW6]; exact alloc_last _ _
      have hn1 := HP.out.low
      have hn2 := HP.out.high
      have hbs := HSB.out
      have e8 : IntKind.i64.wrap (n + 8) = n + 8 := IntWalk.i64_in _ (by omega)
      have e9 : IntKind.i64.wrap (n + 8 + (B.size : Int)) = n + (8 + (B.size : Int)) := by rw [IntWalk.i64_in _ (by omega)]; omega
      clear hW6 ho e1 e2 hb6 hnx hfit HST HNX
      go_upto_region 14 with fail
      rw [HW6.out]
      obtain ⟨g0, g1, g2, g3, g4⟩ := box5 hx6
      obtain ⟨y0, y1, y2, y3, y4⟩ := box5 S6.out.wal
      have zf := frz5 S6.out.wal
      obtain ⟨W7, hW7⟩ : ∃ W, W = (((((W6.setCell ⟨wb, 0, none⟩ (.int .i64 Y.f0)).setCell ⟨wb, 1, none⟩ (.int .i64 Y.f1)).setCell ⟨wb, 2, none⟩ (.int .i64 Y.f2)).setCell ⟨wb, 3, none⟩ (.int .i64 Y.f3)).setCell ⟨wb, 4, none⟩ (.slice q' Y.f4.length c')) := ⟨_, rfl⟩
      have HW7 : Hid ((((((W6.setCell ⟨wb, 0, none⟩ (.int .i64 Y.f0)).setCell ⟨wb, 1, none⟩ (.int .i64 Y.f1)).setCell ⟨wb, 2, none⟩ (.int .i64 Y.f2)).setCell ⟨wb, 3, none⟩ (.int .i64 Y.f3)).setCell ⟨wb, 4, none⟩ (.slice q' Y.f4.length c')) = W7) := hW7.symm
      have S7 : Hid (RqS w L' v rb wb W7 r' Y q' c') := by rw [hW7]; exact S6.out.setWal HOY6.out
      have c7 : W7.cell? ⟨gb, ob + k, none⟩ = some (.string B) := by
        rw [HCL.out k hlt W7 (by rw [HVV.out]; exact S7.out.bod), HBK.out]
      clear hW7 hx6
      go_upto_region 17 with fail
      rw [HW7.out]
      clear g0 g1 g2 g3 g4 y0 y1 y2 y3 y4 zf
      go_wp2
      go_roundw
      case rel => first | exact ⟨k + 1, _, r', Y, q', c', rfl, by go_num, by omega, HPN, S7⟩ | ((repeat apply Exists.intro); exact ⟨⟨k + 1, _, r', Y, q', c', rfl, by go_num, by omega, HPN, S7⟩, rfl⟩)
      case measure => simp [intOf]; omega
    · have hlt' : ¬ (k : Int) < L'.length := by omega
      have HAL : Hid (rpA L' = ((x, n), true)) := HP.out.last (by omega)
      obtain ⟨y0, y1, y2, y3, y4⟩ := box5 S.out.wal
      have zf := frz5 S.out.out
      obtain ⟨z0, z1, z2, z3, z4⟩ := box5 S.out.out
      obtain ⟨t0, t1, t2, t3, t4⟩ := box5 (store5 (.int .i64 x.f0) (.int .i64 x.f1) (.int .i64 x.f2) (.int .i64 x.f3) (.slice q x.f4.length c) S.out.out)
      have HFO : Hid (OwWal (((((wr.setCell ⟨w.heap.size, 0, none⟩ (.int .i64 x.f0)).setCell ⟨w.heap.size, 1, none⟩ (.int .i64 x.f1)).setCell ⟨w.heap.size, 2, none⟩ (.int .i64 x.f2)).setCell ⟨w.heap.size, 3, none⟩ (.int .i64 x.f3)).setCell ⟨w.heap.size, 4, none⟩ (.slice q x.f4.length c)) w.heap.size x (.slice q x.f4.length c)) := own_low (store5_own (.int .i64 x.f0) (.int .i64 x.f1) (.int .i64 x.f2) (.int .i64 x.f3) (.slice q x.f4.length c) S.out.row (by have := S.out.o1; have := S.out.o2; omega)) (by have := S.out.o1; have := S.out.o2; omega)
      have HFB : Hid (Below w.heap.size w (((((wr.setCell ⟨w.heap.size, 0, none⟩ (.int .i64 x.f0)).setCell ⟨w.heap.size, 1, none⟩ (.int .i64 x.f1)).setCell ⟨w.heap.size, 2, none⟩ (.int .i64 x.f2)).setCell ⟨w.heap.size, 3, none⟩ (.int .i64 x.f3)).setCell ⟨w.heap.size, 4, none⟩ (.slice q x.f4.length c))) := store5_bel (.int .i64 x.f0) (.int .i64 x.f1) (.int .i64 x.f2) (.int .i64 x.f3) (.slice q x.f4.length c) S.out.down (Nat.le_refl _)
      have HFA : Hid (rpA L' = ((x, n), true)) := HAL.out
      go_wp2
      exact bodyPost_ret (v := .tuple #[.agg #[.int .i64 x.f0, .int .i64 x.f1, .int .i64 x.f2, .int .i64 x.f3, .slice q x.f4.length c], .int .i64 n, .bool true]) (by simp [results, Tryd.results12, go_sem, t0, t1, t2, t3, t4]) rfl (rpR_mk HFA.out HFO.out HFB.out)



end Go.Proofs.YthlokfcejojdhaaDoor
