/- What the law on snapshots draws. -/
import Derived.Test.YtocjijognmhfmaaDoorDhWalk
import Derived.Test.YtocjijognmhfmaaDoorKrSpec
namespace Go.Proofs.YtocjijognmhfmaaDoor
open Go.RowKit
set_option linter.unusedVariables false
set_option linter.unusedSimpArgs false

/-- The cursor, and that nothing but its block has turned of what was there. -/
structure Kp (w W : World) (B : Nat) (ao : Option Addr) (len cap : Nat) (zs : List Int) (st : Nat × Int) : Prop where
  cur : Cur W B ao len cap zs st
  grown : w.grownBy W (some B)

theorem set_grown (w : World) (a : Addr) (v : Value) : w.grownBy (w.setCell a v) (some a.block) :=
  ⟨rfl, rfl, rfl, by simp [World.setCell], fun k _ hne => Below.heap_setCell _ _ _ _ (fun e => hne (by rw [e]))⟩

theorem Kp.call {w W W' : World} {B len cap : Nat} {ao : Option Addr} {zs : List Int} {st st' : Nat × Int} (h : Kp w W B ao len cap zs st) (hC : Cur W' B ao len cap zs st') (hg : W.grownBy W' (some B)) : Kp w W' B ao len cap zs st' := ⟨hC, h.grown.trans hg⟩

theorem Kp.alloc {w W : World} {B len cap : Nat} {ao : Option Addr} {zs : List Int} {st : Nat × Int} (h : Kp w W B ao len cap zs st) (o : Obj) : Kp w (W.alloc o) B ao len cap zs st :=
  ⟨h.cur.alloc o, h.grown.andThen (World.grownBy_alloc W o none) (by simp)⟩

theorem Kp.set {w W : World} {B len cap : Nat} {ao : Option Addr} {zs : List Int} {st : Nat × Int} (h : Kp w W B ao len cap zs st) (hB : B < w.heap.size) (a : Addr) (ha : w.heap.size ≤ a.block) (v : Value) : Kp w (W.setCell a v) B ao len cap zs st :=
  ⟨h.cur.keep (set_grown W a v) (fun k hk => by cases hk; omega), h.grown.andThen (set_grown W a v) (fun j hj => .inl (by cases hj; exact ha))⟩

/-- A block of one's own, made behind the cursor, stays while something is drawn. -/
theorem blk_cur {W W' : World} {B b : Nat} {o : Obj} (h : W.heap[b]? = some o) (hg : W.grownBy W' (some B)) (hb : b ≠ B) : W'.heap[b]? = some o :=
  (hg.block b (lt_of_someV h) (fun e => hb (Option.some.inj e))).trans h

theorem below_ex (w : World) (B len cap : Nat) (ao : Option Addr) (zs : List Int) (st : Nat × Int) (n : Int) (hn : 0 < n) (hC : Cur w B ao len cap zs st) (hl : len ≤ 1048576) (hz : ∀ j, 0 ≤ zs.getD j 0 ∧ zs.getD j 0 ≤ 255) :
    Calls Tryd.prog 46 #[.pointer (some ⟨B, 0, none⟩), .int .i64 n] w fun e w' => ∃ (q : Int) (st' : Nat × Int), e = .returned (.int .i64 q) ∧ 0 ≤ q ∧ q < n ∧ Cur w' B ao len cap zs st' ∧ w.grownBy w' (some B) :=
  (below_any w B len cap ao zs st n hC hl hz).mono fun e w' ⟨he, h1, h2⟩ => ⟨_, _, he, (belowF_range zs len n st).1, (belowF_range zs len n st).2 hn, h1, h2⟩

theorem once_ex (w : World) (B len cap : Nat) (ao : Option Addr) (zs : List Int) (st : Nat × Int) (n : Int) (hC : Cur w B ao len cap zs st) (hl : len ≤ 1048576) (hz : ∀ j, 0 ≤ zs.getD j 0 ∧ zs.getD j 0 ≤ 255) :
    Calls Tryd.prog 31 #[.pointer (some ⟨B, 0, none⟩), .int .i64 n] w fun e w' => ∃ (b : Bool) (st' : Nat × Int), e = .returned (.bool b) ∧ Cur w' B ao len cap zs st' ∧ w.grownBy w' (some B) :=
  (once_any w B len cap ao zs st n hC hl hz).mono fun e w' ⟨he, h1, h2⟩ => ⟨_, _, he, h1, h2⟩

theorem text_ex (w : World) (B len cap : Nat) (ao : Option Addr) (zs : List Int) (st : Nat × Int) (hC : Cur w B ao len cap zs st) (hl : len ≤ 1048576) (hz : ∀ j, 0 ≤ zs.getD j 0 ∧ zs.getD j 0 ≤ 255) :
    Calls Tryd.prog 47 #[.pointer (some ⟨B, 0, none⟩), .int .i64 30] w fun e w' => ∃ (s : ByteArray) (st' : Nat × Int), e = .returned (.string s) ∧ s.size ≤ 30 ∧ Cur w' B ao len cap zs st' ∧ w.grownBy w' (some B) :=
  (text_any w B len cap ao zs st 30 hC hl hz (by omega)).mono fun e w' ⟨he, h1, h2⟩ => ⟨_, _, he, by rw [strOfNums_size]; exact (textF_facts zs len 30 st).1, h1, h2⟩

def picks5 : List Int := [-1, 0, 1, 100000, 100001]

set_option maxHeartbeats 1000000 in
theorem pick5_ex (w : World) (B len cap : Nat) (ao : Option Addr) (zs : List Int) (st : Nat × Int) (L : Nat) (hC : Cur w B ao len cap zs st) (hl : len ≤ 1048576) (hz : ∀ j, 0 ≤ zs.getD j 0 ∧ zs.getD j 0 ≤ 255)
    (hL : L ≠ B) (hp : ∀ j, j < 5 → w.cell? ⟨L, j, none⟩ = some (.int .i64 (picks5.getD j 0))) :
    Calls Tryd.prog 32 #[.pointer (some ⟨B, 0, none⟩), .slice (some ⟨L, 0, none⟩) 5 5] w fun e w' => ∃ (q : Int) (st' : Nat × Int), e = .returned (.int .i64 q) ∧ Cur w' B ao len cap zs st' ∧ w.grownBy w' (some B) := by
  have HP : Hid (∀ j, j < 5 → w.cell? ⟨L, j, none⟩ = some (.int .i64 (picks5.getD j 0))) := hp
  have HZ : Hid (∀ j, 0 ≤ zs.getD j 0 ∧ zs.getD j 0 ≤ 255) := hz
  have HC : Hid (Cur w B ao len cap zs st) := hC
  clear hp hz hC
  go_enter Tryd.func32, Tryd.ntmps32
  go_wp2_with fail
  refine (below_ex _ B len cap ao zs st 5 (by omega) HC.out hl HZ.out).mono ?_
  rintro e w1 ⟨x, st1, rfl, r0, r2, hC1, hg1⟩
  obtain ⟨k, rfl⟩ := Int.eq_ofNat_of_zero_le (show 0 ≤ x by omega)
  have hcell := hg1.cell (HP.out k (by omega)) (by simp; omega)
  obtain ⟨p, hpk⟩ : ∃ p, picks5.getD k 0 = p := ⟨_, rfl⟩
  rw [hpk] at hcell
  have K1 : Hid (Cur w1 B ao len cap zs st1 ∧ w.grownBy w1 (some B)) := ⟨hC1, hg1⟩
  clear hC1 hg1 hpk
  have hk5 : (k : Int) < 5 := by omega
  go_wp2
  go_ret
  exact ⟨p, st1, rfl, K1.out.1, K1.out.2⟩

/-- What a call that draws a snapshot answers. -/
def SnD (w : World) (B len cap : Nat) (ao : Option Addr) (zs : List Int) (e : Ending) (w' : World) : Prop :=
  ∃ (x : S_Snap) (st' : Nat × Int), e = .returned (.agg #[.int .i64 x.f0, .int .i64 x.f1, .string x.f2]) ∧ x.f2.size ≤ 8001 ∧ Cur w' B ao len cap zs st' ∧ w.grownBy w' (some B)

theorem SnD.mk {w W : World} {B len cap : Nat} {ao : Option Addr} {zs : List Int} {st : Nat × Int} (h : Kp w W B ao len cap zs st) (a b : Int) (D : ByteArray) (hD : D.size ≤ 8001) : SnD w B len cap ao zs (.returned (.agg #[.int .i64 a, .int .i64 b, .string D])) W :=
  ⟨⟨a, b, D⟩, st, rfl, hD, h.cur, h.grown⟩

set_option maxRecDepth 20000 in
set_option maxHeartbeats 4000000 in
theorem snap_any (w : World) (B len cap : Nat) (ao : Option Addr) (zs : List Int) (st : Nat × Int) (hC : Cur w B ao len cap zs st) (hl : len ≤ 1048576) (hz : ∀ j, 0 ≤ zs.getD j 0 ∧ zs.getD j 0 ≤ 255) :
    Calls Tryd.prog 30 #[.pointer (some ⟨B, 0, none⟩)] w fun e w' => SnD w B len cap ao zs e w' := by
  have HZ : Hid (∀ j, 0 ≤ zs.getD j 0 ∧ zs.getD j 0 ≤ 255) := hz
  have HBW : Hid (B < w.heap.size) := hC.lt
  obtain ⟨W0, hW0⟩ : ∃ W, W = w.alloc (.cells #[.int .i64 0, .int .i64 0, .string ⟨#[]⟩] 25) := ⟨_, rfl⟩
  have HW0 : Hid (w.alloc (.cells #[.int .i64 0, .int .i64 0, .string ⟨#[]⟩] 25) = W0) := hW0.symm
  have HX0 : Hid (W0.heap[w.heap.size]? = some (.cells #[.int .i64 0, .int .i64 0, .string ⟨#[]⟩] 25)) := by rw [hW0]; exact alloc_lastV _ _
  have K0 : Hid (Kp w W0 B ao len cap zs st) := by rw [hW0]; exact (⟨hC, World.grownBy.refl _ _⟩ : Kp w w B ao len cap zs st).alloc _
  clear hW0 hz hC
  go_enter Tryd.func30, Tryd.ntmps30
  go_wp2_with fail
  rw [HW0.out]
  refine (once_ex W0 B len cap ao zs st 8 K0.out.cur hl HZ.out).mono ?_
  rintro e w1 ⟨b1, st1, rfl, hC1, hg1⟩
  have HX1 : Hid _ := blk_cur (b := w.heap.size) HX0.out hg1 (by have := HBW.out; omega)
  have K1 : Hid (Kp w w1 B ao len cap zs st1) := K0.out.call hC1 hg1
  clear hC1 hg1
  cases b1
  case true =>
    obtain ⟨z0, z1, z2⟩ := box3V HX1.out
    have zf0 := frz HX1.out 0
    have zf1 := frz HX1.out 1
    have zf2 := frz HX1.out 2
    go_wp2
    refine bodyPost_ret (v := .agg #[.int .i64 0, .int .i64 0, .string ⟨#[]⟩]) (by simp [results, Tryd.results30, go_sem, z0, z1, z2]) rfl ?_
    exact SnD.mk ((((K1.out).set HBW.out ⟨w.heap.size, 0, none⟩ (Nat.le_refl _) _).set HBW.out ⟨w.heap.size, 1, none⟩ (Nat.le_refl _) _).set HBW.out ⟨w.heap.size, 2, none⟩ (Nat.le_refl _) _) _ _ _ (by decide)
  case false =>
    go_wp2_with fail
    refine (below_ex w1 B len cap ao zs st1 12 (by omega) K1.out.cur hl HZ.out).mono ?_
    rintro e w2 ⟨a, st2, rfl, a0, a1, hC2, hg2⟩
    have HX2 : Hid _ := blk_cur (b := w.heap.size) HX1.out hg2 (by have := HBW.out; omega)
    have K2 : Hid (Kp w w2 B ao len cap zs st2) := K1.out.call hC2 hg2
    clear hC2 hg2
    go_wp2_with fail
    refine (below_ex w2 B len cap ao zs st2 6 (by omega) K2.out.cur hl HZ.out).mono ?_
    rintro e w3 ⟨b, st3, rfl, b0, b1, hC3, hg3⟩
    have HX3 : Hid _ := blk_cur (b := w.heap.size) HX2.out hg3 (by have := HBW.out; omega)
    have K3 : Hid (Kp w w3 B ao len cap zs st3) := K2.out.call hC3 hg3
    clear hC3 hg3
    go_wp2_with fail
    refine (text_ex w3 B len cap ao zs st3 K3.out.cur hl HZ.out).mono ?_
    rintro e w4 ⟨D, st4, rfl, hD, hC4, hg4⟩
    have HX4 : Hid _ := blk_cur (b := w.heap.size) HX3.out hg4 (by have := HBW.out; omega)
    have K4 : Hid (Kp w w4 B ao len cap zs st4) := K3.out.call hC4 hg4
    clear hC4 hg4
    obtain ⟨WY, hWY⟩ : ∃ W, W = w4.alloc (.cells #[.int .i64 (1 + a), .int .i64 (1 + b), .string D] 25) := ⟨_, rfl⟩
    have HWY : Hid (w4.alloc (.cells #[.int .i64 (1 + a), .int .i64 (1 + b), .string D] 25) = WY) := hWY.symm
    have HY5 : Hid (WY.heap[w4.heap.size]? = some (.cells #[.int .i64 (1 + a), .int .i64 (1 + b), .string D] 25)) := by rw [hWY]; exact alloc_lastV _ _
    have HL4 : Hid (w.heap.size < w4.heap.size) := lt_of_someV HX4.out
    have HX5 : Hid (WY.heap[w.heap.size]? = some (.cells #[.int .i64 0, .int .i64 0, .string ⟨#[]⟩] 25)) := by rw [hWY]; exact (Below.heap_alloc _ _ _ HL4.out).trans HX4.out
    have K5 : Hid (Kp w WY B ao len cap zs st4) := by rw [hWY]; exact K4.out.alloc _
    have HDD : Hid (D.size ≤ 30) := hD
    clear hWY hD
    obtain ⟨Y, hY⟩ : ∃ Y, w4.heap.size = Y := ⟨_, rfl⟩
    rw [hY] at HY5 HL4
    have HYE : Hid (w4.heap.size = Y) := hY
    clear hY
    go_wp2_with fail
    rw [HWY.out, HYE.out]
    refine (once_ex WY B len cap ao zs st4 40 K5.out.cur hl HZ.out).mono ?_
    rintro e w6 ⟨b6, st6, rfl, hC6, hg6⟩
    have HX6 : Hid _ := blk_cur (b := w.heap.size) HX5.out hg6 (by have := HBW.out; omega)
    have HY6 : Hid _ := blk_cur (b := Y) HY5.out hg6 (by have := HBW.out; have := HL4.out; omega)
    have K6 : Hid (Kp w w6 B ao len cap zs st6) := K5.out.call hC6 hg6
    clear hC6 hg6
    cases b6
    case false =>
      obtain ⟨y0, y1, y2⟩ := box3V HY6.out
      obtain ⟨z0, z1, z2⟩ := box3V HX6.out
      have zf0 := frz HX6.out 0
      have zf1 := frz HX6.out 1
      have zf2 := frz HX6.out 2
      have hne : Y ≠ w.heap.size := by have := HL4.out; omega
      go_wp2
      refine bodyPost_ret (v := .agg #[.int .i64 (1 + a), .int .i64 (1 + b), .string D]) (by simp [results, Tryd.results30, go_sem, z0, z1, z2]) rfl ?_
      exact SnD.mk ((((K6.out).set HBW.out ⟨w.heap.size, 0, none⟩ (Nat.le_refl _) _).set HBW.out ⟨w.heap.size, 1, none⟩ (Nat.le_refl _) _).set HBW.out ⟨w.heap.size, 2, none⟩ (Nat.le_refl _) _) _ _ _ (by have := HDD.out; omega)
    case true =>
      go_wp2_with fail
      refine (below_ex w6 B len cap ao zs st6 2 (by omega) K6.out.cur hl HZ.out).mono ?_
      rintro e w7 ⟨q, st7, rfl, q0, q1, hC7, hg7⟩
      have HX7 : Hid _ := blk_cur (b := w.heap.size) HX6.out hg7 (by have := HBW.out; omega)
      have HY7 : Hid _ := blk_cur (b := Y) HY6.out hg7 (by have := HBW.out; have := HL4.out; omega)
      have K7 : Hid (Kp w w7 B ao len cap zs st7) := K6.out.call hC7 hg7
      clear hC7 hg7
      obtain ⟨n, hn⟩ : ∃ n : Nat, 8000 + q = (n : Int) := ⟨(8000 + q).toNat, by omega⟩
      have hn8 : n ≤ 8001 := by omega
      obtain ⟨i0, hi, hz0, hz1, hz2⟩ := info_parts info5
      have HLY : Hid (Y < w7.heap.size) := lt_of_someV HY7.out
      have HLB : Hid (w.heap.size ≤ w7.heap.size) := K7.out.grown.size
      go_wp2_with fail
      clear hn q0 q1
      go_loopw [5] (fun v wr => ∃ (acc : List Int) (g c : Nat), acc.length ≤ n ∧ v = .slice (some ⟨g, 0, none⟩) acc.length c ∧ wr.ownsRow w7.heap.size 5 1 (.slice (some ⟨g, 0, none⟩) acc.length c) acc.length (acc.map (Value.int .u8)) ∧ Hid (Kp w wr B ao len cap zs st7) ∧ Hid (wr.heap[w.heap.size]? = some (.cells #[.int .i64 0, .int .i64 0, .string ⟨#[]⟩] 25)) ∧ Hid (wr.heap[Y]? = some (.cells #[.int .i64 (1 + a), .int .i64 (1 + b), .string D] 25)) ∧ Hid (w7.heap.size ≤ wr.heap.size)) (fun v _ => 8002 - lenIn v)
      case atStart =>
        exact ⟨[], w7.heap.size, 0, Nat.zero_le _, rfl, World.ownsRow_made w7 _ 0 (Nat.le_refl _) (by decide) (by simp), K7.out.alloc _, (Below.heap_alloc _ _ _ (by have := HL4.out; have := HLY.out; omega)).trans HX7.out, (Below.heap_alloc _ _ _ HLY.out).trans HY7.out, by show _ ≤ _; simp⟩
      case round =>
        obtain ⟨acc, g, c, hacc, rfl, hown, HKr, HXr, HYr, HSr⟩ := hrel
        by_cases hlt : (acc.length : Int) < n
        · have y0 : 0 ≤ (acc.length : Int) % 7 := by omega
          have y1 : (acc.length : Int) % 7 ≤ 255 := by omega
          have hlt' : acc.length < n := by omega
          go_wp2_with (first
            | (at_builtin; refine wpList_append_lies _ (by rfl) _ _ 22 (by rfl) w7.heap.size 5 i0 (.int .u8 0) 1 1 Tryd.underlying22 hi hz0 hz1 hz2 rfl (by decide) _ _ _ (by rfl) (hown.alloc _) ⟨wr.heap.size, 0, none⟩ 1 1 [.int .u8 ((acc.length : Int) % 7)] (by rfl) rfl (cell_one_new _ _ _) (by intro u hu; simp at hu; subst hu; rfl) (by decide) (by unfold maxLen; omega) (by omega) (by have := HSr.out; simp; omega) _ rfl ?_; intro g2 cap2 w9 hown9 hgrow hat hlt9)
            | fail)
          have hgr : wr.grownBy w9 (some g) := (World.grownBy_alloc wr _ _).trans hgrow
          have hgB : w7.heap.size ≤ g := (hown.lt g rfl).1
          have R1 := own_snoc hown9
          have KR : Hid (Kp w w9 B ao len cap zs st7) := ⟨HKr.out.cur.keep hgr (fun k hk => by cases hk; have := HBW.out; have := HLB.out; omega), HKr.out.grown.andThen hgr (fun j hj => .inl (by cases hj; have := HLB.out; omega))⟩
          have XR : Hid (w9.heap[w.heap.size]? = some (.cells #[.int .i64 0, .int .i64 0, .string ⟨#[]⟩] 25)) := (hgr.block _ (lt_of_someV HXr.out) (by have := HL4.out; have := HLY.out; simp; omega)).trans HXr.out
          have YR : Hid (w9.heap[Y]? = some (.cells #[.int .i64 (1 + a), .int .i64 (1 + b), .string D] 25)) := (hgr.block _ (lt_of_someV HYr.out) (by have := HLY.out; simp; omega)).trans HYr.out
          have SR : Hid (w7.heap.size ≤ w9.heap.size) := Nat.le_trans HSr.out hgr.size
          exact ⟨⟨acc ++ [(acc.length : Int) % 7], g2, cap2, by simp; omega, by simp, by simpa using R1, KR, XR, YR, SR⟩, by simp [lenIn]; omega⟩
        · have hconv := run_string_of_own acc rfl hown
          have hL : (strOfNums acc).size ≤ 8001 := by rw [strOfNums_size]; omega
          have HL9 : Hid ((strOfNums acc).size ≤ 8001) := hL
          have HY2 : Hid ((wr.setCell ⟨Y, 2, none⟩ (.string (strOfNums acc))).heap[Y]? = some (.cells #[.int .i64 (1 + a), .int .i64 (1 + b), .string (strOfNums acc)] 25)) := heap_setCell_same wr Y 2 _ _ (.string (strOfNums acc)) HYr.out
          have HX2 : Hid ((wr.setCell ⟨Y, 2, none⟩ (.string (strOfNums acc))).heap[w.heap.size]? = some (.cells #[.int .i64 0, .int .i64 0, .string ⟨#[]⟩] 25)) := (Below.heap_setCell _ _ _ _ (by have := HL4.out; show w.heap.size ≠ Y; omega)).trans HXr.out
          have K9 : Hid (Kp w (wr.setCell ⟨Y, 2, none⟩ (.string (strOfNums acc))) B ao len cap zs st7) := HKr.out.set HBW.out ⟨Y, 2, none⟩ (by have := HL4.out; show w.heap.size ≤ Y; omega) _
          have yf2 := frz HYr.out 2
          have yc2 := (box3V HYr.out).2.2
          clear hown hL
          generalize strOfNums acc = S at hconv HL9 HY2 HX2 K9
          go_upto_region 10 with fail
          obtain ⟨W9, hW9⟩ : ∃ W, W = wr.setCell ⟨Y, 2, none⟩ (.string S) := ⟨_, rfl⟩
          rw [← hW9] at HY2 HX2 K9 ⊢
          clear hW9 yf2 yc2
          obtain ⟨y0, y1, y2⟩ := box3V HY2.out
          obtain ⟨z0, z1, z2⟩ := box3V HX2.out
          have zf0 := frz HX2.out 0
          have zf1 := frz HX2.out 1
          have zf2 := frz HX2.out 2
          have hne : Y ≠ w.heap.size := by have := HL4.out; omega
          go_wp2
          refine bodyPost_ret (v := .agg #[.int .i64 (1 + a), .int .i64 (1 + b), .string S]) (by simp [results, Tryd.results30, go_sem, z0, z1, z2]) rfl ?_
          exact SnD.mk ((((K9.out).set HBW.out ⟨w.heap.size, 0, none⟩ (Nat.le_refl _) _).set HBW.out ⟨w.heap.size, 1, none⟩ (Nat.le_refl _) _).set HBW.out ⟨w.heap.size, 2, none⟩ (Nat.le_refl _) _) _ _ _ HL9.out

set_option maxRecDepth 20000 in
set_option maxHeartbeats 4000000 in
theorem anysnap_any (w : World) (B len cap : Nat) (ao : Option Addr) (zs : List Int) (st : Nat × Int) (hC : Cur w B ao len cap zs st) (hl : len ≤ 1048576) (hz : ∀ j, 0 ≤ zs.getD j 0 ∧ zs.getD j 0 ≤ 255) :
    Calls Tryd.prog 17 #[.pointer (some ⟨B, 0, none⟩)] w fun e w' => SnD w B len cap ao zs e w' := by
  have HZ : Hid (∀ j, 0 ≤ zs.getD j 0 ∧ zs.getD j 0 ≤ 255) := hz
  have HBW : Hid (B < w.heap.size) := hC.lt
  obtain ⟨W0, hW0⟩ : ∃ W, W = w.alloc (.cells #[.int .i64 0, .int .i64 0, .string ⟨#[]⟩] 25) := ⟨_, rfl⟩
  have HW0 : Hid (w.alloc (.cells #[.int .i64 0, .int .i64 0, .string ⟨#[]⟩] 25) = W0) := hW0.symm
  have HX0 : Hid (W0.heap[w.heap.size]? = some (.cells #[.int .i64 0, .int .i64 0, .string ⟨#[]⟩] 25)) := by rw [hW0]; exact alloc_lastV _ _
  have K0 : Hid (Kp w W0 B ao len cap zs st) := by rw [hW0]; exact (⟨hC, World.grownBy.refl _ _⟩ : Kp w w B ao len cap zs st).alloc _
  clear hW0 hz hC
  go_enter Tryd.func17, Tryd.ntmps17
  go_wp2_with fail
  rw [HW0.out]
  refine (snap_any W0 B len cap ao zs st K0.out.cur hl HZ.out).mono ?_
  rintro e w1 ⟨⟨x0, x1, x2⟩, st1, rfl, hD, hC1, hg1⟩
  have HX1 : Hid _ := blk_cur (b := w.heap.size) HX0.out hg1 (by have := HBW.out; omega)
  have K1 : Hid (Kp w w1 B ao len cap zs st1) := K0.out.call hC1 hg1
  have HDD : Hid (x2.size ≤ 8001) := hD
  clear hC1 hg1 hD
  obtain ⟨WY, hWY⟩ : ∃ W, W = w1.alloc (.cells #[.int .i64 x0, .int .i64 x1, .string x2] 25) := ⟨_, rfl⟩
  have HWY : Hid (w1.alloc (.cells #[.int .i64 x0, .int .i64 x1, .string x2] 25) = WY) := hWY.symm
  have HY2 : Hid (WY.heap[w1.heap.size]? = some (.cells #[.int .i64 x0, .int .i64 x1, .string x2] 25)) := by rw [hWY]; exact alloc_lastV _ _
  have HLY : Hid (w.heap.size < w1.heap.size) := lt_of_someV HX1.out
  have HX2 : Hid (WY.heap[w.heap.size]? = some (.cells #[.int .i64 0, .int .i64 0, .string ⟨#[]⟩] 25)) := by rw [hWY]; exact (Below.heap_alloc _ _ _ HLY.out).trans HX1.out
  have K2 : Hid (Kp w WY B ao len cap zs st1) := by rw [hWY]; exact K1.out.alloc _
  clear hWY
  obtain ⟨Y, hY⟩ : ∃ Y, w1.heap.size = Y := ⟨_, rfl⟩
  rw [hY] at HY2 HLY
  have HYE : Hid (w1.heap.size = Y) := hY
  clear hY
  go_wp2_with fail
  rw [HWY.out, HYE.out]
  refine (once_ex WY B len cap ao zs st1 8 K2.out.cur hl HZ.out).mono ?_
  rintro e w3 ⟨b3, st3, rfl, hC3, hg3⟩
  have HX3 : Hid _ := blk_cur (b := w.heap.size) HX2.out hg3 (by have := HBW.out; omega)
  have HY3 : Hid _ := blk_cur (b := Y) HY2.out hg3 (by have := HBW.out; have := HLY.out; omega)
  have K3 : Hid (Kp w w3 B ao len cap zs st3) := K2.out.call hC3 hg3
  clear hC3 hg3
  cases b3
  case false =>
    go_wp2_with fail
    refine (once_ex w3 B len cap ao zs st3 8 K3.out.cur hl HZ.out).mono ?_
    rintro e w4 ⟨b4, st4, rfl, hC4, hg4⟩
    have HX4 : Hid _ := blk_cur (b := w.heap.size) HX3.out hg4 (by have := HBW.out; omega)
    have HY4 : Hid _ := blk_cur (b := Y) HY3.out hg4 (by have := HBW.out; have := HLY.out; omega)
    have K4 : Hid (Kp w w4 B ao len cap zs st4) := K3.out.call hC4 hg4
    clear hC4 hg4
    cases b4
    case false =>
      obtain ⟨y0, y1, y2⟩ := box3V HY4.out
      obtain ⟨z0, z1, z2⟩ := box3V HX4.out
      have zf0 := frz HX4.out 0
      have zf1 := frz HX4.out 1
      have zf2 := frz HX4.out 2
      have hne : Y ≠ w.heap.size := by have := HLY.out; omega
      go_wp2
      refine bodyPost_ret (v := .agg #[.int .i64 x0, .int .i64 x1, .string x2]) (by simp [results, Tryd.results17, go_sem, z0, z1, z2]) rfl ?_
      exact SnD.mk ((((K4.out).set HBW.out ⟨w.heap.size, 0, none⟩ (Nat.le_refl _) _).set HBW.out ⟨w.heap.size, 1, none⟩ (Nat.le_refl _) _).set HBW.out ⟨w.heap.size, 2, none⟩ (Nat.le_refl _) _) _ _ _ HDD.out
    case true =>
      go_wp2_with fail
      have HA4 : Hid (∀ j, j < 5 → (w4.alloc (.cells #[.int .i64 (-1), .int .i64 0, .int .i64 1, .int .i64 100000, .int .i64 100001] 3)).cell? ⟨w4.heap.size, j, none⟩ = some (.int .i64 (picks5.getD j 0))) := by
        intro j hj
        match j, hj with
        | 0, _ | 1, _ | 2, _ | 3, _ | 4, _ => simp [picks5]
        | j + 5, hj => exact absurd hj (by omega)
      refine (pick5_ex _ B len cap ao zs st4 w4.heap.size (K4.out.cur.alloc _) hl HZ.out (by have := K4.out.cur.lt; omega) HA4.out).mono ?_
      rintro e v4 ⟨p4, sv4, rfl, hCv, hgv⟩
      have KV : Hid (Kp w v4 B ao len cap zs sv4) := (K4.out.alloc _).call hCv hgv
      have HXV : Hid _ := blk_cur (b := w.heap.size) ((Below.heap_alloc _ _ _ (lt_of_someV HX4.out)).trans HX4.out) hgv (by have := HBW.out; omega)
      have HYV : Hid _ := blk_cur (b := Y) ((Below.heap_alloc _ _ _ (lt_of_someV HY4.out)).trans HY4.out) hgv (by have := HBW.out; have := HLY.out; omega)
      clear hCv hgv HA4
      have HY5 : Hid ((v4.setCell ⟨Y, 1, none⟩ (.int .i64 p4)).heap[Y]? = some (.cells #[.int .i64 x0, .int .i64 p4, .string x2] 25)) := heap_setCell_same v4 Y 1 _ _ (.int .i64 p4) HYV.out
      have HX5 : Hid ((v4.setCell ⟨Y, 1, none⟩ (.int .i64 p4)).heap[w.heap.size]? = some (.cells #[.int .i64 0, .int .i64 0, .string ⟨#[]⟩] 25)) := (Below.heap_setCell _ _ _ _ (by have := HLY.out; show w.heap.size ≠ Y; omega)).trans HXV.out
      have K5 : Hid (Kp w (v4.setCell ⟨Y, 1, none⟩ (.int .i64 p4)) B ao len cap zs sv4) := KV.out.set HBW.out ⟨Y, 1, none⟩ (by have := HLY.out; show w.heap.size ≤ Y; omega) _
      have yf := frz HYV.out 1
      have yc := (box3V HYV.out).2.1
      go_upto_region 6 with fail
      obtain ⟨W5, hW5⟩ : ∃ W, W = v4.setCell ⟨Y, 1, none⟩ (.int .i64 p4) := ⟨_, rfl⟩
      rw [← hW5] at HY5 HX5 K5 ⊢
      clear hW5 yf yc
      obtain ⟨y0, y1, y2⟩ := box3V HY5.out
      obtain ⟨z0, z1, z2⟩ := box3V HX5.out
      have zf0 := frz HX5.out 0
      have zf1 := frz HX5.out 1
      have zf2 := frz HX5.out 2
      have hne : Y ≠ w.heap.size := by have := HLY.out; omega
      go_wp2
      refine bodyPost_ret (v := .agg #[.int .i64 x0, .int .i64 p4, .string x2]) (by simp [results, Tryd.results17, go_sem, z0, z1, z2]) rfl ?_
      exact SnD.mk ((((K5.out).set HBW.out ⟨w.heap.size, 0, none⟩ (Nat.le_refl _) _).set HBW.out ⟨w.heap.size, 1, none⟩ (Nat.le_refl _) _).set HBW.out ⟨w.heap.size, 2, none⟩ (Nat.le_refl _) _) _ _ _ HDD.out
  case true =>
    go_wp2_with fail
    have HA3 : Hid (∀ j, j < 5 → (w3.alloc (.cells #[.int .i64 (-1), .int .i64 0, .int .i64 1, .int .i64 100000, .int .i64 100001] 3)).cell? ⟨w3.heap.size, j, none⟩ = some (.int .i64 (picks5.getD j 0))) := by
      intro j hj
      match j, hj with
      | 0, _ | 1, _ | 2, _ | 3, _ | 4, _ => simp [picks5]
      | j + 5, hj => exact absurd hj (by omega)
    refine (pick5_ex _ B len cap ao zs st3 w3.heap.size (K3.out.cur.alloc _) hl HZ.out (by have := K3.out.cur.lt; omega) HA3.out).mono ?_
    rintro e v3 ⟨p3, sv3, rfl, hCv, hgv⟩
    have KV : Hid (Kp w v3 B ao len cap zs sv3) := (K3.out.alloc _).call hCv hgv
    have HXV : Hid _ := blk_cur (b := w.heap.size) ((Below.heap_alloc _ _ _ (lt_of_someV HX3.out)).trans HX3.out) hgv (by have := HBW.out; omega)
    have HYV : Hid _ := blk_cur (b := Y) ((Below.heap_alloc _ _ _ (lt_of_someV HY3.out)).trans HY3.out) hgv (by have := HBW.out; have := HLY.out; omega)
    clear hCv hgv HA3
    have HY4 : Hid ((v3.setCell ⟨Y, 0, none⟩ (.int .i64 p3)).heap[Y]? = some (.cells #[.int .i64 p3, .int .i64 x1, .string x2] 25)) := heap_setCell_same v3 Y 0 _ _ (.int .i64 p3) HYV.out
    have HX4 : Hid ((v3.setCell ⟨Y, 0, none⟩ (.int .i64 p3)).heap[w.heap.size]? = some (.cells #[.int .i64 0, .int .i64 0, .string ⟨#[]⟩] 25)) := (Below.heap_setCell _ _ _ _ (by have := HLY.out; show w.heap.size ≠ Y; omega)).trans HXV.out
    have K4 : Hid (Kp w (v3.setCell ⟨Y, 0, none⟩ (.int .i64 p3)) B ao len cap zs sv3) := KV.out.set HBW.out ⟨Y, 0, none⟩ (by have := HLY.out; show w.heap.size ≤ Y; omega) _
    have yf := frz HYV.out 0
    have yc := (box3V HYV.out).1
    go_upto_region 4 with fail
    obtain ⟨W4, hW4⟩ : ∃ W, W = v3.setCell ⟨Y, 0, none⟩ (.int .i64 p3) := ⟨_, rfl⟩
    rw [← hW4] at HY4 HX4 K4 ⊢
    clear hW4 yf yc
    go_wp2_with fail
    refine (once_ex W4 B len cap ao zs sv3 8 K4.out.cur hl HZ.out).mono ?_
    rintro e w5 ⟨b5, st5, rfl, hC5, hg5⟩
    have HX5 : Hid _ := blk_cur (b := w.heap.size) HX4.out hg5 (by have := HBW.out; omega)
    have HY5 : Hid _ := blk_cur (b := Y) HY4.out hg5 (by have := HBW.out; have := HLY.out; omega)
    have K5 : Hid (Kp w w5 B ao len cap zs st5) := K4.out.call hC5 hg5
    clear hC5 hg5
    cases b5
    case false =>
      obtain ⟨y0, y1, y2⟩ := box3V HY5.out
      obtain ⟨z0, z1, z2⟩ := box3V HX5.out
      have zf0 := frz HX5.out 0
      have zf1 := frz HX5.out 1
      have zf2 := frz HX5.out 2
      have hne : Y ≠ w.heap.size := by have := HLY.out; omega
      go_wp2
      refine bodyPost_ret (v := .agg #[.int .i64 p3, .int .i64 x1, .string x2]) (by simp [results, Tryd.results17, go_sem, z0, z1, z2]) rfl ?_
      exact SnD.mk ((((K5.out).set HBW.out ⟨w.heap.size, 0, none⟩ (Nat.le_refl _) _).set HBW.out ⟨w.heap.size, 1, none⟩ (Nat.le_refl _) _).set HBW.out ⟨w.heap.size, 2, none⟩ (Nat.le_refl _) _) _ _ _ HDD.out
    case true =>
      go_wp2_with fail
      have HA5 : Hid (∀ j, j < 5 → (w5.alloc (.cells #[.int .i64 (-1), .int .i64 0, .int .i64 1, .int .i64 100000, .int .i64 100001] 3)).cell? ⟨w5.heap.size, j, none⟩ = some (.int .i64 (picks5.getD j 0))) := by
        intro j hj
        match j, hj with
        | 0, _ | 1, _ | 2, _ | 3, _ | 4, _ => simp [picks5]
        | j + 5, hj => exact absurd hj (by omega)
      refine (pick5_ex _ B len cap ao zs st5 w5.heap.size (K5.out.cur.alloc _) hl HZ.out (by have := K5.out.cur.lt; omega) HA5.out).mono ?_
      rintro e v5 ⟨p5, sv5, rfl, hCv, hgv⟩
      have KV : Hid (Kp w v5 B ao len cap zs sv5) := (K5.out.alloc _).call hCv hgv
      have HXV : Hid _ := blk_cur (b := w.heap.size) ((Below.heap_alloc _ _ _ (lt_of_someV HX5.out)).trans HX5.out) hgv (by have := HBW.out; omega)
      have HYV : Hid _ := blk_cur (b := Y) ((Below.heap_alloc _ _ _ (lt_of_someV HY5.out)).trans HY5.out) hgv (by have := HBW.out; have := HLY.out; omega)
      clear hCv hgv HA5
      have HY6 : Hid ((v5.setCell ⟨Y, 1, none⟩ (.int .i64 p5)).heap[Y]? = some (.cells #[.int .i64 p3, .int .i64 p5, .string x2] 25)) := heap_setCell_same v5 Y 1 _ _ (.int .i64 p5) HYV.out
      have HX6 : Hid ((v5.setCell ⟨Y, 1, none⟩ (.int .i64 p5)).heap[w.heap.size]? = some (.cells #[.int .i64 0, .int .i64 0, .string ⟨#[]⟩] 25)) := (Below.heap_setCell _ _ _ _ (by have := HLY.out; show w.heap.size ≠ Y; omega)).trans HXV.out
      have K6 : Hid (Kp w (v5.setCell ⟨Y, 1, none⟩ (.int .i64 p5)) B ao len cap zs sv5) := KV.out.set HBW.out ⟨Y, 1, none⟩ (by have := HLY.out; show w.heap.size ≤ Y; omega) _
      have yf := frz HYV.out 1
      have yc := (box3V HYV.out).2.1
      go_upto_region 6 with fail
      obtain ⟨W6, hW6⟩ : ∃ W, W = v5.setCell ⟨Y, 1, none⟩ (.int .i64 p5) := ⟨_, rfl⟩
      rw [← hW6] at HY6 HX6 K6 ⊢
      clear hW6 yf yc
      obtain ⟨y0, y1, y2⟩ := box3V HY6.out
      obtain ⟨z0, z1, z2⟩ := box3V HX6.out
      have zf0 := frz HX6.out 0
      have zf1 := frz HX6.out 1
      have zf2 := frz HX6.out 2
      have hne : Y ≠ w.heap.size := by have := HLY.out; omega
      go_wp2
      refine bodyPost_ret (v := .agg #[.int .i64 p3, .int .i64 p5, .string x2]) (by simp [results, Tryd.results17, go_sem, z0, z1, z2]) rfl ?_
      exact SnD.mk ((((K6.out).set HBW.out ⟨w.heap.size, 0, none⟩ (Nat.le_refl _) _).set HBW.out ⟨w.heap.size, 1, none⟩ (Nat.le_refl _) _).set HBW.out ⟨w.heap.size, 2, none⟩ (Nat.le_refl _) _) _ _ _ HDD.out

set_option maxRecDepth 20000 in
set_option maxHeartbeats 1000000 in
theorem drawShow_c (w : World) (len cap : Nat) (ao : Option Addr) (zs : List Int) (hc : CodeAt w w.heap.size ao len zs) (hl : len ≤ 1048576) (hz : ∀ j, 0 ≤ zs.getD j 0 ∧ zs.getD j 0 ≤ 255) :
    Calls Tryd.prog 7 #[.slice ao len cap] w fun e w' => ∃ x : S_Snap, e = .returned (.agg #[.int .i64 x.f0, .int .i64 x.f1, .string x.f2]) ∧ x.f2.size ≤ 8001 ∧ Below w.heap.size w w' := by
  have HZ : Hid (∀ j, 0 ≤ zs.getD j 0 ∧ zs.getD j 0 ≤ 255) := hz
  obtain ⟨W0, hW0⟩ : ∃ W, W = w.alloc (.cells #[.int .i64 0, .int .i64 0, .string ⟨#[]⟩] 25) := ⟨_, rfl⟩
  have HW0 : Hid (w.alloc (.cells #[.int .i64 0, .int .i64 0, .string ⟨#[]⟩] 25) = W0) := hW0.symm
  have HX0 : Hid (W0.heap[w.heap.size]? = some (.cells #[.int .i64 0, .int .i64 0, .string ⟨#[]⟩] 25)) := by rw [hW0]; exact alloc_lastV _ _
  have HB0 : Hid (Below w.heap.size w W0) := by rw [hW0]; exact (Below.refl _ _).alloc (Nat.le_refl _) _
  have HC0 : Hid (CodeAt W0 W0.heap.size ao len zs) := fun j hj => by
    obtain ⟨b, off, e, hB, hcell⟩ := hc j hj
    exact ⟨b, off, e, Nat.lt_of_lt_of_le hB HB0.out.size, by rw [HB0.out.cell (by show b < w.heap.size; omega)]; exact hcell⟩
  clear hW0 hz hc
  go_enter Tryd.func7, Tryd.ntmps7
  go_wp2_with fail
  rw [HW0.out]
  refine (cursor_any W0 ao len cap zs HC0.out hl HZ.out).mono ?_
  rintro e w1 ⟨rfl, hC1, hg1⟩
  have C1 : Hid (Cur w1 W0.heap.size ao len cap zs (newF zs len)) := hC1
  have HB1 : Hid (Below w.heap.size w w1) := HB0.out.trans ((below_of_grown hg1).mono HB0.out.size)
  have HX1 : Hid (w1.heap[w.heap.size]? = some (.cells #[.int .i64 0, .int .i64 0, .string ⟨#[]⟩] 25)) := ((below_of_grown hg1).block _ (lt_of_someV HX0.out)).trans HX0.out
  clear hC1 hg1
  go_wp2_with fail
  refine (anysnap_any w1 W0.heap.size len cap ao zs _ C1.out hl HZ.out).mono ?_
  rintro e w2 ⟨⟨x0, x1, x2⟩, st2, rfl, hD, hC2, hg2⟩
  have HDD : Hid (x2.size ≤ 8001) := hD
  have HX2 : Hid _ := blk_cur (b := w.heap.size) HX1.out hg2 (by have := lt_of_someV HX0.out; omega)
  have HB2 : Hid (Below w.heap.size w w2) := HB1.out.grown hg2 HB1.out.size (fun k hk => by cases hk; exact HB0.out.size)
  clear hC2 hg2 hD
  obtain ⟨z0, z1, z2⟩ := box3V HX2.out
  have zf0 := frz HX2.out 0
  have zf1 := frz HX2.out 1
  have zf2 := frz HX2.out 2
  go_wp2
  refine bodyPost_ret (v := .agg #[.int .i64 x0, .int .i64 x1, .string x2]) (by simp [results, Tryd.results7, go_sem, z0, z1, z2]) rfl ?_
  exact ⟨⟨x0, x1, x2⟩, rfl, HDD.out, ((HB2.out.setCell (Nat.le_refl _) _).setCell (Nat.le_refl _) _).setCell (Nat.le_refl _) _⟩

end Go.Proofs.YtocjijognmhfmaaDoor
