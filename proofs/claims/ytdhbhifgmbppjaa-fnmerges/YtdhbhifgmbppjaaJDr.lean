/- The walks of what draws by the bytes of a code. -/
import Derived.Test.YtdhbhifgmbppjaaOwnLaws
import Derived.Test.YtdhbhifgmbppjaaDrawMath
import Derived.Deep.QuietTactic
import Derived.BigQuiet
import Derived.Maps.AppendAt
import Derived.Maps.Range
import Derived.Deep.RegionWith
namespace Go.Proofs.Ytdhbhifgmbppjaa
open Go.RowKit
set_option linter.unusedVariables false

/-- The cursor lies in block B: the code, the place, the mixed number; the code's bytes are the numbers zs. -/
structure Cur (w : World) (B : Nat) (ao : Option Addr) (len cap : Nat) (zs : List Int) (st : Nat × Int) : Prop where
  own : w.ownsRow B 91 1 (.slice (some ⟨B, 0, none⟩) 3 3) 3 [.slice ao len cap, .int .i64 st.1, .int .i64 st.2]
  code : ∀ j, j < len → ∃ b off, ao = some ⟨b, off, none⟩ ∧ b < B ∧ w.cell? ⟨b, off + j, none⟩ = some (.int .u8 (zs.getD j 0))

theorem grownBy_drewN {w w' : World} {row : Option Nat} (h : w.grownBy w' row) (n : Nat) : w.grownBy (w'.drewN n) row := by
  induction n with
  | zero => exact h
  | succ n ih => exact ⟨ih.os, ih.tape, ih.output, ih.size, ih.block⟩

theorem ownsRow_drewN {w : World} {base : Nat} {e : TypeId} {size : Nat} {v : Value} {n : Nat} {xs : List Value} (h : w.ownsRow base e size v n xs) (k : Nat) : (w.drewN k).ownsRow base e size v n xs := by
  induction k with
  | zero => exact h
  | succ k ih => exact ih

/-- The code's bytes stay where they are while the cursor's block alone is written. -/
theorem Cur.later {w w' : World} {B len cap : Nat} {ao : Option Addr} {zs : List Int} {st st' : Nat × Int} (hC : Cur w B ao len cap zs st) (hg : w.grownBy w' (some B))
    (ho : w'.ownsRow B 91 1 (.slice (some ⟨B, 0, none⟩) 3 3) 3 [.slice ao len cap, .int .i64 st'.1, .int .i64 st'.2]) : Cur w' B ao len cap zs st' :=
  ⟨ho, fun j hj => by
    obtain ⟨b, off, e, hb, hc⟩ := hC.code j hj
    exact ⟨b, off, e, hb, hg.cell hc (by simp; omega)⟩⟩

theorem Cur.drewN {w : World} {B len cap : Nat} {ao : Option Addr} {zs : List Int} {st : Nat × Int} (hC : Cur w B ao len cap zs st) (q : Nat) : Cur (w.drewN q) B ao len cap zs st :=
  hC.later (grownBy_drewN (World.grownBy.refl w (some B)) q) (ownsRow_drewN hC.own q)

theorem ret_int {k : IntKind} {a b : Int} (h : a = b) : Ending.returned (.int k a) = .returned (.int k b) := by rw [h]

theorem cur_one {w : World} {B len cap : Nat} {ao : Option Addr} {zs : List Int} {i : Nat} {h : Int} (hC : Cur w B ao len cap zs (i, h)) (H : Int) (q : Nat) :
    Cur ((w.setCell ⟨B, 2, none⟩ (.int .i64 H)).drewN q) B ao len cap zs (i, H) ∧ w.grownBy ((w.setCell ⟨B, 2, none⟩ (.int .i64 H)).drewN q) (some B) := by
  have s1 := hC.own.stored 2 (.int .i64 H)
  have g1 := grownBy_drewN s1.2 q
  exact ⟨hC.later g1 (ownsRow_drewN s1.1 q), g1⟩

theorem cur_two {w : World} {B len cap : Nat} {ao : Option Addr} {zs : List Int} {i : Nat} {h : Int} (hC : Cur w B ao len cap zs (i, h)) (H : Int) (q : Nat) :
    Cur (((w.setCell ⟨B, 2, none⟩ (.int .i64 H)).drewN q).setCell ⟨B, 1, none⟩ (.int .i64 ((i : Int) + 1))) B ao len cap zs (i + 1, H) ∧
      w.grownBy (((w.setCell ⟨B, 2, none⟩ (.int .i64 H)).drewN q).setCell ⟨B, 1, none⟩ (.int .i64 ((i : Int) + 1))) (some B) := by
  obtain ⟨c1, g1⟩ := cur_one hC H q
  have s2 := c1.own.stored 1 (.int .i64 ((i : Int) + 1))
  have g2 := g1.trans s2.2
  exact ⟨hC.later g2 (by simpa using s2.1), g2⟩

set_option maxRecDepth 100000 in
set_option maxHeartbeats 1000000 in
theorem byte_more (w : World) (B b off len cap : Nat) (zs : List Int) (i : Nat) (h : Int) (hC : Cur w B (some ⟨b, off, none⟩) len cap zs (i, h)) (hi : i < len) (hl : len ≤ 1048576) (hz0 : 0 ≤ zs.getD i 0) (hz1 : zs.getD i 0 ≤ 255) :
    Calls Try.prog 54 #[.pointer (some ⟨B, 0, none⟩)] w fun e w' => e = .returned (.int .i64 (bF zs len (i, h)).1) ∧ Cur w' B (some ⟨b, off, none⟩) len cap zs (bF zs len (i, h)).2 ∧ w.grownBy w' (some B) := by
  have c0 : w.cell? ⟨B, 0, none⟩ = some (.slice (some ⟨b, off, none⟩) len cap) := by rw [hC.own.cellAt 0 (by omega)]; rfl
  have c1 : w.cell? ⟨B, 1, none⟩ = some (.int .i64 i) := by rw [hC.own.cellAt 1 (by omega)]; rfl
  have c2 : w.cell? ⟨B, 2, none⟩ = some (.int .i64 h) := by rw [hC.own.cellAt 2 (by omega)]; rfl
  have f1 := hC.own.frozenAt 1
  have f2 := hC.own.frozenAt 2
  obtain ⟨b', off', e, hb, hcd⟩ := hC.code i hi
  obtain ⟨rfl, rfl⟩ : b = b' ∧ off = off' := by simpa using e
  obtain ⟨z, hz⟩ : ∃ z, zs.getD i 0 = z := ⟨_, rfl⟩
  rw [hz] at hcd hz0 hz1
  obtain ⟨H, hH⟩ : ∃ H, wrap64 (wrap64 (h * 6364136223846793005) + 1442695040888963407) = H := ⟨_, rfl⟩
  obtain ⟨X, hX⟩ : ∃ X, bits .and .i64 (bits .xor .i64 (H / 8589934592) (H / 35184372088832)) 255 = X := ⟨_, rfl⟩
  have HH : Hid (hF h = H) := hH
  have HX : Hid (xF (hF h) = X) := by show xF (hF h) = X; rw [HH.out]; exact hX
  obtain ⟨x0, x1⟩ : 0 ≤ X ∧ X ≤ 255 := by have := xF_range (hF h); rw [HX.out] at this; exact this
  have HF : Hid (bF zs len (i, h) = (bits .and .i64 (X + z) 255, (i + 1, H))) := by
    show bF zs len (i, h) = _
    unfold bF; rw [if_pos hi]; simp only [HX.out, hz]; rw [HH.out]
  have HC : Hid (Cur w B (some ⟨b, off, none⟩) len cap zs (i, h)) := hC
  clear hC e hz
  go_enter Try.func54, Try.ntmps54
  go_wp2
  go_quiet (fail)
  go_wp2
  go_quiet (fail)
  go_wp2
  go_quiet (fail)
  go_wp2
  go_ret
  exact ⟨ret_int (by rw [HF.out]), by rw [HF.out]; exact (cur_two HC.out H _).1, (cur_two HC.out H _).2⟩

set_option maxRecDepth 100000 in
set_option maxHeartbeats 1000000 in
theorem byte_over (w : World) (B len cap : Nat) (ao : Option Addr) (zs : List Int) (i : Nat) (h : Int) (hC : Cur w B ao len cap zs (i, h)) (hi : ¬ i < len) :
    Calls Try.prog 54 #[.pointer (some ⟨B, 0, none⟩)] w fun e w' => e = .returned (.int .i64 (bF zs len (i, h)).1) ∧ Cur w' B ao len cap zs (bF zs len (i, h)).2 ∧ w.grownBy w' (some B) := by
  have c0 : w.cell? ⟨B, 0, none⟩ = some (.slice ao len cap) := by rw [hC.own.cellAt 0 (by omega)]; rfl
  have c1 : w.cell? ⟨B, 1, none⟩ = some (.int .i64 i) := by rw [hC.own.cellAt 1 (by omega)]; rfl
  have c2 : w.cell? ⟨B, 2, none⟩ = some (.int .i64 h) := by rw [hC.own.cellAt 2 (by omega)]; rfl
  have f1 := hC.own.frozenAt 1
  have f2 := hC.own.frozenAt 2
  obtain ⟨H, hH⟩ : ∃ H, wrap64 (wrap64 (h * 6364136223846793005) + 1442695040888963407) = H := ⟨_, rfl⟩
  obtain ⟨X, hX⟩ : ∃ X, bits .and .i64 (bits .xor .i64 (H / 8589934592) (H / 35184372088832)) 255 = X := ⟨_, rfl⟩
  have HH : Hid (hF h = H) := hH
  have HX : Hid (xF (hF h) = X) := by show xF (hF h) = X; rw [HH.out]; exact hX
  obtain ⟨x0, x1⟩ : 0 ≤ X ∧ X ≤ 255 := by have := xF_range (hF h); rw [HX.out] at this; exact this
  have HF : Hid (bF zs len (i, h) = (X, (i, H))) := by
    show bF zs len (i, h) = _
    unfold bF; rw [if_neg hi]; simp only [HX.out]; rw [HH.out]
  have HC : Hid (Cur w B ao len cap zs (i, h)) := hC
  clear hC
  go_enter Try.func54, Try.ntmps54
  go_wp2
  go_quiet (fail)
  go_wp2
  go_quiet (fail)
  go_wp2
  go_ret
  exact ⟨ret_int (by rw [HF.out]), by rw [HF.out]; exact ((cur_one HC.out H _).1).drewN _, grownBy_drewN (cur_one HC.out H _).2 _⟩

/-- The next byte of the draw. -/
theorem byte_any (w : World) (B len cap : Nat) (ao : Option Addr) (zs : List Int) (st : Nat × Int) (hC : Cur w B ao len cap zs st) (hl : len ≤ 1048576) (hz : ∀ j, 0 ≤ zs.getD j 0 ∧ zs.getD j 0 ≤ 255) :
    Calls Try.prog 54 #[.pointer (some ⟨B, 0, none⟩)] w fun e w' => e = .returned (.int .i64 (bF zs len st).1) ∧ Cur w' B ao len cap zs (bF zs len st).2 ∧ w.grownBy w' (some B) := by
  obtain ⟨i, h⟩ := st
  by_cases hi : i < len
  · obtain ⟨b, off, rfl, _, _⟩ := hC.code i hi
    exact byte_more w B b off len cap zs i h hC hi hl (hz i).1 (hz i).2
  · exact byte_over w B len cap ao zs i h hC hi

set_option maxRecDepth 100000 in
set_option maxHeartbeats 1000000 in
/-- A number from 0 on below n. -/
theorem below_any (w : World) (B len cap : Nat) (ao : Option Addr) (zs : List Int) (st : Nat × Int) (n : Int) (hC : Cur w B ao len cap zs st) (hl : len ≤ 1048576) (hz : ∀ j, 0 ≤ zs.getD j 0 ∧ zs.getD j 0 ≤ 255) :
    Calls Try.prog 34 #[.pointer (some ⟨B, 0, none⟩), .int .i64 n] w fun e w' => e = .returned (.int .i64 (belowF zs len n st).1) ∧ Cur w' B ao len cap zs (belowF zs len n st).2 ∧ w.grownBy w' (some B) := by
  have HZ : Hid (∀ j, 0 ≤ zs.getD j 0 ∧ zs.getD j 0 ≤ 255) := hz
  have HC : Hid (Cur w B ao len cap zs st) := hC
  clear hz hC
  by_cases h0 : n ≤ 0
  · have HF : Hid (belowF zs len n st = (0, st)) := belowF_zero zs len n st h0
    go_enter Try.func34, Try.ntmps34
    go_wp2_with fail
    go_ret
    exact ⟨ret_int (by rw [HF.out]), by rw [HF.out]; exact HC.out, World.grownBy.refl _ _⟩
  · by_cases h256 : n ≤ 256
    · have HF : Hid (belowF zs len n st = ((bF zs len st).1 % n, (bF zs len st).2)) := belowF_small zs len n st (by omega) h256
      obtain ⟨r0, r1⟩ := bF_range zs len st
      go_enter Try.func34, Try.ntmps34
      go_wp2_with fail
      refine (byte_any _ B len cap ao zs st HC.out hl HZ.out).mono ?_
      rintro e w1 ⟨rfl, hC1, hg1⟩
      have HC1 : Hid (Cur w1 B ao len cap zs (bF zs len st).2 ∧ w.grownBy w1 (some B)) := ⟨hC1, hg1⟩
      clear hC1 hg1
      go_wp2
      go_ret
      exact ⟨ret_int (by rw [HF.out]), by rw [HF.out]; exact HC1.out.1, HC1.out.2⟩
    · have HF := belowF_great zs len n st (by omega)
      have HF : Hid _ := HF
      obtain ⟨a0, a1⟩ := bF_range zs len st
      obtain ⟨b0, b1⟩ := bF_range zs len (bF zs len st).2
      obtain ⟨c0, c1⟩ := bF_range zs len (bF zs len (bF zs len st).2).2
      obtain ⟨d0, d1⟩ := bF_range zs len (bF zs len (bF zs len (bF zs len st).2).2).2
      go_enter Try.func34, Try.ntmps34
      go_wp2_with fail
      refine (byte_any _ B len cap ao zs st HC.out hl HZ.out).mono ?_
      rintro e w1 ⟨rfl, hC1, hg1⟩
      have K1 : Hid (Cur w1 B ao len cap zs (bF zs len st).2 ∧ w.grownBy w1 (some B)) := ⟨hC1, hg1⟩
      clear hC1 hg1
      go_wp2_with fail
      refine (byte_any _ B len cap ao zs _ K1.out.1 hl HZ.out).mono ?_
      rintro e w2 ⟨rfl, hC2, hg2⟩
      have K2 : Hid (Cur w2 B ao len cap zs (bF zs len (bF zs len st).2).2 ∧ w.grownBy w2 (some B)) := ⟨hC2, K1.out.2.trans hg2⟩
      clear hC2 hg2 K1
      go_wp2_with fail
      refine (byte_any _ B len cap ao zs _ K2.out.1 hl HZ.out).mono ?_
      rintro e w3 ⟨rfl, hC3, hg3⟩
      have K3 : Hid (Cur w3 B ao len cap zs (bF zs len (bF zs len (bF zs len st).2).2).2 ∧ w.grownBy w3 (some B)) := ⟨hC3, K2.out.2.trans hg3⟩
      clear hC3 hg3 K2
      go_wp2_with fail
      refine (byte_any _ B len cap ao zs _ K3.out.1 hl HZ.out).mono ?_
      rintro e w4 ⟨rfl, hC4, hg4⟩
      have K4 : Hid (Cur w4 B ao len cap zs (bF zs len (bF zs len (bF zs len (bF zs len st).2).2).2).2 ∧ w.grownBy w4 (some B)) := ⟨hC4, K3.out.2.trans hg4⟩
      clear hC4 hg4 K3
      go_wp2
      go_ret
      exact ⟨ret_int (by rw [HF.out]), by rw [HF.out]; exact K4.out.1, K4.out.2⟩

end Go.Proofs.Ytdhbhifgmbppjaa

/- The walks of what draws a cursor, a number, a text. -/
namespace Go.Proofs.Ytdhbhifgmbppjaa
open Go.RowKit
set_option linter.unusedVariables false

/-- The code's bytes lie in old memory. -/
def CodeAt (w : World) (B : Nat) (ao : Option Addr) (len : Nat) (zs : List Int) : Prop :=
  ∀ j, j < len → ∃ b off, ao = some ⟨b, off, none⟩ ∧ b < B ∧ w.cell? ⟨b, off + j, none⟩ = some (.int .u8 (zs.getD j 0))

theorem cur_new (w : World) (ao : Option Addr) (len cap : Nat) (zs : List Int) (h : Int) (hc : CodeAt w w.heap.size ao len zs) :
    Cur (w.alloc (.cells #[.slice ao len cap, .int .i64 0, .int .i64 h] 91)) w.heap.size ao len cap zs (0, h) :=
  ⟨World.ownsRow_lit w _ 3 (Nat.le_refl _) (by decide) rfl, fun j hj => by
    obtain ⟨b, off, e, hb, hcell⟩ := hc j hj
    refine ⟨b, off, e, hb, ?_⟩
    rw [← hcell]
    exact World.cell?_of_block (Below.heap_alloc _ _ _ hb)⟩

theorem code_row {w : World} {B : Nat} {ao : Option Addr} {len : Nat} {zs : List Int} (hc : CodeAt w B ao len zs) (h : 0 < len) :
    ∃ b off, ao = some ⟨b, off, none⟩ ∧ ∀ j, j < len → w.cell? ⟨b, off + j, none⟩ = some (.int .u8 (zs.getD j 0)) := by
  obtain ⟨b, off, rfl, hb, _⟩ := hc 0 h
  refine ⟨b, off, rfl, fun j hj => ?_⟩
  obtain ⟨b', off', e, _, hcell⟩ := hc j hj
  obtain ⟨rfl, rfl⟩ : b = b' ∧ off = off' := by simpa using e
  exact hcell

set_option maxHeartbeats 1000000 in
set_option maxRecDepth 100000 in
theorem cursor_any (w : World) (ao : Option Addr) (len cap : Nat) (zs : List Int) (hc : CodeAt w w.heap.size ao len zs) (hl : len ≤ 1048576) (hz : ∀ j, 0 ≤ zs.getD j 0 ∧ zs.getD j 0 ≤ 255) :
    Calls Try.prog 29 #[.slice ao len cap] w fun e w' => e = .returned (.pointer (some ⟨w.heap.size, 0, none⟩)) ∧ Cur w' w.heap.size ao len cap zs (newF zs len) ∧ w.grownBy w' none := by
  have HC : Hid (CodeAt w w.heap.size ao len zs) := hc
  have HZ : Hid (∀ j, 0 ≤ zs.getD j 0 ∧ zs.getD j 0 ≤ 255) := hz
  clear hc hz
  go_enter Try.func29, Try.ntmps29
  go_wp2
  go_loop [3, 4] (fun h i => ∃ k : Nat, k ≤ len ∧ k ≤ 4000 ∧ i = .int .i64 k ∧ h = .int .i64 (nH zs len k)) (fun _ i => len - (intOf i).toNat)
  case atStart => exact ⟨0, Nat.zero_le _, Nat.zero_le _, rfl, by go_num⟩
  case round =>
    obtain ⟨k, hk, hk4, rfl, rfl⟩ := hrel
    obtain ⟨r0, r1⟩ := nH_range zs len hl k
    by_cases hlt : k < len ∧ k < 4000
    · obtain ⟨h1, h2⟩ := hlt
      obtain ⟨b, off, rfl, hcell⟩ := code_row HC.out (by omega)
      have hcd := hcell k h1
      obtain ⟨z0, z1⟩ := HZ.out k
      obtain ⟨z, hzz⟩ : ∃ z, zs.getD k 0 = z := ⟨_, rfl⟩
      rw [hzz] at hcd z0 z1
      have HN : Hid (nH zs len (k + 1) = bits .and .i64 (nH zs len k * 131 + z + 7) 1073741823) := by show nH zs len (k + 1) = _; simp only [nH, hzz]
      clear hcell hzz
      go_wp2
      go_round
      case rel => exact ⟨k + 1, by omega, by omega, by go_num, by rw [HN.out]⟩
      case measure => simp [intOf]; omega
    · have HK : Hid (min len 4000 = k) := by show min len 4000 = k; omega
      have HE : Hid (newF zs len = (0, nH zs len k)) := by show newF zs len = _; unfold newF; rw [HK.out]
      by_cases h1 : (k : Int) < len
      · have h2 : ¬ ((k : Int) < 4000) := by omega
        clear hlt
        go_wp2
        go_ret
        exact ⟨rfl, by rw [HE.out]; exact cur_new w ao len cap zs _ HC.out, World.grownBy_alloc w _ none⟩
      · clear hlt
        go_wp2
        go_ret
        exact ⟨rfl, by rw [HE.out]; exact cur_new w ao len cap zs _ HC.out, World.grownBy_alloc w _ none⟩

/-- A cursor stays while other blocks, made later, are written. -/
theorem Cur.keep {w w' : World} {B len cap : Nat} {ao : Option Addr} {zs : List Int} {st : Nat × Int} {row : Option Nat} (hC : Cur w B ao len cap zs st) (hg : w.grownBy w' row) (hr : ∀ k, row = some k → B < k) : Cur w' B ao len cap zs st :=
  ⟨hC.own.kept hg (.inr (fun e => by have := hr B e.symm; omega)), fun j hj => by
    obtain ⟨b, off, e, hb, hc⟩ := hC.code j hj
    exact ⟨b, off, e, hb, hg.cell hc (fun e => by have := hr b e.symm; omega)⟩⟩

theorem Cur.lt {w : World} {B len cap : Nat} {ao : Option Addr} {zs : List Int} {st : Nat × Int} (hC : Cur w B ao len cap zs st) : B < w.heap.size :=
  (hC.own.lt B rfl).2

set_option maxHeartbeats 1000000 in
theorem pick_any (w : World) (B len cap L : Nat) (ao : Option Addr) (zs : List Int) (st : Nat × Int) (hC : Cur w B ao len cap zs st) (hl : len ≤ 1048576) (hz : ∀ j, 0 ≤ zs.getD j 0 ∧ zs.getD j 0 ≤ 255)
    (hL : L ≠ B) (hp : ∀ j, j < 17 → w.cell? ⟨L, j, none⟩ = some (.int .i64 (picks.getD j 0))) :
    Calls Try.prog 53 #[.pointer (some ⟨B, 0, none⟩), .slice (some ⟨L, 0, none⟩) 17 17] w fun e w' => e = .returned (.int .i64 (picks.getD (belowF zs len 17 st).1.toNat 0)) ∧ Cur w' B ao len cap zs (belowF zs len 17 st).2 ∧ w.grownBy w' (some B) := by
  have HP : Hid (∀ j, j < 17 → w.cell? ⟨L, j, none⟩ = some (.int .i64 (picks.getD j 0))) := hp
  have HZ : Hid (∀ j, 0 ≤ zs.getD j 0 ∧ zs.getD j 0 ≤ 255) := hz
  have HC : Hid (Cur w B ao len cap zs st) := hC
  clear hp hz hC
  obtain ⟨r0, r1⟩ := belowF_range zs len 17 st
  have r2 := r1 (by omega)
  clear r1
  go_enter Try.func53, Try.ntmps53
  go_wp2_with fail
  refine (below_any _ B len cap ao zs st 17 HC.out hl HZ.out).mono ?_
  rintro e w1 ⟨rfl, hC1, hg1⟩
  obtain ⟨x, hx⟩ : ∃ x, (belowF zs len 17 st).1 = x := ⟨_, rfl⟩
  obtain ⟨k, rfl⟩ := Int.eq_ofNat_of_zero_le (show 0 ≤ x by omega)
  have hcell := hg1.cell (HP.out k (by omega)) (by simp; omega)
  obtain ⟨p, hpk⟩ : ∃ p, picks.getD k 0 = p := ⟨_, rfl⟩
  rw [hpk] at hcell
  have HX : Hid (picks.getD (belowF zs len 17 st).1.toNat 0 = p) := by show picks.getD (belowF zs len 17 st).1.toNat 0 = p; rw [hx]; exact hpk
  have K1 : Hid (Cur w1 B ao len cap zs (belowF zs len 17 st).2 ∧ w.grownBy w1 (some B)) := ⟨hC1, hg1⟩
  rw [hx] at r0 r2 ⊢
  clear hC1 hg1 hpk
  have hk17 : (k : Int) < 17 := by omega
  go_wp2
  go_ret
  exact ⟨ret_int (by rw [← HX.out, hx]), K1.out.1, K1.out.2⟩

end Go.Proofs.Ytdhbhifgmbppjaa

/- The walks of what draws a number, a chance, a text. -/
namespace Go.Proofs.Ytdhbhifgmbppjaa
open Go.RowKit
set_option linter.unusedVariables false

/-- A cursor stays behind a new block. -/
theorem Cur.alloc {w : World} {B len cap : Nat} {ao : Option Addr} {zs : List Int} {st : Nat × Int} (hC : Cur w B ao len cap zs st) (o : Obj) : Cur (w.alloc o) B ao len cap zs st :=
  hC.keep (World.grownBy_alloc w o none) (by simp)

theorem Cur.drew {w : World} {B len cap : Nat} {ao : Option Addr} {zs : List Int} {st : Nat × Int} (hC : Cur w B ao len cap zs st) : Cur w.drew B ao len cap zs st :=
  ⟨hC.own.drew, hC.code⟩

set_option maxRecDepth 100000 in
set_option maxHeartbeats 400000 in
theorem once_any (w : World) (B len cap : Nat) (ao : Option Addr) (zs : List Int) (st : Nat × Int) (n : Int) (hC : Cur w B ao len cap zs st) (hl : len ≤ 1048576) (hz : ∀ j, 0 ≤ zs.getD j 0 ∧ zs.getD j 0 ≤ 255) :
    Calls Try.prog 33 #[.pointer (some ⟨B, 0, none⟩), .int .i64 n] w fun e w' => e = .returned (.bool ((belowF zs len n st).1 == 0)) ∧ Cur w' B ao len cap zs (belowF zs len n st).2 ∧ w.grownBy w' (some B) := by
  have HZ : Hid (∀ j, 0 ≤ zs.getD j 0 ∧ zs.getD j 0 ≤ 255) := hz
  have HC : Hid (Cur w B ao len cap zs st) := hC
  clear hz hC
  go_enter Try.func33, Try.ntmps33
  go_wp2_with fail
  refine (below_any _ B len cap ao zs st n HC.out hl HZ.out).mono ?_
  rintro e w1 ⟨rfl, hC1, hg1⟩
  have K1 : Hid (Cur w1 B ao len cap zs (belowF zs len n st).2 ∧ w.grownBy w1 (some B)) := ⟨hC1, hg1⟩
  clear hC1 hg1
  go_wp2
  go_ret
  exact ⟨rfl, K1.out.1, K1.out.2⟩

/-- A row that was made behind the cursor stays while the cursor is moved. -/
theorem own_cur {w w' : World} {B base : Nat} {e : TypeId} {v : Value} {n : Nat} {xs : List Value} (h : w.ownsRow base e 1 v n xs) (hg : w.grownBy w' (some B)) (hB : B < base) : w'.ownsRow base e 1 v n xs :=
  h.kept hg (.inr (fun he => by have := (h.lt B he).1; omega))

end Go.Proofs.Ytdhbhifgmbppjaa

/- The walk of what spoils a drawn text. -/
namespace Go.Proofs.Ytdhbhifgmbppjaa
open Go.RowKit
set_option linter.unusedVariables false

theorem grownBy_drew {w w' : World} {row : Option Nat} (h : w.grownBy w' row) : w.grownBy w'.drew row := ⟨h.os, h.tape, h.output, h.size, h.block⟩

theorem run_add_small (a b : ByteArray) (h : a.size + b.size ≤ 9223372036854775807) : ∀ w, (Op.stringOp .add a b).run Try.prog w = .ok (.string (a ++ b)) w := fun w => run_string_add_sum w a b h

end Go.Proofs.Ytdhbhifgmbppjaa
