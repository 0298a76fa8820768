/- The walks of what draws a cursor, a number, a text. -/
import Derived.Test.YtdhbhifgmbppjaaDoorDrawWalk
import Derived.Maps.Range
namespace Go.Proofs.YtdhbhifgmbppjaaDoor
open Go.RowKit
set_option linter.unusedVariables false

/-- The code's bytes lie in old memory. -/
def CodeAt (w : World) (B : Nat) (ao : Option Addr) (len : Nat) (zs : List Int) : Prop :=
  ∀ j, j < len → ∃ b off, ao = some ⟨b, off, none⟩ ∧ b < B ∧ w.cell? ⟨b, off + j, none⟩ = some (.int .u8 (zs.getD j 0))

theorem cur_new (w : World) (ao : Option Addr) (len cap : Nat) (zs : List Int) (h : Int) (hc : CodeAt w w.heap.size ao len zs) :
    Cur (w.alloc (.cells #[.slice ao len cap, .int .i64 0, .int .i64 h] 69)) w.heap.size ao len cap zs (0, h) :=
  ⟨World.ownsRow_lit w _ 3 (Nat.le_refl _) (by decide) rfl, fun j hj => by
    obtain ⟨b, off, e, hb, hcell⟩ := hc j hj
    refine ⟨b, off, e, hb, ?_⟩
    rw [← hcell]
    exact World.cell?_of_block (Below.heap_alloc _ _ _ hb)⟩

theorem code_row {w : World} {B : Nat} {ao : Option Addr} {len : Nat} {zs : List Int} (hc : CodeAt w B ao len zs) (h : 0 < len) :
    ∃ b off, ao = some ⟨b, off, none⟩ ∧ ∀ j, j < len → w.cell? ⟨b, off + j, none⟩ = some (.int .u8 (zs.getD j 0)) := by
  obtain ⟨b, off, rfl, hb, _⟩ := hc 0 h
  refine ⟨b, off, rfl, fun j hj => ?_⟩
  obtain ⟨b', off', e, _, hcell⟩ := hc j hj
  obtain ⟨rfl, rfl⟩ : b = b' ∧ off = off' := by simpa using e
  exact hcell

set_option maxHeartbeats 1000000 in
set_option maxRecDepth 100000 in
theorem cursor_any (w : World) (ao : Option Addr) (len cap : Nat) (zs : List Int) (hc : CodeAt w w.heap.size ao len zs) (hl : len ≤ 1048576) (hz : ∀ j, 0 ≤ zs.getD j 0 ∧ zs.getD j 0 ≤ 255) :
    Calls Tryd.prog 15 #[.slice ao len cap] w fun e w' => e = .returned (.pointer (some ⟨w.heap.size, 0, none⟩)) ∧ Cur w' w.heap.size ao len cap zs (newF zs len) ∧ w.grownBy w' none := by
  have HC : Hid (CodeAt w w.heap.size ao len zs) := hc
  have HZ : Hid (∀ j, 0 ≤ zs.getD j 0 ∧ zs.getD j 0 ≤ 255) := hz
  clear hc hz
  go_enter Tryd.func15, Tryd.ntmps15
  go_wp2
  go_loop [3, 4] (fun h i => ∃ k : Nat, k ≤ len ∧ k ≤ 4000 ∧ i = .int .i64 k ∧ h = .int .i64 (nH zs len k)) (fun _ i => len - (intOf i).toNat)
  case atStart => exact ⟨0, Nat.zero_le _, Nat.zero_le _, rfl, by go_num⟩
  case round =>
    obtain ⟨k, hk, hk4, rfl, rfl⟩ := hrel
    obtain ⟨r0, r1⟩ := nH_range zs len hl k
    by_cases hlt : k < len ∧ k < 4000
    · obtain ⟨h1, h2⟩ := hlt
      obtain ⟨b, off, rfl, hcell⟩ := code_row HC.out (by omega)
      have hcd := hcell k h1
      obtain ⟨z0, z1⟩ := HZ.out k
      obtain ⟨z, hzz⟩ : ∃ z, zs.getD k 0 = z := ⟨_, rfl⟩
      rw [hzz] at hcd z0 z1
      have HN : Hid (nH zs len (k + 1) = bits .and .i64 (nH zs len k * 131 + z + 7) 1073741823) := by show nH zs len (k + 1) = _; simp only [nH, hzz]
      clear hcell hzz
      go_wp2
      go_round
      case rel => exact ⟨k + 1, by omega, by omega, by go_num, by rw [HN.out]⟩
      case measure => simp [intOf]; omega
    · have HK : Hid (min len 4000 = k) := by show min len 4000 = k; omega
      have HE : Hid (newF zs len = (0, nH zs len k)) := by show newF zs len = _; unfold newF; rw [HK.out]
      by_cases h1 : (k : Int) < len
      · have h2 : ¬ ((k : Int) < 4000) := by omega
        clear hlt
        go_wp2
        go_ret
        exact ⟨rfl, by rw [HE.out]; exact cur_new w ao len cap zs _ HC.out, World.grownBy_alloc w _ none⟩
      · clear hlt
        go_wp2
        go_ret
        exact ⟨rfl, by rw [HE.out]; exact cur_new w ao len cap zs _ HC.out, World.grownBy_alloc w _ none⟩

/-- A cursor stays while other blocks, made later, are written. -/
theorem Cur.keep {w w' : World} {B len cap : Nat} {ao : Option Addr} {zs : List Int} {st : Nat × Int} {row : Option Nat} (hC : Cur w B ao len cap zs st) (hg : w.grownBy w' row) (hr : ∀ k, row = some k → B < k) : Cur w' B ao len cap zs st :=
  ⟨hC.own.kept hg (.inr (fun e => by have := hr B e.symm; omega)), fun j hj => by
    obtain ⟨b, off, e, hb, hc⟩ := hC.code j hj
    exact ⟨b, off, e, hb, hg.cell hc (fun e => by have := hr b e.symm; omega)⟩⟩

theorem Cur.lt {w : World} {B len cap : Nat} {ao : Option Addr} {zs : List Int} {st : Nat × Int} (hC : Cur w B ao len cap zs st) : B < w.heap.size :=
  (hC.own.lt B rfl).2

set_option maxHeartbeats 1000000 in
theorem pick_any (w : World) (B len cap L : Nat) (ao : Option Addr) (zs : List Int) (st : Nat × Int) (hC : Cur w B ao len cap zs st) (hl : len ≤ 1048576) (hz : ∀ j, 0 ≤ zs.getD j 0 ∧ zs.getD j 0 ≤ 255)
    (hL : L ≠ B) (hp : ∀ j, j < 17 → w.cell? ⟨L, j, none⟩ = some (.int .i64 (picks.getD j 0))) :
    Calls Tryd.prog 37 #[.pointer (some ⟨B, 0, none⟩), .slice (some ⟨L, 0, none⟩) 17 17] w fun e w' => e = .returned (.int .i64 (picks.getD (belowF zs len 17 st).1.toNat 0)) ∧ Cur w' B ao len cap zs (belowF zs len 17 st).2 ∧ w.grownBy w' (some B) := by
  have HP : Hid (∀ j, j < 17 → w.cell? ⟨L, j, none⟩ = some (.int .i64 (picks.getD j 0))) := hp
  have HZ : Hid (∀ j, 0 ≤ zs.getD j 0 ∧ zs.getD j 0 ≤ 255) := hz
  have HC : Hid (Cur w B ao len cap zs st) := hC
  clear hp hz hC
  obtain ⟨r0, r1⟩ := belowF_range zs len 17 st
  have r2 := r1 (by omega)
  clear r1
  go_enter Tryd.func37, Tryd.ntmps37
  go_wp2_with fail
  refine (below_any _ B len cap ao zs st 17 HC.out hl HZ.out).mono ?_
  rintro e w1 ⟨rfl, hC1, hg1⟩
  obtain ⟨x, hx⟩ : ∃ x, (belowF zs len 17 st).1 = x := ⟨_, rfl⟩
  obtain ⟨k, rfl⟩ := Int.eq_ofNat_of_zero_le (show 0 ≤ x by omega)
  have hcell := hg1.cell (HP.out k (by omega)) (by simp; omega)
  obtain ⟨p, hpk⟩ : ∃ p, picks.getD k 0 = p := ⟨_, rfl⟩
  rw [hpk] at hcell
  have HX : Hid (picks.getD (belowF zs len 17 st).1.toNat 0 = p) := by show picks.getD (belowF zs len 17 st).1.toNat 0 = p; rw [hx]; exact hpk
  have K1 : Hid (Cur w1 B ao len cap zs (belowF zs len 17 st).2 ∧ w.grownBy w1 (some B)) := ⟨hC1, hg1⟩
  rw [hx] at r0 r2 ⊢
  clear hC1 hg1 hpk
  have hk17 : (k : Int) < 17 := by omega
  go_wp2
  go_ret
  exact ⟨ret_int (by rw [← HX.out, hx]), K1.out.1, K1.out.2⟩

end Go.Proofs.YtdhbhifgmbppjaaDoor
