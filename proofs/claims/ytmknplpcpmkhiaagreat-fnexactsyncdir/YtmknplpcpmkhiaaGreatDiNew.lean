/- New disks: the program's own, the specification's. -/
import Derived.Test.YtmknplpcpmkhiaaGreatDiMount
namespace Go.Proofs.YtmknplpcpmkhiaaGreat
open Go.RowKit Go.Maps
set_option linter.unusedVariables false

def DoR (x : S_Disk) (w : World) (e : Ending) (w' : World) : Prop :=
  ((okX x ∧ e = .returned (.bool true)) ∨ (¬ okX x ∧ e = .returned (.bool false))) ∧ Below w.heap.size w w'

set_option maxRecDepth 20000 in
set_option maxHeartbeats 1000000 in
theorem implOk_c (x : S_Disk) (p2 p3 p4 : Option Addr) (c2 c3 c4 : Nat) (w : World) (hb : Bnd x) (hr : RdDisk w x (.slice p2 x.f2.length c2) (.slice p3 x.f3.length c3) (.slice p4 x.f4.length c4)) (hp : p4 = none → c4 = 0) :
    Calls Tryz.prog 21 #[.agg #[.int .i64 x.f0, .int .i64 x.f1, .slice p2 x.f2.length c2, .slice p3 x.f3.length c3, .slice p4 x.f4.length c4]] w (DoR x w) := by
  have HB : Hid (Bnd x) := hb
  have HP : Hid (p4 = none → c4 = 0) := hp
  have b0 : Below w.heap.size w (w.alloc (.cells #[.int .i64 x.f0, .int .i64 x.f1, .slice p2 x.f2.length c2, .slice p3 x.f3.length c3, .slice p4 x.f4.length c4] 28)) := (Below.refl _ _).alloc (Nat.le_refl _) _
  have HR : Hid (RdDisk (w.alloc (.cells #[.int .i64 x.f0, .int .i64 x.f1, .slice p2 x.f2.length c2, .slice p3 x.f3.length c3, .slice p4 x.f4.length c4] 28)) x (.slice p2 x.f2.length c2) (.slice p3 x.f3.length c3) (.slice p4 x.f4.length c4)) := hr.keep b0 (Nat.le_refl _)
  have HB0 : Hid (Below w.heap.size w (w.alloc (.cells #[.int .i64 x.f0, .int .i64 x.f1, .slice p2 x.f2.length c2, .slice p3 x.f3.length c3, .slice p4 x.f4.length c4] 28))) := b0
  clear hb hr hp b0
  go_enter Tryz.func21, Tryz.ntmps21
  go_wp2_with fail
  refine (mount_c x p2 p3 p4 c2 c3 c4 _ HB.out HR.out HP.out).mono ?_
  rintro e w1 (⟨hok, ⟨m, bf, bd, bn, vm, bs, rfl, _⟩, b1⟩ | ⟨hno, rfl, b1⟩)
  · have HO : Hid (okX x) := hok
    have HB1 : Hid (Below w.heap.size w w1) := HB0.out.trans (b1.mono (by simp))
    clear hok b1
    go_wp2
    go_ret
    exact ⟨.inl ⟨HO.out, rfl⟩, HB1.out⟩
  · have HO : Hid (¬ okX x) := hno
    have HB1 : Hid (Below w.heap.size w w1) := HB0.out.trans (b1.mono (by simp))
    clear hno b1
    go_wp2
    go_ret
    exact ⟨.inr ⟨HO.out, rfl⟩, HB1.out⟩

/-- A disk with nothing on it. -/
def bare (a b : Int) : S_Disk := ⟨a, b, [], [], []⟩

theorem okX_bare (a : Int) : okX (bare a 1) ↔ 0 ≤ a ∧ a ≤ 1048576 := by
  constructor
  · intro h; exact h.1.1
  · intro h
    refine ⟨⟨h, by simp [bare], by simp [bare], by simp [bare]⟩, ⟨fun k hk => by simp [bare] at hk, by simp [bare, totI]; exact h.1⟩, fun k hk => by simp [bare] at hk, fun k hk => by simp [bare] at hk, fun y hy => by simp [bare] at hy⟩

theorem bnd_bare (a b : Int) : Bnd (bare a b) := ⟨by simp [bare, totI], by simp [bare], by simp [bare], by simp [bare], by simp [bare], by simp [bare], by simp [bare], by simp [bare]⟩

theorem rd_bare (a b : Int) (w : World) : RdDisk w (bare a b) (.slice none 0 0) (.slice none 0 0) (.slice none 0 0) :=
  ⟨⟨rfl, none, 0, rfl, fun j hj => by simp [bare] at hj⟩, ⟨rfl, none, 0, rfl, fun j hj => by simp [bare] at hj⟩, ⟨rfl, none, 0, rfl, fun j hj => by simp [bare] at hj⟩⟩

/-- What a new disk is. -/
def NdR (a : Int) (w : World) (e : Ending) (w' : World) : Prop :=
  ((0 ≤ a ∧ a ≤ 1048576 ∧ e = .returned (.tuple #[.agg #[.int .i64 a, .int .i64 1, .slice none 0 0, .slice none 0 0, .slice none 0 0], .bool true])) ∨ (¬ (0 ≤ a ∧ a ≤ 1048576) ∧ e = .returned (.tuple #[.agg #[.int .i64 0, .int .i64 0, .slice none 0 0, .slice none 0 0, .slice none 0 0], .bool false]))) ∧ Below w.heap.size w w'

set_option maxRecDepth 20000 in
set_option maxHeartbeats 1000000 in
theorem specNew_c (a : Int) (w : World) : Calls Tryz.prog 9 #[.int .i64 a] w (NdR a w) := by
  by_cases h : 0 ≤ a ∧ a ≤ 1048576
  · have HA : Hid (0 ≤ a ∧ a ≤ 1048576) := h
    clear h
    go_enter Tryz.func9, Tryz.ntmps9
    go_wp2_with fail
    refine (in_yes a 0 1048576 _ HA.out.1 HA.out.2).mono ?_
    rintro e w1 ⟨rfl, hw⟩
    subst hw
    go_wp2
    exact bodyPost_ret (v := .tuple #[.agg #[.int .i64 a, .int .i64 1, .slice none 0 0, .slice none 0 0, .slice none 0 0], .bool true]) (by simp [results, Tryz.results9, go_sem]) rfl ⟨.inl ⟨HA.out.1, HA.out.2, rfl⟩, (Below.refl _ _).alloc (Nat.le_refl _) _⟩
  · have HA : Hid (¬ (0 ≤ a ∧ a ≤ 1048576)) := h
    clear h
    go_enter Tryz.func9, Tryz.ntmps9
    go_wp2_with fail
    refine (in_no a 0 1048576 _ (by have := HA.out; omega)).mono ?_
    rintro e w1 ⟨rfl, hw⟩
    subst hw
    go_wp2
    exact bodyPost_ret (v := .tuple #[.agg #[.int .i64 0, .int .i64 0, .slice none 0 0, .slice none 0 0, .slice none 0 0], .bool false]) (by simp [results, Tryz.results9, go_sem]) rfl ⟨.inr ⟨HA.out, rfl⟩, (Below.refl _ _).alloc (Nat.le_refl _) _⟩

/-- The cells of a disk's block. -/
theorem disk_cell {w : World} {b : Nat} {a0 a1 a2 a3 a4 : Value} (h : w.heap[b]? = some (.cells #[a0, a1, a2, a3, a4] 28)) : (w.cell? ⟨b, 0, none⟩ = some a0 ∧ w.cell? ⟨b, 1, none⟩ = some a1 ∧ w.cell? ⟨b, 2, none⟩ = some a2 ∧ w.cell? ⟨b, 3, none⟩ = some a3 ∧ w.cell? ⟨b, 4, none⟩ = some a4) ∧ ∀ o, w.frozen? ⟨b, o, none⟩ = false := by
  simp [World.cell?, World.frozen?, h]

theorem alloc_at (w : World) (o : Obj) : (w.alloc o).heap[w.heap.size]? = some o := (MapKept.heap_alloc w o).1

end Go.Proofs.YtmknplpcpmkhiaaGreat
