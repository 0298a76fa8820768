/- New disks: the program's own, the specification's. -/
import Derived.Test.YtoecakjjondeeaaGreatDiMount
namespace Go.Proofs.YtoecakjjondeeaaGreat
open Go.RowKit Go.Maps
set_option linter.unusedVariables false

def DoR (x : S_Disk) (w : World) (e : Ending) (w' : World) : Prop :=
  ((okX x ∧ e = .returned (.bool true)) ∨ (¬ okX x ∧ e = .returned (.bool false))) ∧ Below w.heap.size w w'

/-- A disk with nothing on it. -/
def bare (a b : Int) : S_Disk := ⟨a, b, [], [], []⟩

theorem okX_bare (a : Int) : okX (bare a 1) ↔ 0 ≤ a ∧ a ≤ 1048576 := by
  constructor
  · intro h; exact h.1.1
  · intro h
    refine ⟨⟨h, by simp [bare], by simp [bare], by simp [bare]⟩, ⟨fun k hk => by simp [bare] at hk, by simp [bare, totI]; exact h.1⟩, fun k hk => by simp [bare] at hk, fun k hk => by simp [bare] at hk, fun y hy => by simp [bare] at hy⟩

theorem bnd_bare (a b : Int) : Bnd (bare a b) := ⟨by simp [bare, totI], by simp [bare], by simp [bare], by simp [bare], by simp [bare], by simp [bare], by simp [bare], by simp [bare]⟩

theorem rd_bare (a b : Int) (w : World) : RdDisk w (bare a b) (.slice none 0 0) (.slice none 0 0) (.slice none 0 0) :=
  ⟨⟨rfl, none, 0, rfl, fun j hj => by simp [bare] at hj⟩, ⟨rfl, none, 0, rfl, fun j hj => by simp [bare] at hj⟩, ⟨rfl, none, 0, rfl, fun j hj => by simp [bare] at hj⟩⟩

/-- What a new disk is. -/
def NdR (a : Int) (w : World) (e : Ending) (w' : World) : Prop :=
  ((0 ≤ a ∧ a ≤ 1048576 ∧ e = .returned (.tuple #[.agg #[.int .i64 a, .int .i64 1, .slice none 0 0, .slice none 0 0, .slice none 0 0], .bool true])) ∨ (¬ (0 ≤ a ∧ a ≤ 1048576) ∧ e = .returned (.tuple #[.agg #[.int .i64 0, .int .i64 0, .slice none 0 0, .slice none 0 0, .slice none 0 0], .bool false]))) ∧ Below w.heap.size w w'

/-- The cells of a disk's block. -/
theorem disk_cell {w : World} {b : Nat} {a0 a1 a2 a3 a4 : Value} (h : w.heap[b]? = some (.cells #[a0, a1, a2, a3, a4] 35)) : (w.cell? ⟨b, 0, none⟩ = some a0 ∧ w.cell? ⟨b, 1, none⟩ = some a1 ∧ w.cell? ⟨b, 2, none⟩ = some a2 ∧ w.cell? ⟨b, 3, none⟩ = some a3 ∧ w.cell? ⟨b, 4, none⟩ = some a4) ∧ ∀ o, w.frozen? ⟨b, o, none⟩ = false := by
  simp [World.cell?, World.frozen?, h]

theorem alloc_at (w : World) (o : Obj) : (w.alloc o).heap[w.heap.size]? = some o := (MapKept.heap_alloc w o).1

end Go.Proofs.YtoecakjjondeeaaGreat
