/- What the exact laws over disks share. -/
import Derived.Test.YtmknplpcpmkhiaaGreatDkOk
import Derived.Test.YtmknplpcpmkhiaaGreatHaOpen
namespace Go.Proofs.YtmknplpcpmkhiaaGreat
open Go.RowKit Go.Maps
set_option linter.unusedVariables false

theorem own_slice {w : World} {base : Nat} {e : TypeId} {size n : Nat} {v : Value} {xs : List Value} (h : w.ownsRow base e size v n xs) : ∃ p c, v = .slice p n c ∧ n ≤ c ∧ (p = none → c = 0) := by
  obtain ⟨_, ⟨rfl, rfl⟩ | ⟨g, cap, cur, rfl, _, _, hc, _⟩⟩ := h
  · exact ⟨none, 0, rfl, Nat.le_refl _, fun _ => rfl⟩
  · exact ⟨_, cap, rfl, hc, fun h => by cases h⟩

theorem sz_small {n : Nat} (h : ¬ szF n 1048576 < 0) : n ≤ 1048576 := by
  unfold szF at h
  split at h <;> omega

theorem ln_disk {x : S_Disk} (h : zDisk x ≤ 1048576) : LnDisk x 1048576 := by
  unfold zDisk at h
  exact ⟨by omega, by omega, by omega⟩

theorem bnd_disk {x : S_Disk} (h : zDisk x ≤ 1048576) (hs : SmDisk x) (hg : gDisk x) : Bnd x := by
  have hl := ln_disk h
  unfold zDisk at h
  have ht := totI_z x.f2
  exact ⟨by omega, hl.2.1, hg.2.2.1, hg.2.2.2.1, hs.2.2.2.1, hg.2.2.2.2, hs.2.2.2.2.2, ⟨hl.1, hl.2.2⟩⟩

theorem DoR.bool {x : S_Disk} {w w' : World} {e : Ending} (h : DoR x w e w') : ∃ B : Bool, e = .returned (.bool B) ∧ (B = true ↔ okX x) ∧ Below w.heap.size w w' := by
  obtain ⟨⟨h1, rfl⟩ | ⟨h1, rfl⟩, hb⟩ := h
  · exact ⟨true, rfl, ⟨fun _ => h1, fun _ => rfl⟩, hb⟩
  · exact ⟨false, rfl, ⟨fun h => (by cases h), fun h => absurd h h1⟩, hb⟩

theorem bool_same {A B : Bool} {p : Prop} (h1 : A = true ↔ p) (h2 : B = true ↔ p) : A = B := by
  cases A <;> cases B <;> simp_all

theorem disk_cellL {w : World} {b : Nat} {a0 a1 a2 a3 a4 : Value} {t : TypeId} (h : w.heap[b]? = some (.cells #[a0, a1, a2, a3, a4] t)) : w.cell? ⟨b, 0, none⟩ = some a0 ∧ w.cell? ⟨b, 1, none⟩ = some a1 ∧ w.cell? ⟨b, 2, none⟩ = some a2 ∧ w.cell? ⟨b, 3, none⟩ = some a3 ∧ w.cell? ⟨b, 4, none⟩ = some a4 := by
  simp [World.cell?, h]

end Go.Proofs.YtmknplpcpmkhiaaGreat
