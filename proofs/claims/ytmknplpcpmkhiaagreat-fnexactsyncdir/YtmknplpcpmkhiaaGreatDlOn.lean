/- What the exact laws of the calls that hand a disk back share. -/
import Derived.Test.YtmknplpcpmkhiaaGreatDkSync
import Derived.Test.YtmknplpcpmkhiaaGreatHaOpen
namespace Go.Proofs.YtmknplpcpmkhiaaGreat
open Go.RowKit Go.Maps
set_option linter.unusedVariables false

theorem on_one {x y y' : S_Disk} {f : S_Disk × Int} {code code' : Int} (h : (okX x ∧ y = f.1 ∧ code = f.2) ∨ (¬ okX x ∧ y = bare 0 0 ∧ code = 1)) (h' : (okX x ∧ y' = f.1 ∧ code' = f.2) ∨ (¬ okX x ∧ y' = bare 0 0 ∧ code' = 1)) : y = y' ∧ code = code' := by
  rcases h with ⟨h1, h2, h3⟩ | ⟨h1, h2, h3⟩ <;> rcases h' with ⟨g1, g2, g3⟩ | ⟨g1, g2, g3⟩
  · exact ⟨h2.trans g2.symm, h3.trans g3.symm⟩
  · exact absurd h1 g1
  · exact absurd g1 h1
  · exact ⟨h2.trans g2.symm, h3.trans g3.symm⟩

theorem ln_bare (a b : Int) : LnDisk (bare a b) 1048576 := ⟨by simp [bare], by simp [bare], by simp [bare]⟩

theorem own_blocks {w : World} {base : Nat} {x : S_Disk} {v2 v3 v4 : Value} (h : OwDisk w base x v2 v3 v4) : ∀ u ∈ [v2, v3, v4], ∀ k, u.ownBlock = some k → base ≤ k ∧ k < w.heap.size := by
  intro u hu k hk
  simp only [List.mem_cons, List.not_mem_nil, or_false] at hu
  rcases hu with rfl | rfl | rfl
  · exact ⟨own_ge h.1 k hk, own_below h.1 k hk⟩
  · exact ⟨own_ge h.2.1 k hk, own_below h.2.1 k hk⟩
  · exact ⟨own_ge h.2.2 k hk, own_below h.2.2 k hk⟩

end Go.Proofs.YtmknplpcpmkhiaaGreat
