/- What a Snap that came in gives a walk. -/
import Derived.Test.YtocjijognmhfmaaDoorHaSnap
import Derived.Test.YtocjijognmhfmaaDoorHaOpC
import Derived.ProofKit
import Derived.OpenShut
import Derived.Deep.Slices
namespace Go.Proofs.YtocjijognmhfmaaDoor
open Go.RowKit Go.ChangeShapes Go.WideShapes
set_option linter.unusedVariables false

/-- Its numbers are in range. -/
def gSnap (x : S_Snap) : Prop := (Lit.int .i64 x.f0).wf = true ∧ (Lit.int .i64 x.f1).wf = true

theorem cellsSnap : Tryd.prog.cellsOf 31 = 3 := by kernel_rfl

set_option maxRecDepth 20000 in
theorem opSnap {H : Type} {enc : TypeId × Value → H} {W : World} {base : Nat} {sp : Nat → Bool} {held : Bool} {fuel : Nat} {cs : List Value} {x : DataW H × List MemPlace}
    (h : DataW.trod enc Tryd.prog W base sp held fuel 31 cs = some x) : ∃ y : S_Snap, cs = cSnap y ∧ sSnap y ∧ gSnap y := by
  obtain ⟨xs, m, _, _, hl, hlen, hf⟩ := DataW.trod_struct Tryd.underlying31 h
  rw [cellsSnap] at hl
  match cs, hl with
  | [v0, v1, v2], _ =>
    have h0 : DataW.trod enc Tryd.prog W base sp held m 3 (([v0, v1, v2].drop 0).take (Tryd.prog.cellsOf 3)) = xs[0]? := hf 0 _ rfl
    obtain ⟨y0, hy0⟩ : ∃ y, xs[0]? = some y := ⟨_, List.getElem?_eq_getElem (by rw [hlen]; decide)⟩
    rw [cells_int, hy0] at h0
    have h1 : DataW.trod enc Tryd.prog W base sp held m 3 (([v0, v1, v2].drop 1).take (Tryd.prog.cellsOf 3)) = xs[1]? := hf 1 _ rfl
    obtain ⟨y1, hy1⟩ : ∃ y, xs[1]? = some y := ⟨_, List.getElem?_eq_getElem (by rw [hlen]; decide)⟩
    rw [cells_int, hy1] at h1
    have h2 : DataW.trod enc Tryd.prog W base sp held m 9 (([v0, v1, v2].drop 2).take (Tryd.prog.cellsOf 9)) = xs[2]? := hf 2 _ rfl
    obtain ⟨y2, hy2⟩ : ∃ y, xs[2]? = some y := ⟨_, List.getElem?_eq_getElem (by rw [hlen]; decide)⟩
    rw [cells_string, hy2] at h2
    obtain ⟨a0, e0, _, w0⟩ := DataW.trod_int (cs := [v0]) Tryd.underlying3 h0
    simp only [List.cons.injEq, and_true] at e0
    subst e0
    obtain ⟨a1, e1, _, w1⟩ := DataW.trod_int (cs := [v1]) Tryd.underlying3 h1
    simp only [List.cons.injEq, and_true] at e1
    subst e1
    obtain ⟨a2, e2, _, w2⟩ := DataW.trod_string (cs := [v2]) Tryd.underlying9 h2
    simp only [List.cons.injEq, and_true] at e2
    subst e2
    exact ⟨⟨a0, a1, a2⟩, rfl, w2, ⟨w0, w1⟩⟩

set_option maxRecDepth 20000 in
theorem opSnapV {H : Type} {enc : TypeId × Value → H} {W : World} {base b0 : Nat} {sp : Nat → Bool} {held : Bool} {r : Reach} {v : Value} {d : DataW H} {p : List MemPlace}
    (hv : Value.okWide Tryd.prog W r b0 31 v) (h : DataW.Trod enc Tryd.prog W base sp held 31 v d p) : ∃ x : S_Snap, v = .agg #[.int .i64 x.f0, .int .i64 x.f1, .string x.f2] ∧ sSnap x ∧ gSnap x := by
  obtain ⟨cs, rfl, hsz⟩ := okWide_struct Tryd.underlying31 hv
  obtain ⟨fuel, hf0⟩ := h
  obtain ⟨l⟩ := cs
  obtain ⟨y, hy, hs, hg⟩ := opSnap hf0
  have hl : l = cSnap y := hy
  subst hl
  exact ⟨y, rfl, hs, hg⟩

end Go.Proofs.YtocjijognmhfmaaDoor
