/- What a Vocab that came in gives a walk. -/
import Derived.Test.YtdggkcohidijcaaHaVocab
import Derived.Test.YtdggkcohidijcaaHaOpC
import Derived.ProofKit
import Derived.OpenShut
import Derived.Deep.Slices
namespace Go.Proofs.Ytdggkcohidijcaa
open Go.RowKit Go.ChangeShapes Go.WideShapes
set_option linter.unusedVariables false

/-- Its numbers are in range. -/
def gPair (x : S_Pair) : Prop := (Lit.int .i64 x.f0).wf = true ∧ (Lit.int .i64 x.f1).wf = true

theorem cellsPair : Try.prog.cellsOf 121 = 2 := by kernel_rfl

set_option maxRecDepth 20000 in
theorem opPair {H : Type} {enc : TypeId × Value → H} {W : World} {base : Nat} {sp : Nat → Bool} {held : Bool} {fuel : Nat} {cs : List Value} {x : DataW H × List MemPlace}
    (h : DataW.trod enc Try.prog W base sp held fuel 121 cs = some x) : ∃ y : S_Pair, cs = cPair y ∧ sPair y ∧ gPair y := by
  obtain ⟨xs, m, _, _, hl, hlen, hf⟩ := DataW.trod_struct Try.underlying121 h
  rw [cellsPair] at hl
  match cs, hl with
  | [v0, v1], _ =>
    have h0 : DataW.trod enc Try.prog W base sp held m 3 (([v0, v1].drop 0).take (Try.prog.cellsOf 3)) = xs[0]? := hf 0 _ rfl
    obtain ⟨y0, hy0⟩ : ∃ y, xs[0]? = some y := ⟨_, List.getElem?_eq_getElem (by rw [hlen]; decide)⟩
    rw [cells_int, hy0] at h0
    have h1 : DataW.trod enc Try.prog W base sp held m 3 (([v0, v1].drop 1).take (Try.prog.cellsOf 3)) = xs[1]? := hf 1 _ rfl
    obtain ⟨y1, hy1⟩ : ∃ y, xs[1]? = some y := ⟨_, List.getElem?_eq_getElem (by rw [hlen]; decide)⟩
    rw [cells_int, hy1] at h1
    obtain ⟨a0, e0, _, w0⟩ := DataW.trod_int (cs := [v0]) Try.underlying3 h0
    simp only [List.cons.injEq, and_true] at e0
    subst e0
    obtain ⟨a1, e1, _, w1⟩ := DataW.trod_int (cs := [v1]) Try.underlying3 h1
    simp only [List.cons.injEq, and_true] at e1
    subst e1
    exact ⟨⟨a0, a1⟩, rfl, trivial, ⟨w0, w1⟩⟩

set_option maxRecDepth 20000 in
theorem opPairS {H : Type} {enc : TypeId × Value → H} {W : World} {base : Nat} {sp : Nat → Bool} {held : Bool} {fuel : Nat} {cs : List Value} {x : DataW H × List MemPlace}
    (h : DataW.trod enc Try.prog W base sp held fuel 48 cs = some x) : ∃ v L, cs = [v] ∧ RowR W v (List.length L) 2 (rPair L) ∧ List.length L ≤ maxLen ∧ ∀ y ∈ L, sPair y ∧ gPair y := by
  rcases Deep.open_slice Try.underlying48 h with ⟨rfl, _⟩ | ⟨a, len, cap, m, k, D, Pl, rfl, _, hl, hm, hmm, _, hx⟩
  · exact ⟨_, [], rfl, ⟨rfl, none, 0, rfl, fun j hj => by simp at hj⟩, Nat.zero_le _, fun y hy => by simp at hy⟩
  · have hlm : len ≤ m := by rw [hmm]; split <;> omega
    haveI : Inhabited S_Pair := ⟨⟨0, 0⟩⟩
    have each : ∀ i, i < len → ∃ y : S_Pair, (sPair y ∧ gPair y) ∧ ∀ q, q < 2 → W.cell? (a.add (i * 2 + q)) = (cPair y)[q]? := fun i hi => by
      obtain ⟨cs', h1, h2⟩ := hx i (by omega)
      rw [cellsPair] at h1
      obtain ⟨_, hlen, hcell⟩ := World.cells?_some h1
      obtain ⟨y, rfl, hs, hg⟩ := opPair h2
      refine ⟨y, ⟨hs, hg⟩, fun q hq => ?_⟩
      have := hcell q hq
      rwa [Deep.add_add] at this
    obtain ⟨f, hfy⟩ := Deep.choose_lt each
    refine ⟨_, (List.range len).map f, rfl, ?_, by simp; omega, fun y hy => ?_⟩
    · rw [List.length_map, List.length_range]
      refine ⟨by rw [rPair_len, List.length_map, List.length_range], some a, cap, rfl, fun j hj => ?_⟩
      have hjn : j / 2 < len := Nat.div_lt_of_lt_mul (by rw [Nat.mul_comm]; exact hj)
      have hq : j % 2 < 2 := Nat.mod_lt _ (by decide)
      have hje : j / 2 * 2 + j % 2 = j := by rw [Nat.mul_comm]; exact Nat.div_add_mod j 2
      have hc := (hfy (j / 2) hjn).2 (j % 2) hq
      have hr : (rPair ((List.range len).map f))[j]? = (cPair (f (j / 2)))[j % 2]? := by
        have := flat_at cPair 2 cPair_len ((List.range len).map f) (j / 2) (j % 2) (by simpa using hjn) hq
        rw [hje] at this
        unfold rPair
        simpa using this
      rw [hje] at hc
      obtain ⟨b, off, spot⟩ := a
      obtain ⟨u, hu⟩ : ∃ u, (cPair (f (j / 2)))[j % 2]? = some u := ⟨_, List.getElem?_eq_getElem (by rw [cPair_len]; exact hq)⟩
      have hc0 := (hfy 0 (by omega)).2 0 (by decide)
      obtain ⟨u0, hu0⟩ : ∃ u, (cPair (f 0))[0]? = some u := ⟨_, List.getElem?_eq_getElem (by rw [cPair_len]; decide)⟩
      have hspot : spot = none := by
        rw [hu0] at hc0
        simpa [Addr.add] using World.cell?_spot hc0
      subst hspot
      have hplain : (⟨b, off, none⟩ : Addr).add j = ⟨b, off + j, none⟩ := by unfold Addr.add; split <;> simp_all
      rw [hplain] at hc
      exact ⟨b, off, rfl, World.block_lt_of_cell? W _ (hc.trans hu), by rw [hc, hr]⟩
    · obtain ⟨i, hi, rfl⟩ := List.mem_map.1 hy
      exact (hfy i (by simpa using hi)).1

/-- Its numbers are in range. -/
def gVocab (x : S_Vocab) : Prop := (∀ y ∈ x.f0, gPair y)

theorem cellsVocab : Try.prog.cellsOf 50 = 1 := by kernel_rfl

theorem cellsPairR : Try.prog.cellsOf 48 = 1 := by kernel_rfl

set_option maxRecDepth 20000 in
theorem opVocab {H : Type} {enc : TypeId × Value → H} {W : World} {base b0 : Nat} {sp : Nat → Bool} {held : Bool} {r : Reach} {v : Value} {d : DataW H} {p : List MemPlace}
    (hv : Value.okWide Try.prog W r b0 50 v) (h : DataW.Trod enc Try.prog W base sp held 50 v d p) :
    ∃ (x : S_Vocab) (v0 : Value), v = .agg #[v0] ∧ RdVocab W x v0 ∧ SmVocab x ∧ gVocab x := by
  obtain ⟨cs, rfl, hsz⟩ := okWide_struct Try.underlying50 hv
  rw [cellsVocab] at hsz
  obtain ⟨fuel, hf0⟩ := h
  obtain ⟨xs, m, _, _, hl, hlen, hf⟩ := DataW.trod_struct Try.underlying50 hf0
  obtain ⟨l⟩ := cs
  match l, hsz with
  | [v0], _ =>
    have h0 : DataW.trod enc Try.prog W base sp held m 48 (([v0].drop 0).take (Try.prog.cellsOf 48)) = xs[0]? := hf 0 _ rfl
    obtain ⟨y0, hy0⟩ : ∃ y, xs[0]? = some y := ⟨_, List.getElem?_eq_getElem (by rw [hlen]; decide)⟩
    rw [cellsPairR, hy0] at h0
    obtain ⟨a0, L0, e0, r0, n0, s0⟩ := opPairS (cs := [v0]) h0
    simp only [List.cons.injEq, and_true] at e0
    subst e0
    exact ⟨⟨L0⟩, _, rfl, r0, ⟨n0, fun y hy => (s0 y hy).1⟩, fun y hy => (s0 y hy).2⟩

end Go.Proofs.Ytdggkcohidijcaa
