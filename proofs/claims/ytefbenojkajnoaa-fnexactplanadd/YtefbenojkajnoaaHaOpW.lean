/- What a Wal that came in gives a walk. -/
import Derived.Test.YtefbenojkajnoaaHaWal
import Derived.Test.YtefbenojkajnoaaHaOpC
import Derived.ProofKit
import Derived.OpenShut
import Derived.Deep.Slices
namespace Go.Proofs.Ytefbenojkajnoaa
open Go.RowKit Go.ChangeShapes Go.WideShapes
set_option linter.unusedVariables false

/-- Its numbers are in range. -/
def gEntry (x : S_Entry) : Prop := (Lit.int .i64 x.f0).wf = true

theorem cellsEntry : Try.prog.cellsOf 63 = 2 := by kernel_rfl

set_option maxRecDepth 20000 in
theorem opEntry {H : Type} {enc : TypeId × Value → H} {W : World} {base : Nat} {sp : Nat → Bool} {held : Bool} {fuel : Nat} {cs : List Value} {x : DataW H × List MemPlace}
    (h : DataW.trod enc Try.prog W base sp held fuel 63 cs = some x) : ∃ y : S_Entry, cs = cEntry y ∧ sEntry y ∧ gEntry y := by
  obtain ⟨xs, m, _, _, hl, hlen, hf⟩ := DataW.trod_struct Try.underlying63 h
  rw [cellsEntry] at hl
  match cs, hl with
  | [v0, v1], _ =>
    have h0 : DataW.trod enc Try.prog W base sp held m 3 (([v0, v1].drop 0).take (Try.prog.cellsOf 3)) = xs[0]? := hf 0 _ rfl
    obtain ⟨y0, hy0⟩ : ∃ y, xs[0]? = some y := ⟨_, List.getElem?_eq_getElem (by rw [hlen]; decide)⟩
    rw [cells_int, hy0] at h0
    have h1 : DataW.trod enc Try.prog W base sp held m 9 (([v0, v1].drop 1).take (Try.prog.cellsOf 9)) = xs[1]? := hf 1 _ rfl
    obtain ⟨y1, hy1⟩ : ∃ y, xs[1]? = some y := ⟨_, List.getElem?_eq_getElem (by rw [hlen]; decide)⟩
    rw [cells_string, hy1] at h1
    obtain ⟨a0, e0, _, w0⟩ := DataW.trod_int (cs := [v0]) Try.underlying3 h0
    simp only [List.cons.injEq, and_true] at e0
    subst e0
    obtain ⟨a1, e1, _, w1⟩ := DataW.trod_string (cs := [v1]) Try.underlying9 h1
    simp only [List.cons.injEq, and_true] at e1
    subst e1
    exact ⟨⟨a0, a1⟩, rfl, w1, w0⟩

set_option maxRecDepth 20000 in
theorem opEntryS {H : Type} {enc : TypeId × Value → H} {W : World} {base : Nat} {sp : Nat → Bool} {held : Bool} {fuel : Nat} {cs : List Value} {x : DataW H × List MemPlace}
    (h : DataW.trod enc Try.prog W base sp held fuel 22 cs = some x) : ∃ v L, cs = [v] ∧ RowR W v (List.length L) 2 (rEntry L) ∧ List.length L ≤ maxLen ∧ ∀ y ∈ L, sEntry y ∧ gEntry y := by
  rcases Deep.open_slice Try.underlying22 h with ⟨rfl, _⟩ | ⟨a, len, cap, m, k, D, Pl, rfl, _, hl, hm, hmm, _, hx⟩
  · exact ⟨_, [], rfl, ⟨rfl, none, 0, rfl, fun j hj => by simp at hj⟩, Nat.zero_le _, fun y hy => by simp at hy⟩
  · have hlm : len ≤ m := by rw [hmm]; split <;> omega
    haveI : Inhabited S_Entry := ⟨⟨0, ⟨#[]⟩⟩⟩
    have each : ∀ i, i < len → ∃ y : S_Entry, (sEntry y ∧ gEntry y) ∧ ∀ q, q < 2 → W.cell? (a.add (i * 2 + q)) = (cEntry y)[q]? := fun i hi => by
      obtain ⟨cs', h1, h2⟩ := hx i (by omega)
      rw [cellsEntry] at h1
      obtain ⟨_, hlen, hcell⟩ := World.cells?_some h1
      obtain ⟨y, rfl, hs, hg⟩ := opEntry h2
      refine ⟨y, ⟨hs, hg⟩, fun q hq => ?_⟩
      have := hcell q hq
      rwa [Deep.add_add] at this
    obtain ⟨f, hfy⟩ := Deep.choose_lt each
    refine ⟨_, (List.range len).map f, rfl, ?_, by simp; omega, fun y hy => ?_⟩
    · rw [List.length_map, List.length_range]
      refine ⟨by rw [rEntry_len, List.length_map, List.length_range], some a, cap, rfl, fun j hj => ?_⟩
      have hjn : j / 2 < len := Nat.div_lt_of_lt_mul (by rw [Nat.mul_comm]; exact hj)
      have hq : j % 2 < 2 := Nat.mod_lt _ (by decide)
      have hje : j / 2 * 2 + j % 2 = j := by rw [Nat.mul_comm]; exact Nat.div_add_mod j 2
      have hc := (hfy (j / 2) hjn).2 (j % 2) hq
      have hr : (rEntry ((List.range len).map f))[j]? = (cEntry (f (j / 2)))[j % 2]? := by
        have := flat_at cEntry 2 cEntry_len ((List.range len).map f) (j / 2) (j % 2) (by simpa using hjn) hq
        rw [hje] at this
        unfold rEntry
        simpa using this
      rw [hje] at hc
      obtain ⟨b, off, spot⟩ := a
      obtain ⟨u, hu⟩ : ∃ u, (cEntry (f (j / 2)))[j % 2]? = some u := ⟨_, List.getElem?_eq_getElem (by rw [cEntry_len]; exact hq)⟩
      have hc0 := (hfy 0 (by omega)).2 0 (by decide)
      obtain ⟨u0, hu0⟩ : ∃ u, (cEntry (f 0))[0]? = some u := ⟨_, List.getElem?_eq_getElem (by rw [cEntry_len]; decide)⟩
      have hspot : spot = none := by
        rw [hu0] at hc0
        simpa [Addr.add] using World.cell?_spot hc0
      subst hspot
      have hplain : (⟨b, off, none⟩ : Addr).add j = ⟨b, off + j, none⟩ := by unfold Addr.add; split <;> simp_all
      rw [hplain] at hc
      exact ⟨b, off, rfl, World.block_lt_of_cell? W _ (hc.trans hu), by rw [hc, hr]⟩
    · obtain ⟨i, hi, rfl⟩ := List.mem_map.1 hy
      exact (hfy i (by simpa using hi)).1

/-- Its numbers are in range. -/
def gWal (x : S_Wal) : Prop := (Lit.int .i64 x.f0).wf = true ∧ (Lit.int .i64 x.f1).wf = true ∧ (Lit.int .i64 x.f2).wf = true ∧ (Lit.int .i64 x.f3).wf = true ∧ (∀ y ∈ x.f4, gEntry y)

theorem cellsWal : Try.prog.cellsOf 24 = 5 := by kernel_rfl

theorem cellsEntryR : Try.prog.cellsOf 22 = 1 := by kernel_rfl

set_option maxRecDepth 20000 in
theorem opWal {H : Type} {enc : TypeId × Value → H} {W : World} {base b0 : Nat} {sp : Nat → Bool} {held : Bool} {r : Reach} {v : Value} {d : DataW H} {p : List MemPlace}
    (hv : Value.okWide Try.prog W r b0 24 v) (h : DataW.Trod enc Try.prog W base sp held 24 v d p) :
    ∃ (x : S_Wal) (v4 : Value), v = .agg #[.int .i64 x.f0, .int .i64 x.f1, .int .i64 x.f2, .int .i64 x.f3, v4] ∧ RdWal W x v4 ∧ SmWal x ∧ gWal x := by
  obtain ⟨cs, rfl, hsz⟩ := okWide_struct Try.underlying24 hv
  rw [cellsWal] at hsz
  obtain ⟨fuel, hf0⟩ := h
  obtain ⟨xs, m, _, _, hl, hlen, hf⟩ := DataW.trod_struct Try.underlying24 hf0
  obtain ⟨l⟩ := cs
  match l, hsz with
  | [v0, v1, v2, v3, v4], _ =>
    have h0 : DataW.trod enc Try.prog W base sp held m 3 (([v0, v1, v2, v3, v4].drop 0).take (Try.prog.cellsOf 3)) = xs[0]? := hf 0 _ rfl
    obtain ⟨y0, hy0⟩ : ∃ y, xs[0]? = some y := ⟨_, List.getElem?_eq_getElem (by rw [hlen]; decide)⟩
    rw [cells_int, hy0] at h0
    have h1 : DataW.trod enc Try.prog W base sp held m 3 (([v0, v1, v2, v3, v4].drop 1).take (Try.prog.cellsOf 3)) = xs[1]? := hf 1 _ rfl
    obtain ⟨y1, hy1⟩ : ∃ y, xs[1]? = some y := ⟨_, List.getElem?_eq_getElem (by rw [hlen]; decide)⟩
    rw [cells_int, hy1] at h1
    have h2 : DataW.trod enc Try.prog W base sp held m 3 (([v0, v1, v2, v3, v4].drop 2).take (Try.prog.cellsOf 3)) = xs[2]? := hf 2 _ rfl
    obtain ⟨y2, hy2⟩ : ∃ y, xs[2]? = some y := ⟨_, List.getElem?_eq_getElem (by rw [hlen]; decide)⟩
    rw [cells_int, hy2] at h2
    have h3 : DataW.trod enc Try.prog W base sp held m 3 (([v0, v1, v2, v3, v4].drop 3).take (Try.prog.cellsOf 3)) = xs[3]? := hf 3 _ rfl
    obtain ⟨y3, hy3⟩ : ∃ y, xs[3]? = some y := ⟨_, List.getElem?_eq_getElem (by rw [hlen]; decide)⟩
    rw [cells_int, hy3] at h3
    have h4 : DataW.trod enc Try.prog W base sp held m 22 (([v0, v1, v2, v3, v4].drop 4).take (Try.prog.cellsOf 22)) = xs[4]? := hf 4 _ rfl
    obtain ⟨y4, hy4⟩ : ∃ y, xs[4]? = some y := ⟨_, List.getElem?_eq_getElem (by rw [hlen]; decide)⟩
    rw [cellsEntryR, hy4] at h4
    obtain ⟨a0, e0, _, w0⟩ := DataW.trod_int (cs := [v0]) Try.underlying3 h0
    simp only [List.cons.injEq, and_true] at e0
    subst e0
    obtain ⟨a1, e1, _, w1⟩ := DataW.trod_int (cs := [v1]) Try.underlying3 h1
    simp only [List.cons.injEq, and_true] at e1
    subst e1
    obtain ⟨a2, e2, _, w2⟩ := DataW.trod_int (cs := [v2]) Try.underlying3 h2
    simp only [List.cons.injEq, and_true] at e2
    subst e2
    obtain ⟨a3, e3, _, w3⟩ := DataW.trod_int (cs := [v3]) Try.underlying3 h3
    simp only [List.cons.injEq, and_true] at e3
    subst e3
    obtain ⟨a4, L4, e4, r4, n4, s4⟩ := opEntryS (cs := [v4]) h4
    simp only [List.cons.injEq, and_true] at e4
    subst e4
    exact ⟨⟨a0, a1, a2, a3, L4⟩, _, rfl, r4, ⟨n4, fun y hy => (s4 y hy).1⟩, ⟨w0, w1, w2, w3, fun y hy => (s4 y hy).2⟩⟩

end Go.Proofs.Ytefbenojkajnoaa
