/- What a Disk that came in gives a walk. -/
import Derived.Test.YtmknplpcpmkhiaaGreatHaDisk
import Derived.ProofKit
import Derived.OpenShut
import Derived.Deep.Slices
namespace Go.Proofs.YtmknplpcpmkhiaaGreat
open Go.RowKit Go.ChangeShapes Go.WideShapes
set_option linter.unusedVariables false

theorem cells_int : Tryz.prog.cellsOf 3 = 1 := by kernel_rfl

theorem cells_string : Tryz.prog.cellsOf 9 = 1 := by kernel_rfl

/-- Its numbers are in range. -/
def gInode (x : S_Inode) : Prop := (Lit.int .i64 x.f0).wf = true ∧ (Lit.int .i64 x.f2).wf = true

theorem cellsInode : Tryz.prog.cellsOf 148 = 3 := by kernel_rfl

set_option maxRecDepth 20000 in
theorem opInode {H : Type} {enc : TypeId × Value → H} {W : World} {base : Nat} {sp : Nat → Bool} {held : Bool} {fuel : Nat} {cs : List Value} {x : DataW H × List MemPlace}
    (h : DataW.trod enc Tryz.prog W base sp held fuel 148 cs = some x) : ∃ y : S_Inode, cs = cInode y ∧ sInode y ∧ gInode y := by
  obtain ⟨xs, m, _, _, hl, hlen, hf⟩ := DataW.trod_struct Tryz.underlying148 h
  rw [cellsInode] at hl
  match cs, hl with
  | [v0, v1, v2], _ =>
    have h0 : DataW.trod enc Tryz.prog W base sp held m 3 (([v0, v1, v2].drop 0).take (Tryz.prog.cellsOf 3)) = xs[0]? := hf 0 _ rfl
    obtain ⟨y0, hy0⟩ : ∃ y, xs[0]? = some y := ⟨_, List.getElem?_eq_getElem (by rw [hlen]; decide)⟩
    rw [cells_int, hy0] at h0
    have h1 : DataW.trod enc Tryz.prog W base sp held m 9 (([v0, v1, v2].drop 1).take (Tryz.prog.cellsOf 9)) = xs[1]? := hf 1 _ rfl
    obtain ⟨y1, hy1⟩ : ∃ y, xs[1]? = some y := ⟨_, List.getElem?_eq_getElem (by rw [hlen]; decide)⟩
    rw [cells_string, hy1] at h1
    have h2 : DataW.trod enc Tryz.prog W base sp held m 3 (([v0, v1, v2].drop 2).take (Tryz.prog.cellsOf 3)) = xs[2]? := hf 2 _ rfl
    obtain ⟨y2, hy2⟩ : ∃ y, xs[2]? = some y := ⟨_, List.getElem?_eq_getElem (by rw [hlen]; decide)⟩
    rw [cells_int, hy2] at h2
    obtain ⟨a0, e0, _, w0⟩ := DataW.trod_int (cs := [v0]) Tryz.underlying3 h0
    simp only [List.cons.injEq, and_true] at e0
    subst e0
    obtain ⟨a1, e1, _, w1⟩ := DataW.trod_string (cs := [v1]) Tryz.underlying9 h1
    simp only [List.cons.injEq, and_true] at e1
    subst e1
    obtain ⟨a2, e2, _, w2⟩ := DataW.trod_int (cs := [v2]) Tryz.underlying3 h2
    simp only [List.cons.injEq, and_true] at e2
    subst e2
    exact ⟨⟨a0, a1, a2⟩, rfl, w1, ⟨w0, w2⟩⟩

set_option maxRecDepth 20000 in
theorem opInodeS {H : Type} {enc : TypeId × Value → H} {W : World} {base : Nat} {sp : Nat → Bool} {held : Bool} {fuel : Nat} {cs : List Value} {x : DataW H × List MemPlace}
    (h : DataW.trod enc Tryz.prog W base sp held fuel 54 cs = some x) : ∃ v L, cs = [v] ∧ RowR W v (List.length L) 3 (rInode L) ∧ List.length L ≤ maxLen ∧ ∀ y ∈ L, sInode y ∧ gInode y := by
  rcases Deep.open_slice Tryz.underlying54 h with ⟨rfl, _⟩ | ⟨a, len, cap, m, k, D, Pl, rfl, _, hl, hm, hmm, _, hx⟩
  · exact ⟨_, [], rfl, ⟨rfl, none, 0, rfl, fun j hj => by simp at hj⟩, Nat.zero_le _, fun y hy => by simp at hy⟩
  · have hlm : len ≤ m := by rw [hmm]; split <;> omega
    haveI : Inhabited S_Inode := ⟨⟨0, ⟨#[]⟩, 0⟩⟩
    have each : ∀ i, i < len → ∃ y : S_Inode, (sInode y ∧ gInode y) ∧ ∀ q, q < 3 → W.cell? (a.add (i * 3 + q)) = (cInode y)[q]? := fun i hi => by
      obtain ⟨cs', h1, h2⟩ := hx i (by omega)
      rw [cellsInode] at h1
      obtain ⟨_, hlen, hcell⟩ := World.cells?_some h1
      obtain ⟨y, rfl, hs, hg⟩ := opInode h2
      refine ⟨y, ⟨hs, hg⟩, fun q hq => ?_⟩
      have := hcell q hq
      rwa [Deep.add_add] at this
    obtain ⟨f, hfy⟩ := Deep.choose_lt each
    refine ⟨_, (List.range len).map f, rfl, ?_, by simp; omega, fun y hy => ?_⟩
    · rw [List.length_map, List.length_range]
      refine ⟨by rw [rInode_len, List.length_map, List.length_range], some a, cap, rfl, fun j hj => ?_⟩
      have hjn : j / 3 < len := Nat.div_lt_of_lt_mul (by rw [Nat.mul_comm]; exact hj)
      have hq : j % 3 < 3 := Nat.mod_lt _ (by decide)
      have hje : j / 3 * 3 + j % 3 = j := by rw [Nat.mul_comm]; exact Nat.div_add_mod j 3
      have hc := (hfy (j / 3) hjn).2 (j % 3) hq
      have hr : (rInode ((List.range len).map f))[j]? = (cInode (f (j / 3)))[j % 3]? := by
        have := flat_at cInode 3 cInode_len ((List.range len).map f) (j / 3) (j % 3) (by simpa using hjn) hq
        rw [hje] at this
        unfold rInode
        simpa using this
      rw [hje] at hc
      obtain ⟨b, off, spot⟩ := a
      obtain ⟨u, hu⟩ : ∃ u, (cInode (f (j / 3)))[j % 3]? = some u := ⟨_, List.getElem?_eq_getElem (by rw [cInode_len]; exact hq)⟩
      have hc0 := (hfy 0 (by omega)).2 0 (by decide)
      obtain ⟨u0, hu0⟩ : ∃ u, (cInode (f 0))[0]? = some u := ⟨_, List.getElem?_eq_getElem (by rw [cInode_len]; decide)⟩
      have hspot : spot = none := by
        rw [hu0] at hc0
        simpa [Addr.add] using World.cell?_spot hc0
      subst hspot
      have hplain : (⟨b, off, none⟩ : Addr).add j = ⟨b, off + j, none⟩ := by unfold Addr.add; split <;> simp_all
      rw [hplain] at hc
      exact ⟨b, off, rfl, World.block_lt_of_cell? W _ (hc.trans hu), by rw [hc, hr]⟩
    · obtain ⟨i, hi, rfl⟩ := List.mem_map.1 hy
      exact (hfy i (by simpa using hi)).1

/-- Its numbers are in range. -/
def gLink (x : S_Link) : Prop := (Lit.int .i64 x.f1).wf = true

theorem cellsLink : Tryz.prog.cellsOf 150 = 2 := by kernel_rfl

set_option maxRecDepth 20000 in
theorem opLink {H : Type} {enc : TypeId × Value → H} {W : World} {base : Nat} {sp : Nat → Bool} {held : Bool} {fuel : Nat} {cs : List Value} {x : DataW H × List MemPlace}
    (h : DataW.trod enc Tryz.prog W base sp held fuel 150 cs = some x) : ∃ y : S_Link, cs = cLink y ∧ sLink y ∧ gLink y := by
  obtain ⟨xs, m, _, _, hl, hlen, hf⟩ := DataW.trod_struct Tryz.underlying150 h
  rw [cellsLink] at hl
  match cs, hl with
  | [v0, v1], _ =>
    have h0 : DataW.trod enc Tryz.prog W base sp held m 9 (([v0, v1].drop 0).take (Tryz.prog.cellsOf 9)) = xs[0]? := hf 0 _ rfl
    obtain ⟨y0, hy0⟩ : ∃ y, xs[0]? = some y := ⟨_, List.getElem?_eq_getElem (by rw [hlen]; decide)⟩
    rw [cells_string, hy0] at h0
    have h1 : DataW.trod enc Tryz.prog W base sp held m 3 (([v0, v1].drop 1).take (Tryz.prog.cellsOf 3)) = xs[1]? := hf 1 _ rfl
    obtain ⟨y1, hy1⟩ : ∃ y, xs[1]? = some y := ⟨_, List.getElem?_eq_getElem (by rw [hlen]; decide)⟩
    rw [cells_int, hy1] at h1
    obtain ⟨a0, e0, _, w0⟩ := DataW.trod_string (cs := [v0]) Tryz.underlying9 h0
    simp only [List.cons.injEq, and_true] at e0
    subst e0
    obtain ⟨a1, e1, _, w1⟩ := DataW.trod_int (cs := [v1]) Tryz.underlying3 h1
    simp only [List.cons.injEq, and_true] at e1
    subst e1
    exact ⟨⟨a0, a1⟩, rfl, w0, w1⟩

set_option maxRecDepth 20000 in
theorem opLinkS {H : Type} {enc : TypeId × Value → H} {W : World} {base : Nat} {sp : Nat → Bool} {held : Bool} {fuel : Nat} {cs : List Value} {x : DataW H × List MemPlace}
    (h : DataW.trod enc Tryz.prog W base sp held fuel 55 cs = some x) : ∃ v L, cs = [v] ∧ RowR W v (List.length L) 2 (rLink L) ∧ List.length L ≤ maxLen ∧ ∀ y ∈ L, sLink y ∧ gLink y := by
  rcases Deep.open_slice Tryz.underlying55 h with ⟨rfl, _⟩ | ⟨a, len, cap, m, k, D, Pl, rfl, _, hl, hm, hmm, _, hx⟩
  · exact ⟨_, [], rfl, ⟨rfl, none, 0, rfl, fun j hj => by simp at hj⟩, Nat.zero_le _, fun y hy => by simp at hy⟩
  · have hlm : len ≤ m := by rw [hmm]; split <;> omega
    haveI : Inhabited S_Link := ⟨⟨⟨#[]⟩, 0⟩⟩
    have each : ∀ i, i < len → ∃ y : S_Link, (sLink y ∧ gLink y) ∧ ∀ q, q < 2 → W.cell? (a.add (i * 2 + q)) = (cLink y)[q]? := fun i hi => by
      obtain ⟨cs', h1, h2⟩ := hx i (by omega)
      rw [cellsLink] at h1
      obtain ⟨_, hlen, hcell⟩ := World.cells?_some h1
      obtain ⟨y, rfl, hs, hg⟩ := opLink h2
      refine ⟨y, ⟨hs, hg⟩, fun q hq => ?_⟩
      have := hcell q hq
      rwa [Deep.add_add] at this
    obtain ⟨f, hfy⟩ := Deep.choose_lt each
    refine ⟨_, (List.range len).map f, rfl, ?_, by simp; omega, fun y hy => ?_⟩
    · rw [List.length_map, List.length_range]
      refine ⟨by rw [rLink_len, List.length_map, List.length_range], some a, cap, rfl, fun j hj => ?_⟩
      have hjn : j / 2 < len := Nat.div_lt_of_lt_mul (by rw [Nat.mul_comm]; exact hj)
      have hq : j % 2 < 2 := Nat.mod_lt _ (by decide)
      have hje : j / 2 * 2 + j % 2 = j := by rw [Nat.mul_comm]; exact Nat.div_add_mod j 2
      have hc := (hfy (j / 2) hjn).2 (j % 2) hq
      have hr : (rLink ((List.range len).map f))[j]? = (cLink (f (j / 2)))[j % 2]? := by
        have := flat_at cLink 2 cLink_len ((List.range len).map f) (j / 2) (j % 2) (by simpa using hjn) hq
        rw [hje] at this
        unfold rLink
        simpa using this
      rw [hje] at hc
      obtain ⟨b, off, spot⟩ := a
      obtain ⟨u, hu⟩ : ∃ u, (cLink (f (j / 2)))[j % 2]? = some u := ⟨_, List.getElem?_eq_getElem (by rw [cLink_len]; exact hq)⟩
      have hc0 := (hfy 0 (by omega)).2 0 (by decide)
      obtain ⟨u0, hu0⟩ : ∃ u, (cLink (f 0))[0]? = some u := ⟨_, List.getElem?_eq_getElem (by rw [cLink_len]; decide)⟩
      have hspot : spot = none := by
        rw [hu0] at hc0
        simpa [Addr.add] using World.cell?_spot hc0
      subst hspot
      have hplain : (⟨b, off, none⟩ : Addr).add j = ⟨b, off + j, none⟩ := by unfold Addr.add; split <;> simp_all
      rw [hplain] at hc
      exact ⟨b, off, rfl, World.block_lt_of_cell? W _ (hc.trans hu), by rw [hc, hr]⟩
    · obtain ⟨i, hi, rfl⟩ := List.mem_map.1 hy
      exact (hfy i (by simpa using hi)).1

/-- Its numbers are in range. -/
def gMove (x : S_Move) : Prop := (Lit.int .i64 x.f0).wf = true ∧ (Lit.int .i64 x.f3).wf = true

theorem cellsMove : Tryz.prog.cellsOf 152 = 4 := by kernel_rfl

set_option maxRecDepth 20000 in
theorem opMove {H : Type} {enc : TypeId × Value → H} {W : World} {base : Nat} {sp : Nat → Bool} {held : Bool} {fuel : Nat} {cs : List Value} {x : DataW H × List MemPlace}
    (h : DataW.trod enc Tryz.prog W base sp held fuel 152 cs = some x) : ∃ y : S_Move, cs = cMove y ∧ sMove y ∧ gMove y := by
  obtain ⟨xs, m, _, _, hl, hlen, hf⟩ := DataW.trod_struct Tryz.underlying152 h
  rw [cellsMove] at hl
  match cs, hl with
  | [v0, v1, v2, v3], _ =>
    have h0 : DataW.trod enc Tryz.prog W base sp held m 3 (([v0, v1, v2, v3].drop 0).take (Tryz.prog.cellsOf 3)) = xs[0]? := hf 0 _ rfl
    obtain ⟨y0, hy0⟩ : ∃ y, xs[0]? = some y := ⟨_, List.getElem?_eq_getElem (by rw [hlen]; decide)⟩
    rw [cells_int, hy0] at h0
    have h1 : DataW.trod enc Tryz.prog W base sp held m 9 (([v0, v1, v2, v3].drop 1).take (Tryz.prog.cellsOf 9)) = xs[1]? := hf 1 _ rfl
    obtain ⟨y1, hy1⟩ : ∃ y, xs[1]? = some y := ⟨_, List.getElem?_eq_getElem (by rw [hlen]; decide)⟩
    rw [cells_string, hy1] at h1
    have h2 : DataW.trod enc Tryz.prog W base sp held m 9 (([v0, v1, v2, v3].drop 2).take (Tryz.prog.cellsOf 9)) = xs[2]? := hf 2 _ rfl
    obtain ⟨y2, hy2⟩ : ∃ y, xs[2]? = some y := ⟨_, List.getElem?_eq_getElem (by rw [hlen]; decide)⟩
    rw [cells_string, hy2] at h2
    have h3 : DataW.trod enc Tryz.prog W base sp held m 3 (([v0, v1, v2, v3].drop 3).take (Tryz.prog.cellsOf 3)) = xs[3]? := hf 3 _ rfl
    obtain ⟨y3, hy3⟩ : ∃ y, xs[3]? = some y := ⟨_, List.getElem?_eq_getElem (by rw [hlen]; decide)⟩
    rw [cells_int, hy3] at h3
    obtain ⟨a0, e0, _, w0⟩ := DataW.trod_int (cs := [v0]) Tryz.underlying3 h0
    simp only [List.cons.injEq, and_true] at e0
    subst e0
    obtain ⟨a1, e1, _, w1⟩ := DataW.trod_string (cs := [v1]) Tryz.underlying9 h1
    simp only [List.cons.injEq, and_true] at e1
    subst e1
    obtain ⟨a2, e2, _, w2⟩ := DataW.trod_string (cs := [v2]) Tryz.underlying9 h2
    simp only [List.cons.injEq, and_true] at e2
    subst e2
    obtain ⟨a3, e3, _, w3⟩ := DataW.trod_int (cs := [v3]) Tryz.underlying3 h3
    simp only [List.cons.injEq, and_true] at e3
    subst e3
    exact ⟨⟨a0, a1, a2, a3⟩, rfl, ⟨w1, w2⟩, ⟨w0, w3⟩⟩

set_option maxRecDepth 20000 in
theorem opMoveS {H : Type} {enc : TypeId × Value → H} {W : World} {base : Nat} {sp : Nat → Bool} {held : Bool} {fuel : Nat} {cs : List Value} {x : DataW H × List MemPlace}
    (h : DataW.trod enc Tryz.prog W base sp held fuel 56 cs = some x) : ∃ v L, cs = [v] ∧ RowR W v (List.length L) 4 (rMove L) ∧ List.length L ≤ maxLen ∧ ∀ y ∈ L, sMove y ∧ gMove y := by
  rcases Deep.open_slice Tryz.underlying56 h with ⟨rfl, _⟩ | ⟨a, len, cap, m, k, D, Pl, rfl, _, hl, hm, hmm, _, hx⟩
  · exact ⟨_, [], rfl, ⟨rfl, none, 0, rfl, fun j hj => by simp at hj⟩, Nat.zero_le _, fun y hy => by simp at hy⟩
  · have hlm : len ≤ m := by rw [hmm]; split <;> omega
    haveI : Inhabited S_Move := ⟨⟨0, ⟨#[]⟩, ⟨#[]⟩, 0⟩⟩
    have each : ∀ i, i < len → ∃ y : S_Move, (sMove y ∧ gMove y) ∧ ∀ q, q < 4 → W.cell? (a.add (i * 4 + q)) = (cMove y)[q]? := fun i hi => by
      obtain ⟨cs', h1, h2⟩ := hx i (by omega)
      rw [cellsMove] at h1
      obtain ⟨_, hlen, hcell⟩ := World.cells?_some h1
      obtain ⟨y, rfl, hs, hg⟩ := opMove h2
      refine ⟨y, ⟨hs, hg⟩, fun q hq => ?_⟩
      have := hcell q hq
      rwa [Deep.add_add] at this
    obtain ⟨f, hfy⟩ := Deep.choose_lt each
    refine ⟨_, (List.range len).map f, rfl, ?_, by simp; omega, fun y hy => ?_⟩
    · rw [List.length_map, List.length_range]
      refine ⟨by rw [rMove_len, List.length_map, List.length_range], some a, cap, rfl, fun j hj => ?_⟩
      have hjn : j / 4 < len := Nat.div_lt_of_lt_mul (by rw [Nat.mul_comm]; exact hj)
      have hq : j % 4 < 4 := Nat.mod_lt _ (by decide)
      have hje : j / 4 * 4 + j % 4 = j := by rw [Nat.mul_comm]; exact Nat.div_add_mod j 4
      have hc := (hfy (j / 4) hjn).2 (j % 4) hq
      have hr : (rMove ((List.range len).map f))[j]? = (cMove (f (j / 4)))[j % 4]? := by
        have := flat_at cMove 4 cMove_len ((List.range len).map f) (j / 4) (j % 4) (by simpa using hjn) hq
        rw [hje] at this
        unfold rMove
        simpa using this
      rw [hje] at hc
      obtain ⟨b, off, spot⟩ := a
      obtain ⟨u, hu⟩ : ∃ u, (cMove (f (j / 4)))[j % 4]? = some u := ⟨_, List.getElem?_eq_getElem (by rw [cMove_len]; exact hq)⟩
      have hc0 := (hfy 0 (by omega)).2 0 (by decide)
      obtain ⟨u0, hu0⟩ : ∃ u, (cMove (f 0))[0]? = some u := ⟨_, List.getElem?_eq_getElem (by rw [cMove_len]; decide)⟩
      have hspot : spot = none := by
        rw [hu0] at hc0
        simpa [Addr.add] using World.cell?_spot hc0
      subst hspot
      have hplain : (⟨b, off, none⟩ : Addr).add j = ⟨b, off + j, none⟩ := by unfold Addr.add; split <;> simp_all
      rw [hplain] at hc
      exact ⟨b, off, rfl, World.block_lt_of_cell? W _ (hc.trans hu), by rw [hc, hr]⟩
    · obtain ⟨i, hi, rfl⟩ := List.mem_map.1 hy
      exact (hfy i (by simpa using hi)).1

/-- Its numbers are in range. -/
def gDisk (x : S_Disk) : Prop := (Lit.int .i64 x.f0).wf = true ∧ (Lit.int .i64 x.f1).wf = true ∧ (∀ y ∈ x.f2, gInode y) ∧ (∀ y ∈ x.f3, gLink y) ∧ (∀ y ∈ x.f4, gMove y)

theorem cellsDisk : Tryz.prog.cellsOf 58 = 5 := by kernel_rfl

theorem cellsInodeR : Tryz.prog.cellsOf 54 = 1 := by kernel_rfl

theorem cellsLinkR : Tryz.prog.cellsOf 55 = 1 := by kernel_rfl

theorem cellsMoveR : Tryz.prog.cellsOf 56 = 1 := by kernel_rfl

set_option maxRecDepth 20000 in
theorem opDisk {H : Type} {enc : TypeId × Value → H} {W : World} {base b0 : Nat} {sp : Nat → Bool} {held : Bool} {r : Reach} {v : Value} {d : DataW H} {p : List MemPlace}
    (hv : Value.okWide Tryz.prog W r b0 58 v) (h : DataW.Trod enc Tryz.prog W base sp held 58 v d p) :
    ∃ (x : S_Disk) (v2 v3 v4 : Value), v = .agg #[.int .i64 x.f0, .int .i64 x.f1, v2, v3, v4] ∧ RdDisk W x v2 v3 v4 ∧ SmDisk x ∧ gDisk x := by
  obtain ⟨cs, rfl, hsz⟩ := okWide_struct Tryz.underlying58 hv
  rw [cellsDisk] at hsz
  obtain ⟨fuel, hf0⟩ := h
  obtain ⟨xs, m, _, _, hl, hlen, hf⟩ := DataW.trod_struct Tryz.underlying58 hf0
  obtain ⟨l⟩ := cs
  match l, hsz with
  | [v0, v1, v2, v3, v4], _ =>
    have h0 : DataW.trod enc Tryz.prog W base sp held m 3 (([v0, v1, v2, v3, v4].drop 0).take (Tryz.prog.cellsOf 3)) = xs[0]? := hf 0 _ rfl
    obtain ⟨y0, hy0⟩ : ∃ y, xs[0]? = some y := ⟨_, List.getElem?_eq_getElem (by rw [hlen]; decide)⟩
    rw [cells_int, hy0] at h0
    have h1 : DataW.trod enc Tryz.prog W base sp held m 3 (([v0, v1, v2, v3, v4].drop 1).take (Tryz.prog.cellsOf 3)) = xs[1]? := hf 1 _ rfl
    obtain ⟨y1, hy1⟩ : ∃ y, xs[1]? = some y := ⟨_, List.getElem?_eq_getElem (by rw [hlen]; decide)⟩
    rw [cells_int, hy1] at h1
    have h2 : DataW.trod enc Tryz.prog W base sp held m 54 (([v0, v1, v2, v3, v4].drop 2).take (Tryz.prog.cellsOf 54)) = xs[2]? := hf 2 _ rfl
    obtain ⟨y2, hy2⟩ : ∃ y, xs[2]? = some y := ⟨_, List.getElem?_eq_getElem (by rw [hlen]; decide)⟩
    rw [cellsInodeR, hy2] at h2
    have h3 : DataW.trod enc Tryz.prog W base sp held m 55 (([v0, v1, v2, v3, v4].drop 3).take (Tryz.prog.cellsOf 55)) = xs[3]? := hf 3 _ rfl
    obtain ⟨y3, hy3⟩ : ∃ y, xs[3]? = some y := ⟨_, List.getElem?_eq_getElem (by rw [hlen]; decide)⟩
    rw [cellsLinkR, hy3] at h3
    have h4 : DataW.trod enc Tryz.prog W base sp held m 56 (([v0, v1, v2, v3, v4].drop 4).take (Tryz.prog.cellsOf 56)) = xs[4]? := hf 4 _ rfl
    obtain ⟨y4, hy4⟩ : ∃ y, xs[4]? = some y := ⟨_, List.getElem?_eq_getElem (by rw [hlen]; decide)⟩
    rw [cellsMoveR, hy4] at h4
    obtain ⟨a0, e0, _, w0⟩ := DataW.trod_int (cs := [v0]) Tryz.underlying3 h0
    simp only [List.cons.injEq, and_true] at e0
    subst e0
    obtain ⟨a1, e1, _, w1⟩ := DataW.trod_int (cs := [v1]) Tryz.underlying3 h1
    simp only [List.cons.injEq, and_true] at e1
    subst e1
    obtain ⟨a2, L2, e2, r2, n2, s2⟩ := opInodeS (cs := [v2]) h2
    simp only [List.cons.injEq, and_true] at e2
    subst e2
    obtain ⟨a3, L3, e3, r3, n3, s3⟩ := opLinkS (cs := [v3]) h3
    simp only [List.cons.injEq, and_true] at e3
    subst e3
    obtain ⟨a4, L4, e4, r4, n4, s4⟩ := opMoveS (cs := [v4]) h4
    simp only [List.cons.injEq, and_true] at e4
    subst e4
    exact ⟨⟨a0, a1, L2, L3, L4⟩, _, _, _, rfl, ⟨r2, r3, r4⟩, ⟨n2, fun y hy => (s2 y hy).1, n3, fun y hy => (s3 y hy).1, n4, fun y hy => (s4 y hy).1⟩, ⟨w0, w1, fun y hy => (s2 y hy).2, fun y hy => (s3 y hy).2, fun y hy => (s4 y hy).2⟩⟩

end Go.Proofs.YtmknplpcpmkhiaaGreat
