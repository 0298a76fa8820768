/- The contracts of what the exact laws hold rows of numbers by. -/
import Derived.Test.YtdhbhifgmbppjaaMtWalk
import Derived.Test.YtdhbhifgmbppjaaHaOpC
import Derived.ProofKit
import Derived.OpenShut
import Derived.Deep.Slices
namespace Go.Proofs.Ytdhbhifgmbppjaa
open Go.RowKit Go.ChangeShapes Go.WideShapes
set_option linter.unusedVariables false

def rI (L : List Int) : List Value := L.map (Value.int .i64)

theorem rI_len (L : List Int) : (rI L).length = L.length := by unfold rI; simp

theorem rI_at {L : List Int} {j : Nat} (h : j < L.length) : (rI L)[j]? = some (.int .i64 L[j]) := by
  unfold rI
  rw [List.getElem?_map, List.getElem?_eq_getElem h]
  rfl

/-- A row of numbers that can be read. -/
def IR (w : World) (v : Value) (L : List Int) : Prop := RowR w v L.length 1 (rI L)

/-- A row of numbers of the call's own. -/
def IO (w : World) (base : Nat) (v : Value) (L : List Int) : Prop := w.ownsRow base 3 1 v L.length (rI L)

theorem IO.row {w : World} {base : Nat} {v : Value} {L : List Int} (h : IO w base v L) : IR w v L := RowR.own h

theorem IR.keep {w w' : World} {v : Value} {L : List Int} {N : Nat} (h : IR w v L) (hb : Below N w w') (hN : w.heap.size ≤ N) : IR w' v L := RowR.keep h hb hN

theorem IR.slice {w : World} {v : Value} {L : List Int} (h : IR w v L) : ∃ p cap, v = .slice p L.length cap := by
  obtain ⟨_, p, cap, hv, _⟩ := h
  exact ⟨p, cap, hv⟩

/-- Where its numbers stand. -/
theorem IR.cells {w : World} {p : Option Addr} {cap : Nat} {L : List Int} (h : IR w (.slice p L.length cap) L) (hn : 0 < L.length) : ∃ b off, p = some ⟨b, off, none⟩ ∧ b < w.heap.size ∧ ∀ j (hj : j < L.length), w.cell? ⟨b, off + j, none⟩ = some (.int .i64 L[j]) := by
  obtain ⟨b, off, cap', hv, hb, hc⟩ := RowR.some h hn (by decide)
  simp only [Value.slice.injEq, true_and] at hv
  refine ⟨b, off, hv.1, hb, fun j hj => ?_⟩
  rw [hc j (by omega)]
  exact rI_at hj

theorem infoInt : (Try.prog.info? 3).map (fun i => (i.zero, i.size, i.bytes)) = some (some (.int .i64 0), 1, 8) := by kernel_rfl

/-- Numbers that are marked from k on. -/
def mI (k : Int) (n : Nat) : List Value := (List.range n).map fun (i : Nat) => Value.int .i64 (k + (i : Int))

theorem mI_len (k : Int) (n : Nat) : (mI k n).length = n := by unfold mI; simp

theorem mI_at (k : Int) (n i : Nat) (hi : i < n) : (mI k n)[i]? = some (.int .i64 (k + (i : Int))) := by
  unfold mI
  rw [List.getElem?_map, List.getElem?_eq_getElem (by simpa using hi), List.getElem_range]
  rfl

/-- A row of numbers that came in can be read. -/
theorem opInts {H : Type} {enc : TypeId × Value → H} {W : World} {base b0 : Nat} {sp : Nat → Bool} {held : Bool} {r : Reach} {v : Value} {d : DataW H} {p : List MemPlace}
    (hv : Value.okWide Try.prog W r b0 27 v) (h : DataW.Trod enc Try.prog W base sp held 27 v d p) : ∃ L : List Int, IR W v L ∧ L.length ≤ maxLen := by
  obtain ⟨a, len, cap, rfl⟩ := okWide_slice Try.underlying27 hv
  obtain ⟨fuel, hf⟩ := h
  rcases open_ints Try.underlying27 Try.underlying3 (by kernel_rfl) hf with ⟨hcs, _⟩ | ⟨x, l, c, zs, hcs, _, hl, hm, hz, _, hcell, hwz⟩
  · simp [Value.cells] at hcs
    obtain ⟨rfl, rfl, rfl⟩ := hcs
    exact ⟨[], ⟨rfl, none, 0, rfl, fun j hj => by simp at hj⟩, Nat.zero_le _⟩
  · simp [Value.cells] at hcs
    obtain ⟨rfl, rfl, rfl⟩ := hcs
    have hzl : len ≤ zs.length := by rw [hz]; split <;> omega
    have hlen : (zs.take len).length = len := by rw [List.length_take]; omega
    refine ⟨zs.take len, ⟨by rw [rI_len, Nat.mul_one], some x, cap, by rw [hlen], fun j hj => ?_⟩, by rw [hlen]; omega⟩
    rw [hlen, Nat.mul_one] at hj
    have c0 := hcell j (by omega)
    obtain ⟨b, off, spot⟩ := x
    have hspot : spot = none := by
      have := hcell 0 (by omega)
      simpa [Addr.add] using World.cell?_spot this
    subst hspot
    have hplain : (⟨b, off, none⟩ : Addr).add j = ⟨b, off + j, none⟩ := by unfold Addr.add; split <;> simp_all
    rw [hplain] at c0
    refine ⟨b, off, rfl, World.block_lt_of_cell? W _ c0, ?_⟩
    have hj' : j < (zs.take len).length := by omega
    rw [c0, rI_at hj', List.getElem_take]
    simp [List.getD, List.getElem?_eq_getElem (show j < zs.length by omega)]

end Go.Proofs.Ytdhbhifgmbppjaa
