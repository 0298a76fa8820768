/- Frames of a world but for some rows. -/
import Derived.Test.YtmknplpcpmkhiaaGreatHaBase
namespace Go.Proofs.YtmknplpcpmkhiaaGreat
open Go.RowKit
set_option linter.unusedVariables false

theorem box_cell (w : World) (cs : Array Value) (t : TypeId) (j : Nat) : (w.alloc (.cells cs t)).cell? ⟨w.heap.size, j, none⟩ = cs[j]? := by
  have : (w.alloc (.cells cs t)).heap[w.heap.size]? = some (.cells cs t (0, 0)) := by
    show (w.heap.push _)[w.heap.size]? = _
    simp
  unfold World.cell?
  simp only [this]
  rfl

/-- What was there is as it was, but for the blocks of the rows vs. -/
structure ButL (vs : List Value) (w w' : World) : Prop where
  os : w'.os = w.os
  tape : w'.tape = w.tape
  output : w'.output = w.output
  size : w.heap.size ≤ w'.heap.size
  block : ∀ k, k < w.heap.size → (∀ v ∈ vs, v.ownBlock ≠ some k) → w'.heap[k]? = w.heap[k]?

theorem ButL.of_bel {vs : List Value} {w w' : World} (h : Below w.heap.size w w') : ButL vs w w' := ⟨h.os, h.tape, h.output, h.size, fun k hk _ => h.block k hk⟩

theorem ButL.of_butV {vs : List Value} {v : Value} {w w' : World} (h : ButV v w w') (hv : v ∈ vs) : ButL vs w w' := by
  rcases h with rfl | ⟨g, hg, h⟩
  · exact .of_bel (Below.refl _ _)
  · exact ⟨h.os, h.tape, h.output, h.size, fun k hk hn => h.block k hk (fun e => by subst e; exact hn v hv hg)⟩

theorem ButL.trans {vs : List Value} {a b c : World} (h : ButL vs a b) (k : ButL vs b c) : ButL vs a c :=
  ⟨k.os.trans h.os, k.tape.trans h.tape, k.output.trans h.output, Nat.le_trans h.size k.size, fun i hi hn => (k.block i (by have := h.size; omega) hn).trans (h.block i hi hn)⟩

theorem ButL.below {vs : List Value} {w w' : World} {B : Nat} (h : ButL vs w w') (hB : ∀ v ∈ vs, ∀ k, v.ownBlock = some k → B ≤ k) (hw : B ≤ w.heap.size) : Below B w w' :=
  ⟨h.os, h.tape, h.output, h.size, fun k hk => h.block k (by omega) (fun v hv e => by have := hB v hv k e; omega)⟩

/-- A row that lies above all of them stays. -/
theorem ButL.own {vs : List Value} {w w' : World} {B : Nat} {e : TypeId} {size n : Nat} {v : Value} {xs : List Value} (h : ButL vs w w') (ho : w.ownsRow B e size v n xs) (hB : ∀ u ∈ vs, ∀ k, u.ownBlock = some k → k < B) : w'.ownsRow B e size v n xs := by
  obtain ⟨h1, h2 | ⟨g, cap, cur, hv, hg, hh, r⟩⟩ := ho
  · exact ⟨h1, Or.inl h2⟩
  · exact ⟨h1, Or.inr ⟨g, cap, cur, hv, hg, by rw [h.block g (lt_of_some hh) (fun u hu e => by have := hB u hu g e; omega)]; exact hh, r⟩⟩

theorem own_low {w : World} {base base' : Nat} {e : TypeId} {size n : Nat} {v : Value} {xs : List Value} (h : w.ownsRow base e size v n xs) (hb : base' ≤ base) : w.ownsRow base' e size v n xs := by
  obtain ⟨h1, h2 | ⟨g, cap, cur, hv, hg, r⟩⟩ := h
  · exact ⟨h1, Or.inl h2⟩
  · exact ⟨h1, Or.inr ⟨g, cap, cur, hv, Nat.le_trans hb hg, r⟩⟩

/-- A row in another block stays. -/
theorem own_set_ne {w : World} {base : Nat} {e : TypeId} {size n k g cap : Nat} {xs : List Value} (h : w.ownsRow base e size (.slice (some ⟨g, 0, none⟩) n cap) k xs) {a : Addr} (u : Value) (hne : g ≠ a.block) : (w.setCell a u).ownsRow base e size (.slice (some ⟨g, 0, none⟩) n cap) k xs := by
  obtain ⟨h1, ⟨h2, _⟩ | ⟨g', cap', cur, hv, hg, hh, r⟩⟩ := h
  · simp at h2
  · have hv' := hv
    simp only [Value.slice.injEq, Option.some.injEq, Addr.mk.injEq, and_true] at hv'
    obtain ⟨rfl, _⟩ := hv'
    exact ⟨h1, Or.inr ⟨g, cap', cur, hv, hg, by rw [Below.heap_setCell w a u g hne]; exact hh, r⟩⟩

/-- A row above the cell stays. -/
theorem own_set_lt {w : World} {base : Nat} {e : TypeId} {size n : Nat} {v : Value} {xs : List Value} (h : w.ownsRow base e size v n xs) {a : Addr} (u : Value) (ha : a.block < base) : (w.setCell a u).ownsRow base e size v n xs := ownsRow_setCell_below h ha u

end Go.Proofs.YtmknplpcpmkhiaaGreat
