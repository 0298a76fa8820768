/- Rows of structs that can be read: what the exact laws' own functions are walked over. -/
import Derived.Test.YtmknplpcpmkhiaaGreatOwnLaws
import Derived.WalkKit
import Derived.WalkSpells
import Derived.WalkLawsBesides
import Derived.Below
import Derived.BigQuiet
import Derived.Deep.MidRow
namespace Go.Proofs.YtmknplpcpmkhiaaGreat
open Go.RowKit
set_option linter.unusedVariables false

theorem bel_drewN {B : Nat} {a w : World} (h : Below B a w) (n : Nat) : Below B a (w.drewN n) := ⟨h.os, h.tape, h.output, h.size, h.block⟩

theorem bel_of_eq {B : Nat} {w w' : World} (h : w' = w) : Below B w w' := by subst h; exact Below.refl _ _

theorem lt_of_some {w : World} {k : Nat} {x : Obj} (h : w.heap[k]? = some x) : k < w.heap.size := by
  rcases Nat.lt_or_ge k w.heap.size with h' | h'
  · exact h'
  · simp [Array.getElem?_eq_none h'] at h

theorem own_bel {w w' : World} {base N : Nat} {e : TypeId} {size : Nat} {v : Value} {n : Nat} {xs : List Value} (h : w.ownsRow base e size v n xs) (hb : Below N w w') (hN : w.heap.size ≤ N) : w'.ownsRow base e size v n xs := by
  obtain ⟨h1, h2⟩ := h
  refine ⟨h1, ?_⟩
  rcases h2 with h2 | ⟨g, cap, cur, hv, hg, hh, r⟩
  · exact Or.inl h2
  · exact Or.inr ⟨g, cap, cur, hv, hg, by rw [hb.block g (Nat.lt_of_lt_of_le (lt_of_some hh) hN)]; exact hh, r⟩

/-- A row of n elements of 'size' cells each, that can be read. -/
def RowR (w : World) (v : Value) (n size : Nat) (xs : List Value) : Prop :=
  xs.length = n * size ∧ ∃ p cap, v = .slice p n cap ∧ ∀ j, j < n * size → ∃ b off, p = some ⟨b, off, none⟩ ∧ b < w.heap.size ∧ w.cell? ⟨b, off + j, none⟩ = xs[j]?

theorem RowR.keep {w w' : World} {v : Value} {n size N : Nat} {xs : List Value} (h : RowR w v n size xs) (hb : Below N w w') (hN : w.heap.size ≤ N) : RowR w' v n size xs := by
  obtain ⟨h1, p, cap, hv, hc⟩ := h
  refine ⟨h1, p, cap, hv, fun j hj => ?_⟩
  obtain ⟨b, off, e, hlt, hcell⟩ := hc j hj
  have := hb.size
  exact ⟨b, off, e, by omega, by rw [hb.cell (by show b < N; omega)]; exact hcell⟩

theorem RowR.none {w : World} {v : Value} {size : Nat} {xs : List Value} (h : RowR w v 0 size xs) : ∃ p cap, v = .slice p 0 cap := by
  obtain ⟨_, p, cap, hv, _⟩ := h
  exact ⟨p, cap, hv⟩

theorem RowR.some {w : World} {v : Value} {n size : Nat} {xs : List Value} (h : RowR w v n size xs) (hn : 0 < n) (hs : 0 < size) :
    ∃ b off cap, v = .slice (some ⟨b, off, .none⟩) n cap ∧ b < w.heap.size ∧ ∀ j, j < n * size → w.cell? ⟨b, off + j, .none⟩ = xs[j]? := by
  obtain ⟨_, p, cap, hv, hc⟩ := h
  obtain ⟨b, off, rfl, hlt, _⟩ := hc 0 (Nat.mul_pos hn hs)
  refine ⟨b, off, cap, hv, hlt, fun j hj => ?_⟩
  obtain ⟨b', off', e, _, hcell⟩ := hc j hj
  obtain ⟨rfl, rfl⟩ : b = b' ∧ off = off' := by simpa using e
  exact hcell

theorem RowR.own {w : World} {base : Nat} {e : TypeId} {size : Nat} {v : Value} {n : Nat} {xs : List Value} (h : w.ownsRow base e size v n xs) : RowR w v n size xs := by
  have h' := h
  obtain ⟨h1, ⟨rfl, rfl⟩ | ⟨g, cap, cur, rfl, hg, hh, _⟩⟩ := h'
  · exact ⟨h1, .none, 0, rfl, fun j hj => by omega⟩
  · exact ⟨h1, _, cap, rfl, fun j hj => ⟨g, 0, rfl, lt_of_some hh, by rw [Nat.zero_add]; exact h.cellAt j hj⟩⟩

theorem flat_length {α : Type} (f : α → List Value) (s : Nat) (hf : ∀ x, (f x).length = s) : ∀ L : List α, (L.flatMap f).length = L.length * s
  | [] => by simp
  | x :: L => by
    have := flat_length f s hf L
    simp only [List.flatMap_cons, List.length_append, List.length_cons, hf, this]
    rw [Nat.succ_mul, Nat.add_comm]

theorem flat_at {α : Type} (f : α → List Value) (s : Nat) (hf : ∀ x, (f x).length = s) : ∀ (L : List α) (i k : Nat) (hi : i < L.length), k < s → (L.flatMap f)[i * s + k]? = (f L[i])[k]?
  | x :: L, 0, k, _, hk => by
    simp only [List.flatMap_cons, Nat.zero_mul, Nat.zero_add, List.getElem_cons_zero]
    rw [List.getElem?_append_left (by rw [hf]; exact hk)]
  | x :: L, i + 1, k, hi, hk => by
    have ih := flat_at f s hf L i k (by simpa using hi) hk
    simp only [List.flatMap_cons, List.getElem_cons_succ]
    rw [List.getElem?_append_right (by rw [hf, Nat.succ_mul]; omega), hf, ← ih]
    congr 1
    rw [Nat.succ_mul]; omega

/-- A list, from place o on laid anew. -/
def setN : List Value → Nat → List Value → List Value
  | xs, _, [] => xs
  | xs, o, c :: cs => setN (xs.set o c) (o + 1) cs

theorem setN_length : ∀ (cs : List Value) (xs : List Value) (o : Nat), (setN xs o cs).length = xs.length
  | [], _, _ => rfl
  | c :: cs, xs, o => by rw [setN, setN_length cs]; simp

theorem take_setN : ∀ (cs : List Value) (xs : List Value) (o : Nat), o + cs.length ≤ xs.length → (setN xs o cs).take (o + cs.length) = xs.take o ++ cs
  | [], xs, o, _ => by simp [setN]
  | c :: cs, xs, o, h => by
    simp only [List.length_cons] at h
    have ih := take_setN cs (xs.set o c) (o + 1) (by simp; omega)
    rw [setN, List.length_cons, show o + (cs.length + 1) = o + 1 + cs.length by omega, ih]
    rw [List.take_add_one, List.take_set_of_le (by omega)]
    simp [show o < xs.length by omega]

theorem own_setCells {base : Nat} {e : TypeId} {size g n cap : Nat} : ∀ (cs : List Value) (o : Nat) (xs : List Value) (w : World), w.ownsRow base e size (.slice (some ⟨g, 0, none⟩) n cap) n xs → (w.setCells g o cs).ownsRow base e size (.slice (some ⟨g, 0, none⟩) n cap) n (setN xs o cs)
  | [], _, _, _, h => h
  | c :: cs, o, xs, w, h => own_setCells cs (o + 1) (xs.set o c) (w.setCell ⟨g, o, none⟩ c) (h.stored o c).1

theorem bel_setCells {B g : Nat} {a : World} (hB : B ≤ g) : ∀ (cs : List Value) (o : Nat) (w : World), Below B a w → Below B a (w.setCells g o cs)
  | [], _, _, h => h
  | c :: cs, o, w, h => bel_setCells hB cs (o + 1) _ (h.setCell (by exact hB) c)

theorem own_there {w : World} {base : Nat} {e : TypeId} {size g n cap : Nat} {xs : List Value} (h : w.ownsRow base e size (.slice (some ⟨g, 0, none⟩) n cap) n xs) (o m : Nat) (hm : o + m ≤ n * size) : w.there g o m := by
  intro j hj
  refine ⟨?_, h.frozenAt (o + j)⟩
  have hl := h.1
  rw [h.cellAt (o + j) (by omega), List.getElem?_eq_getElem (by omega)]
  rfl

theorem own_cell {w : World} {base : Nat} {e : TypeId} {size g n cap : Nat} {xs : List Value} (h : w.ownsRow base e size (.slice (some ⟨g, 0, none⟩) n cap) n xs) (j : Nat) (hj : j < n * size) : ∃ u, w.cell? ⟨g, j, none⟩ = some u := by
  have hl := h.1
  exact ⟨_, by rw [h.cellAt j hj, List.getElem?_eq_getElem (by omega)]⟩

theorem all_of_take {xs ys : List Value} {m : Nat} (hx : xs.length = m) (h : xs.take m = ys) : xs = ys := by
  rw [← h, List.take_of_length_le (by omega)]

theorem flat_take {α : Type} (f : α → List Value) (L : List α) (k : Nat) (h : k < L.length) : (L.take (k + 1)).flatMap f = (L.take k).flatMap f ++ f L[k] := by
  have e : L.take (k + 1) = L.take k ++ [L[k]] := by rw [List.take_add_one, List.getElem?_eq_getElem h]; rfl
  rw [e, List.flatMap_append, List.flatMap_singleton]

/-- What was there is as it was, but for block g. -/
structure But (g : Nat) (w w' : World) : Prop where
  os : w'.os = w.os
  tape : w'.tape = w.tape
  output : w'.output = w.output
  size : w.heap.size ≤ w'.heap.size
  block : ∀ k, k < w.heap.size → k ≠ g → w'.heap[k]? = w.heap[k]?

theorem But.refl (g : Nat) (w : World) : But g w w := ⟨rfl, rfl, rfl, Nat.le_refl _, fun _ _ _ => rfl⟩

theorem But.setCell {g : Nat} {a w : World} (h : But g a w) {o : Nat} (u : Value) : But g a (w.setCell ⟨g, o, none⟩ u) :=
  ⟨h.os, h.tape, h.output, by have := h.size; simpa using this, fun k hk hne => by rw [Below.heap_setCell w ⟨g, o, none⟩ u k (by exact hne)]; exact h.block k hk hne⟩

theorem But.bel {g : Nat} {a b c : World} (h : But g a b) (k : Below b.heap.size b c) : But g a c :=
  ⟨k.os.trans h.os, k.tape.trans h.tape, k.output.trans h.output, Nat.le_trans h.size k.size, fun i hi hne => (k.block i (by have := h.size; omega)).trans (h.block i hi hne)⟩

theorem But.below {g B : Nat} {w w' : World} (h : But g w w') (hB : B ≤ g) (hw : B ≤ w.heap.size) : Below B w w' :=
  ⟨h.os, h.tape, h.output, h.size, fun k hk => h.block k (by omega) (by omega)⟩

/-- What was there is as it was, but for the block of the row v. -/
def ButV (v : Value) (w w' : World) : Prop := w' = w ∨ ∃ g, v.ownBlock = some g ∧ But g w w'

theorem ButV.size {v : Value} {w w' : World} (h : ButV v w w') : w.heap.size ≤ w'.heap.size := by
  rcases h with rfl | ⟨g, _, h⟩
  · exact Nat.le_refl _
  · exact h.size

theorem ButV.below {v : Value} {w w' : World} {B : Nat} {e : TypeId} {size n : Nat} {xs : List Value} (h : ButV v w w') (ho : w.ownsRow B e size v n xs) (hw : B ≤ w.heap.size) : Below B w w' := by
  rcases h with rfl | ⟨g, hg, h⟩
  · exact Below.refl _ _
  · exact h.below (ho.lt g hg).1 hw

/-- A row of another kind of elements stays. -/
theorem ButV.own {v v2 : Value} {w w' : World} {B B2 : Nat} {e e2 : TypeId} {size size2 n n2 : Nat} {xs ys : List Value} (h : ButV v w w') (ho : w.ownsRow B e size v n xs) (h2 : w.ownsRow B2 e2 size2 v2 n2 ys) (hne : e ≠ e2) : w'.ownsRow B2 e2 size2 v2 n2 ys := by
  rcases h with rfl | ⟨g, hg, h⟩
  · exact h2
  · obtain ⟨h1, h2' | ⟨g2, cap, cur, hv, hB, hh, r⟩⟩ := h2
    · exact ⟨h1, Or.inl h2'⟩
    · refine ⟨h1, Or.inr ⟨g2, cap, cur, hv, hB, ?_, r⟩⟩
      rw [h.block g2 (lt_of_some hh) ?_]
      · exact hh
      · intro e3
        subst e3
        obtain ⟨_, ⟨rfl, _⟩ | ⟨g3, _, _, rfl, _, hh3, _⟩⟩ := ho
        · simp [Value.ownBlock] at hg
        · simp only [Value.ownBlock, Option.some.injEq] at hg
          subst hg
          rw [hh3] at hh
          simp only [Option.some.injEq, Obj.cells.injEq] at hh
          exact hne hh.2.1

/-- What could be read below the row's own base can be read. -/
theorem ButV.row {v v2 : Value} {w w' : World} {B : Nat} {e : TypeId} {size size2 n n2 : Nat} {xs ys : List Value} {W : World} (h : ButV v w w') (ho : w.ownsRow B e size v n xs) (h2 : RowR W v2 n2 size2 ys) (hW : W.heap.size ≤ B) (hb : Below W.heap.size W w) : RowR w' v2 n2 size2 ys := by
  have hB : Below W.heap.size w w' := by
    rcases h with rfl | ⟨g, hg, h⟩
    · exact Below.refl _ _
    · exact h.below (Nat.le_trans hW (ho.lt g hg).1) hb.size
  exact h2.keep (hb.trans hB) (Nat.le_refl _)

theorem ret_i {k : IntKind} {a b : Int} (h : a = b) : Ending.returned (.int k a) = .returned (.int k b) := by rw [h]

/-- What the first k elements measure. -/
def zsum {α : Type} (f : α → Nat) (L : List α) : Nat → Nat
  | 0 => 0
  | k + 1 => zsum f L k + ((L[k]?).map f).getD 0

theorem zsum_succ {α : Type} (f : α → Nat) (L : List α) (k : Nat) (h : k < L.length) : zsum f L (k + 1) = zsum f L k + f L[k] := by
  simp [zsum, List.getElem?_eq_getElem h]

theorem zsum_mono {α : Type} (f : α → Nat) (L : List α) (k : Nat) : ∀ d, zsum f L k ≤ zsum f L (k + d)
  | 0 => Nat.le_refl _
  | d + 1 => by
    have := zsum_mono f L k d
    show _ ≤ zsum f L (k + d) + _
    omega

theorem zsum_le {α : Type} (f : α → Nat) (L : List α) (k : Nat) (h : k ≤ L.length) : zsum f L k ≤ zsum f L L.length := by
  have := zsum_mono f L k (L.length - k)
  rwa [show k + (L.length - k) = L.length by omega] at this

theorem zsum_mem {α : Type} (f : α → Nat) (L : List α) (x : α) (h : x ∈ L) : f x ≤ zsum f L L.length := by
  obtain ⟨i, hi, rfl⟩ := List.getElem_of_mem h
  have h1 := zsum_succ f L i hi
  have h2 := zsum_le f L (i + 1) hi
  omega

/-- What is left when so much is taken off; -1 when there is not so much. -/
def szF (n : Nat) (left : Int) : Int := if (n : Int) ≤ left then left - n else -1

theorem szF_yes (n : Nat) (left : Int) (h : (n : Int) ≤ left) : szF n left = left - n := if_pos h

theorem szF_no (n : Nat) (left : Int) (h : ¬ (n : Int) ≤ left) : szF n left = -1 := if_neg h

end Go.Proofs.YtmknplpcpmkhiaaGreat
