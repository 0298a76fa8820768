/- A heap of joints in memory. -/
import Derived.Test.YtdggkcohidijcaaH8Math
import Derived.Test.YtdggkcohidijcaaHaInts
import Derived.Test.YtdggkcohidijcaaRgHeld
import Derived.Test.YtdggkcohidijcaaVcWalk
namespace Go.Proofs.Ytdggkcohidijcaa
open Go.RowKit
set_option linter.unusedVariables false
set_option linter.unusedSimpArgs false

/-- A symbol lies there; its place. -/
def Sym (w : World) (b : Nat) (a : Int) : Prop := ∃ (t : Int) (p q : Value), w.heap[b]? = some (.cells #[.int .i64 t, .int .i64 a, p, q] 109)

theorem Sym.cell {w : World} {b : Nat} {a : Int} (h : Sym w b a) : w.cell? ⟨b, 1, none⟩ = some (.int .i64 a) := by
  obtain ⟨t, p, q, h⟩ := h
  simp [World.cell?, h]

/-- The queue of a row: its struct at R, its items. -/
structure HqS (w : World) (R B : Nat) (mv fv : Value) (X : List Jt) (p : Option Addr) (n c : Nat) : Prop where
  row : w.heap[R]? = some (.cells #[mv, fv, (.func (.func 72) #[] #[]), .slice p n c] 107)
  own : w.ownsRow B 112 2 (.slice p n c) n (rJ X)
  len : X.length = n
  ats : ∀ x ∈ X, Sym w x.b x.a

/-- What was there is as it was, but for the row R and the items' block. -/
structure Fr8 (R : Nat) (v : Value) (w w' : World) : Prop where
  os : w'.os = w.os
  tape : w'.tape = w.tape
  output : w'.output = w.output
  size : w.heap.size ≤ w'.heap.size
  block : ∀ k, k < w.heap.size → k ≠ R → v.ownBlock ≠ some k → w'.heap[k]? = w.heap[k]?

section
variable {w w' w2 : World} {R B : Nat} {mv fv : Value} {X : List Jt} {p p' : Option Addr} {n n' c c' : Nat} {v v' : Value}

theorem Fr8.refl (R : Nat) (v : Value) (w : World) : Fr8 R v w w := ⟨rfl, rfl, rfl, Nat.le_refl _, fun _ _ _ _ => rfl⟩
theorem Fr8.of_bel (h : Below w.heap.size w w') : Fr8 R v w w' := ⟨h.os, h.tape, h.output, h.size, fun k hk _ _ => h.block k hk⟩
theorem Fr8.bel (h : Fr8 R v w w') (k : Below w'.heap.size w' w2) : Fr8 R v w w2 :=
  ⟨k.os.trans h.os, k.tape.trans h.tape, k.output.trans h.output, Nat.le_trans h.size k.size, fun i hi h1 h2 => (k.block i (Nat.lt_of_lt_of_le hi h.size)).trans (h.block i hi h1 h2)⟩
/-- The next items lie where these lay, or in new memory. -/
def Nxt8 (w : World) (v v' : Value) : Prop := ∀ k, v'.ownBlock = some k → v.ownBlock = some k ∨ w.heap.size ≤ k
theorem Fr8.trans (h : Fr8 R v w w') (hv : Nxt8 w v v') (k : Fr8 R v' w' w2) : Fr8 R v w w2 :=
  ⟨k.os.trans h.os, k.tape.trans h.tape, k.output.trans h.output, Nat.le_trans h.size k.size, fun i hi h1 h2 => (k.block i (Nat.lt_of_lt_of_le hi h.size) h1 (fun e => (hv i e).elim h2 (fun h3 => by omega))).trans (h.block i hi h1 h2)⟩
theorem Fr8.below (h : Fr8 R v w w') (hR : B ≤ R) (hv : ∀ k, v.ownBlock = some k → B ≤ k) (hB : B ≤ w.heap.size) : Below B w w' :=
  ⟨h.os, h.tape, h.output, h.size, fun k hk => h.block k (by omega) (by omega) (fun e => by have := hv k e; omega)⟩
theorem Nxt8.refl (w : World) (v : Value) : Nxt8 w v v := fun k h => .inl h
theorem Nxt8.trans {v2 : Value} (h : Nxt8 w v v') (hs : w.heap.size ≤ w'.heap.size) (k : Nxt8 w' v' v2) : Nxt8 w v v2 := fun i hi => by
  rcases k i hi with h1 | h1
  · exact h i h1
  · exact .inr (Nat.le_trans hs h1)

theorem kind_ne {base : Nat} {e e2 : TypeId} {size m : Nat} {xs : List Value} {cs : Array Value} {fz : Nat × Nat} {k : Nat} (h : w.ownsRow base e size v m xs) (hb : w.heap[k]? = some (.cells cs e2 fz)) (hne : e2 ≠ e) : v.ownBlock ≠ some k := by
  obtain ⟨_, ⟨rfl, _⟩ | ⟨g, cp, cur, rfl, _, hh, _⟩⟩ := h
  · simp [Value.ownBlock]
  · intro e1
    simp only [Value.ownBlock, Option.some.injEq] at e1
    subst e1
    rw [hh] at hb
    simp only [Option.some.injEq, Obj.cells.injEq] at hb
    exact hne hb.2.1.symm

theorem HqS.bel (S : HqS w R B mv fv X p n c) (h : Below w.heap.size w w') : HqS w' R B mv fv X p n c :=
  ⟨(h.block _ (lt_of_some S.row)).trans S.row, own_bel S.own h (Nat.le_refl _), S.len, fun x hx => by
    obtain ⟨t, p, q, hs⟩ := S.ats x hx
    exact ⟨t, p, q, (h.block _ (lt_of_some hs)).trans hs⟩⟩

theorem HqS.cells (S : HqS w R B mv fv X p n c) : w.cell? ⟨R, 0, none⟩ = some mv ∧ w.cell? ⟨R, 1, none⟩ = some fv ∧ w.cell? ⟨R, 2, none⟩ = some (.func (.func 72) #[] #[]) ∧ w.cell? ⟨R, 3, none⟩ = some (.slice p n c) := by
  simp [World.cell?, S.row]

theorem HqS.frz (S : HqS w R B mv fv X p n c) (o : Nat) : w.frozen? ⟨R, o, none⟩ = false := by simp [World.frozen?, S.row]

/-- Where the items stand. -/
theorem HqS.items (S : HqS w R B mv fv X p n c) (h0 : 0 < n) : ∃ g, p = some ⟨g, 0, none⟩ ∧ g < w.heap.size ∧ B ≤ g ∧ n ≤ c ∧ g ≠ R ∧ ∀ i x, X[i]? = some x → (∀ j u, (cJ x)[j]? = some u → w.cell? ((⟨g, i * 2, none⟩ : Addr).add j) = some u) := by
  have hR := kind_ne S.own S.row (by decide)
  obtain ⟨h1, ⟨hv, h2⟩ | ⟨g, cp, cur, hv, hg, hh, hc, _⟩⟩ := id S.own
  · omega
  · simp only [Value.slice.injEq, true_and] at hv
    obtain ⟨rfl, rfl⟩ := hv
    refine ⟨g, rfl, lt_of_some hh, hg, hc, fun e => hR (by rw [e]; rfl), fun i x hx j u hj => ?_⟩
    have hj2 : j < 2 := (List.getElem?_eq_some_iff.1 hj).1
    have hi : i < n := by rw [← S.len]; exact (List.getElem?_eq_some_iff.1 hx).1
    rw [Addr.add_mid, S.own.cellAt (i * 2 + j) (by omega), rJ_at hx j hj2, hj]

/-- Two stores into the items. -/
theorem own_two {g i : Nat} {x : Jt} (h : w.ownsRow B 112 2 (.slice (some ⟨g, 0, none⟩) n c) n (rJ X)) (hi : i < X.length) : (w.setCells g (i * 2) (cJ x)).ownsRow B 112 2 (.slice (some ⟨g, 0, none⟩) n c) n (rJ (X.set i x)) := by
  rw [rJ_set x X i hi]
  exact own_setCells (cJ x) (i * 2) (rJ X) w h

theorem setCells_block (g : Nat) : ∀ (cs : List Value) (o : Nat) (w : World) (k : Nat), k ≠ g → (w.setCells g o cs).heap[k]? = w.heap[k]?
  | [], _, _, _, _ => rfl
  | v :: cs, o, w, k, hk => by
    show ((w.setCell ⟨g, o, none⟩ v).setCells g (o + 1) cs).heap[k]? = _
    rw [setCells_block g cs (o + 1) _ k hk, Below.heap_setCell _ _ _ _ hk]

theorem setCells_fr (g : Nat) : ∀ (cs : List Value) (o : Nat) (w : World), (w.setCells g o cs).os = w.os ∧ (w.setCells g o cs).tape = w.tape ∧ (w.setCells g o cs).output = w.output ∧ (w.setCells g o cs).heap.size = w.heap.size
  | [], _, _ => ⟨rfl, rfl, rfl, rfl⟩
  | v :: cs, o, w => by
    have h := setCells_fr g cs (o + 1) (w.setCell ⟨g, o, none⟩ v)
    exact ⟨h.1, h.2.1, h.2.2.1, by show ((w.setCell ⟨g, o, none⟩ v).setCells g (o + 1) cs).heap.size = _; rw [h.2.2.2]; simp [World.setCell]⟩

theorem Fr8.setCells {g : Nat} (h : Fr8 R (.slice (some ⟨g, 0, none⟩) n c) w w') (o : Nat) (cs : List Value) : Fr8 R (.slice (some ⟨g, 0, none⟩) n c) w (w'.setCells g o cs) := by
  have k := setCells_fr g cs o w'
  exact ⟨k.1.trans h.os, k.2.1.trans h.tape, k.2.2.1.trans h.output, by rw [k.2.2.2]; exact h.size, fun i hi h1 h2 => (setCells_block g cs o w' i (fun e => h2 (by rw [e]; rfl))).trans (h.block i hi h1 h2)⟩

theorem gives_storesO {P : Program} {o : Oper} {ρ : Operand → Value} {w : World} {b off : Nat} {cs : List Value} (hv : ∀ w, (execOp ρ o).run P w = ((storeCells ⟨b, off, none⟩ cs 0) >>= fun _ => pure Next.skip : Sem Next).run P w) (h1 : ∀ v ∈ cs, v.oneCell' = true) (hb : w.there b off cs.length) :
    gives P o ρ w fun u W => u = undef ∧ W = w.setCells b off cs :=
  gives_unit _ hv (run_storeCells_cells b off cs 0 w (fun j hj => (hb j hj).1) (fun j hj => (hb j hj).2) h1)

theorem cJ_one (x : Jt) : ∀ v ∈ cJ x, v.oneCell' = true := by
  intro v hv
  simp only [cJ, List.mem_cons, List.not_mem_nil, or_false] at hv
  rcases hv with rfl | rfl <;> rfl
end

end Go.Proofs.Ytdggkcohidijcaa
