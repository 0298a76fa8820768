/- A region that draws its order and writes: what its reads find is held until the operation that waits for them has come up. -/
import Derived.Test.YtmknplpcpmkhiaaGreatRgTold
namespace Go.Proofs.YtmknplpcpmkhiaaGreat
open Go.RowKit
set_option linter.unusedVariables false

section held
variable {P : Program} {ops : Array Oper} {Q : Exit → Act → World → Prop}

/-- What holds until operation 'g' has come up. -/
structure Fact where
  g : Nat
  Y : World → Prop

def Held (fs : List Fact) (listed : Array Bool) (w : World) : Prop := ∀ f ∈ fs, listed.getD f.g false = true ∨ f.Y w

/-- What came up has all that it waits for behind it. -/
def Closed (ops : Array Oper) (listed : Array Bool) : Prop := listed.size = ops.size ∧ ∀ (i : Nat) (o : Oper), ops[i]? = some o → listed.getD i true = true → ∀ e ∈ o.after, Region.binds .any e = true → listed.getD e.on false = true

def wpAnyL (P : Program) (ops : Array Oper) (Q : Exit → Act → World → Prop) (fs : List Fact) : Nat → Array Bool → Act → World → Prop
  | 0, listed, a, w => Region.ready .any ops listed = [] ∧ Q .normal a w
  | fuel + 1, listed, a, w =>
    (Region.ready .any ops listed = [] → Q .normal a w) ∧
    ∀ i ∈ Region.ready .any ops listed, wpOp P ops Q i (fun a' w' => Held fs (listed.setIfInBounds i true) w' ∧ wpAnyL P ops Q fs fuel (listed.setIfInBounds i true) a' w') a w

theorem wpAny_of_L {fs : List Fact} : ∀ (fuel : Nat) (listed : Array Bool) (a : Act) (w : World), wpAnyL P ops Q fs fuel listed a w → wpAny P .any ops Q fuel listed a w
  | 0, _, _, _, h => h
  | fuel + 1, _, _, _, h => ⟨h.1, fun i hi => wpOp_mono (fun a' w' h' => wpAny_of_L fuel _ a' w' h'.2) (h.2 i hi)⟩

theorem getD_set_self {listed : Array Bool} {i : Nat} (h : i < listed.size) (d : Bool) : (listed.setIfInBounds i true).getD i d = true := by simp [Array.getD, h]

theorem Held.more {fs : List Fact} {listed : Array Bool} {w : World} (h : Held fs listed w) (i : Nat) : Held fs (listed.setIfInBounds i true) w := fun f hf => (h f hf).imp getD_set_true id

theorem Held.less {fs : List Fact} {listed : Array Bool} {w : World} {i : Nat} (h : Held fs (listed.setIfInBounds i true) w) (hn : ∀ f ∈ fs, f.g ≠ i) : Held fs listed w := fun f hf => (h f hf).imp (fun h => by rw [getD_set_ne false (Ne.symm (hn f hf))] at h; exact h) id

theorem Closed.more {listed : Array Bool} (h : Closed ops listed) {j : Nat} (hj : j ∈ Region.ready .any ops listed) : Closed ops (listed.setIfInBounds j true) := by
  obtain ⟨h0, oj, hoj, hall⟩ := mem_ready.1 hj
  refine ⟨by simpa using h.1, fun i o ho hi e he hb => ?_⟩
  by_cases hij : j = i
  · subst hij
    rw [hoj] at ho
    cases ho
    exact getD_set_true (hall e he hb)
  · rw [getD_set_ne true hij] at hi
    exact getD_set_true (h.2 i o ho hi e he hb)

theorem wpAnyL_first {fs : List Fact} {i : Nat} {oi : Oper} {v : Value} (hi : ops[i]? = some oi) (hsel : ∀ (j : Nat) (o : Oper) cs b, ops[j]? = some o → o.op ≠ .select cs b)
    (hQ : ∀ c a w, Q (.panic c) (a.put oi.dst v) w → Q (.panic c) a w) (hg : ∀ f ∈ fs, f.g ≠ i) :
    ∀ (fuel : Nat) (listed : Array Bool) (a : Act) (w : World), Closed ops listed →
      (∀ j oj, ops[j]? = some oj → j ≠ i → listed.getD j true = false → (∀ e ∈ oj.after, Region.binds .any e = true → e.on ≠ i) → oi.apart ops oj = true) →
      i ∈ Region.ready .any ops listed → YieldsIf P ops (fun w => ∃ l, Closed ops l ∧ l.getD i true = false ∧ Held fs l w) oi v a → Held fs listed w →
      wpAnyL P ops Q fs fuel (listed.setIfInBounds i true) (a.put oi.dst v) w → wpAnyL P ops Q fs (fuel + 1) listed a w := by
  intro fuel
  induction fuel with
  | zero =>
    intro listed a w hcl _ hr hy hS H
    refine ⟨fun h => (by rw [h] at hr; cases hr), fun j hj => ?_⟩
    by_cases hji : j = i
    · subst hji; exact hy.wpOp hi ⟨listed, hcl, (mem_ready.1 hr).1, hS⟩ ⟨hS.more j, H⟩
    · have := ready_mono hj hji
      rw [H.1] at this
      cases this
  | succ fuel ih =>
    intro listed a w hcl hfree hr hy hS H
    refine ⟨fun h => (by rw [h] at hr; cases hr), fun j hj => ?_⟩
    by_cases hji : j = i
    · subst hji; exact hy.wpOp hi ⟨listed, hcl, (mem_ready.1 hr).1, hS⟩ ⟨hS.more j, H⟩
    · have h1 := H.2 j (ready_mono hj hji)
      obtain ⟨hjun, oj, hoj, hall⟩ := mem_ready.1 hj
      have hnot : ∀ e ∈ oj.after, Region.binds .any e = true → e.on ≠ i := fun e he hb heq => by
        have h1 := hall e he hb
        have h0 := (mem_ready.1 hr).1
        rw [heq] at h1
        rcases Nat.lt_or_ge i listed.size with h' | h'
        · simp [h'] at h0 h1; rw [h0] at h1; cases h1
        · simp [Array.getElem?_eq_none h'] at h1
      have h2 := wpOp_putIf hoj (hfree j oj hoj hji hjun hnot) (fun cs b => hsel i oi cs b hi) (fun cs b => hsel j oj cs b hoj) hQ hy h1
      have hfree' : ∀ k ok, ops[k]? = some ok → k ≠ i → (listed.setIfInBounds j true).getD k true = false →
          (∀ e ∈ ok.after, Region.binds .any e = true → e.on ≠ i) → oi.apart ops ok = true := fun k ok hk hki hun hno => by
        refine hfree k ok hk hki ?_ hno
        by_cases hjk : j = k
        · subst hjk; exact hjun
        · rw [getD_set_ne true hjk] at hun; exact hun
      have hcl' := hcl.more hj
      refine wpOp_mono (fun a' w' h3 => ?_) h2
      have hH : Held fs (listed.setIfInBounds j true) w' := by
        have h4 := h3.2.1
        rw [Array.setIfInBounds_comm _ _ (Ne.symm hji)] at h4
        exact h4.less hg
      refine ⟨hH, ih (listed.setIfInBounds j true) a' w' hcl' hfree' (ready_mono hr (Ne.symm hji)) h3.1 hH ?_⟩
      rw [Array.setIfInBounds_comm _ _ hji]
      exact h3.2.2

/-- Each of these waits for the one ahead of it. -/
def path (ops : Array Oper) : List Nat → Bool
  | i :: j :: rest => ((ops[j]?).map fun o => o.after.any fun e => Region.binds .any e && e.on == i).getD false && path ops (j :: rest)
  | _ => true

theorem path_un {l : Array Bool} (hcl : Closed ops l) : ∀ (ps : List Nat) (i g : Nat), path ops (i :: ps) = true → (i :: ps).getLast? = some g → l.getD g false = true → l.getD i true = true
  | [], i, g, _, hl, hg => by
    simp only [List.getLast?_singleton, Option.some.injEq] at hl
    subst hl
    rcases Nat.lt_or_ge i l.size with h | h
    · simpa [Array.getD, h] using hg
    · simp [Array.getD, Nat.not_lt.2 h]
  | j :: ps, i, g, hp, hl, hg => by
    have hp0 := hp
    unfold path at hp0
    rw [Bool.and_eq_true] at hp0
    obtain ⟨h1, h2⟩ := hp0
    have hj := path_un hcl ps j g h2 (by rw [← hl]; rfl) hg
    cases ho : ops[j]? with
    | none => rw [ho] at h1; cases h1
    | some o =>
      rw [ho] at h1
      simp only [Option.map_some, Option.getD_some] at h1
      obtain ⟨e, he, hb⟩ := Array.any_eq_true'.1 h1
      rw [Bool.and_eq_true, beq_iff_eq] at hb
      have := hcl.2 j o ho hj e he hb.1
      rw [hb.2] at this
      rcases Nat.lt_or_ge i l.size with h | h
      · simpa [Array.getD, h] using this
      · simp [Array.getD, Nat.not_lt.2 h]

/-! The moves. -/
/-- A state of the walk: closed, and the facts held. -/
structure At (P : Program) (ops : Array Oper) (Q : Exit → Act → World → Prop) (fs : List Fact) (fuel : Nat) (listed : Array Bool) (a : Act) (w : World) : Prop where
  go : Closed ops listed → Held fs listed w → wpAnyL P ops Q fs fuel listed a w

theorem wp_region_L {id : Nat} {a : Act} {w : World} (fs : List Fact) (hm : P.follows .mixedOrders = true) (hS : ∀ f ∈ fs, f.Y w.drew) (h : At P ops Q fs ops.size (Array.replicate ops.size false) a w.drew) : (Code.region id ops true).wp P Q a w := by
  refine wp_region_any hm (wpAny_of_L _ _ _ _ (h.go ⟨by simp, fun i o ho hi => ?_⟩ fun f hf => .inr (hS f hf)))
  have := lt_of_get ho
  simp [Array.getD, this] at hi

theorem At.take {fs : List Fact} {fuel : Nat} {listed : Array Bool} {a : Act} {w : World} (i : Nat) (d : Option Tmp) (v : Value) {o : Oper} (ho : ops[i]? = some o) (hd : o.dst = d) (hs : Region.noSelect ops = true) (hf : Region.free .any ops listed i = true) (hr : (Region.ready .any ops listed).contains i = true)
    (hg : fs.all (fun f => f.g != i) = true) (hQ : ∀ c a w, Q (.panic c) (a.put d v) w → Q (.panic c) a w) (hy : YieldsIf P ops (fun w => ∃ l, Closed ops l ∧ l.getD i true = false ∧ Held fs l w) o v a)
    (h : At P ops Q fs fuel (listed.setIfInBounds i true) (a.put d v) w) : At P ops Q fs (fuel + 1) listed a w := by
  subst hd
  refine ⟨fun hcl hH => ?_⟩
  have hr' : i ∈ Region.ready .any ops listed := by simpa using hr
  exact wpAnyL_first ho (Region.noSelect_spec hs) hQ (fun f hf => by have := List.all_eq_true.1 hg f hf; simpa using this) fuel listed a w hcl (Region.free_spec ho hf) hr' hy hH (h.go (hcl.more hr') (hH.more i))

theorem yl_pure {fs : List Fact} {o : Oper} {v : Value} {a : Act} {i : Nat} (hw : Region.wanted o (yielded ops a.tmps) = true) (hv : ∀ w, (execOp a.eval o).run P w = .ok (.value v) w) : YieldsIf P ops (fun w => ∃ l, Closed ops l ∧ l.getD i true = false ∧ Held fs l w) o v a := .inl ⟨hw, fun w _ => hv w⟩

theorem yl_is {fs : List Fact} {o : Oper} {v : Value} {a : Act} {i : Nat} (u : Value) (e : u = v) (hw : Region.wanted o (yielded ops a.tmps) = true) (hv : ∀ w, (execOp a.eval o).run P w = .ok (.value u) w) : YieldsIf P ops (fun w => ∃ l, Closed ops l ∧ l.getD i true = false ∧ Held fs l w) o v a := by
  subst e
  exact yl_pure hw hv

theorem yl_skip {fs : List Fact} {o : Oper} {a : Act} {i : Nat} (hw : Region.wanted o (yielded ops a.tmps) = false) : YieldsIf P ops (fun w => ∃ l, Closed ops l ∧ l.getD i true = false ∧ Held fs l w) o undef a := .inr ⟨hw, rfl⟩

/-- A read whose cell is held until one comes up that waits for it. -/
theorem yl_load {fs : List Fact} {o : Oper} {a : Act} {i : Nat} (g : Nat) (p : Addr) (v : Value) (hm : (⟨g, fun W => W.cell? p = some v⟩ : Fact) ∈ fs) (ps : List Nat) (hp : path ops (i :: ps) = true) (hl : (i :: ps).getLast? = some g) (hw : Region.wanted o (yielded ops a.tmps) = true)
    (hv : ∀ w, (execOp a.eval o).run P w = ((load p) >>= fun u => pure (Next.value u) : Sem Next).run P w) : YieldsIf P ops (fun w => ∃ l, Closed ops l ∧ l.getD i true = false ∧ Held fs l w) o v a := by
  refine .inl ⟨hw, fun w ⟨l, hcl, hun, hH⟩ => ?_⟩
  rcases hH _ hm with h | h
  · have := path_un hcl ps i g hp hl h
    rw [this] at hun
    cases hun
  · have h' : w.cell? p = some v := h
    rw [hv w, Sem.run_bind, run_load, h']
    rfl

/-- A read by whatever means. -/
theorem yl_run {fs : List Fact} {o : Oper} {a : Act} {i : Nat} (g : Nat) (x : Sem Value) (v : Value) (hm : (⟨g, fun W => x.run P W = .ok v W⟩ : Fact) ∈ fs) (ps : List Nat) (hp : path ops (i :: ps) = true) (hl : (i :: ps).getLast? = some g) (hw : Region.wanted o (yielded ops a.tmps) = true)
    (hv : ∀ w, (execOp a.eval o).run P w = (x >>= fun u => pure (Next.value u) : Sem Next).run P w) : YieldsIf P ops (fun w => ∃ l, Closed ops l ∧ l.getD i true = false ∧ Held fs l w) o v a := by
  refine .inl ⟨hw, fun w ⟨l, hcl, hun, hH⟩ => ?_⟩
  rcases hH _ hm with h | h
  · have := path_un hcl ps i g hp hl h
    rw [this] at hun
    cases hun
  · have h' : x.run P w = .ok v w := h
    rw [hv w, Sem.run_bind, h']
    rfl

/-- A read of several cells. -/
theorem yl_loads {fs : List Fact} {o : Oper} {a : Act} {i : Nat} (g : Nat) (p : Addr) (cs : List Value) (hm : (⟨g, fun W => ∀ j u, cs[j]? = some u → W.cell? (p.add j) = some u⟩ : Fact) ∈ fs) (ps : List Nat) (hp : path ops (i :: ps) = true) (hl : (i :: ps).getLast? = some g) (hw : Region.wanted o (yielded ops a.tmps) = true)
    (hv : ∀ w, (execOp a.eval o).run P w = ((loadCells p cs.length) >>= fun u => pure (Next.value (.agg u)) : Sem Next).run P w) : YieldsIf P ops (fun w => ∃ l, Closed ops l ∧ l.getD i true = false ∧ Held fs l w) o (.agg cs.toArray) a := by
  refine .inl ⟨hw, fun w ⟨l, hcl, hun, hH⟩ => ?_⟩
  rcases hH _ hm with h | h
  · have := path_un hcl ps i g hp hl h
    rw [this] at hun
    cases hun
  · have h' : ∀ j u, cs[j]? = some u → w.cell? (p.add j) = some u := h
    rw [hv w, Sem.run_bind, run_loadCells_list w p cs h']
    rfl

/-- The one that comes up: it does its work. -/
theorem At.step {fs : List Fact} {fuel : Nat} {listed : Array Bool} {a : Act} {w : World} (i : Nat) (d : Option Tmp) {o : Oper} (ho : ops[i]? = some o) (hd : o.dst = d) (hr : Region.ready .any ops listed = [i]) (hw : Region.wanted o (yielded ops a.tmps) = true)
    (R : Value → World → Prop) (hgv : gives P o a.eval w R) (h : ∀ u w', R u w' → Held fs (listed.setIfInBounds i true) w' ∧ At P ops Q fs fuel (listed.setIfInBounds i true) (a.put d u) w') : At P ops Q fs (fuel + 1) listed a w := by
  subst hd
  refine ⟨fun hcl hH => ⟨fun h0 => (by rw [hr] at h0; cases h0), fun j hj => ?_⟩⟩
  have hj' := hj
  rw [hr] at hj
  simp only [List.mem_singleton] at hj
  subst hj
  unfold wpOp
  simp only [ho]
  rw [if_pos hw]
  exact .inl (hgv.wp fun u w' hR => ⟨(h u w' hR).1, (h u w' hR).2.go (hcl.more hj') (h u w' hR).1⟩)

theorem gives_run {o : Oper} {ρ : Operand → Value} {w w' : World} {u : Value} (h : (execOp ρ o).run P w = .ok (.value u) w') : gives P o ρ w fun v W => v = u ∧ W = w' := by
  refine ⟨?_⟩
  unfold givesR
  rw [h]
  exact ⟨rfl, rfl⟩

theorem gives_call {o : Oper} {ρ : Operand → Value} {w : World} {f : FuncId} {args : Array Value} {R : Value → World → Prop} (hv : (execOp ρ o).run P w = .ok (.enter f args) w) (hc : Calls P f args w fun e w' => ∃ v, e = .returned v ∧ R v w') : gives P o ρ w R := by
  refine ⟨?_⟩
  unfold givesR
  rw [hv]
  exact hc

theorem gives_append {o : Oper} {ρ : Operand → Value} {w w' : World} {t ty : TypeId} {v y u : Value} (hv : ∀ w, (execOp ρ o).run P w = ((Builtin.append_ #[t, t] ty #[v, y]) >>= fun x => pure (Next.value x) : Sem Next).run P w) (hrun : (Builtin.append_ #[t, t] ty #[v, y]).run P w = .ok u w') : gives P o ρ w fun x W => x = u ∧ W = w' := by
  refine ⟨?_⟩
  unfold givesR
  rw [hv w, Sem.run_bind, hrun]
  exact ⟨rfl, rfl⟩

theorem gives_store {o : Oper} {ρ : Operand → Value} {w : World} {p : Addr} {x y : Value} (hv : ∀ w, (execOp ρ o).run P w = ((store p x) >>= fun _ => pure Next.skip : Sem Next).run P w) (h1 : x.oneCell' = true) (hc : w.cell? p = some y) (hf : w.frozen? p = false) : gives P o ρ w fun u W => u = undef ∧ W = w.setCell p x := by
  refine ⟨?_⟩
  unfold givesR
  rw [hv w, Sem.run_bind, run_store P w p x _ h1, hc, hf]
  exact ⟨rfl, rfl⟩

theorem gives_unit {o : Oper} {ρ : Operand → Value} {w w' : World} (s : Sem Unit) (hv : ∀ w, (execOp ρ o).run P w = (s >>= fun _ => pure Next.skip : Sem Next).run P w) (hrun : s.run P w = .ok () w') : gives P o ρ w fun u W => u = undef ∧ W = w' := by
  refine ⟨?_⟩
  unfold givesR
  rw [hv w, Sem.run_bind, hrun]
  exact ⟨rfl, rfl⟩

theorem held_nil {listed : Array Bool} {w : World} : Held [] listed w := fun f hf => by cases hf

theorem held_cons {f : Fact} {fs : List Fact} {listed : Array Bool} {w : World} (h : listed.getD f.g false = true ∨ f.Y w) (hs : Held fs listed w) : Held (f :: fs) listed w := fun x hx => by
  rcases List.mem_cons.1 hx with rfl | hx
  · exact h
  · exact hs x hx

/-- A cell of another place than the one that was written. -/
theorem cell_set_ne {w : World} {p q : Addr} {v x : Value} (h : w.cell? p = some v) (hne : q ≠ p) : (w.setCell q x).cell? p = some v := (World.cell?_setCell_other _ _ _ _ hne).trans h

theorem At.done {fs : List Fact} {fuel : Nat} {listed : Array Bool} {a : Act} {w : World} (hr : Region.ready .any ops listed = []) (h : Q .normal a w) : At P ops Q fs fuel listed a w := by
  refine ⟨fun _ _ => ?_⟩
  cases fuel with
  | zero => exact ⟨hr, h⟩
  | succ n => exact ⟨fun _ => h, fun i hi => (by rw [hr] at hi; cases hi)⟩
end held

end Go.Proofs.YtmknplpcpmkhiaaGreat
