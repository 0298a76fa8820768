/- A region that draws its order, each of whose operations yields one value whatever came before it: all orders end alike. -/
import Derived.Test.YtmknplpcpmkhiaaGreatOwnLaws
import Derived.Deep.RegionHeld3
import Derived.Below
namespace Go.Proofs.YtmknplpcpmkhiaaGreat
open Go.RowKit
set_option linter.unusedVariables false

section told
variable {P : Program} {ops : Array Oper} {S : World → Prop}

/-- What an operation gives, whoever asks (a structure: so that Lean's elaborator does not run it). -/
def givesR (P : Program) (o : Oper) (ρ : Operand → Value) (w : World) (K : Value → World → Prop) : Prop :=
  match (execOp ρ o).run P w with
  | .ok (.value v) w' => K v w'
  | .ok .skip w' => K undef w'
  | .ok (.enter f args) w' => Calls P f args w' fun e w'' => ∃ v, e = .returned v ∧ K v w''
  | _ => False

structure gives (P : Program) (o : Oper) (ρ : Operand → Value) (w : World) (K : Value → World → Prop) : Prop where
  out : givesR P o ρ w K

theorem gives.wp {o : Oper} {a : Act} {w : World} {K : Act → World → Prop} {Q : Exit → Act → World → Prop} {R : Value → World → Prop} (h : gives P o a.eval w R)
    (hk : ∀ v w', R v w' → K (a.put o.dst v) w') : o.wp P a w K Q := by
  replace h := h.out
  unfold givesR at h
  unfold Oper.wp
  generalize (execOp a.eval o).run P w = r at *
  cases r with
  | ok n w' =>
    cases n <;> simp only [Oper.upon] <;> first
      | exact h.elim
      | exact hk _ _ h
      | exact Calls.mono h (fun e w'' ⟨v, he, hv⟩ => by subst he; exact hk _ _ hv)
  | halt x w' => exact h.elim

/-- In this frame the operation yields 'v' in every world that meets S, and S stays; or it isn't wanted. -/
def Tell (P : Program) (ops : Array Oper) (S : World → Prop) (o : Oper) (v : Value) (a : Act) : Prop :=
  (Region.wanted o (yielded ops a.tmps) = true ∧ ∀ w, S w → gives P o a.eval w fun u w' => u = v ∧ S w') ∨ (Region.wanted o (yielded ops a.tmps) = false ∧ v = undef)

def Told (P : Program) (ops : Array Oper) (S : World → Prop) : List Oper → Act → (Act → Prop) → Prop
  | [], a, K => K a
  | o :: os, a, K => ∃ v, Tell P ops S o v a ∧ Told P ops S os (a.put o.dst v) K

/-- What is asked of a region's text. -/
def seqOk (ops : Array Oper) : Bool :=
  Region.noSelect ops && (List.range ops.size).all fun i => match ops[i]? with
    | none => true
    | some o => (o.after.all fun e => !Region.binds .any e || decide (e.on < i)) && (List.range ops.size).all fun j => i == j || match ops[j]? with
      | none => true
      | some u => match u.dst with
        | none => true
        | some d => o.dst != some d && (!(o.looksAt ops).contains d || ((decide (j < i) && o.after.any fun e => Region.binds .any e && e.on == j) || (decide (i < j) && u.after.any fun e => Region.binds .any e && e.on == i)))

structure SeqOk (ops : Array Oper) : Prop where
  nosel : Region.noSelect ops = true
  back : ∀ (i : Nat) (o : Oper), ops[i]? = some o → ∀ e ∈ o.after, Region.binds .any e = true → e.on < i
  dst : ∀ (i j : Nat) (o u : Oper) (d : Tmp), ops[i]? = some o → ops[j]? = some u → i ≠ j → u.dst = some d → o.dst ≠ some d
  look : ∀ (i j : Nat) (o u : Oper) (d : Tmp), ops[i]? = some o → ops[j]? = some u → i ≠ j → u.dst = some d → d ∈ o.looksAt ops → (j < i ∧ ∃ e ∈ o.after, Region.binds .any e = true ∧ e.on = j) ∨ (i < j ∧ ∃ e ∈ u.after, Region.binds .any e = true ∧ e.on = i)

theorem lt_of_get {i : Nat} {o : Oper} (h : ops[i]? = some o) : i < ops.size := (Array.getElem?_eq_some_iff.1 h).1

theorem SeqOk.of (h : seqOk ops = true) : SeqOk ops := by
  unfold seqOk at h
  rw [Bool.and_eq_true, List.all_eq_true] at h
  obtain ⟨h1, h2⟩ := h
  have key : ∀ (i : Nat) (o : Oper), ops[i]? = some o → (∀ e ∈ o.after, Region.binds .any e = true → e.on < i) ∧ ∀ (j : Nat) (u : Oper) (d : Tmp), ops[j]? = some u → i ≠ j → u.dst = some d → o.dst ≠ some d ∧ (d ∈ o.looksAt ops → (j < i ∧ ∃ e ∈ o.after, Region.binds .any e = true ∧ e.on = j) ∨ (i < j ∧ ∃ e ∈ u.after, Region.binds .any e = true ∧ e.on = i)) := by
    intro i o ho
    have h3 := h2 i (List.mem_range.2 (lt_of_get ho))
    rw [ho] at h3
    simp only [Bool.and_eq_true, List.all_eq_true] at h3
    obtain ⟨h4, h5⟩ := h3
    refine ⟨fun e he hb => ?_, fun j u d hu hij hd => ?_⟩
    · have := Array.all_eq_true_iff_forall_mem.1 h4 e he
      simpa [hb] using this
    · have h6 := h5 j (List.mem_range.2 (lt_of_get hu))
      rw [hu] at h6
      simp only [hd, Bool.or_eq_true, beq_iff_eq, Bool.and_eq_true, bne_iff_ne, Bool.not_eq_true', decide_eq_true_eq] at h6
      rcases h6 with h6 | ⟨h6, h7⟩
      · exact absurd h6 hij
      · refine ⟨h6, fun hl => ?_⟩
        rcases h7 with h7 | ⟨h7, h8⟩ | ⟨h7, h8⟩
        · rw [List.contains_eq_mem] at h7
          simp [hl] at h7
        · obtain ⟨e, he, hb⟩ := Array.any_eq_true'.1 h8
          simp only [Bool.and_eq_true, beq_iff_eq] at hb
          exact .inl ⟨h7, e, he, hb.1, hb.2⟩
        · obtain ⟨e, he, hb⟩ := Array.any_eq_true'.1 h8
          simp only [Bool.and_eq_true, beq_iff_eq] at hb
          exact .inr ⟨h7, e, he, hb.1, hb.2⟩
  exact ⟨h1, fun i o ho => (key i o ho).1, fun i j o u d ho hu hij hd => ((key i o ho).2 j u d hu hij hd).1, fun i j o u d ho hu hij hd => ((key i o ho).2 j u d hu hij hd).2⟩

/-- A frame in which just those operations have come up that 'f' says. -/
structure Upto (ops : Array Oper) (v : Nat → Value) (a : Act) (f : Nat → Bool) (b : Act) : Prop where
  defers : b.defers = a.defers
  size : b.tmps.size = a.tmps.size
  put : ∀ (j : Nat) (o : Oper) (d : Tmp), ops[j]? = some o → o.dst = some d → b.tmps[d]? = if f j then (a.tmps[d]?).map fun _ => v j else a.tmps[d]?
  off : ∀ d : Tmp, (∀ (j : Nat) (o : Oper), ops[j]? = some o → o.dst ≠ some d) → b.tmps[d]? = a.tmps[d]?

theorem Upto.more {v : Nat → Value} {a b : Act} {f g : Nat → Bool} (hs : SeqOk ops) (h : Upto ops v a f b) {i : Nat} {o : Oper} (ho : ops[i]? = some o)
    (hg : ∀ j, j < ops.size → g j = (f j || j == i)) : Upto ops v a g (b.put o.dst (v i)) := by
  cases hd : o.dst with
  | none =>
    refine ⟨h.defers, h.size, fun j u d hu hud => ?_, h.off⟩
    have hne : j ≠ i := fun e => by subst e; rw [ho] at hu; cases hu; rw [hd] at hud; cases hud
    rw [hg j (lt_of_get hu)]
    simp only [beq_eq_false_iff_ne.2 hne, Bool.or_false]
    exact h.put j u d hu hud
  | some d0 =>
    refine ⟨h.defers, by simp [Act.put, h.size], fun j u d hu hud => ?_, fun d hno => ?_⟩
    · rw [hg j (lt_of_get hu)]
      by_cases e : j = i
      · subst e
        rw [ho] at hu
        cases hu
        rw [hd] at hud
        cases hud
        simp only [Act.put, beq_self_eq_true, Bool.or_true, if_true]
        rw [Array.getElem?_setIfInBounds_self]
        by_cases hlt : d0 < b.tmps.size
        · rw [if_pos hlt]
          have : d0 < a.tmps.size := by rw [← h.size]; exact hlt
          simp [this]
        · rw [if_neg hlt]
          have hn : a.tmps.size ≤ d0 := by rw [← h.size]; exact Nat.le_of_not_lt hlt
          rw [Array.getElem?_eq_none hn]
          rfl
      · have hne : d0 ≠ d := fun e' => hs.dst j i u o d0 hu ho e hd (by rw [hud, e'])
        simp only [Act.put, beq_eq_false_iff_ne.2 e, Bool.or_false]
        rw [Array.getElem?_setIfInBounds_ne hne]
        exact h.put j u d hu hud
    · have hne : d0 ≠ d := fun e' => hno i o ho (by rw [hd, e'])
      simp only [Act.put]
      rw [Array.getElem?_setIfInBounds_ne hne]
      exact h.off d hno

theorem Upto.start (v : Nat → Value) (a : Act) {f : Nat → Bool} (hf : ∀ j, j < ops.size → f j = false) : Upto ops v a f a :=
  ⟨rfl, rfl, fun j o d ho _ => by rw [hf j (lt_of_get ho)]; rfl, fun _ _ => rfl⟩

/-- Two frames that are alike where the operation looks. -/
theorem Upto.same {v : Nat → Value} {a b c : Act} {f : Nat → Bool} (hs : SeqOk ops) {i : Nat} {o : Oper} (ho : ops[i]? = some o) (hb : Upto ops v a f b) (hc : Upto ops v a (fun j => decide (j < i)) c)
    (hfi : f i = false) (haft : ∀ e ∈ o.after, Region.binds .any e = true → f e.on = true) (hcl : ∀ (j : Nat) (u : Oper), ops[j]? = some u → f j = true → ∀ e ∈ u.after, Region.binds .any e = true → f e.on = true) : ∀ t ∈ o.looksAt ops, b.tmps[t]? = c.tmps[t]? := by
  intro t ht
  by_cases hx : ∃ (j : Nat) (u : Oper), ops[j]? = some u ∧ u.dst = some t
  · obtain ⟨j, u, hu, hd⟩ := hx
    rw [hb.put j u t hu hd, hc.put j u t hu hd]
    by_cases e : i = j
    · subst e
      simp [hfi]
    · rcases hs.look i j o u t ho hu e hd ht with ⟨hlt, e', he', hbd, hon⟩ | ⟨hlt, e', he', hbd, hon⟩
      · have := haft e' he' hbd
        rw [hon] at this
        simp [this, hlt]
      · have hfj : f j = false := by
          rcases hj : f j with _ | _
          · rfl
          · have := hcl j u hu hj e' he' hbd
            rw [hon, hfi] at this
            cases this
        have : ¬ j < i := by omega
        simp [this, hfj]
  · have hno : ∀ (j : Nat) (u : Oper), ops[j]? = some u → u.dst ≠ some t := fun j u hu hd => hx ⟨j, u, hu, hd⟩
    rw [hb.off t hno, hc.off t hno]

theorem Tell.move {o : Oper} {v : Value} {b c : Act} (hsel : ∀ cs b, o.op ≠ .select cs b) (hl : ∀ t ∈ o.looksAt ops, b.tmps[t]? = c.tmps[t]?) (h : Tell P ops S o v c) : Tell P ops S o v b := by
  have he : execOp b.eval o = execOp c.eval o := execOp_congr o hsel fun x hx => by
    cases x with
    | tmp t =>
      have := hl t (List.mem_append_left _ (List.mem_filterMap.2 ⟨.tmp t, by simpa using hx, rfl⟩))
      simp only [Act.eval, Array.getD_eq_getD_getElem?, this]
    | const _ => rfl
    | global _ => rfl
    | func _ => rfl
  have hw : Region.wanted o (yielded ops b.tmps) = Region.wanted o (yielded ops c.tmps) := by
    unfold Region.wanted
    cases hg : o.guard with
    | none => rfl
    | some gw =>
      obtain ⟨g, want⟩ := gw
      have hy : yielded ops b.tmps g = yielded ops c.tmps g := by
        unfold yielded
        cases ht : (ops[g]?).bind (·.dst) with
        | none => rfl
        | some t =>
          have := hl t (by unfold Oper.looksAt; rw [hg]; simp [ht])
          simp only [Option.bind_some, this]
      simp only [hy]
  unfold Tell at *
  rw [hw]
  refine h.imp (fun ⟨h1, h2⟩ => ⟨h1, fun w hS => ?_⟩) id
  have := (h2 w hS).out
  refine ⟨?_⟩
  unfold givesR at *
  rw [he]
  exact this

theorem Told.values {K : Act → Prop} : ∀ (l : List Oper) (a : Act), Told P ops S l a K → ∃ v : Nat → Value, ∃ A : Nat → Act, A 0 = a ∧ (∀ (i : Nat) (o : Oper), l[i]? = some o → Tell P ops S o (v i) (A i) ∧ A (i + 1) = (A i).put o.dst (v i)) ∧ K (A l.length)
  | [], a, h => ⟨fun _ => undef, fun _ => a, rfl, fun i o ho => by simp at ho, h⟩
  | o :: os, a, ⟨v0, ht, h⟩ => by
    obtain ⟨v, A, h0, h1, h2⟩ := Told.values os _ h
    refine ⟨fun i => match i with | 0 => v0 | i + 1 => v i, fun i => match i with | 0 => a | i + 1 => A i, rfl, fun i u hu => ?_, h2⟩
    cases i with
    | zero =>
      simp only [List.getElem?_cons_zero, Option.some.injEq] at hu
      subst hu
      exact ⟨ht, h0⟩
    | succ i => exact h1 i u (by simpa using hu)

theorem upto_A {v : Nat → Value} {A : Nat → Act} (hs : SeqOk ops) (h1 : ∀ (i : Nat) (o : Oper), ops[i]? = some o → A (i + 1) = (A i).put o.dst (v i)) : ∀ i, i ≤ ops.size → Upto ops v (A 0) (fun j => decide (j < i)) (A i)
  | 0, _ => Upto.start v _ (fun j _ => by simp)
  | i + 1, hi => by
    have ho : ops[i]? = some ops[i] := Array.getElem?_eq_getElem (by omega)
    rw [h1 i _ ho]
    refine (upto_A hs h1 i (by omega)).more hs ho fun j _ => ?_
    by_cases e : j = i
    · subst e; simp
    · simp only [beq_eq_false_iff_ne.2 e, Bool.or_false, decide_eq_decide]; omega

theorem told_any {Q : Exit → Act → World → Prop} {v : Nat → Value} {A : Nat → Act} (hs : SeqOk ops) (h1 : ∀ (i : Nat) (o : Oper), ops[i]? = some o → Tell P ops S o (v i) (A i) ∧ A (i + 1) = (A i).put o.dst (v i))
    (hQ : ∀ w, S w → Q .normal (A ops.size) w) : ∀ (fuel : Nat) (listed : Array Bool) (b : Act) (w : World), listed.size = ops.size → (List.range ops.size).countP (fun j => !listed.getD j true) ≤ fuel →
      (∀ (j : Nat) (u : Oper), ops[j]? = some u → listed.getD j true = true → ∀ e ∈ u.after, Region.binds .any e = true → listed.getD e.on true = true) → Upto ops v (A 0) (fun j => listed.getD j true) b → S w → wpAny P .any ops Q fuel listed b w := by
  have hfin : ∀ (listed : Array Bool) (b : Act) (w : World), Region.ready .any ops listed = [] → listed.size = ops.size → Upto ops v (A 0) (fun j => listed.getD j true) b → S w → Q .normal b w := by
    intro listed b w hr hsz hb hS
    have hall : ∀ j, j < ops.size → listed.getD j true = true := by
      intro j
      induction j using Nat.strongRecOn with
      | ind j ih =>
        intro hj
        rcases hlj : listed.getD j true with _ | _
        · exfalso
          have ho : ops[j]? = some ops[j] := Array.getElem?_eq_getElem hj
          have : j ∈ Region.ready .any ops listed := mem_ready.2 ⟨hlj, _, ho, fun e he hbd => by
            have hlt := hs.back j _ ho e he hbd
            have := ih e.on hlt (by omega)
            have hlt' : e.on < listed.size := by omega
            simpa [Array.getD, hlt'] using this⟩
          rw [hr] at this
          cases this
        · rfl
    have hA := upto_A (v := v) (A := A) hs (fun i o ho => (h1 i o ho).2) ops.size (Nat.le_refl _)
    have : b = A ops.size := by
      have ht : b.tmps = (A ops.size).tmps := by
        apply Array.ext_getElem?
        intro d
        by_cases hx : ∃ (j : Nat) (u : Oper), ops[j]? = some u ∧ u.dst = some d
        · obtain ⟨j, u, hu, hd⟩ := hx
          rw [hb.put j u d hu hd, hA.put j u d hu hd]
          have := hall j (lt_of_get hu)
          simp only [this, if_true]
          rw [if_pos (by simpa using lt_of_get hu)]
        · have hno : ∀ (j : Nat) (u : Oper), ops[j]? = some u → u.dst ≠ some d := fun j u hu hd => hx ⟨j, u, hu, hd⟩
          rw [hb.off d hno, hA.off d hno]
      have hd : b.defers = (A ops.size).defers := by rw [hb.defers, hA.defers]
      cases b
      cases hAn : A ops.size
      simp_all
    rw [this]
    exact hQ w hS
  intro fuel
  induction fuel with
  | zero =>
    intro listed b w hsz hc hcl hb hS
    have hr : Region.ready .any ops listed = [] := by
      rw [List.eq_nil_iff_forall_not_mem]
      intro j hj
      obtain ⟨h0, o, ho, _⟩ := mem_ready.1 hj
      have : 0 < (List.range ops.size).countP (fun j => !listed.getD j true) := List.countP_pos_iff.2 ⟨j, List.mem_range.2 (lt_of_get ho), by rw [h0]; rfl⟩
      omega
    exact ⟨hr, hfin listed b w hr hsz hb hS⟩
  | succ fuel ih =>
    intro listed b w hsz hc hcl hb hS
    refine ⟨fun hr => hfin listed b w hr hsz hb hS, fun i hi => ?_⟩
    obtain ⟨h0, o, ho, haft⟩ := mem_ready.1 hi
    have hil := lt_of_get ho
    obtain ⟨ht, hA1⟩ := h1 i o ho
    have hAi := upto_A (v := v) (A := A) hs (fun i o ho => (h1 i o ho).2) i (by omega)
    have hl := Upto.same hs ho hb hAi h0 (fun e he hbd => by
      have h2 := haft e he hbd
      have hlt : e.on < listed.size := by have := hs.back i o ho e he hbd; omega
      simpa [Array.getD, hlt] using h2) hcl
    have ht' := Tell.move (fun cs b' => Region.noSelect_spec hs.nosel i o cs b' ho) hl ht
    have hnext : ∀ u w', u = v i → S w' → wpAny P .any ops Q fuel (listed.setIfInBounds i true) (b.put o.dst u) w' := by
      intro u w' hu hS'
      subst hu
      refine ih _ _ _ (by simpa using hsz) ?_ (fun j u hu hj e he hbd => ?_) (hb.more hs ho fun j hj => ?_) hS'
      · have hlt : (List.range ops.size).countP (fun j => !(listed.setIfInBounds i true).getD j true) < (List.range ops.size).countP (fun j => !listed.getD j true) := by
          have e1 : ∀ j ∈ List.range ops.size, (!(listed.setIfInBounds i true).getD j true) = ((!listed.getD j true) && !(j == i)) := fun j hj => by
            by_cases e : i = j
            · subst e
              have : i < listed.size := by omega
              simp [Array.getD, this]
            · rw [getD_set_ne true e, beq_eq_false_iff_ne.2 (Ne.symm e)]
              simp
          rw [List.countP_congr (fun j hj => by rw [e1 j hj])]
          exact countP_less (List.range ops.size) _ i (List.mem_range.2 hil) (by rw [h0]; rfl)
        omega
      · have h3 : listed.getD e.on true = true := by
          by_cases ei : i = j
          · subst ei
            have huo : u = o := by rw [ho] at hu; exact (Option.some.inj hu).symm
            subst huo
            have h2 := haft e he hbd
            have hlt : e.on < listed.size := by have := hs.back i u ho e he hbd; omega
            simpa [Array.getD, hlt] using h2
          · rw [getD_set_ne true ei] at hj
            exact hcl j u hu hj e he hbd
        by_cases ei : i = e.on
        · have : e.on < listed.size := by omega
          subst ei
          simp [Array.getD, this]
        · rw [getD_set_ne true ei]
          exact h3
      · by_cases e : i = j
        · subst e
          have : i < listed.size := by omega
          simp [Array.getD, this]
        · rw [getD_set_ne true e, beq_eq_false_iff_ne.2 (Ne.symm e)]
          simp
    unfold wpOp
    simp only [ho]
    rcases ht' with ⟨hw, hg⟩ | ⟨hw, hv⟩
    · rw [if_pos hw]
      exact .inl ((hg w hS).wp fun u w' ⟨hu, hS'⟩ => hnext u w' hu hS')
    · rw [if_neg (by rw [hw]; simp)]
      exact hnext _ w hv.symm hS
where
  countP_less : ∀ (l : List Nat) (p : Nat → Bool) (i : Nat), i ∈ l → p i = true → l.countP (fun j => p j && !(j == i)) < l.countP p
    | [], _, _, h, _ => by cases h
    | x :: l, p, i, h, hp => by
      have hle : l.countP (fun j => p j && !(j == i)) ≤ l.countP p := List.countP_mono_left fun j _ hj => by
        rw [Bool.and_eq_true] at hj; exact hj.1
      rw [List.countP_cons, List.countP_cons]
      by_cases e : x = i
      · subst e
        simp [hp]
        omega
      · have hm : i ∈ l := by cases h with | head => exact absurd rfl e | tail _ h => exact h
        have ih := countP_less l p i hm hp
        have : (x == i) = false := beq_eq_false_iff_ne.2 e
        simp only [this, Bool.not_false, Bool.and_true]
        omega

/-- THE LAW: a region that draws its order is walked in the order of its text. -/
theorem wp_region_told {Q : Exit → Act → World → Prop} {id : Nat} {l : List Oper} {a : Act} {w : World} (S : World → Prop) (hm : P.follows .mixedOrders = true) (hseq : seqOk l.toArray = true) (hS : S w.drew)
    (h : Told P l.toArray S l a fun a' => ∀ w', S w' → Q .normal a' w') : (Code.region id l.toArray true).wp P Q a w := by
  obtain ⟨v, A, h0, h1, h2⟩ := Told.values l a h
  subst h0
  have hs := SeqOk.of hseq
  refine wp_region_any hm (told_any (v := v) (A := A) hs (fun i o ho => h1 i o (by simpa using ho)) (by simpa using h2) _ _ _ _ (by simp) ?_ (fun j u hu hj => ?_) (Upto.start v _ fun j hj => ?_) hS)
  · refine Nat.le_trans List.countP_le_length (by simp)
  · have hj' : j < l.length := by simpa using lt_of_get hu
    simp [Array.getD, hj'] at hj
  · have hj' : j < l.length := by simpa using hj
    simp [Array.getD, hj']

/-! The steps. -/
theorem told_skip {o : Oper} {os : List Oper} {a : Act} {K : Act → Prop} (d : Option Tmp) (hd : o.dst = d) (hw : Region.wanted o (yielded ops a.tmps) = false) (h : Told P ops S os (a.put d undef) K) : Told P ops S (o :: os) a K := by
  subst hd
  exact ⟨undef, .inr ⟨hw, rfl⟩, h⟩

theorem told_pure {o : Oper} {os : List Oper} {a : Act} {K : Act → Prop} (d : Option Tmp) (v : Value) (hd : o.dst = d) (hw : Region.wanted o (yielded ops a.tmps) = true) (hv : ∀ w, (execOp a.eval o).run P w = .ok (.value v) w)
    (h : Told P ops S os (a.put d v) K) : Told P ops S (o :: os) a K := by
  subst hd
  exact ⟨v, .inl ⟨hw, fun w hS => by refine ⟨?_⟩; unfold givesR; rw [hv w]; exact ⟨rfl, hS⟩⟩, h⟩

/-- The value as the model reckons it, and what it is. -/
theorem told_is {o : Oper} {os : List Oper} {a : Act} {K : Act → Prop} (d : Option Tmp) (u v : Value) (e : u = v) (hd : o.dst = d) (hw : Region.wanted o (yielded ops a.tmps) = true) (hv : ∀ w, (execOp a.eval o).run P w = .ok (.value u) w)
    (h : Told P ops S os (a.put d v) K) : Told P ops S (o :: os) a K := by
  subst e
  exact told_pure d u hd hw hv h

theorem told_load {o : Oper} {os : List Oper} {a : Act} {K : Act → Prop} (d : Option Tmp) (p : Addr) (v : Value) (hd : o.dst = d) (hw : Region.wanted o (yielded ops a.tmps) = true)
    (hv : ∀ w, (execOp a.eval o).run P w = ((load p) >>= fun u => pure (Next.value u) : Sem Next).run P w) (hc : ∀ w, S w → w.cell? p = some v) (h : Told P ops S os (a.put d v) K) : Told P ops S (o :: os) a K := by
  subst hd
  exact ⟨v, .inl ⟨hw, fun w hS => by refine ⟨?_⟩; unfold givesR; rw [hv w, Sem.run_bind, run_load, hc w hS]; exact ⟨rfl, hS⟩⟩, h⟩

theorem told_run {o : Oper} {os : List Oper} {a : Act} {K : Act → Prop} (d : Option Tmp) (v : Value) (x : Sem Value) (hd : o.dst = d) (hw : Region.wanted o (yielded ops a.tmps) = true)
    (hv : ∀ w, (execOp a.eval o).run P w = (x >>= fun u => pure (Next.value u) : Sem Next).run P w) (hc : ∀ w, S w → x.run P w = .ok v w) (h : Told P ops S os (a.put d v) K) : Told P ops S (o :: os) a K := by
  subst hd
  exact ⟨v, .inl ⟨hw, fun w hS => by refine ⟨?_⟩; unfold givesR; rw [hv w, Sem.run_bind, hc w hS]; exact ⟨rfl, hS⟩⟩, h⟩

theorem told_loads {o : Oper} {os : List Oper} {a : Act} {K : Act → Prop} (d : Option Tmp) (p : Addr) (cs : List Value) (hd : o.dst = d) (hw : Region.wanted o (yielded ops a.tmps) = true)
    (hv : ∀ w, (execOp a.eval o).run P w = ((loadCells p cs.length) >>= fun u => pure (Next.value (.agg u)) : Sem Next).run P w) (hc : ∀ w, S w → ∀ j u, cs[j]? = some u → w.cell? (p.add j) = some u) (h : Told P ops S os (a.put d (.agg cs.toArray)) K) : Told P ops S (o :: os) a K := by
  subst hd
  exact ⟨_, .inl ⟨hw, fun w hS => by refine ⟨?_⟩; unfold givesR; rw [hv w, Sem.run_bind, run_loadCells_list w p cs (hc w hS)]; exact ⟨rfl, hS⟩⟩, h⟩

theorem told_call {o : Oper} {os : List Oper} {a : Act} {K : Act → Prop} (d : Option Tmp) (v : Value) (f : FuncId) (args : Array Value) (hd : o.dst = d) (hw : Region.wanted o (yielded ops a.tmps) = true)
    (hv : ∀ w, (execOp a.eval o).run P w = .ok (.enter f args) w) (hc : ∀ w, S w → Calls P f args w fun e w' => e = .returned v ∧ S w') (h : Told P ops S os (a.put d v) K) : Told P ops S (o :: os) a K := by
  subst hd
  exact ⟨v, .inl ⟨hw, fun w hS => by refine ⟨?_⟩; unfold givesR; rw [hv w]; exact (hc w hS).mono fun e w' ⟨he, hs⟩ => ⟨v, he, rfl, hs⟩⟩, h⟩

/-- What is read in a world that has all that the first one had. -/
theorem atB {W w : World} {p : Addr} {v : Value} (hS : Below W.heap.size W w) (h : W.cell? p = some v) : w.cell? p = some v := (hS.cell (World.block_lt_of_cell? W _ h)).trans h

theorem same_S {f : FuncId} {args : Array Value} {w : World} {v : Value} (h : Calls P f args w fun e w' => e = .returned v ∧ w' = w) (hS : S w) : Calls P f args w fun e w' => e = .returned v ∧ S w' :=
  h.mono fun e w' ⟨he, hw⟩ => ⟨he, by rw [hw]; exact hS⟩

theorem below_S {f : FuncId} {args : Array Value} {W w : World} {v : Value} (h : Calls P f args w fun e w' => e = .returned v ∧ Below w.heap.size w w') (hS : Below W.heap.size W w) : Calls P f args w fun e w' => e = .returned v ∧ Below W.heap.size W w' :=
  h.mono fun e w' ⟨he, hb⟩ => ⟨he, hS.trans (hb.mono hS.size)⟩

theorem told_nil {a : Act} {K : Act → Prop} (h : K a) : Told P ops S [] a K := h
end told

end Go.Proofs.YtmknplpcpmkhiaaGreat
