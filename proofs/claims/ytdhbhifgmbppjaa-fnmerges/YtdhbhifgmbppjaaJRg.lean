/- A region that draws its order, each of whose operations yields one value whatever came before it: all orders end alike. -/
import Derived.Test.YtdhbhifgmbppjaaOwnLaws
import Derived.Deep.RegionHeld3
import Derived.Below
import Derived.Test.YtdhbhifgmbppjaaHaBase
import Derived.Deep.Cut
import Derived.Deep.CutBlock
namespace Go.Proofs.Ytdhbhifgmbppjaa
open Go.RowKit
set_option linter.unusedVariables false

section told
variable {P : Program} {ops : Array Oper} {S : World → Prop}

/-- What an operation gives, whoever asks (a structure: so that Lean's elaborator does not run it). -/
def givesR (P : Program) (o : Oper) (ρ : Operand → Value) (w : World) (K : Value → World → Prop) : Prop :=
  match (execOp ρ o).run P w with
  | .ok (.value v) w' => K v w'
  | .ok .skip w' => K undef w'
  | .ok (.enter f args) w' => Calls P f args w' fun e w'' => ∃ v, e = .returned v ∧ K v w''
  | _ => False

structure gives (P : Program) (o : Oper) (ρ : Operand → Value) (w : World) (K : Value → World → Prop) : Prop where
  out : givesR P o ρ w K

theorem gives.wp {o : Oper} {a : Act} {w : World} {K : Act → World → Prop} {Q : Exit → Act → World → Prop} {R : Value → World → Prop} (h : gives P o a.eval w R)
    (hk : ∀ v w', R v w' → K (a.put o.dst v) w') : o.wp P a w K Q := by
  replace h := h.out
  unfold givesR at h
  unfold Oper.wp
  generalize (execOp a.eval o).run P w = r at *
  cases r with
  | ok n w' =>
    cases n <;> simp only [Oper.upon] <;> first
      | exact h.elim
      | exact hk _ _ h
      | exact Calls.mono h (fun e w'' ⟨v, he, hv⟩ => by subst he; exact hk _ _ hv)
  | halt x w' => exact h.elim

/-- In this frame the operation yields 'v' in every world that meets S, and S stays; or it isn't wanted. -/
def Tell (P : Program) (ops : Array Oper) (S : World → Prop) (o : Oper) (v : Value) (a : Act) : Prop :=
  (Region.wanted o (yielded ops a.tmps) = true ∧ ∀ w, S w → gives P o a.eval w fun u w' => u = v ∧ S w') ∨ (Region.wanted o (yielded ops a.tmps) = false ∧ v = undef)

def Told (P : Program) (ops : Array Oper) (S : World → Prop) : List Oper → Act → (Act → Prop) → Prop
  | [], a, K => K a
  | o :: os, a, K => ∃ v, Tell P ops S o v a ∧ Told P ops S os (a.put o.dst v) K

/-- What is asked of a region's text. -/
def seqOk (ops : Array Oper) : Bool :=
  Region.noSelect ops && (List.range ops.size).all fun i => match ops[i]? with
    | none => true
    | some o => (o.after.all fun e => !Region.binds .any e || decide (e.on < i)) && (List.range ops.size).all fun j => i == j || match ops[j]? with
      | none => true
      | some u => match u.dst with
        | none => true
        | some d => o.dst != some d && (!(o.looksAt ops).contains d || ((decide (j < i) && o.after.any fun e => Region.binds .any e && e.on == j) || (decide (i < j) && u.after.any fun e => Region.binds .any e && e.on == i)))

structure SeqOk (ops : Array Oper) : Prop where
  nosel : Region.noSelect ops = true
  back : ∀ (i : Nat) (o : Oper), ops[i]? = some o → ∀ e ∈ o.after, Region.binds .any e = true → e.on < i
  dst : ∀ (i j : Nat) (o u : Oper) (d : Tmp), ops[i]? = some o → ops[j]? = some u → i ≠ j → u.dst = some d → o.dst ≠ some d
  look : ∀ (i j : Nat) (o u : Oper) (d : Tmp), ops[i]? = some o → ops[j]? = some u → i ≠ j → u.dst = some d → d ∈ o.looksAt ops → (j < i ∧ ∃ e ∈ o.after, Region.binds .any e = true ∧ e.on = j) ∨ (i < j ∧ ∃ e ∈ u.after, Region.binds .any e = true ∧ e.on = i)

theorem lt_of_get {i : Nat} {o : Oper} (h : ops[i]? = some o) : i < ops.size := (Array.getElem?_eq_some_iff.1 h).1

theorem SeqOk.of (h : seqOk ops = true) : SeqOk ops := by
  unfold seqOk at h
  rw [Bool.and_eq_true, List.all_eq_true] at h
  obtain ⟨h1, h2⟩ := h
  have key : ∀ (i : Nat) (o : Oper), ops[i]? = some o → (∀ e ∈ o.after, Region.binds .any e = true → e.on < i) ∧ ∀ (j : Nat) (u : Oper) (d : Tmp), ops[j]? = some u → i ≠ j → u.dst = some d → o.dst ≠ some d ∧ (d ∈ o.looksAt ops → (j < i ∧ ∃ e ∈ o.after, Region.binds .any e = true ∧ e.on = j) ∨ (i < j ∧ ∃ e ∈ u.after, Region.binds .any e = true ∧ e.on = i)) := by
    intro i o ho
    have h3 := h2 i (List.mem_range.2 (lt_of_get ho))
    rw [ho] at h3
    simp only [Bool.and_eq_true, List.all_eq_true] at h3
    obtain ⟨h4, h5⟩ := h3
    refine ⟨fun e he hb => ?_, fun j u d hu hij hd => ?_⟩
    · have := Array.all_eq_true_iff_forall_mem.1 h4 e he
      simpa [hb] using this
    · have h6 := h5 j (List.mem_range.2 (lt_of_get hu))
      rw [hu] at h6
      simp only [hd, Bool.or_eq_true, beq_iff_eq, Bool.and_eq_true, bne_iff_ne, Bool.not_eq_true', decide_eq_true_eq] at h6
      rcases h6 with h6 | ⟨h6, h7⟩
      · exact absurd h6 hij
      · refine ⟨h6, fun hl => ?_⟩
        rcases h7 with h7 | ⟨h7, h8⟩ | ⟨h7, h8⟩
        · rw [List.contains_eq_mem] at h7
          simp [hl] at h7
        · obtain ⟨e, he, hb⟩ := Array.any_eq_true'.1 h8
          simp only [Bool.and_eq_true, beq_iff_eq] at hb
          exact .inl ⟨h7, e, he, hb.1, hb.2⟩
        · obtain ⟨e, he, hb⟩ := Array.any_eq_true'.1 h8
          simp only [Bool.and_eq_true, beq_iff_eq] at hb
          exact .inr ⟨h7, e, he, hb.1, hb.2⟩
  exact ⟨h1, fun i o ho => (key i o ho).1, fun i j o u d ho hu hij hd => ((key i o ho).2 j u d hu hij hd).1, fun i j o u d ho hu hij hd => ((key i o ho).2 j u d hu hij hd).2⟩

/-- A frame in which just those operations have come up that 'f' says. -/
structure Upto (ops : Array Oper) (v : Nat → Value) (a : Act) (f : Nat → Bool) (b : Act) : Prop where
  defers : b.defers = a.defers
  size : b.tmps.size = a.tmps.size
  put : ∀ (j : Nat) (o : Oper) (d : Tmp), ops[j]? = some o → o.dst = some d → b.tmps[d]? = if f j then (a.tmps[d]?).map fun _ => v j else a.tmps[d]?
  off : ∀ d : Tmp, (∀ (j : Nat) (o : Oper), ops[j]? = some o → o.dst ≠ some d) → b.tmps[d]? = a.tmps[d]?

theorem Upto.more {v : Nat → Value} {a b : Act} {f g : Nat → Bool} (hs : SeqOk ops) (h : Upto ops v a f b) {i : Nat} {o : Oper} (ho : ops[i]? = some o)
    (hg : ∀ j, j < ops.size → g j = (f j || j == i)) : Upto ops v a g (b.put o.dst (v i)) := by
  cases hd : o.dst with
  | none =>
    refine ⟨h.defers, h.size, fun j u d hu hud => ?_, h.off⟩
    have hne : j ≠ i := fun e => by subst e; rw [ho] at hu; cases hu; rw [hd] at hud; cases hud
    rw [hg j (lt_of_get hu)]
    simp only [beq_eq_false_iff_ne.2 hne, Bool.or_false]
    exact h.put j u d hu hud
  | some d0 =>
    refine ⟨h.defers, by simp [Act.put, h.size], fun j u d hu hud => ?_, fun d hno => ?_⟩
    · rw [hg j (lt_of_get hu)]
      by_cases e : j = i
      · subst e
        rw [ho] at hu
        cases hu
        rw [hd] at hud
        cases hud
        simp only [Act.put, beq_self_eq_true, Bool.or_true, if_true]
        rw [Array.getElem?_setIfInBounds_self]
        by_cases hlt : d0 < b.tmps.size
        · rw [if_pos hlt]
          have : d0 < a.tmps.size := by rw [← h.size]; exact hlt
          simp [this]
        · rw [if_neg hlt]
          have hn : a.tmps.size ≤ d0 := by rw [← h.size]; exact Nat.le_of_not_lt hlt
          rw [Array.getElem?_eq_none hn]
          rfl
      · have hne : d0 ≠ d := fun e' => hs.dst j i u o d0 hu ho e hd (by rw [hud, e'])
        simp only [Act.put, beq_eq_false_iff_ne.2 e, Bool.or_false]
        rw [Array.getElem?_setIfInBounds_ne hne]
        exact h.put j u d hu hud
    · have hne : d0 ≠ d := fun e' => hno i o ho (by rw [hd, e'])
      simp only [Act.put]
      rw [Array.getElem?_setIfInBounds_ne hne]
      exact h.off d hno

theorem Upto.start (v : Nat → Value) (a : Act) {f : Nat → Bool} (hf : ∀ j, j < ops.size → f j = false) : Upto ops v a f a :=
  ⟨rfl, rfl, fun j o d ho _ => by rw [hf j (lt_of_get ho)]; rfl, fun _ _ => rfl⟩

/-- Two frames that are alike where the operation looks. -/
theorem Upto.same {v : Nat → Value} {a b c : Act} {f : Nat → Bool} (hs : SeqOk ops) {i : Nat} {o : Oper} (ho : ops[i]? = some o) (hb : Upto ops v a f b) (hc : Upto ops v a (fun j => decide (j < i)) c)
    (hfi : f i = false) (haft : ∀ e ∈ o.after, Region.binds .any e = true → f e.on = true) (hcl : ∀ (j : Nat) (u : Oper), ops[j]? = some u → f j = true → ∀ e ∈ u.after, Region.binds .any e = true → f e.on = true) : ∀ t ∈ o.looksAt ops, b.tmps[t]? = c.tmps[t]? := by
  intro t ht
  by_cases hx : ∃ (j : Nat) (u : Oper), ops[j]? = some u ∧ u.dst = some t
  · obtain ⟨j, u, hu, hd⟩ := hx
    rw [hb.put j u t hu hd, hc.put j u t hu hd]
    by_cases e : i = j
    · subst e
      simp [hfi]
    · rcases hs.look i j o u t ho hu e hd ht with ⟨hlt, e', he', hbd, hon⟩ | ⟨hlt, e', he', hbd, hon⟩
      · have := haft e' he' hbd
        rw [hon] at this
        simp [this, hlt]
      · have hfj : f j = false := by
          rcases hj : f j with _ | _
          · rfl
          · have := hcl j u hu hj e' he' hbd
            rw [hon, hfi] at this
            cases this
        have : ¬ j < i := by omega
        simp [this, hfj]
  · have hno : ∀ (j : Nat) (u : Oper), ops[j]? = some u → u.dst ≠ some t := fun j u hu hd => hx ⟨j, u, hu, hd⟩
    rw [hb.off t hno, hc.off t hno]

theorem Tell.move {o : Oper} {v : Value} {b c : Act} (hsel : ∀ cs b, o.op ≠ .select cs b) (hl : ∀ t ∈ o.looksAt ops, b.tmps[t]? = c.tmps[t]?) (h : Tell P ops S o v c) : Tell P ops S o v b := by
  have he : execOp b.eval o = execOp c.eval o := execOp_congr o hsel fun x hx => by
    cases x with
    | tmp t =>
      have := hl t (List.mem_append_left _ (List.mem_filterMap.2 ⟨.tmp t, by simpa using hx, rfl⟩))
      simp only [Act.eval, Array.getD_eq_getD_getElem?, this]
    | const _ => rfl
    | global _ => rfl
    | func _ => rfl
  have hw : Region.wanted o (yielded ops b.tmps) = Region.wanted o (yielded ops c.tmps) := by
    unfold Region.wanted
    cases hg : o.guard with
    | none => rfl
    | some gw =>
      obtain ⟨g, want⟩ := gw
      have hy : yielded ops b.tmps g = yielded ops c.tmps g := by
        unfold yielded
        cases ht : (ops[g]?).bind (·.dst) with
        | none => rfl
        | some t =>
          have := hl t (by unfold Oper.looksAt; rw [hg]; simp [ht])
          simp only [Option.bind_some, this]
      simp only [hy]
  unfold Tell at *
  rw [hw]
  refine h.imp (fun ⟨h1, h2⟩ => ⟨h1, fun w hS => ?_⟩) id
  have := (h2 w hS).out
  refine ⟨?_⟩
  unfold givesR at *
  rw [he]
  exact this

theorem Told.values {K : Act → Prop} : ∀ (l : List Oper) (a : Act), Told P ops S l a K → ∃ v : Nat → Value, ∃ A : Nat → Act, A 0 = a ∧ (∀ (i : Nat) (o : Oper), l[i]? = some o → Tell P ops S o (v i) (A i) ∧ A (i + 1) = (A i).put o.dst (v i)) ∧ K (A l.length)
  | [], a, h => ⟨fun _ => undef, fun _ => a, rfl, fun i o ho => by simp at ho, h⟩
  | o :: os, a, ⟨v0, ht, h⟩ => by
    obtain ⟨v, A, h0, h1, h2⟩ := Told.values os _ h
    refine ⟨fun i => match i with | 0 => v0 | i + 1 => v i, fun i => match i with | 0 => a | i + 1 => A i, rfl, fun i u hu => ?_, h2⟩
    cases i with
    | zero =>
      simp only [List.getElem?_cons_zero, Option.some.injEq] at hu
      subst hu
      exact ⟨ht, h0⟩
    | succ i => exact h1 i u (by simpa using hu)

theorem upto_A {v : Nat → Value} {A : Nat → Act} (hs : SeqOk ops) (h1 : ∀ (i : Nat) (o : Oper), ops[i]? = some o → A (i + 1) = (A i).put o.dst (v i)) : ∀ i, i ≤ ops.size → Upto ops v (A 0) (fun j => decide (j < i)) (A i)
  | 0, _ => Upto.start v _ (fun j _ => by simp)
  | i + 1, hi => by
    have ho : ops[i]? = some ops[i] := Array.getElem?_eq_getElem (by omega)
    rw [h1 i _ ho]
    refine (upto_A hs h1 i (by omega)).more hs ho fun j _ => ?_
    by_cases e : j = i
    · subst e; simp
    · simp only [beq_eq_false_iff_ne.2 e, Bool.or_false, decide_eq_decide]; omega

theorem told_any {Q : Exit → Act → World → Prop} {v : Nat → Value} {A : Nat → Act} (hs : SeqOk ops) (h1 : ∀ (i : Nat) (o : Oper), ops[i]? = some o → Tell P ops S o (v i) (A i) ∧ A (i + 1) = (A i).put o.dst (v i))
    (hQ : ∀ w, S w → Q .normal (A ops.size) w) : ∀ (fuel : Nat) (listed : Array Bool) (b : Act) (w : World), listed.size = ops.size → (List.range ops.size).countP (fun j => !listed.getD j true) ≤ fuel →
      (∀ (j : Nat) (u : Oper), ops[j]? = some u → listed.getD j true = true → ∀ e ∈ u.after, Region.binds .any e = true → listed.getD e.on true = true) → Upto ops v (A 0) (fun j => listed.getD j true) b → S w → wpAny P .any ops Q fuel listed b w := by
  have hfin : ∀ (listed : Array Bool) (b : Act) (w : World), Region.ready .any ops listed = [] → listed.size = ops.size → Upto ops v (A 0) (fun j => listed.getD j true) b → S w → Q .normal b w := by
    intro listed b w hr hsz hb hS
    have hall : ∀ j, j < ops.size → listed.getD j true = true := by
      intro j
      induction j using Nat.strongRecOn with
      | ind j ih =>
        intro hj
        rcases hlj : listed.getD j true with _ | _
        · exfalso
          have ho : ops[j]? = some ops[j] := Array.getElem?_eq_getElem hj
          have : j ∈ Region.ready .any ops listed := mem_ready.2 ⟨hlj, _, ho, fun e he hbd => by
            have hlt := hs.back j _ ho e he hbd
            have := ih e.on hlt (by omega)
            have hlt' : e.on < listed.size := by omega
            simpa [Array.getD, hlt'] using this⟩
          rw [hr] at this
          cases this
        · rfl
    have hA := upto_A (v := v) (A := A) hs (fun i o ho => (h1 i o ho).2) ops.size (Nat.le_refl _)
    have : b = A ops.size := by
      have ht : b.tmps = (A ops.size).tmps := by
        apply Array.ext_getElem?
        intro d
        by_cases hx : ∃ (j : Nat) (u : Oper), ops[j]? = some u ∧ u.dst = some d
        · obtain ⟨j, u, hu, hd⟩ := hx
          rw [hb.put j u d hu hd, hA.put j u d hu hd]
          have := hall j (lt_of_get hu)
          simp only [this, if_true]
          rw [if_pos (by simpa using lt_of_get hu)]
        · have hno : ∀ (j : Nat) (u : Oper), ops[j]? = some u → u.dst ≠ some d := fun j u hu hd => hx ⟨j, u, hu, hd⟩
          rw [hb.off d hno, hA.off d hno]
      have hd : b.defers = (A ops.size).defers := by rw [hb.defers, hA.defers]
      cases b
      cases hAn : A ops.size
      simp_all
    rw [this]
    exact hQ w hS
  intro fuel
  induction fuel with
  | zero =>
    intro listed b w hsz hc hcl hb hS
    have hr : Region.ready .any ops listed = [] := by
      rw [List.eq_nil_iff_forall_not_mem]
      intro j hj
      obtain ⟨h0, o, ho, _⟩ := mem_ready.1 hj
      have : 0 < (List.range ops.size).countP (fun j => !listed.getD j true) := List.countP_pos_iff.2 ⟨j, List.mem_range.2 (lt_of_get ho), by rw [h0]; rfl⟩
      omega
    exact ⟨hr, hfin listed b w hr hsz hb hS⟩
  | succ fuel ih =>
    intro listed b w hsz hc hcl hb hS
    refine ⟨fun hr => hfin listed b w hr hsz hb hS, fun i hi => ?_⟩
    obtain ⟨h0, o, ho, haft⟩ := mem_ready.1 hi
    have hil := lt_of_get ho
    obtain ⟨ht, hA1⟩ := h1 i o ho
    have hAi := upto_A (v := v) (A := A) hs (fun i o ho => (h1 i o ho).2) i (by omega)
    have hl := Upto.same hs ho hb hAi h0 (fun e he hbd => by
      have h2 := haft e he hbd
      have hlt : e.on < listed.size := by have := hs.back i o ho e he hbd; omega
      simpa [Array.getD, hlt] using h2) hcl
    have ht' := Tell.move (fun cs b' => Region.noSelect_spec hs.nosel i o cs b' ho) hl ht
    have hnext : ∀ u w', u = v i → S w' → wpAny P .any ops Q fuel (listed.setIfInBounds i true) (b.put o.dst u) w' := by
      intro u w' hu hS'
      subst hu
      refine ih _ _ _ (by simpa using hsz) ?_ (fun j u hu hj e he hbd => ?_) (hb.more hs ho fun j hj => ?_) hS'
      · have hlt : (List.range ops.size).countP (fun j => !(listed.setIfInBounds i true).getD j true) < (List.range ops.size).countP (fun j => !listed.getD j true) := by
          have e1 : ∀ j ∈ List.range ops.size, (!(listed.setIfInBounds i true).getD j true) = ((!listed.getD j true) && !(j == i)) := fun j hj => by
            by_cases e : i = j
            · subst e
              have : i < listed.size := by omega
              simp [Array.getD, this]
            · rw [getD_set_ne true e, beq_eq_false_iff_ne.2 (Ne.symm e)]
              simp
          rw [List.countP_congr (fun j hj => by rw [e1 j hj])]
          exact countP_less (List.range ops.size) _ i (List.mem_range.2 hil) (by rw [h0]; rfl)
        omega
      · have h3 : listed.getD e.on true = true := by
          by_cases ei : i = j
          · subst ei
            have huo : u = o := by rw [ho] at hu; exact (Option.some.inj hu).symm
            subst huo
            have h2 := haft e he hbd
            have hlt : e.on < listed.size := by have := hs.back i u ho e he hbd; omega
            simpa [Array.getD, hlt] using h2
          · rw [getD_set_ne true ei] at hj
            exact hcl j u hu hj e he hbd
        by_cases ei : i = e.on
        · have : e.on < listed.size := by omega
          subst ei
          simp [Array.getD, this]
        · rw [getD_set_ne true ei]
          exact h3
      · by_cases e : i = j
        · subst e
          have : i < listed.size := by omega
          simp [Array.getD, this]
        · rw [getD_set_ne true e, beq_eq_false_iff_ne.2 (Ne.symm e)]
          simp
    unfold wpOp
    simp only [ho]
    rcases ht' with ⟨hw, hg⟩ | ⟨hw, hv⟩
    · rw [if_pos hw]
      exact .inl ((hg w hS).wp fun u w' ⟨hu, hS'⟩ => hnext u w' hu hS')
    · rw [if_neg (by rw [hw]; simp)]
      exact hnext _ w hv.symm hS
where
  countP_less : ∀ (l : List Nat) (p : Nat → Bool) (i : Nat), i ∈ l → p i = true → l.countP (fun j => p j && !(j == i)) < l.countP p
    | [], _, _, h, _ => by cases h
    | x :: l, p, i, h, hp => by
      have hle : l.countP (fun j => p j && !(j == i)) ≤ l.countP p := List.countP_mono_left fun j _ hj => by
        rw [Bool.and_eq_true] at hj; exact hj.1
      rw [List.countP_cons, List.countP_cons]
      by_cases e : x = i
      · subst e
        simp [hp]
        omega
      · have hm : i ∈ l := by cases h with | head => exact absurd rfl e | tail _ h => exact h
        have ih := countP_less l p i hm hp
        have : (x == i) = false := beq_eq_false_iff_ne.2 e
        simp only [this, Bool.not_false, Bool.and_true]
        omega

/-- THE LAW: a region that draws its order is walked in the order of its text. -/
theorem wp_region_told {Q : Exit → Act → World → Prop} {id : Nat} {l : List Oper} {a : Act} {w : World} (S : World → Prop) (hm : P.follows .mixedOrders = true) (hseq : seqOk l.toArray = true) (hS : S w.drew)
    (h : Told P l.toArray S l a fun a' => ∀ w', S w' → Q .normal a' w') : (Code.region id l.toArray true).wp P Q a w := by
  obtain ⟨v, A, h0, h1, h2⟩ := Told.values l a h
  subst h0
  have hs := SeqOk.of hseq
  refine wp_region_any hm (told_any (v := v) (A := A) hs (fun i o ho => h1 i o (by simpa using ho)) (by simpa using h2) _ _ _ _ (by simp) ?_ (fun j u hu hj => ?_) (Upto.start v _ fun j hj => ?_) hS)
  · refine Nat.le_trans List.countP_le_length (by simp)
  · have hj' : j < l.length := by simpa using lt_of_get hu
    simp [Array.getD, hj'] at hj
  · have hj' : j < l.length := by simpa using hj
    simp [Array.getD, hj']

/-! The steps. -/
theorem told_skip {o : Oper} {os : List Oper} {a : Act} {K : Act → Prop} (d : Option Tmp) (hd : o.dst = d) (hw : Region.wanted o (yielded ops a.tmps) = false) (h : Told P ops S os (a.put d undef) K) : Told P ops S (o :: os) a K := by
  subst hd
  exact ⟨undef, .inr ⟨hw, rfl⟩, h⟩

theorem told_pure {o : Oper} {os : List Oper} {a : Act} {K : Act → Prop} (d : Option Tmp) (v : Value) (hd : o.dst = d) (hw : Region.wanted o (yielded ops a.tmps) = true) (hv : ∀ w, (execOp a.eval o).run P w = .ok (.value v) w)
    (h : Told P ops S os (a.put d v) K) : Told P ops S (o :: os) a K := by
  subst hd
  exact ⟨v, .inl ⟨hw, fun w hS => by refine ⟨?_⟩; unfold givesR; rw [hv w]; exact ⟨rfl, hS⟩⟩, h⟩

/-- The value as the model reckons it, and what it is. -/
theorem told_is {o : Oper} {os : List Oper} {a : Act} {K : Act → Prop} (d : Option Tmp) (u v : Value) (e : u = v) (hd : o.dst = d) (hw : Region.wanted o (yielded ops a.tmps) = true) (hv : ∀ w, (execOp a.eval o).run P w = .ok (.value u) w)
    (h : Told P ops S os (a.put d v) K) : Told P ops S (o :: os) a K := by
  subst e
  exact told_pure d u hd hw hv h

theorem told_load {o : Oper} {os : List Oper} {a : Act} {K : Act → Prop} (d : Option Tmp) (p : Addr) (v : Value) (hd : o.dst = d) (hw : Region.wanted o (yielded ops a.tmps) = true)
    (hv : ∀ w, (execOp a.eval o).run P w = ((load p) >>= fun u => pure (Next.value u) : Sem Next).run P w) (hc : ∀ w, S w → w.cell? p = some v) (h : Told P ops S os (a.put d v) K) : Told P ops S (o :: os) a K := by
  subst hd
  exact ⟨v, .inl ⟨hw, fun w hS => by refine ⟨?_⟩; unfold givesR; rw [hv w, Sem.run_bind, run_load, hc w hS]; exact ⟨rfl, hS⟩⟩, h⟩

theorem told_run {o : Oper} {os : List Oper} {a : Act} {K : Act → Prop} (d : Option Tmp) (v : Value) (x : Sem Value) (hd : o.dst = d) (hw : Region.wanted o (yielded ops a.tmps) = true)
    (hv : ∀ w, (execOp a.eval o).run P w = (x >>= fun u => pure (Next.value u) : Sem Next).run P w) (hc : ∀ w, S w → x.run P w = .ok v w) (h : Told P ops S os (a.put d v) K) : Told P ops S (o :: os) a K := by
  subst hd
  exact ⟨v, .inl ⟨hw, fun w hS => by refine ⟨?_⟩; unfold givesR; rw [hv w, Sem.run_bind, hc w hS]; exact ⟨rfl, hS⟩⟩, h⟩

theorem told_loads {o : Oper} {os : List Oper} {a : Act} {K : Act → Prop} (d : Option Tmp) (p : Addr) (cs : List Value) (hd : o.dst = d) (hw : Region.wanted o (yielded ops a.tmps) = true)
    (hv : ∀ w, (execOp a.eval o).run P w = ((loadCells p cs.length) >>= fun u => pure (Next.value (.agg u)) : Sem Next).run P w) (hc : ∀ w, S w → ∀ j u, cs[j]? = some u → w.cell? (p.add j) = some u) (h : Told P ops S os (a.put d (.agg cs.toArray)) K) : Told P ops S (o :: os) a K := by
  subst hd
  exact ⟨_, .inl ⟨hw, fun w hS => by refine ⟨?_⟩; unfold givesR; rw [hv w, Sem.run_bind, run_loadCells_list w p cs (hc w hS)]; exact ⟨rfl, hS⟩⟩, h⟩

theorem told_call {o : Oper} {os : List Oper} {a : Act} {K : Act → Prop} (d : Option Tmp) (v : Value) (f : FuncId) (args : Array Value) (hd : o.dst = d) (hw : Region.wanted o (yielded ops a.tmps) = true)
    (hv : ∀ w, (execOp a.eval o).run P w = .ok (.enter f args) w) (hc : ∀ w, S w → Calls P f args w fun e w' => e = .returned v ∧ S w') (h : Told P ops S os (a.put d v) K) : Told P ops S (o :: os) a K := by
  subst hd
  exact ⟨v, .inl ⟨hw, fun w hS => by refine ⟨?_⟩; unfold givesR; rw [hv w]; exact (hc w hS).mono fun e w' ⟨he, hs⟩ => ⟨v, he, rfl, hs⟩⟩, h⟩

/-- What is read in a world that has all that the first one had. -/
theorem atB {W w : World} {p : Addr} {v : Value} (hS : Below W.heap.size W w) (h : W.cell? p = some v) : w.cell? p = some v := (hS.cell (World.block_lt_of_cell? W _ h)).trans h

theorem same_S {f : FuncId} {args : Array Value} {w : World} {v : Value} (h : Calls P f args w fun e w' => e = .returned v ∧ w' = w) (hS : S w) : Calls P f args w fun e w' => e = .returned v ∧ S w' :=
  h.mono fun e w' ⟨he, hw⟩ => ⟨he, by rw [hw]; exact hS⟩

theorem below_S {f : FuncId} {args : Array Value} {W w : World} {v : Value} (h : Calls P f args w fun e w' => e = .returned v ∧ Below w.heap.size w w') (hS : Below W.heap.size W w) : Calls P f args w fun e w' => e = .returned v ∧ Below W.heap.size W w' :=
  h.mono fun e w' ⟨he, hb⟩ => ⟨he, hS.trans (hb.mono hS.size)⟩

theorem told_nil {a : Act} {K : Act → Prop} (h : K a) : Told P ops S [] a K := h
end told

end Go.Proofs.Ytdhbhifgmbppjaa

/- A region that draws its order and writes: what its reads find is held until the operation that waits for them has come up. -/
namespace Go.Proofs.Ytdhbhifgmbppjaa
open Go.RowKit
set_option linter.unusedVariables false

section held
variable {P : Program} {ops : Array Oper} {Q : Exit → Act → World → Prop}

/-- What holds until operation 'g' has come up. -/
structure Fact where
  g : Nat
  Y : World → Prop

def Held (fs : List Fact) (listed : Array Bool) (w : World) : Prop := ∀ f ∈ fs, listed.getD f.g false = true ∨ f.Y w

/-- What came up has all that it waits for behind it. -/
def Closed (ops : Array Oper) (listed : Array Bool) : Prop := listed.size = ops.size ∧ ∀ (i : Nat) (o : Oper), ops[i]? = some o → listed.getD i true = true → ∀ e ∈ o.after, Region.binds .any e = true → listed.getD e.on false = true

def wpAnyL (P : Program) (ops : Array Oper) (Q : Exit → Act → World → Prop) (fs : List Fact) : Nat → Array Bool → Act → World → Prop
  | 0, listed, a, w => Region.ready .any ops listed = [] ∧ Q .normal a w
  | fuel + 1, listed, a, w =>
    (Region.ready .any ops listed = [] → Q .normal a w) ∧
    ∀ i ∈ Region.ready .any ops listed, wpOp P ops Q i (fun a' w' => Held fs (listed.setIfInBounds i true) w' ∧ wpAnyL P ops Q fs fuel (listed.setIfInBounds i true) a' w') a w

theorem wpAny_of_L {fs : List Fact} : ∀ (fuel : Nat) (listed : Array Bool) (a : Act) (w : World), wpAnyL P ops Q fs fuel listed a w → wpAny P .any ops Q fuel listed a w
  | 0, _, _, _, h => h
  | fuel + 1, _, _, _, h => ⟨h.1, fun i hi => wpOp_mono (fun a' w' h' => wpAny_of_L fuel _ a' w' h'.2) (h.2 i hi)⟩

theorem getD_set_self {listed : Array Bool} {i : Nat} (h : i < listed.size) (d : Bool) : (listed.setIfInBounds i true).getD i d = true := by simp [Array.getD, h]

theorem Held.more {fs : List Fact} {listed : Array Bool} {w : World} (h : Held fs listed w) (i : Nat) : Held fs (listed.setIfInBounds i true) w := fun f hf => (h f hf).imp getD_set_true id

theorem Held.less {fs : List Fact} {listed : Array Bool} {w : World} {i : Nat} (h : Held fs (listed.setIfInBounds i true) w) (hn : ∀ f ∈ fs, f.g ≠ i) : Held fs listed w := fun f hf => (h f hf).imp (fun h => by rw [getD_set_ne false (Ne.symm (hn f hf))] at h; exact h) id

theorem Closed.more {listed : Array Bool} (h : Closed ops listed) {j : Nat} (hj : j ∈ Region.ready .any ops listed) : Closed ops (listed.setIfInBounds j true) := by
  obtain ⟨h0, oj, hoj, hall⟩ := mem_ready.1 hj
  refine ⟨by simpa using h.1, fun i o ho hi e he hb => ?_⟩
  by_cases hij : j = i
  · subst hij
    rw [hoj] at ho
    cases ho
    exact getD_set_true (hall e he hb)
  · rw [getD_set_ne true hij] at hi
    exact getD_set_true (h.2 i o ho hi e he hb)

theorem wpAnyL_first {fs : List Fact} {i : Nat} {oi : Oper} {v : Value} (hi : ops[i]? = some oi) (hsel : ∀ (j : Nat) (o : Oper) cs b, ops[j]? = some o → o.op ≠ .select cs b)
    (hQ : ∀ c a w, Q (.panic c) (a.put oi.dst v) w → Q (.panic c) a w) (hg : ∀ f ∈ fs, f.g ≠ i) :
    ∀ (fuel : Nat) (listed : Array Bool) (a : Act) (w : World), Closed ops listed →
      (∀ j oj, ops[j]? = some oj → j ≠ i → listed.getD j true = false → (∀ e ∈ oj.after, Region.binds .any e = true → e.on ≠ i) → oi.apart ops oj = true) →
      i ∈ Region.ready .any ops listed → YieldsIf P ops (fun w => ∃ l, Closed ops l ∧ l.getD i true = false ∧ Held fs l w) oi v a → Held fs listed w →
      wpAnyL P ops Q fs fuel (listed.setIfInBounds i true) (a.put oi.dst v) w → wpAnyL P ops Q fs (fuel + 1) listed a w := by
  intro fuel
  induction fuel with
  | zero =>
    intro listed a w hcl _ hr hy hS H
    refine ⟨fun h => (by rw [h] at hr; cases hr), fun j hj => ?_⟩
    by_cases hji : j = i
    · subst hji; exact hy.wpOp hi ⟨listed, hcl, (mem_ready.1 hr).1, hS⟩ ⟨hS.more j, H⟩
    · have := ready_mono hj hji
      rw [H.1] at this
      cases this
  | succ fuel ih =>
    intro listed a w hcl hfree hr hy hS H
    refine ⟨fun h => (by rw [h] at hr; cases hr), fun j hj => ?_⟩
    by_cases hji : j = i
    · subst hji; exact hy.wpOp hi ⟨listed, hcl, (mem_ready.1 hr).1, hS⟩ ⟨hS.more j, H⟩
    · have h1 := H.2 j (ready_mono hj hji)
      obtain ⟨hjun, oj, hoj, hall⟩ := mem_ready.1 hj
      have hnot : ∀ e ∈ oj.after, Region.binds .any e = true → e.on ≠ i := fun e he hb heq => by
        have h1 := hall e he hb
        have h0 := (mem_ready.1 hr).1
        rw [heq] at h1
        rcases Nat.lt_or_ge i listed.size with h' | h'
        · simp [h'] at h0 h1; rw [h0] at h1; cases h1
        · simp [Array.getElem?_eq_none h'] at h1
      have h2 := wpOp_putIf hoj (hfree j oj hoj hji hjun hnot) (fun cs b => hsel i oi cs b hi) (fun cs b => hsel j oj cs b hoj) hQ hy h1
      have hfree' : ∀ k ok, ops[k]? = some ok → k ≠ i → (listed.setIfInBounds j true).getD k true = false →
          (∀ e ∈ ok.after, Region.binds .any e = true → e.on ≠ i) → oi.apart ops ok = true := fun k ok hk hki hun hno => by
        refine hfree k ok hk hki ?_ hno
        by_cases hjk : j = k
        · subst hjk; exact hjun
        · rw [getD_set_ne true hjk] at hun; exact hun
      have hcl' := hcl.more hj
      refine wpOp_mono (fun a' w' h3 => ?_) h2
      have hH : Held fs (listed.setIfInBounds j true) w' := by
        have h4 := h3.2.1
        rw [Array.setIfInBounds_comm _ _ (Ne.symm hji)] at h4
        exact h4.less hg
      refine ⟨hH, ih (listed.setIfInBounds j true) a' w' hcl' hfree' (ready_mono hr (Ne.symm hji)) h3.1 hH ?_⟩
      rw [Array.setIfInBounds_comm _ _ hji]
      exact h3.2.2

/-- Each of these waits for the one ahead of it. -/
def path (ops : Array Oper) : List Nat → Bool
  | i :: j :: rest => ((ops[j]?).map fun o => o.after.any fun e => Region.binds .any e && e.on == i).getD false && path ops (j :: rest)
  | _ => true

theorem path_un {l : Array Bool} (hcl : Closed ops l) : ∀ (ps : List Nat) (i g : Nat), path ops (i :: ps) = true → (i :: ps).getLast? = some g → l.getD g false = true → l.getD i true = true
  | [], i, g, _, hl, hg => by
    simp only [List.getLast?_singleton, Option.some.injEq] at hl
    subst hl
    rcases Nat.lt_or_ge i l.size with h | h
    · simpa [Array.getD, h] using hg
    · simp [Array.getD, Nat.not_lt.2 h]
  | j :: ps, i, g, hp, hl, hg => by
    have hp0 := hp
    unfold path at hp0
    rw [Bool.and_eq_true] at hp0
    obtain ⟨h1, h2⟩ := hp0
    have hj := path_un hcl ps j g h2 (by rw [← hl]; rfl) hg
    cases ho : ops[j]? with
    | none => rw [ho] at h1; cases h1
    | some o =>
      rw [ho] at h1
      simp only [Option.map_some, Option.getD_some] at h1
      obtain ⟨e, he, hb⟩ := Array.any_eq_true'.1 h1
      rw [Bool.and_eq_true, beq_iff_eq] at hb
      have := hcl.2 j o ho hj e he hb.1
      rw [hb.2] at this
      rcases Nat.lt_or_ge i l.size with h | h
      · simpa [Array.getD, h] using this
      · simp [Array.getD, Nat.not_lt.2 h]

/-! The moves. -/
/-- A state of the walk: closed, and the facts held. -/
structure At (P : Program) (ops : Array Oper) (Q : Exit → Act → World → Prop) (fs : List Fact) (fuel : Nat) (listed : Array Bool) (a : Act) (w : World) : Prop where
  go : Closed ops listed → Held fs listed w → wpAnyL P ops Q fs fuel listed a w

theorem wp_region_L {id : Nat} {a : Act} {w : World} (fs : List Fact) (hm : P.follows .mixedOrders = true) (hS : ∀ f ∈ fs, f.Y w.drew) (h : At P ops Q fs ops.size (Array.replicate ops.size false) a w.drew) : (Code.region id ops true).wp P Q a w := by
  refine wp_region_any hm (wpAny_of_L _ _ _ _ (h.go ⟨by simp, fun i o ho hi => ?_⟩ fun f hf => .inr (hS f hf)))
  have := lt_of_get ho
  simp [Array.getD, this] at hi

theorem At.take {fs : List Fact} {fuel : Nat} {listed : Array Bool} {a : Act} {w : World} (i : Nat) (d : Option Tmp) (v : Value) {o : Oper} (ho : ops[i]? = some o) (hd : o.dst = d) (hs : Region.noSelect ops = true) (hf : Region.free .any ops listed i = true) (hr : (Region.ready .any ops listed).contains i = true)
    (hg : fs.all (fun f => f.g != i) = true) (hQ : ∀ c a w, Q (.panic c) (a.put d v) w → Q (.panic c) a w) (hy : YieldsIf P ops (fun w => ∃ l, Closed ops l ∧ l.getD i true = false ∧ Held fs l w) o v a)
    (h : At P ops Q fs fuel (listed.setIfInBounds i true) (a.put d v) w) : At P ops Q fs (fuel + 1) listed a w := by
  subst hd
  refine ⟨fun hcl hH => ?_⟩
  have hr' : i ∈ Region.ready .any ops listed := by simpa using hr
  exact wpAnyL_first ho (Region.noSelect_spec hs) hQ (fun f hf => by have := List.all_eq_true.1 hg f hf; simpa using this) fuel listed a w hcl (Region.free_spec ho hf) hr' hy hH (h.go (hcl.more hr') (hH.more i))

theorem yl_pure {fs : List Fact} {o : Oper} {v : Value} {a : Act} {i : Nat} (hw : Region.wanted o (yielded ops a.tmps) = true) (hv : ∀ w, (execOp a.eval o).run P w = .ok (.value v) w) : YieldsIf P ops (fun w => ∃ l, Closed ops l ∧ l.getD i true = false ∧ Held fs l w) o v a := .inl ⟨hw, fun w _ => hv w⟩

theorem yl_is {fs : List Fact} {o : Oper} {v : Value} {a : Act} {i : Nat} (u : Value) (e : u = v) (hw : Region.wanted o (yielded ops a.tmps) = true) (hv : ∀ w, (execOp a.eval o).run P w = .ok (.value u) w) : YieldsIf P ops (fun w => ∃ l, Closed ops l ∧ l.getD i true = false ∧ Held fs l w) o v a := by
  subst e
  exact yl_pure hw hv

theorem yl_skip {fs : List Fact} {o : Oper} {a : Act} {i : Nat} (hw : Region.wanted o (yielded ops a.tmps) = false) : YieldsIf P ops (fun w => ∃ l, Closed ops l ∧ l.getD i true = false ∧ Held fs l w) o undef a := .inr ⟨hw, rfl⟩

/-- A read whose cell is held until one comes up that waits for it. -/
theorem yl_load {fs : List Fact} {o : Oper} {a : Act} {i : Nat} (g : Nat) (p : Addr) (v : Value) (hm : (⟨g, fun W => W.cell? p = some v⟩ : Fact) ∈ fs) (ps : List Nat) (hp : path ops (i :: ps) = true) (hl : (i :: ps).getLast? = some g) (hw : Region.wanted o (yielded ops a.tmps) = true)
    (hv : ∀ w, (execOp a.eval o).run P w = ((load p) >>= fun u => pure (Next.value u) : Sem Next).run P w) : YieldsIf P ops (fun w => ∃ l, Closed ops l ∧ l.getD i true = false ∧ Held fs l w) o v a := by
  refine .inl ⟨hw, fun w ⟨l, hcl, hun, hH⟩ => ?_⟩
  rcases hH _ hm with h | h
  · have := path_un hcl ps i g hp hl h
    rw [this] at hun
    cases hun
  · have h' : w.cell? p = some v := h
    rw [hv w, Sem.run_bind, run_load, h']
    rfl

/-- A read by whatever means. -/
theorem yl_run {fs : List Fact} {o : Oper} {a : Act} {i : Nat} (g : Nat) (x : Sem Value) (v : Value) (hm : (⟨g, fun W => x.run P W = .ok v W⟩ : Fact) ∈ fs) (ps : List Nat) (hp : path ops (i :: ps) = true) (hl : (i :: ps).getLast? = some g) (hw : Region.wanted o (yielded ops a.tmps) = true)
    (hv : ∀ w, (execOp a.eval o).run P w = (x >>= fun u => pure (Next.value u) : Sem Next).run P w) : YieldsIf P ops (fun w => ∃ l, Closed ops l ∧ l.getD i true = false ∧ Held fs l w) o v a := by
  refine .inl ⟨hw, fun w ⟨l, hcl, hun, hH⟩ => ?_⟩
  rcases hH _ hm with h | h
  · have := path_un hcl ps i g hp hl h
    rw [this] at hun
    cases hun
  · have h' : x.run P w = .ok v w := h
    rw [hv w, Sem.run_bind, h']
    rfl

/-- A read of several cells. -/
theorem yl_loads {fs : List Fact} {o : Oper} {a : Act} {i : Nat} (g : Nat) (p : Addr) (cs : List Value) (hm : (⟨g, fun W => ∀ j u, cs[j]? = some u → W.cell? (p.add j) = some u⟩ : Fact) ∈ fs) (ps : List Nat) (hp : path ops (i :: ps) = true) (hl : (i :: ps).getLast? = some g) (hw : Region.wanted o (yielded ops a.tmps) = true)
    (hv : ∀ w, (execOp a.eval o).run P w = ((loadCells p cs.length) >>= fun u => pure (Next.value (.agg u)) : Sem Next).run P w) : YieldsIf P ops (fun w => ∃ l, Closed ops l ∧ l.getD i true = false ∧ Held fs l w) o (.agg cs.toArray) a := by
  refine .inl ⟨hw, fun w ⟨l, hcl, hun, hH⟩ => ?_⟩
  rcases hH _ hm with h | h
  · have := path_un hcl ps i g hp hl h
    rw [this] at hun
    cases hun
  · have h' : ∀ j u, cs[j]? = some u → w.cell? (p.add j) = some u := h
    rw [hv w, Sem.run_bind, run_loadCells_list w p cs h']
    rfl

/-- The one that comes up: it does its work. -/
theorem At.step {fs : List Fact} {fuel : Nat} {listed : Array Bool} {a : Act} {w : World} (i : Nat) (d : Option Tmp) {o : Oper} (ho : ops[i]? = some o) (hd : o.dst = d) (hr : Region.ready .any ops listed = [i]) (hw : Region.wanted o (yielded ops a.tmps) = true)
    (R : Value → World → Prop) (hgv : gives P o a.eval w R) (h : ∀ u w', R u w' → Held fs (listed.setIfInBounds i true) w' ∧ At P ops Q fs fuel (listed.setIfInBounds i true) (a.put d u) w') : At P ops Q fs (fuel + 1) listed a w := by
  subst hd
  refine ⟨fun hcl hH => ⟨fun h0 => (by rw [hr] at h0; cases h0), fun j hj => ?_⟩⟩
  have hj' := hj
  rw [hr] at hj
  simp only [List.mem_singleton] at hj
  subst hj
  unfold wpOp
  simp only [ho]
  rw [if_pos hw]
  exact .inl (hgv.wp fun u w' hR => ⟨(h u w' hR).1, (h u w' hR).2.go (hcl.more hj') (h u w' hR).1⟩)

theorem gives_run {o : Oper} {ρ : Operand → Value} {w w' : World} {u : Value} (h : (execOp ρ o).run P w = .ok (.value u) w') : gives P o ρ w fun v W => v = u ∧ W = w' := by
  refine ⟨?_⟩
  unfold givesR
  rw [h]
  exact ⟨rfl, rfl⟩

theorem gives_call {o : Oper} {ρ : Operand → Value} {w : World} {f : FuncId} {args : Array Value} {R : Value → World → Prop} (hv : (execOp ρ o).run P w = .ok (.enter f args) w) (hc : Calls P f args w fun e w' => ∃ v, e = .returned v ∧ R v w') : gives P o ρ w R := by
  refine ⟨?_⟩
  unfold givesR
  rw [hv]
  exact hc

theorem gives_append {o : Oper} {ρ : Operand → Value} {w w' : World} {t ty : TypeId} {v y u : Value} (hv : ∀ w, (execOp ρ o).run P w = ((Builtin.append_ #[t, t] ty #[v, y]) >>= fun x => pure (Next.value x) : Sem Next).run P w) (hrun : (Builtin.append_ #[t, t] ty #[v, y]).run P w = .ok u w') : gives P o ρ w fun x W => x = u ∧ W = w' := by
  refine ⟨?_⟩
  unfold givesR
  rw [hv w, Sem.run_bind, hrun]
  exact ⟨rfl, rfl⟩

theorem gives_store {o : Oper} {ρ : Operand → Value} {w : World} {p : Addr} {x y : Value} (hv : ∀ w, (execOp ρ o).run P w = ((store p x) >>= fun _ => pure Next.skip : Sem Next).run P w) (h1 : x.oneCell' = true) (hc : w.cell? p = some y) (hf : w.frozen? p = false) : gives P o ρ w fun u W => u = undef ∧ W = w.setCell p x := by
  refine ⟨?_⟩
  unfold givesR
  rw [hv w, Sem.run_bind, run_store P w p x _ h1, hc, hf]
  exact ⟨rfl, rfl⟩

theorem gives_unit {o : Oper} {ρ : Operand → Value} {w w' : World} (s : Sem Unit) (hv : ∀ w, (execOp ρ o).run P w = (s >>= fun _ => pure Next.skip : Sem Next).run P w) (hrun : s.run P w = .ok () w') : gives P o ρ w fun u W => u = undef ∧ W = w' := by
  refine ⟨?_⟩
  unfold givesR
  rw [hv w, Sem.run_bind, hrun]
  exact ⟨rfl, rfl⟩

theorem held_nil {listed : Array Bool} {w : World} : Held [] listed w := fun f hf => by cases hf

theorem held_cons {f : Fact} {fs : List Fact} {listed : Array Bool} {w : World} (h : listed.getD f.g false = true ∨ f.Y w) (hs : Held fs listed w) : Held (f :: fs) listed w := fun x hx => by
  rcases List.mem_cons.1 hx with rfl | hx
  · exact h
  · exact hs x hx

/-- A cell of another place than the one that was written. -/
theorem cell_set_ne {w : World} {p q : Addr} {v x : Value} (h : w.cell? p = some v) (hne : q ≠ p) : (w.setCell q x).cell? p = some v := (World.cell?_setCell_other _ _ _ _ hne).trans h

theorem At.done {fs : List Fact} {fuel : Nat} {listed : Array Bool} {a : Act} {w : World} (hr : Region.ready .any ops listed = []) (h : Q .normal a w) : At P ops Q fs fuel listed a w := by
  refine ⟨fun _ _ => ?_⟩
  cases fuel with
  | zero => exact ⟨hr, h⟩
  | succ n => exact ⟨fun _ => h, fun i hi => (by rw [hr] at hi; cases hi)⟩
end held

end Go.Proofs.Ytdhbhifgmbppjaa

/- A world forgotten but for facts; cuts ahead of a region. -/
namespace Go.Proofs.Ytdhbhifgmbppjaa
open Go.RowKit
set_option linter.unusedVariables false

theorem wp_genW {P : Program} {c : Code} {Q : Exit → Act → World → Prop} {a : Act} (F : World → Prop) {W0 : World} (h0 : F W0) (h : ∀ W, F W → Code.wp P c Q a W) : Code.wp P c Q a W0 := h W0 h0

theorem alloc_last (w : World) (o : Obj) : (w.alloc o).heap[w.heap.size]? = some o := (MapKept.heap_alloc w o).1

end Go.Proofs.Ytdhbhifgmbppjaa
