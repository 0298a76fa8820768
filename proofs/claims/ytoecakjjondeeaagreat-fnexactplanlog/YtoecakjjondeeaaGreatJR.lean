/- The contracts of what the exact laws hold Rec by. -/
import Derived.Test.YtoecakjjondeeaaGreatMtWalk
import Derived.Test.YtoecakjjondeeaaGreatRgTold
import Derived.Test.YtoecakjjondeeaaGreatFrClone
import Derived.Test.YtoecakjjondeeaaGreatHaBase
import Derived.Deep.Cut
import Derived.Deep.CutBlock
namespace Go.Proofs.YtoecakjjondeeaaGreat
open Go.RowKit
set_option linter.unusedVariables false

structure S_Rec where
  f0 : Int
  f1 : Int
  f2 : Int
  f3 : Int
  f4 : ByteArray

def cRec (x : S_Rec) : List Value := [.int .i64 x.f0, .int .i64 x.f1, .int .i64 x.f2, .int .i64 x.f3, .string x.f4]

def rRec (L : List S_Rec) : List Value := L.flatMap cRec

def zRec (x : S_Rec) : Nat := x.f4.size

/-- No text in it is too long. -/
def sRec (x : S_Rec) : Prop := x.f4.size ≤ maxLen

theorem cRec_len (x : S_Rec) : (cRec x).length = 5 := rfl

theorem rRec_len (L : List S_Rec) : (rRec L).length = L.length * 5 := flat_length cRec 5 cRec_len L

theorem infoRec : (Tryz.prog.info? 157).map (fun i => (i.zero, i.size, i.bytes)) = some (some (.agg #[.int .i64 0, .int .i64 0, .int .i64 0, .int .i64 0, .string ⟨#[]⟩]), 5, 48) := by kernel_rfl

theorem sizeRec : (Tryz.prog.info? 157).map (·.size) = some 5 := by kernel_rfl

/-- The cells of element i, marked from k on. -/
def mRec (k : Int) (i : Nat) : List Value := [.int .i64 (k + ((i * 5 : Nat) : Int)), .int .i64 (k + ((i * 5 : Nat) : Int) + 1), .int .i64 (k + ((i * 5 : Nat) : Int) + 1 + 1), .int .i64 (k + ((i * 5 : Nat) : Int) + 1 + 1 + 1), .string (mt (k + ((i * 5 : Nat) : Int) + 1 + 1 + 1 + 1))]

def mRecs (k : Int) (n : Nat) : List Value := (List.range n).flatMap (mRec k)

theorem mRecs_len (k : Int) (n : Nat) : (mRecs k n).length = n * 5 := by
  have := flat_length (mRec k) 5 (fun _ => rfl) (List.range n)
  rwa [List.length_range] at this

theorem mRecs_at (k : Int) (n i q : Nat) (hi : i < n) (hq : q < 5) : (mRecs k n)[i * 5 + q]? = (mRec k i)[q]? := by
  have := flat_at (mRec k) 5 (fun _ => rfl) (List.range n) i q (by simpa using hi) hq
  rw [List.getElem_range] at this
  exact this

end Go.Proofs.YtoecakjjondeeaaGreat

/- What a record is, and which are right. -/
namespace Go.Proofs.YtoecakjjondeeaaGreat
open Go.RowKit
set_option linter.unusedVariables false

/-- A record that is right. -/
def okR (x : S_Rec) : Prop :=
  (x.f0 = 1 ∧ (0 ≤ x.f1 ∧ x.f1 ≤ 100000) ∧ (-1 ≤ x.f3 ∧ x.f3 ≤ 4) ∧ x.f2 = 0 ∧ x.f4 = ⟨#[]⟩) ∨
  (x.f0 = 2 ∧ (1 ≤ x.f1 ∧ x.f1 ≤ 100000) ∧ (1 ≤ x.f2 ∧ x.f2 ≤ 100000) ∧ x.f3 = 0 ∧ x.f4.size ≤ 900) ∨
  (x.f0 = 3 ∧ x.f1 = 0 ∧ (1 ≤ x.f2 ∧ x.f2 ≤ 100000) ∧ x.f3 = 0 ∧ x.f4 = ⟨#[]⟩) ∨
  (x.f0 = 4 ∧ ((x.f2 = 0 ∧ x.f1 = 0) ∨ (x.f2 ≠ 0 ∧ (1 ≤ x.f2 ∧ x.f2 ≤ 100000) ∧ (1 ≤ x.f1 ∧ x.f1 ≤ 100000))) ∧ x.f3 = 0 ∧ x.f4 = ⟨#[]⟩)

instance (x : S_Rec) : Decidable (okR x) := by unfold okR; infer_instance

/-- The bounds that the program asks first. -/
def bdR (x : S_Rec) : Prop :=
  (x.f0 = 1 ∧ (0 ≤ x.f1 ∧ x.f1 ≤ 100000) ∧ (-1 ≤ x.f3 ∧ x.f3 ≤ 4)) ∨
  (x.f0 = 4 ∧ x.f2 = 0 ∧ x.f1 = 0) ∨
  ((x.f0 = 4 ∧ x.f2 ≠ 0 ∨ x.f0 = 2) ∧ (1 ≤ x.f1 ∧ x.f1 ≤ 100000) ∧ x.f4.size ≤ 900 ∧ (1 ≤ x.f2 ∧ x.f2 ≤ 100000)) ∨
  (x.f0 = 3 ∧ (1 ≤ x.f2 ∧ x.f2 ≤ 100000))

instance (x : S_Rec) : Decidable (bdR x) := by unfold bdR; infer_instance

/-- What the program keeps of a record of a kind. -/
def cutR (x : S_Rec) : S_Rec :=
  if x.f0 = 1 then ⟨1, x.f1, 0, x.f3, ⟨#[]⟩⟩ else if x.f0 = 2 then ⟨2, x.f1, x.f2, 0, x.f4⟩ else if x.f0 = 3 then ⟨3, 0, x.f2, 0, ⟨#[]⟩⟩ else if x.f0 = 4 then ⟨4, x.f1, x.f2, 0, ⟨#[]⟩⟩ else ⟨0, 0, 0, 0, ⟨#[]⟩⟩

def sameR (x y : S_Rec) : Prop := x.f0 = y.f0 ∧ x.f1 = y.f1 ∧ x.f2 = y.f2 ∧ x.f3 = y.f3 ∧ x.f4 = y.f4

instance (x y : S_Rec) : Decidable (sameR x y) := by unfold sameR; infer_instance

theorem sameR_eq {x y : S_Rec} (h : sameR x y) : x = y := by
  obtain ⟨h0, h1, h2, h3, h4⟩ := h
  cases x; cases y
  simp_all

theorem ret_t {p : Prop} [Decidable p] (h : p) : Ending.returned (.bool true) = .returned (.bool (decide p)) := by rw [decide_eq_true h]

theorem ret_f {p : Prop} [Decidable p] (h : ¬ p) : Ending.returned (.bool false) = .returned (.bool (decide p)) := by rw [decide_eq_false h]

theorem ret_x {a : Bool} {p : Prop} [Decidable p] {b : Bool} (ha : a = b) (h : decide p = b) : Ending.returned (.bool a) = .returned (.bool (decide p)) := by rw [ha, h]

theorem empty_noR {s : ByteArray} (h : ¬ s = ⟨#[]⟩) : s.toList.isEmpty = false := by
  rw [Bool.eq_false_iff]
  intro h'
  rw [List.isEmpty_iff] at h'
  apply h
  have h2 : s.data.toList = [] := by rw [← ByteArray.toList_eq]; exact h'
  cases s with | mk d => simp at h2; rw [h2]

theorem okR_iff (x : S_Rec) : okR x ↔ bdR x ∧ sameR (cutR x) x := by
  have h900 : x.f4 = ⟨#[]⟩ → x.f4.size = 0 := fun h => by rw [h]; rfl
  have h901 : (⟨#[]⟩ : ByteArray) = x.f4 ↔ x.f4 = ⟨#[]⟩ := ⟨fun h => h.symm, fun h => h.symm⟩
  unfold okR bdR sameR cutR
  generalize (x.f4 = (⟨#[]⟩ : ByteArray)) = p at *
  generalize x.f4.size = n at *
  by_cases h1 : x.f0 = 1
  · rw [if_pos h1]; simp only [h901]; grind
  · rw [if_neg h1]
    by_cases h2 : x.f0 = 2
    · rw [if_pos h2]; grind
    · rw [if_neg h2]
      by_cases h3 : x.f0 = 3
      · rw [if_pos h3]; simp only [h901]; grind
      · rw [if_neg h3]
        by_cases h4 : x.f0 = 4
        · rw [if_pos h4]; simp only [h901]; grind
        · rw [if_neg h4]; grind

end Go.Proofs.YtoecakjjondeeaaGreat

/- A region that draws its order and writes: what its reads find is held until the operation that waits for them has come up. -/
namespace Go.Proofs.YtoecakjjondeeaaGreat
open Go.RowKit
set_option linter.unusedVariables false

section held
variable {P : Program} {ops : Array Oper} {Q : Exit → Act → World → Prop}

/-- What holds until operation 'g' has come up. -/
structure Fact where
  g : Nat
  Y : World → Prop

def Held (fs : List Fact) (listed : Array Bool) (w : World) : Prop := ∀ f ∈ fs, listed.getD f.g false = true ∨ f.Y w

/-- What came up has all that it waits for behind it. -/
def Closed (ops : Array Oper) (listed : Array Bool) : Prop := listed.size = ops.size ∧ ∀ (i : Nat) (o : Oper), ops[i]? = some o → listed.getD i true = true → ∀ e ∈ o.after, Region.binds .any e = true → listed.getD e.on false = true

def wpAnyL (P : Program) (ops : Array Oper) (Q : Exit → Act → World → Prop) (fs : List Fact) : Nat → Array Bool → Act → World → Prop
  | 0, listed, a, w => Region.ready .any ops listed = [] ∧ Q .normal a w
  | fuel + 1, listed, a, w =>
    (Region.ready .any ops listed = [] → Q .normal a w) ∧
    ∀ i ∈ Region.ready .any ops listed, wpOp P ops Q i (fun a' w' => Held fs (listed.setIfInBounds i true) w' ∧ wpAnyL P ops Q fs fuel (listed.setIfInBounds i true) a' w') a w

theorem wpAny_of_L {fs : List Fact} : ∀ (fuel : Nat) (listed : Array Bool) (a : Act) (w : World), wpAnyL P ops Q fs fuel listed a w → wpAny P .any ops Q fuel listed a w
  | 0, _, _, _, h => h
  | fuel + 1, _, _, _, h => ⟨h.1, fun i hi => wpOp_mono (fun a' w' h' => wpAny_of_L fuel _ a' w' h'.2) (h.2 i hi)⟩

theorem getD_set_self {listed : Array Bool} {i : Nat} (h : i < listed.size) (d : Bool) : (listed.setIfInBounds i true).getD i d = true := by simp [Array.getD, h]

theorem Held.more {fs : List Fact} {listed : Array Bool} {w : World} (h : Held fs listed w) (i : Nat) : Held fs (listed.setIfInBounds i true) w := fun f hf => (h f hf).imp getD_set_true id

theorem Held.less {fs : List Fact} {listed : Array Bool} {w : World} {i : Nat} (h : Held fs (listed.setIfInBounds i true) w) (hn : ∀ f ∈ fs, f.g ≠ i) : Held fs listed w := fun f hf => (h f hf).imp (fun h => by rw [getD_set_ne false (Ne.symm (hn f hf))] at h; exact h) id

theorem Closed.more {listed : Array Bool} (h : Closed ops listed) {j : Nat} (hj : j ∈ Region.ready .any ops listed) : Closed ops (listed.setIfInBounds j true) := by
  obtain ⟨h0, oj, hoj, hall⟩ := mem_ready.1 hj
  refine ⟨by simpa using h.1, fun i o ho hi e he hb => ?_⟩
  by_cases hij : j = i
  · subst hij
    rw [hoj] at ho
    cases ho
    exact getD_set_true (hall e he hb)
  · rw [getD_set_ne true hij] at hi
    exact getD_set_true (h.2 i o ho hi e he hb)

theorem wpAnyL_first {fs : List Fact} {i : Nat} {oi : Oper} {v : Value} (hi : ops[i]? = some oi) (hsel : ∀ (j : Nat) (o : Oper) cs b, ops[j]? = some o → o.op ≠ .select cs b)
    (hQ : ∀ c a w, Q (.panic c) (a.put oi.dst v) w → Q (.panic c) a w) (hg : ∀ f ∈ fs, f.g ≠ i) :
    ∀ (fuel : Nat) (listed : Array Bool) (a : Act) (w : World), Closed ops listed →
      (∀ j oj, ops[j]? = some oj → j ≠ i → listed.getD j true = false → (∀ e ∈ oj.after, Region.binds .any e = true → e.on ≠ i) → oi.apart ops oj = true) →
      i ∈ Region.ready .any ops listed → YieldsIf P ops (fun w => ∃ l, Closed ops l ∧ l.getD i true = false ∧ Held fs l w) oi v a → Held fs listed w →
      wpAnyL P ops Q fs fuel (listed.setIfInBounds i true) (a.put oi.dst v) w → wpAnyL P ops Q fs (fuel + 1) listed a w := by
  intro fuel
  induction fuel with
  | zero =>
    intro listed a w hcl _ hr hy hS H
    refine ⟨fun h => (by rw [h] at hr; cases hr), fun j hj => ?_⟩
    by_cases hji : j = i
    · subst hji; exact hy.wpOp hi ⟨listed, hcl, (mem_ready.1 hr).1, hS⟩ ⟨hS.more j, H⟩
    · have := ready_mono hj hji
      rw [H.1] at this
      cases this
  | succ fuel ih =>
    intro listed a w hcl hfree hr hy hS H
    refine ⟨fun h => (by rw [h] at hr; cases hr), fun j hj => ?_⟩
    by_cases hji : j = i
    · subst hji; exact hy.wpOp hi ⟨listed, hcl, (mem_ready.1 hr).1, hS⟩ ⟨hS.more j, H⟩
    · have h1 := H.2 j (ready_mono hj hji)
      obtain ⟨hjun, oj, hoj, hall⟩ := mem_ready.1 hj
      have hnot : ∀ e ∈ oj.after, Region.binds .any e = true → e.on ≠ i := fun e he hb heq => by
        have h1 := hall e he hb
        have h0 := (mem_ready.1 hr).1
        rw [heq] at h1
        rcases Nat.lt_or_ge i listed.size with h' | h'
        · simp [h'] at h0 h1; rw [h0] at h1; cases h1
        · simp [Array.getElem?_eq_none h'] at h1
      have h2 := wpOp_putIf hoj (hfree j oj hoj hji hjun hnot) (fun cs b => hsel i oi cs b hi) (fun cs b => hsel j oj cs b hoj) hQ hy h1
      have hfree' : ∀ k ok, ops[k]? = some ok → k ≠ i → (listed.setIfInBounds j true).getD k true = false →
          (∀ e ∈ ok.after, Region.binds .any e = true → e.on ≠ i) → oi.apart ops ok = true := fun k ok hk hki hun hno => by
        refine hfree k ok hk hki ?_ hno
        by_cases hjk : j = k
        · subst hjk; exact hjun
        · rw [getD_set_ne true hjk] at hun; exact hun
      have hcl' := hcl.more hj
      refine wpOp_mono (fun a' w' h3 => ?_) h2
      have hH : Held fs (listed.setIfInBounds j true) w' := by
        have h4 := h3.2.1
        rw [Array.setIfInBounds_comm _ _ (Ne.symm hji)] at h4
        exact h4.less hg
      refine ⟨hH, ih (listed.setIfInBounds j true) a' w' hcl' hfree' (ready_mono hr (Ne.symm hji)) h3.1 hH ?_⟩
      rw [Array.setIfInBounds_comm _ _ hji]
      exact h3.2.2

/-- Each of these waits for the one ahead of it. -/
def path (ops : Array Oper) : List Nat → Bool
  | i :: j :: rest => ((ops[j]?).map fun o => o.after.any fun e => Region.binds .any e && e.on == i).getD false && path ops (j :: rest)
  | _ => true

theorem path_un {l : Array Bool} (hcl : Closed ops l) : ∀ (ps : List Nat) (i g : Nat), path ops (i :: ps) = true → (i :: ps).getLast? = some g → l.getD g false = true → l.getD i true = true
  | [], i, g, _, hl, hg => by
    simp only [List.getLast?_singleton, Option.some.injEq] at hl
    subst hl
    rcases Nat.lt_or_ge i l.size with h | h
    · simpa [Array.getD, h] using hg
    · simp [Array.getD, Nat.not_lt.2 h]
  | j :: ps, i, g, hp, hl, hg => by
    have hp0 := hp
    unfold path at hp0
    rw [Bool.and_eq_true] at hp0
    obtain ⟨h1, h2⟩ := hp0
    have hj := path_un hcl ps j g h2 (by rw [← hl]; rfl) hg
    cases ho : ops[j]? with
    | none => rw [ho] at h1; cases h1
    | some o =>
      rw [ho] at h1
      simp only [Option.map_some, Option.getD_some] at h1
      obtain ⟨e, he, hb⟩ := Array.any_eq_true'.1 h1
      rw [Bool.and_eq_true, beq_iff_eq] at hb
      have := hcl.2 j o ho hj e he hb.1
      rw [hb.2] at this
      rcases Nat.lt_or_ge i l.size with h | h
      · simpa [Array.getD, h] using this
      · simp [Array.getD, Nat.not_lt.2 h]

/-! The moves. -/
/-- A state of the walk: closed, and the facts held. -/
structure At (P : Program) (ops : Array Oper) (Q : Exit → Act → World → Prop) (fs : List Fact) (fuel : Nat) (listed : Array Bool) (a : Act) (w : World) : Prop where
  go : Closed ops listed → Held fs listed w → wpAnyL P ops Q fs fuel listed a w

theorem wp_region_L {id : Nat} {a : Act} {w : World} (fs : List Fact) (hm : P.follows .mixedOrders = true) (hS : ∀ f ∈ fs, f.Y w.drew) (h : At P ops Q fs ops.size (Array.replicate ops.size false) a w.drew) : (Code.region id ops true).wp P Q a w := by
  refine wp_region_any hm (wpAny_of_L _ _ _ _ (h.go ⟨by simp, fun i o ho hi => ?_⟩ fun f hf => .inr (hS f hf)))
  have := lt_of_get ho
  simp [Array.getD, this] at hi

theorem At.take {fs : List Fact} {fuel : Nat} {listed : Array Bool} {a : Act} {w : World} (i : Nat) (d : Option Tmp) (v : Value) {o : Oper} (ho : ops[i]? = some o) (hd : o.dst = d) (hs : Region.noSelect ops = true) (hf : Region.free .any ops listed i = true) (hr : (Region.ready .any ops listed).contains i = true)
    (hg : fs.all (fun f => f.g != i) = true) (hQ : ∀ c a w, Q (.panic c) (a.put d v) w → Q (.panic c) a w) (hy : YieldsIf P ops (fun w => ∃ l, Closed ops l ∧ l.getD i true = false ∧ Held fs l w) o v a)
    (h : At P ops Q fs fuel (listed.setIfInBounds i true) (a.put d v) w) : At P ops Q fs (fuel + 1) listed a w := by
  subst hd
  refine ⟨fun hcl hH => ?_⟩
  have hr' : i ∈ Region.ready .any ops listed := by simpa using hr
  exact wpAnyL_first ho (Region.noSelect_spec hs) hQ (fun f hf => by have := List.all_eq_true.1 hg f hf; simpa using this) fuel listed a w hcl (Region.free_spec ho hf) hr' hy hH (h.go (hcl.more hr') (hH.more i))

theorem yl_pure {fs : List Fact} {o : Oper} {v : Value} {a : Act} {i : Nat} (hw : Region.wanted o (yielded ops a.tmps) = true) (hv : ∀ w, (execOp a.eval o).run P w = .ok (.value v) w) : YieldsIf P ops (fun w => ∃ l, Closed ops l ∧ l.getD i true = false ∧ Held fs l w) o v a := .inl ⟨hw, fun w _ => hv w⟩

theorem yl_is {fs : List Fact} {o : Oper} {v : Value} {a : Act} {i : Nat} (u : Value) (e : u = v) (hw : Region.wanted o (yielded ops a.tmps) = true) (hv : ∀ w, (execOp a.eval o).run P w = .ok (.value u) w) : YieldsIf P ops (fun w => ∃ l, Closed ops l ∧ l.getD i true = false ∧ Held fs l w) o v a := by
  subst e
  exact yl_pure hw hv

theorem yl_skip {fs : List Fact} {o : Oper} {a : Act} {i : Nat} (hw : Region.wanted o (yielded ops a.tmps) = false) : YieldsIf P ops (fun w => ∃ l, Closed ops l ∧ l.getD i true = false ∧ Held fs l w) o undef a := .inr ⟨hw, rfl⟩

/-- A read whose cell is held until one comes up that waits for it. -/
theorem yl_load {fs : List Fact} {o : Oper} {a : Act} {i : Nat} (g : Nat) (p : Addr) (v : Value) (hm : (⟨g, fun W => W.cell? p = some v⟩ : Fact) ∈ fs) (ps : List Nat) (hp : path ops (i :: ps) = true) (hl : (i :: ps).getLast? = some g) (hw : Region.wanted o (yielded ops a.tmps) = true)
    (hv : ∀ w, (execOp a.eval o).run P w = ((load p) >>= fun u => pure (Next.value u) : Sem Next).run P w) : YieldsIf P ops (fun w => ∃ l, Closed ops l ∧ l.getD i true = false ∧ Held fs l w) o v a := by
  refine .inl ⟨hw, fun w ⟨l, hcl, hun, hH⟩ => ?_⟩
  rcases hH _ hm with h | h
  · have := path_un hcl ps i g hp hl h
    rw [this] at hun
    cases hun
  · have h' : w.cell? p = some v := h
    rw [hv w, Sem.run_bind, run_load, h']
    rfl

/-- A read by whatever means. -/
theorem yl_run {fs : List Fact} {o : Oper} {a : Act} {i : Nat} (g : Nat) (x : Sem Value) (v : Value) (hm : (⟨g, fun W => x.run P W = .ok v W⟩ : Fact) ∈ fs) (ps : List Nat) (hp : path ops (i :: ps) = true) (hl : (i :: ps).getLast? = some g) (hw : Region.wanted o (yielded ops a.tmps) = true)
    (hv : ∀ w, (execOp a.eval o).run P w = (x >>= fun u => pure (Next.value u) : Sem Next).run P w) : YieldsIf P ops (fun w => ∃ l, Closed ops l ∧ l.getD i true = false ∧ Held fs l w) o v a := by
  refine .inl ⟨hw, fun w ⟨l, hcl, hun, hH⟩ => ?_⟩
  rcases hH _ hm with h | h
  · have := path_un hcl ps i g hp hl h
    rw [this] at hun
    cases hun
  · have h' : x.run P w = .ok v w := h
    rw [hv w, Sem.run_bind, h']
    rfl

/-- A read of several cells. -/
theorem yl_loads {fs : List Fact} {o : Oper} {a : Act} {i : Nat} (g : Nat) (p : Addr) (cs : List Value) (hm : (⟨g, fun W => ∀ j u, cs[j]? = some u → W.cell? (p.add j) = some u⟩ : Fact) ∈ fs) (ps : List Nat) (hp : path ops (i :: ps) = true) (hl : (i :: ps).getLast? = some g) (hw : Region.wanted o (yielded ops a.tmps) = true)
    (hv : ∀ w, (execOp a.eval o).run P w = ((loadCells p cs.length) >>= fun u => pure (Next.value (.agg u)) : Sem Next).run P w) : YieldsIf P ops (fun w => ∃ l, Closed ops l ∧ l.getD i true = false ∧ Held fs l w) o (.agg cs.toArray) a := by
  refine .inl ⟨hw, fun w ⟨l, hcl, hun, hH⟩ => ?_⟩
  rcases hH _ hm with h | h
  · have := path_un hcl ps i g hp hl h
    rw [this] at hun
    cases hun
  · have h' : ∀ j u, cs[j]? = some u → w.cell? (p.add j) = some u := h
    rw [hv w, Sem.run_bind, run_loadCells_list w p cs h']
    rfl

/-- The one that comes up: it does its work. -/
theorem At.step {fs : List Fact} {fuel : Nat} {listed : Array Bool} {a : Act} {w : World} (i : Nat) (d : Option Tmp) {o : Oper} (ho : ops[i]? = some o) (hd : o.dst = d) (hr : Region.ready .any ops listed = [i]) (hw : Region.wanted o (yielded ops a.tmps) = true)
    (R : Value → World → Prop) (hgv : gives P o a.eval w R) (h : ∀ u w', R u w' → Held fs (listed.setIfInBounds i true) w' ∧ At P ops Q fs fuel (listed.setIfInBounds i true) (a.put d u) w') : At P ops Q fs (fuel + 1) listed a w := by
  subst hd
  refine ⟨fun hcl hH => ⟨fun h0 => (by rw [hr] at h0; cases h0), fun j hj => ?_⟩⟩
  have hj' := hj
  rw [hr] at hj
  simp only [List.mem_singleton] at hj
  subst hj
  unfold wpOp
  simp only [ho]
  rw [if_pos hw]
  exact .inl (hgv.wp fun u w' hR => ⟨(h u w' hR).1, (h u w' hR).2.go (hcl.more hj') (h u w' hR).1⟩)

theorem gives_run {o : Oper} {ρ : Operand → Value} {w w' : World} {u : Value} (h : (execOp ρ o).run P w = .ok (.value u) w') : gives P o ρ w fun v W => v = u ∧ W = w' := by
  refine ⟨?_⟩
  unfold givesR
  rw [h]
  exact ⟨rfl, rfl⟩

theorem gives_call {o : Oper} {ρ : Operand → Value} {w : World} {f : FuncId} {args : Array Value} {R : Value → World → Prop} (hv : (execOp ρ o).run P w = .ok (.enter f args) w) (hc : Calls P f args w fun e w' => ∃ v, e = .returned v ∧ R v w') : gives P o ρ w R := by
  refine ⟨?_⟩
  unfold givesR
  rw [hv]
  exact hc

theorem gives_append {o : Oper} {ρ : Operand → Value} {w w' : World} {t ty : TypeId} {v y u : Value} (hv : ∀ w, (execOp ρ o).run P w = ((Builtin.append_ #[t, t] ty #[v, y]) >>= fun x => pure (Next.value x) : Sem Next).run P w) (hrun : (Builtin.append_ #[t, t] ty #[v, y]).run P w = .ok u w') : gives P o ρ w fun x W => x = u ∧ W = w' := by
  refine ⟨?_⟩
  unfold givesR
  rw [hv w, Sem.run_bind, hrun]
  exact ⟨rfl, rfl⟩

theorem gives_store {o : Oper} {ρ : Operand → Value} {w : World} {p : Addr} {x y : Value} (hv : ∀ w, (execOp ρ o).run P w = ((store p x) >>= fun _ => pure Next.skip : Sem Next).run P w) (h1 : x.oneCell' = true) (hc : w.cell? p = some y) (hf : w.frozen? p = false) : gives P o ρ w fun u W => u = undef ∧ W = w.setCell p x := by
  refine ⟨?_⟩
  unfold givesR
  rw [hv w, Sem.run_bind, run_store P w p x _ h1, hc, hf]
  exact ⟨rfl, rfl⟩

theorem gives_unit {o : Oper} {ρ : Operand → Value} {w w' : World} (s : Sem Unit) (hv : ∀ w, (execOp ρ o).run P w = (s >>= fun _ => pure Next.skip : Sem Next).run P w) (hrun : s.run P w = .ok () w') : gives P o ρ w fun u W => u = undef ∧ W = w' := by
  refine ⟨?_⟩
  unfold givesR
  rw [hv w, Sem.run_bind, hrun]
  exact ⟨rfl, rfl⟩

theorem held_nil {listed : Array Bool} {w : World} : Held [] listed w := fun f hf => by cases hf

theorem held_cons {f : Fact} {fs : List Fact} {listed : Array Bool} {w : World} (h : listed.getD f.g false = true ∨ f.Y w) (hs : Held fs listed w) : Held (f :: fs) listed w := fun x hx => by
  rcases List.mem_cons.1 hx with rfl | hx
  · exact h
  · exact hs x hx

/-- A cell of another place than the one that was written. -/
theorem cell_set_ne {w : World} {p q : Addr} {v x : Value} (h : w.cell? p = some v) (hne : q ≠ p) : (w.setCell q x).cell? p = some v := (World.cell?_setCell_other _ _ _ _ hne).trans h

theorem At.done {fs : List Fact} {fuel : Nat} {listed : Array Bool} {a : Act} {w : World} (hr : Region.ready .any ops listed = []) (h : Q .normal a w) : At P ops Q fs fuel listed a w := by
  refine ⟨fun _ _ => ?_⟩
  cases fuel with
  | zero => exact ⟨hr, h⟩
  | succ n => exact ⟨fun _ => h, fun i hi => (by rw [hr] at hi; cases hi)⟩
end held

end Go.Proofs.YtoecakjjondeeaaGreat

/- RecOk of both sides, and the program's records, by their contracts. -/
namespace Go.Proofs.YtoecakjjondeeaaGreat
open Go.RowKit
set_option linter.unusedVariables false

theorem sin_yes (n a b : Int) (w : World) (h1 : a ≤ n) (h2 : n ≤ b) : Calls Tryz.prog 71 #[.int .i64 n, .int .i64 a, .int .i64 b] w fun e w' => e = .returned (.bool true) ∧ w' = w := by
  go_enter Tryz.func71, Tryz.ntmps71
  go_wp2
  go_ret
  exact ⟨rfl, rfl⟩

theorem sin_no (n a b : Int) (w : World) (h : ¬ (a ≤ n ∧ n ≤ b)) : Calls Tryz.prog 71 #[.int .i64 n, .int .i64 a, .int .i64 b] w fun e w' => e = .returned (.bool false) ∧ w' = w := by
  by_cases h1 : n < a
  · have h1' : ¬ a ≤ n := by omega
    clear h
    go_enter Tryz.func71, Tryz.ntmps71
    go_wp2
    go_ret
    exact ⟨rfl, rfl⟩
  · have h2 : ¬ n ≤ b := by omega
    have h1' : a ≤ n := by omega
    clear h h1
    go_enter Tryz.func71, Tryz.ntmps71
    go_wp2
    go_ret
    exact ⟨rfl, rfl⟩

theorem win_yes (n a b : Int) (w : World) (h1 : a ≤ n) (h2 : n ≤ b) : Calls Tryz.prog 116 #[.int .i64 n, .int .i64 a, .int .i64 b] w fun e w' => e = .returned (.bool true) ∧ w' = w := by
  go_enter Tryz.func116, Tryz.ntmps116
  go_wp2
  go_ret
  exact ⟨rfl, rfl⟩

theorem win_no (n a b : Int) (w : World) (h : ¬ (a ≤ n ∧ n ≤ b)) : Calls Tryz.prog 116 #[.int .i64 n, .int .i64 a, .int .i64 b] w fun e w' => e = .returned (.bool false) ∧ w' = w := by
  by_cases h1 : n < a
  · have h1' : ¬ a ≤ n := by omega
    clear h
    go_enter Tryz.func116, Tryz.ntmps116
    go_wp2
    go_ret
    exact ⟨rfl, rfl⟩
  · have h2 : ¬ n ≤ b := by omega
    have h1' : a ≤ n := by omega
    clear h h1
    go_enter Tryz.func116, Tryz.ntmps116
    go_wp2
    go_ret
    exact ⟨rfl, rfl⟩

def bsR (i t : Int) : Prop := (i = 0 ∧ t = 0) ∨ (i ≠ 0 ∧ (1 ≤ i ∧ i ≤ 100000) ∧ (1 ≤ t ∧ t ≤ 100000))

instance (i t : Int) : Decidable (bsR i t) := by unfold bsR; infer_instance

theorem based_c (i t : Int) (w : World) : Calls Tryz.prog 110 #[.int .i64 i, .int .i64 t] w fun e w' => e = .returned (.bool (decide (bsR i t))) ∧ w' = w := by
  by_cases h0 : i = 0
  · subst h0
    by_cases h1 : t = 0
    · go_enter Tryz.func110, Tryz.ntmps110
      go_wp2
      go_ret
      exact ⟨ret_t (by unfold bsR; omega), rfl⟩
    · go_enter Tryz.func110, Tryz.ntmps110
      go_wp2
      go_ret
      exact ⟨ret_x (by simpa using h1) (decide_eq_false (by unfold bsR; omega)), rfl⟩
  · by_cases t0 : 1 ≤ i ∧ i ≤ 100000
    · by_cases t1 : 1 ≤ t ∧ t ≤ 100000
      · go_enter Tryz.func110, Tryz.ntmps110
        go_wp2_with fail
        refine (sin_yes i 1 100000 _ t0.1 t0.2).mono ?_
        rintro e w1 ⟨rfl, hw⟩
        replace hw := hw.symm
        subst hw
        go_wp2_with fail
        refine (sin_yes t 1 100000 _ t1.1 t1.2).mono ?_
        rintro e w1 ⟨rfl, hw⟩
        replace hw := hw.symm
        subst hw
        go_wp2
        go_ret
        exact ⟨ret_t (by unfold bsR; omega), rfl⟩
      · go_enter Tryz.func110, Tryz.ntmps110
        go_wp2_with fail
        refine (sin_yes i 1 100000 _ t0.1 t0.2).mono ?_
        rintro e w1 ⟨rfl, hw⟩
        replace hw := hw.symm
        subst hw
        go_wp2_with fail
        refine (sin_no t 1 100000 _ t1).mono ?_
        rintro e w1 ⟨rfl, hw⟩
        replace hw := hw.symm
        subst hw
        go_wp2
        go_ret
        exact ⟨ret_f (by unfold bsR; omega), rfl⟩
    · go_enter Tryz.func110, Tryz.ntmps110
      go_wp2_with fail
      refine (sin_no i 1 100000 _ t0).mono ?_
      rintro e w1 ⟨rfl, hw⟩
      replace hw := hw.symm
      subst hw
      go_wp2
      go_ret
      exact ⟨ret_f (by unfold bsR; omega), rfl⟩

theorem bas_yes (i t : Int) (w : World) (h : bsR i t) : Calls Tryz.prog 110 #[.int .i64 i, .int .i64 t] w fun e w' => e = .returned (.bool true) ∧ w' = w := by
  have := based_c i t w
  rwa [decide_eq_true h] at this

theorem bas_no (i t : Int) (w : World) (h : ¬ bsR i t) : Calls Tryz.prog 110 #[.int .i64 i, .int .i64 t] w fun e w' => e = .returned (.bool false) ∧ w' = w := by
  have := based_c i t w
  rwa [decide_eq_false h] at this

set_option maxRecDepth 20000 in
set_option maxHeartbeats 1000000 in
theorem specRecOk_c (x : S_Rec) (w : World) (hz : sRec x) : Calls Tryz.prog 145 #[.agg #[.int .i64 x.f0, .int .i64 x.f1, .int .i64 x.f2, .int .i64 x.f3, .string x.f4]] w fun e w' => e = .returned (.bool (decide (okR x))) ∧ Below w.heap.size w w' := by
  unfold sRec maxLen at hz
  by_cases k1 : x.f0 = 1
  · by_cases t0 : 0 ≤ x.f1 ∧ x.f1 ≤ 100000
    · by_cases t1 : -1 ≤ x.f3 ∧ x.f3 ≤ 4
      · by_cases t2 : x.f2 = 0
        · by_cases t3 : x.f4 = ⟨#[]⟩
          · go_enter Tryz.func145, Tryz.ntmps145
            go_wp2_with fail
            refine (sin_yes x.f1 0 100000 _ t0.1 t0.2).mono ?_
            rintro e w1 ⟨rfl, hw⟩
            replace hw := hw.symm
            subst hw
            go_wp2_with fail
            refine (sin_yes x.f3 (-1) 4 _ t1.1 t1.2).mono ?_
            rintro e w1 ⟨rfl, hw⟩
            replace hw := hw.symm
            subst hw
            go_wp2
            go_ret
            exact ⟨ret_t (by exact .inl ⟨k1, t0, t1, t2, t3⟩), (Below.refl _ _).alloc (Nat.le_refl _) _⟩
          · go_enter Tryz.func145, Tryz.ntmps145
            go_wp2_with fail
            refine (sin_yes x.f1 0 100000 _ t0.1 t0.2).mono ?_
            rintro e w1 ⟨rfl, hw⟩
            replace hw := hw.symm
            subst hw
            go_wp2_with fail
            refine (sin_yes x.f3 (-1) 4 _ t1.1 t1.2).mono ?_
            rintro e w1 ⟨rfl, hw⟩
            replace hw := hw.symm
            subst hw
            go_wp2
            go_ret
            exact ⟨ret_x (empty_noR t3) (decide_eq_false (by intro h; unfold okR at h; rcases h with h | h | h | h <;> first | omega | exact t3 (by first | exact h.2.1 | exact h.2.2.1 | exact h.2.2.2.1 | exact h.2.2.2.2 | omega))), (Below.refl _ _).alloc (Nat.le_refl _) _⟩
        · go_enter Tryz.func145, Tryz.ntmps145
          go_wp2_with fail
          refine (sin_yes x.f1 0 100000 _ t0.1 t0.2).mono ?_
          rintro e w1 ⟨rfl, hw⟩
          replace hw := hw.symm
          subst hw
          go_wp2_with fail
          refine (sin_yes x.f3 (-1) 4 _ t1.1 t1.2).mono ?_
          rintro e w1 ⟨rfl, hw⟩
          replace hw := hw.symm
          subst hw
          go_wp2
          go_ret
          exact ⟨ret_f (by intro h; unfold okR at h; rcases h with h | h | h | h <;> first | omega | exact t2 (by first | exact h.2.1 | exact h.2.2.1 | exact h.2.2.2.1 | exact h.2.2.2.2 | omega)), (Below.refl _ _).alloc (Nat.le_refl _) _⟩
      · go_enter Tryz.func145, Tryz.ntmps145
        go_wp2_with fail
        refine (sin_yes x.f1 0 100000 _ t0.1 t0.2).mono ?_
        rintro e w1 ⟨rfl, hw⟩
        replace hw := hw.symm
        subst hw
        go_wp2_with fail
        refine (sin_no x.f3 (-1) 4 _ t1).mono ?_
        rintro e w1 ⟨rfl, hw⟩
        replace hw := hw.symm
        subst hw
        go_wp2
        go_ret
        exact ⟨ret_f (by intro h; unfold okR at h; rcases h with h | h | h | h <;> first | omega | exact t1 (by first | exact h.2.1 | exact h.2.2.1 | exact h.2.2.2.1 | exact h.2.2.2.2 | omega)), (Below.refl _ _).alloc (Nat.le_refl _) _⟩
    · go_enter Tryz.func145, Tryz.ntmps145
      go_wp2_with fail
      refine (sin_no x.f1 0 100000 _ t0).mono ?_
      rintro e w1 ⟨rfl, hw⟩
      replace hw := hw.symm
      subst hw
      go_wp2
      go_ret
      exact ⟨ret_f (by intro h; unfold okR at h; rcases h with h | h | h | h <;> first | omega | exact t0 (by first | exact h.2.1 | exact h.2.2.1 | exact h.2.2.2.1 | exact h.2.2.2.2 | omega)), (Below.refl _ _).alloc (Nat.le_refl _) _⟩
  by_cases k2 : x.f0 = 2
  · by_cases t0 : 1 ≤ x.f1 ∧ x.f1 ≤ 100000
    · by_cases t1 : 1 ≤ x.f2 ∧ x.f2 ≤ 100000
      · by_cases t2 : x.f3 = 0
        · by_cases t3 : (x.f4.size : Int) ≤ 900
          · go_enter Tryz.func145, Tryz.ntmps145
            go_wp2_with fail
            refine (sin_yes x.f1 1 100000 _ t0.1 t0.2).mono ?_
            rintro e w1 ⟨rfl, hw⟩
            replace hw := hw.symm
            subst hw
            go_wp2_with fail
            refine (sin_yes x.f2 1 100000 _ t1.1 t1.2).mono ?_
            rintro e w1 ⟨rfl, hw⟩
            replace hw := hw.symm
            subst hw
            go_wp2
            go_ret
            exact ⟨ret_t (by have := t3; exact .inr (.inl ⟨k2, t0, t1, t2, by omega⟩)), (Below.refl _ _).alloc (Nat.le_refl _) _⟩
          · go_enter Tryz.func145, Tryz.ntmps145
            go_wp2_with fail
            refine (sin_yes x.f1 1 100000 _ t0.1 t0.2).mono ?_
            rintro e w1 ⟨rfl, hw⟩
            replace hw := hw.symm
            subst hw
            go_wp2_with fail
            refine (sin_yes x.f2 1 100000 _ t1.1 t1.2).mono ?_
            rintro e w1 ⟨rfl, hw⟩
            replace hw := hw.symm
            subst hw
            go_wp2
            go_ret
            exact ⟨ret_x (decide_eq_false (by omega)) (decide_eq_false (by intro h; unfold okR at h; rcases h with h | h | h | h <;> first | omega | exact t3 (by first | exact h.2.1 | exact h.2.2.1 | exact h.2.2.2.1 | exact h.2.2.2.2 | omega))), (Below.refl _ _).alloc (Nat.le_refl _) _⟩
        · go_enter Tryz.func145, Tryz.ntmps145
          go_wp2_with fail
          refine (sin_yes x.f1 1 100000 _ t0.1 t0.2).mono ?_
          rintro e w1 ⟨rfl, hw⟩
          replace hw := hw.symm
          subst hw
          go_wp2_with fail
          refine (sin_yes x.f2 1 100000 _ t1.1 t1.2).mono ?_
          rintro e w1 ⟨rfl, hw⟩
          replace hw := hw.symm
          subst hw
          go_wp2
          go_ret
          exact ⟨ret_f (by intro h; unfold okR at h; rcases h with h | h | h | h <;> first | omega | exact t2 (by first | exact h.2.1 | exact h.2.2.1 | exact h.2.2.2.1 | exact h.2.2.2.2 | omega)), (Below.refl _ _).alloc (Nat.le_refl _) _⟩
      · go_enter Tryz.func145, Tryz.ntmps145
        go_wp2_with fail
        refine (sin_yes x.f1 1 100000 _ t0.1 t0.2).mono ?_
        rintro e w1 ⟨rfl, hw⟩
        replace hw := hw.symm
        subst hw
        go_wp2_with fail
        refine (sin_no x.f2 1 100000 _ t1).mono ?_
        rintro e w1 ⟨rfl, hw⟩
        replace hw := hw.symm
        subst hw
        go_wp2
        go_ret
        exact ⟨ret_f (by intro h; unfold okR at h; rcases h with h | h | h | h <;> first | omega | exact t1 (by first | exact h.2.1 | exact h.2.2.1 | exact h.2.2.2.1 | exact h.2.2.2.2 | omega)), (Below.refl _ _).alloc (Nat.le_refl _) _⟩
    · go_enter Tryz.func145, Tryz.ntmps145
      go_wp2_with fail
      refine (sin_no x.f1 1 100000 _ t0).mono ?_
      rintro e w1 ⟨rfl, hw⟩
      replace hw := hw.symm
      subst hw
      go_wp2
      go_ret
      exact ⟨ret_f (by intro h; unfold okR at h; rcases h with h | h | h | h <;> first | omega | exact t0 (by first | exact h.2.1 | exact h.2.2.1 | exact h.2.2.2.1 | exact h.2.2.2.2 | omega)), (Below.refl _ _).alloc (Nat.le_refl _) _⟩
  by_cases k3 : x.f0 = 3
  · by_cases t0 : x.f1 = 0
    · by_cases t1 : 1 ≤ x.f2 ∧ x.f2 ≤ 100000
      · by_cases t2 : x.f3 = 0
        · by_cases t3 : x.f4 = ⟨#[]⟩
          · go_enter Tryz.func145, Tryz.ntmps145
            go_wp2_with fail
            refine (sin_yes x.f2 1 100000 _ t1.1 t1.2).mono ?_
            rintro e w1 ⟨rfl, hw⟩
            replace hw := hw.symm
            subst hw
            go_wp2
            go_ret
            exact ⟨ret_t (by exact .inr (.inr (.inl ⟨k3, t0, t1, t2, t3⟩))), (Below.refl _ _).alloc (Nat.le_refl _) _⟩
          · go_enter Tryz.func145, Tryz.ntmps145
            go_wp2_with fail
            refine (sin_yes x.f2 1 100000 _ t1.1 t1.2).mono ?_
            rintro e w1 ⟨rfl, hw⟩
            replace hw := hw.symm
            subst hw
            go_wp2
            go_ret
            exact ⟨ret_x (empty_noR t3) (decide_eq_false (by intro h; unfold okR at h; rcases h with h | h | h | h <;> first | omega | exact t3 (by first | exact h.2.1 | exact h.2.2.1 | exact h.2.2.2.1 | exact h.2.2.2.2 | omega))), (Below.refl _ _).alloc (Nat.le_refl _) _⟩
        · go_enter Tryz.func145, Tryz.ntmps145
          go_wp2_with fail
          refine (sin_yes x.f2 1 100000 _ t1.1 t1.2).mono ?_
          rintro e w1 ⟨rfl, hw⟩
          replace hw := hw.symm
          subst hw
          go_wp2
          go_ret
          exact ⟨ret_f (by intro h; unfold okR at h; rcases h with h | h | h | h <;> first | omega | exact t2 (by first | exact h.2.1 | exact h.2.2.1 | exact h.2.2.2.1 | exact h.2.2.2.2 | omega)), (Below.refl _ _).alloc (Nat.le_refl _) _⟩
      · go_enter Tryz.func145, Tryz.ntmps145
        go_wp2_with fail
        refine (sin_no x.f2 1 100000 _ t1).mono ?_
        rintro e w1 ⟨rfl, hw⟩
        replace hw := hw.symm
        subst hw
        go_wp2
        go_ret
        exact ⟨ret_f (by intro h; unfold okR at h; rcases h with h | h | h | h <;> first | omega | exact t1 (by first | exact h.2.1 | exact h.2.2.1 | exact h.2.2.2.1 | exact h.2.2.2.2 | omega)), (Below.refl _ _).alloc (Nat.le_refl _) _⟩
    · go_enter Tryz.func145, Tryz.ntmps145
      go_wp2
      go_ret
      exact ⟨ret_f (by intro h; unfold okR at h; rcases h with h | h | h | h <;> first | omega | exact t0 (by first | exact h.2.1 | exact h.2.2.1 | exact h.2.2.2.1 | exact h.2.2.2.2 | omega)), (Below.refl _ _).alloc (Nat.le_refl _) _⟩
  by_cases k4 : x.f0 = 4
  · by_cases t0 : bsR x.f2 x.f1
    · by_cases t1 : x.f3 = 0
      · by_cases t2 : x.f4 = ⟨#[]⟩
        · go_enter Tryz.func145, Tryz.ntmps145
          go_wp2_with fail
          refine (bas_yes x.f2 x.f1 _ t0).mono ?_
          rintro e w1 ⟨rfl, hw⟩
          replace hw := hw.symm
          subst hw
          go_wp2
          go_ret
          exact ⟨ret_t (by exact .inr (.inr (.inr ⟨k4, t0, t1, t2⟩))), (Below.refl _ _).alloc (Nat.le_refl _) _⟩
        · go_enter Tryz.func145, Tryz.ntmps145
          go_wp2_with fail
          refine (bas_yes x.f2 x.f1 _ t0).mono ?_
          rintro e w1 ⟨rfl, hw⟩
          replace hw := hw.symm
          subst hw
          go_wp2
          go_ret
          exact ⟨ret_x (empty_noR t2) (decide_eq_false (by intro h; unfold okR at h; rcases h with h | h | h | ⟨_, h1, h2, h3⟩ <;> first | omega | exact t2 (by first | exact h1 | exact h2 | exact h3))), (Below.refl _ _).alloc (Nat.le_refl _) _⟩
      · go_enter Tryz.func145, Tryz.ntmps145
        go_wp2_with fail
        refine (bas_yes x.f2 x.f1 _ t0).mono ?_
        rintro e w1 ⟨rfl, hw⟩
        replace hw := hw.symm
        subst hw
        go_wp2
        go_ret
        exact ⟨ret_f (by intro h; unfold okR at h; rcases h with h | h | h | ⟨_, h1, h2, h3⟩ <;> first | omega | exact t1 (by first | exact h1 | exact h2 | exact h3)), (Below.refl _ _).alloc (Nat.le_refl _) _⟩
    · go_enter Tryz.func145, Tryz.ntmps145
      go_wp2_with fail
      refine (bas_no x.f2 x.f1 _ t0).mono ?_
      rintro e w1 ⟨rfl, hw⟩
      replace hw := hw.symm
      subst hw
      go_wp2
      go_ret
      exact ⟨ret_f (by intro h; unfold okR at h; rcases h with h | h | h | ⟨_, h1, h2, h3⟩ <;> first | omega | exact t0 (by first | exact h1 | exact h2 | exact h3)), (Below.refl _ _).alloc (Nat.le_refl _) _⟩
  go_enter Tryz.func145, Tryz.ntmps145
  go_wp2
  go_ret
  exact ⟨ret_f (by unfold okR; omega), (Below.refl _ _).alloc (Nat.le_refl _) _⟩

set_option maxRecDepth 20000 in
set_option maxHeartbeats 1000000 in
theorem bounds_c (x : S_Rec) (w : World) (hz : sRec x) : Calls Tryz.prog 161 #[.agg #[.int .i64 x.f0, .int .i64 x.f1, .int .i64 x.f2, .int .i64 x.f3, .string x.f4]] w fun e w' => e = .returned (.bool (decide (bdR x))) ∧ Below w.heap.size w w' := by
  unfold sRec maxLen at hz
  by_cases k1 : x.f0 = 1
  · by_cases t0 : 0 ≤ x.f1 ∧ x.f1 ≤ 100000
    · by_cases t1 : -1 ≤ x.f3 ∧ x.f3 ≤ 4
      · go_enter Tryz.func161, Tryz.ntmps161
        go_wp2_with fail
        refine (win_yes x.f1 0 100000 _ t0.1 t0.2).mono ?_
        rintro e w1 ⟨rfl, hw⟩
        replace hw := hw.symm
        subst hw
        go_wp2_with fail
        refine (win_yes x.f3 (-1) 4 _ t1.1 t1.2).mono ?_
        rintro e w1 ⟨rfl, hw⟩
        replace hw := hw.symm
        subst hw
        go_wp2
        go_ret
        exact ⟨ret_t (by unfold bdR; omega), (Below.refl _ _).alloc (Nat.le_refl _) _⟩
      · go_enter Tryz.func161, Tryz.ntmps161
        go_wp2_with fail
        refine (win_yes x.f1 0 100000 _ t0.1 t0.2).mono ?_
        rintro e w1 ⟨rfl, hw⟩
        replace hw := hw.symm
        subst hw
        go_wp2_with fail
        refine (win_no x.f3 (-1) 4 _ t1).mono ?_
        rintro e w1 ⟨rfl, hw⟩
        replace hw := hw.symm
        subst hw
        go_wp2
        go_ret
        exact ⟨ret_f (by unfold bdR; omega), (Below.refl _ _).alloc (Nat.le_refl _) _⟩
    · go_enter Tryz.func161, Tryz.ntmps161
      go_wp2_with fail
      refine (win_no x.f1 0 100000 _ t0).mono ?_
      rintro e w1 ⟨rfl, hw⟩
      replace hw := hw.symm
      subst hw
      go_wp2
      go_ret
      exact ⟨ret_f (by unfold bdR; omega), (Below.refl _ _).alloc (Nat.le_refl _) _⟩
  by_cases k4 : x.f0 = 4
  · by_cases z0 : x.f2 = 0
    · by_cases z1 : x.f1 = 0
      · go_enter Tryz.func161, Tryz.ntmps161
        go_wp2
        go_ret
        exact ⟨ret_t (by unfold bdR; omega), (Below.refl _ _).alloc (Nat.le_refl _) _⟩
      · go_enter Tryz.func161, Tryz.ntmps161
        go_wp2
        go_ret
        exact ⟨ret_x (by simpa using z1) (decide_eq_false (by unfold bdR; omega)), (Below.refl _ _).alloc (Nat.le_refl _) _⟩
    · by_cases t0 : 1 ≤ x.f1 ∧ x.f1 ≤ 100000
      · by_cases t1 : (x.f4.size : Int) ≤ 900
        · by_cases t2 : 1 ≤ x.f2 ∧ x.f2 ≤ 100000
          · go_enter Tryz.func161, Tryz.ntmps161
            go_wp2_with fail
            refine (win_yes x.f1 1 100000 _ t0.1 t0.2).mono ?_
            rintro e w1 ⟨rfl, hw⟩
            replace hw := hw.symm
            subst hw
            go_wp2_with fail
            refine (win_yes x.f2 1 100000 _ t2.1 t2.2).mono ?_
            rintro e w1 ⟨rfl, hw⟩
            replace hw := hw.symm
            subst hw
            go_wp2
            go_ret
            exact ⟨ret_t (by unfold bdR; omega), (Below.refl _ _).alloc (Nat.le_refl _) _⟩
          · go_enter Tryz.func161, Tryz.ntmps161
            go_wp2_with fail
            refine (win_yes x.f1 1 100000 _ t0.1 t0.2).mono ?_
            rintro e w1 ⟨rfl, hw⟩
            replace hw := hw.symm
            subst hw
            go_wp2_with fail
            refine (win_no x.f2 1 100000 _ t2).mono ?_
            rintro e w1 ⟨rfl, hw⟩
            replace hw := hw.symm
            subst hw
            go_wp2
            go_ret
            exact ⟨ret_f (by unfold bdR; omega), (Below.refl _ _).alloc (Nat.le_refl _) _⟩
        · go_enter Tryz.func161, Tryz.ntmps161
          go_wp2_with fail
          refine (win_yes x.f1 1 100000 _ t0.1 t0.2).mono ?_
          rintro e w1 ⟨rfl, hw⟩
          replace hw := hw.symm
          subst hw
          go_wp2
          go_ret
          exact ⟨ret_f (by unfold bdR; omega), (Below.refl _ _).alloc (Nat.le_refl _) _⟩
      · go_enter Tryz.func161, Tryz.ntmps161
        go_wp2_with fail
        refine (win_no x.f1 1 100000 _ t0).mono ?_
        rintro e w1 ⟨rfl, hw⟩
        replace hw := hw.symm
        subst hw
        go_wp2
        go_ret
        exact ⟨ret_f (by unfold bdR; omega), (Below.refl _ _).alloc (Nat.le_refl _) _⟩
  by_cases k2 : x.f0 = 2
  · by_cases t0 : 1 ≤ x.f1 ∧ x.f1 ≤ 100000
    · by_cases t1 : (x.f4.size : Int) ≤ 900
      · by_cases t2 : 1 ≤ x.f2 ∧ x.f2 ≤ 100000
        · go_enter Tryz.func161, Tryz.ntmps161
          go_wp2_with fail
          refine (win_yes x.f1 1 100000 _ t0.1 t0.2).mono ?_
          rintro e w1 ⟨rfl, hw⟩
          replace hw := hw.symm
          subst hw
          go_wp2_with fail
          refine (win_yes x.f2 1 100000 _ t2.1 t2.2).mono ?_
          rintro e w1 ⟨rfl, hw⟩
          replace hw := hw.symm
          subst hw
          go_wp2
          go_ret
          exact ⟨ret_t (by unfold bdR; omega), (Below.refl _ _).alloc (Nat.le_refl _) _⟩
        · go_enter Tryz.func161, Tryz.ntmps161
          go_wp2_with fail
          refine (win_yes x.f1 1 100000 _ t0.1 t0.2).mono ?_
          rintro e w1 ⟨rfl, hw⟩
          replace hw := hw.symm
          subst hw
          go_wp2_with fail
          refine (win_no x.f2 1 100000 _ t2).mono ?_
          rintro e w1 ⟨rfl, hw⟩
          replace hw := hw.symm
          subst hw
          go_wp2
          go_ret
          exact ⟨ret_f (by unfold bdR; omega), (Below.refl _ _).alloc (Nat.le_refl _) _⟩
      · go_enter Tryz.func161, Tryz.ntmps161
        go_wp2_with fail
        refine (win_yes x.f1 1 100000 _ t0.1 t0.2).mono ?_
        rintro e w1 ⟨rfl, hw⟩
        replace hw := hw.symm
        subst hw
        go_wp2
        go_ret
        exact ⟨ret_f (by unfold bdR; omega), (Below.refl _ _).alloc (Nat.le_refl _) _⟩
    · go_enter Tryz.func161, Tryz.ntmps161
      go_wp2_with fail
      refine (win_no x.f1 1 100000 _ t0).mono ?_
      rintro e w1 ⟨rfl, hw⟩
      replace hw := hw.symm
      subst hw
      go_wp2
      go_ret
      exact ⟨ret_f (by unfold bdR; omega), (Below.refl _ _).alloc (Nat.le_refl _) _⟩
  by_cases k3 : x.f0 = 3
  · by_cases t0 : 1 ≤ x.f2 ∧ x.f2 ≤ 100000
    · go_enter Tryz.func161, Tryz.ntmps161
      go_wp2_with fail
      refine (win_yes x.f2 1 100000 _ t0.1 t0.2).mono ?_
      rintro e w1 ⟨rfl, hw⟩
      replace hw := hw.symm
      subst hw
      go_wp2
      go_ret
      exact ⟨ret_t (by unfold bdR; omega), (Below.refl _ _).alloc (Nat.le_refl _) _⟩
    · go_enter Tryz.func161, Tryz.ntmps161
      go_wp2_with fail
      refine (win_no x.f2 1 100000 _ t0).mono ?_
      rintro e w1 ⟨rfl, hw⟩
      replace hw := hw.symm
      subst hw
      go_wp2
      go_ret
      exact ⟨ret_f (by unfold bdR; omega), (Below.refl _ _).alloc (Nat.le_refl _) _⟩
  go_enter Tryz.func161, Tryz.ntmps161
  go_wp2
  go_ret
  exact ⟨ret_f (by unfold bdR; omega), (Below.refl _ _).alloc (Nat.le_refl _) _⟩

/-- A record as the program has it. -/
def recV (x : S_Rec) : Value :=
  if x.f0 = 1 then .iface 163 (.agg #[.int .i64 x.f1, .int .i64 x.f3]) else if x.f0 = 2 then .iface 205 (.agg #[.int .i64 x.f2, .int .i64 x.f1, .string x.f4]) else if x.f0 = 3 then .iface 207 (.agg #[.int .i64 x.f2]) else if x.f0 = 4 then .iface 161 (.agg #[.int .i64 x.f1, .int .i64 x.f2]) else .nilIface

set_option maxRecDepth 20000 in
set_option maxHeartbeats 1000000 in
theorem kindOf_c (x : S_Rec) (w : World) : Calls Tryz.prog 162 #[.agg #[.int .i64 x.f0, .int .i64 x.f1, .int .i64 x.f2, .int .i64 x.f3, .string x.f4]] w fun e w' => e = .returned (recV x) ∧ Below w.heap.size w w' := by
  by_cases k1 : x.f0 = 1
  · have HV : Hid (recV x = .iface 163 (.agg #[.int .i64 x.f1, .int .i64 x.f3])) := by show _ = _; unfold recV;  rw [if_pos k1]
    go_enter Tryz.func162, Tryz.ntmps162
    go_wp2
    go_ret
    exact ⟨by rw [HV.out]; rfl, (Below.refl _ _).alloc (Nat.le_refl _) _⟩
  by_cases k2 : x.f0 = 2
  · have HV : Hid (recV x = .iface 205 (.agg #[.int .i64 x.f2, .int .i64 x.f1, .string x.f4])) := by show _ = _; unfold recV; rw [if_neg k1]; rw [if_pos k2]
    go_enter Tryz.func162, Tryz.ntmps162
    go_wp2
    go_ret
    exact ⟨by rw [HV.out]; rfl, (Below.refl _ _).alloc (Nat.le_refl _) _⟩
  by_cases k3 : x.f0 = 3
  · have HV : Hid (recV x = .iface 207 (.agg #[.int .i64 x.f2])) := by show _ = _; unfold recV; rw [if_neg k1]; rw [if_neg k2]; rw [if_pos k3]
    go_enter Tryz.func162, Tryz.ntmps162
    go_wp2
    go_ret
    exact ⟨by rw [HV.out]; rfl, (Below.refl _ _).alloc (Nat.le_refl _) _⟩
  by_cases k4 : x.f0 = 4
  · have HV : Hid (recV x = .iface 161 (.agg #[.int .i64 x.f1, .int .i64 x.f2])) := by show _ = _; unfold recV; rw [if_neg k1]; rw [if_neg k2]; rw [if_neg k3]; rw [if_pos k4]
    go_enter Tryz.func162, Tryz.ntmps162
    go_wp2
    go_ret
    exact ⟨by rw [HV.out]; rfl, (Below.refl _ _).alloc (Nat.le_refl _) _⟩
  have HV : Hid (recV x = .nilIface) := by show _ = _; unfold recV; rw [if_neg k1, if_neg k2, if_neg k3, if_neg k4]
  go_enter Tryz.func162, Tryz.ntmps162
  go_wp2
  go_ret
  exact ⟨by rw [HV.out]; rfl, (Below.refl _ _).alloc (Nat.le_refl _) _⟩

end Go.Proofs.YtoecakjjondeeaaGreat

/- A world forgotten but for facts; cuts ahead of a region. -/
namespace Go.Proofs.YtoecakjjondeeaaGreat
open Go.RowKit
set_option linter.unusedVariables false

theorem wp_genW {P : Program} {c : Code} {Q : Exit → Act → World → Prop} {a : Act} (F : World → Prop) {W0 : World} (h0 : F W0) (h : ∀ W, F W → Code.wp P c Q a W) : Code.wp P c Q a W0 := h W0 h0

theorem alloc_last (w : World) (o : Obj) : (w.alloc o).heap[w.heap.size]? = some o := (MapKept.heap_alloc w o).1

end Go.Proofs.YtoecakjjondeeaaGreat

/- The program's records told, and taken, by contracts. -/
namespace Go.Proofs.YtoecakjjondeeaaGreat
open Go.RowKit
set_option linter.unusedVariables false

theorem ta01 : ∀ (v : Value) (W : World), (Instr.typeAssert .nilIface 170 163 true).run Tryz.prog W = .ok (.tuple #[.agg #[.int .i64 0, .int .i64 0], .bool false]) W := fun v W => by kernel_rfl

theorem ta02 : ∀ (v : Value) (W : World), (Instr.typeAssert .nilIface 170 205 true).run Tryz.prog W = .ok (.tuple #[.agg #[.int .i64 0, .int .i64 0, .string ⟨#[]⟩], .bool false]) W := fun v W => by kernel_rfl

theorem ta03 : ∀ (v : Value) (W : World), (Instr.typeAssert .nilIface 170 207 true).run Tryz.prog W = .ok (.tuple #[.agg #[.int .i64 0], .bool false]) W := fun v W => by kernel_rfl

theorem ta04 : ∀ (v : Value) (W : World), (Instr.typeAssert .nilIface 170 161 true).run Tryz.prog W = .ok (.tuple #[.agg #[.int .i64 0, .int .i64 0], .bool false]) W := fun v W => by kernel_rfl

theorem ta11 : ∀ (v : Value) (W : World), (Instr.typeAssert (.iface 163 v) 170 163 true).run Tryz.prog W = .ok (.tuple #[v, .bool true]) W := fun v W => by kernel_rfl

theorem ta12 : ∀ (v : Value) (W : World), (Instr.typeAssert (.iface 163 v) 170 205 true).run Tryz.prog W = .ok (.tuple #[.agg #[.int .i64 0, .int .i64 0, .string ⟨#[]⟩], .bool false]) W := fun v W => by kernel_rfl

theorem ta13 : ∀ (v : Value) (W : World), (Instr.typeAssert (.iface 163 v) 170 207 true).run Tryz.prog W = .ok (.tuple #[.agg #[.int .i64 0], .bool false]) W := fun v W => by kernel_rfl

theorem ta14 : ∀ (v : Value) (W : World), (Instr.typeAssert (.iface 163 v) 170 161 true).run Tryz.prog W = .ok (.tuple #[.agg #[.int .i64 0, .int .i64 0], .bool false]) W := fun v W => by kernel_rfl

theorem ta21 : ∀ (v : Value) (W : World), (Instr.typeAssert (.iface 205 v) 170 163 true).run Tryz.prog W = .ok (.tuple #[.agg #[.int .i64 0, .int .i64 0], .bool false]) W := fun v W => by kernel_rfl

theorem ta22 : ∀ (v : Value) (W : World), (Instr.typeAssert (.iface 205 v) 170 205 true).run Tryz.prog W = .ok (.tuple #[v, .bool true]) W := fun v W => by kernel_rfl

theorem ta23 : ∀ (v : Value) (W : World), (Instr.typeAssert (.iface 205 v) 170 207 true).run Tryz.prog W = .ok (.tuple #[.agg #[.int .i64 0], .bool false]) W := fun v W => by kernel_rfl

theorem ta24 : ∀ (v : Value) (W : World), (Instr.typeAssert (.iface 205 v) 170 161 true).run Tryz.prog W = .ok (.tuple #[.agg #[.int .i64 0, .int .i64 0], .bool false]) W := fun v W => by kernel_rfl

theorem ta31 : ∀ (v : Value) (W : World), (Instr.typeAssert (.iface 207 v) 170 163 true).run Tryz.prog W = .ok (.tuple #[.agg #[.int .i64 0, .int .i64 0], .bool false]) W := fun v W => by kernel_rfl

theorem ta32 : ∀ (v : Value) (W : World), (Instr.typeAssert (.iface 207 v) 170 205 true).run Tryz.prog W = .ok (.tuple #[.agg #[.int .i64 0, .int .i64 0, .string ⟨#[]⟩], .bool false]) W := fun v W => by kernel_rfl

theorem ta33 : ∀ (v : Value) (W : World), (Instr.typeAssert (.iface 207 v) 170 207 true).run Tryz.prog W = .ok (.tuple #[v, .bool true]) W := fun v W => by kernel_rfl

theorem ta34 : ∀ (v : Value) (W : World), (Instr.typeAssert (.iface 207 v) 170 161 true).run Tryz.prog W = .ok (.tuple #[.agg #[.int .i64 0, .int .i64 0], .bool false]) W := fun v W => by kernel_rfl

theorem ta41 : ∀ (v : Value) (W : World), (Instr.typeAssert (.iface 161 v) 170 163 true).run Tryz.prog W = .ok (.tuple #[.agg #[.int .i64 0, .int .i64 0], .bool false]) W := fun v W => by kernel_rfl

theorem ta42 : ∀ (v : Value) (W : World), (Instr.typeAssert (.iface 161 v) 170 205 true).run Tryz.prog W = .ok (.tuple #[.agg #[.int .i64 0, .int .i64 0, .string ⟨#[]⟩], .bool false]) W := fun v W => by kernel_rfl

theorem ta43 : ∀ (v : Value) (W : World), (Instr.typeAssert (.iface 161 v) 170 207 true).run Tryz.prog W = .ok (.tuple #[.agg #[.int .i64 0], .bool false]) W := fun v W => by kernel_rfl

theorem ta44 : ∀ (v : Value) (W : World), (Instr.typeAssert (.iface 161 v) 170 161 true).run Tryz.prog W = .ok (.tuple #[v, .bool true]) W := fun v W => by kernel_rfl

theorem cutR_ok (x : S_Rec) {y : S_Rec} (h : cutR x = y) : (.agg #[.int .i64 (cutR x).f0, .int .i64 (cutR x).f1, .int .i64 (cutR x).f2, .int .i64 (cutR x).f3, .string (cutR x).f4] : Value) = .agg #[.int .i64 y.f0, .int .i64 y.f1, .int .i64 y.f2, .int .i64 y.f3, .string y.f4] := by rw [h]

set_option maxRecDepth 20000 in
set_option maxHeartbeats 1000000 in
theorem tellRec_c (x : S_Rec) (w : World) (hz : x.f4.size ≤ 1048576) : Calls Tryz.prog 122 #[recV x] w fun e w' => e = .returned (.agg #[.int .i64 (cutR x).f0, .int .i64 (cutR x).f1, .int .i64 (cutR x).f2, .int .i64 (cutR x).f3, .string (cutR x).f4]) ∧ Below w.heap.size w w' := by
  by_cases k1 : x.f0 = 1
  · have HV : recV x = .iface 163 (.agg #[.int .i64 x.f1, .int .i64 x.f3]) := by unfold recV;  rw [if_pos k1]
    have HC : Hid (cutR x = ⟨1, x.f1, 0, x.f3, ⟨#[]⟩⟩) := by show _ = _; unfold cutR;  rw [if_pos k1]
    rw [HV]
    clear HV k1
    have ra1 := ta11
    go_enter Tryz.func122, Tryz.ntmps122
    go_wp2
    refine bodyPost_ret (v := .agg #[.int .i64 1, .int .i64 x.f1, .int .i64 0, .int .i64 x.f3, .string ⟨#[]⟩]) (by simp [results, Tryz.results122, go_sem]) rfl ⟨by rw [HC.out], ?_⟩
    exact ((Below.refl _ _).alloc (Nat.le_refl _) _).alloc (by simp) _
  by_cases k2 : x.f0 = 2
  · have HV : recV x = .iface 205 (.agg #[.int .i64 x.f2, .int .i64 x.f1, .string x.f4]) := by unfold recV; rw [if_neg k1]; rw [if_pos k2]
    have HC : Hid (cutR x = ⟨2, x.f1, x.f2, 0, x.f4⟩) := by show _ = _; unfold cutR; rw [if_neg k1]; rw [if_pos k2]
    rw [HV]
    clear HV k1 k2
    have ra1 := ta21
    have ra2 := ta22
    go_enter Tryz.func122, Tryz.ntmps122
    go_upto_region 7 with fail
    refine wp_genW (fun W => Hid (W.heap[w.heap.size]? = some (.cells #[.int .i64 0, .int .i64 0, .int .i64 0, .int .i64 0, .string ⟨#[]⟩] 157)) ∧ Hid (W.heap[w.heap.size + 1]? = some (.cells #[.int .i64 x.f2, .int .i64 x.f1, .string x.f4] 205)) ∧ Hid (Below w.heap.size w W)) ⟨?_, ?_, ?_⟩ ?_
    · exact (Below.heap_alloc _ _ _ (by simp)).trans (alloc_last _ _)
    · have := alloc_last (w.alloc (.cells #[.int .i64 0, .int .i64 0, .int .i64 0, .int .i64 0, .string ⟨#[]⟩] 157)) (.cells #[.int .i64 x.f2, .int .i64 x.f1, .string x.f4] 205)
      rw [show (w.alloc (.cells #[.int .i64 0, .int .i64 0, .int .i64 0, .int .i64 0, .string ⟨#[]⟩] 157)).heap.size = w.heap.size + 1 by simp] at this
      exact this
    · exact ((Below.refl _ _).alloc (Nat.le_refl _) _).alloc (by simp) _
    rintro W1 ⟨HR1, HX1, HB1⟩
    have c0 : W1.cell? ⟨w.heap.size + 1, 0, none⟩ = some (.int .i64 x.f2) := by simp [World.cell?, HX1.out]
    have c1 : W1.cell? ⟨w.heap.size + 1, 1, none⟩ = some (.int .i64 x.f1) := by simp [World.cell?, HX1.out]
    have c2 : W1.cell? ⟨w.heap.size + 1, 2, none⟩ = some (.string x.f4) := by simp [World.cell?, HX1.out]
    refine wp_region_L [⟨10, fun W => W.cell? ⟨w.heap.size + 1, 1, none⟩ = some (.int .i64 x.f1)⟩, ⟨10, fun W => W.cell? ⟨w.heap.size + 1, 0, none⟩ = some (.int .i64 x.f2)⟩, ⟨8, fun W => W.cell? ⟨w.heap.size + 1, 2, none⟩ = some (.string x.f4)⟩] (by kernel_rfl) (fun f hf => by
        simp only [List.mem_cons, List.not_mem_nil, or_false] at hf
        rcases hf with rfl | rfl | rfl
        · exact c1
        · exact c0
        · exact c2
        ) ?_
    refine At.take 0 (some 19) (.pointer (some ⟨w.heap.size + 1, 1, none⟩)) rfl rfl (by kernel_rfl) (by kernel_rfl) (by kernel_rfl) (by kernel_rfl) (fun _ _ _ h => h) (yl_pure (by kernel_rfl) (fun _ => by kernel_rfl)) ?_
    refine At.take 1 (some 20) (.pointer (some ⟨w.heap.size + 1, 1, none⟩)) rfl rfl (by kernel_rfl) (by kernel_rfl) (by kernel_rfl) (by kernel_rfl) (fun _ _ _ h => h) (yl_pure (by kernel_rfl) (fun _ => by kernel_rfl)) ?_
    refine At.take 2 (some 21) (.int .i64 x.f1) rfl rfl (by kernel_rfl) (by kernel_rfl) (by kernel_rfl) (by kernel_rfl) (fun _ _ _ h => h) (yl_load 10 ⟨w.heap.size + 1, 1, none⟩ (.int .i64 x.f1) (List.mem_cons_self) [9, 10] (by kernel_rfl) rfl (by kernel_rfl) (fun _ => by kernel_rfl)) ?_
    refine At.take 3 (some 22) (.pointer (some ⟨w.heap.size + 1, 0, none⟩)) rfl rfl (by kernel_rfl) (by kernel_rfl) (by kernel_rfl) (by kernel_rfl) (fun _ _ _ h => h) (yl_pure (by kernel_rfl) (fun _ => by kernel_rfl)) ?_
    refine At.take 4 (some 23) (.int .i64 x.f2) rfl rfl (by kernel_rfl) (by kernel_rfl) (by kernel_rfl) (by kernel_rfl) (fun _ _ _ h => h) (yl_load 10 ⟨w.heap.size + 1, 0, none⟩ (.int .i64 x.f2) (List.mem_cons_of_mem _ (List.mem_cons_self)) [9, 10] (by kernel_rfl) rfl (by kernel_rfl) (fun _ => by kernel_rfl)) ?_
    refine At.take 5 (some 24) (.pointer (some ⟨w.heap.size + 1, 1, none⟩)) rfl rfl (by kernel_rfl) (by kernel_rfl) (by kernel_rfl) (by kernel_rfl) (fun _ _ _ h => h) (yl_pure (by kernel_rfl) (fun _ => by kernel_rfl)) ?_
    refine At.take 6 (some 25) (.pointer (some ⟨w.heap.size + 1, 2, none⟩)) rfl rfl (by kernel_rfl) (by kernel_rfl) (by kernel_rfl) (by kernel_rfl) (fun _ _ _ h => h) (yl_pure (by kernel_rfl) (fun _ => by kernel_rfl)) ?_
    refine At.take 7 (some 26) (.string x.f4) rfl rfl (by kernel_rfl) (by kernel_rfl) (by kernel_rfl) (by kernel_rfl) (fun _ _ _ h => h) (yl_load 8 ⟨w.heap.size + 1, 2, none⟩ (.string x.f4) (List.mem_cons_of_mem _ (List.mem_cons_of_mem _ (List.mem_cons_self))) [8] (by kernel_rfl) rfl (by kernel_rfl) (fun _ => by kernel_rfl)) ?_
    refine At.step 8 (some 27) rfl rfl (by kernel_rfl) (by kernel_rfl) (fun u W => u = .string x.f4 ∧ Below W1.drew.heap.size W1.drew W) (gives_call (by kernel_rfl) ((clone_c x.f4 W1.drew (by have := hz; omega)).mono fun e w' ⟨he, hb⟩ => ⟨_, he, rfl, hb⟩)) ?_
    rintro u W2 ⟨rfl, hb2⟩
    refine ⟨held_cons (.inr ((hb2.cell (by show w.heap.size + 1 < W1.drew.heap.size; exact lt_of_some HX1.out)).trans (c1))) (held_cons (.inr ((hb2.cell (by show w.heap.size + 1 < W1.drew.heap.size; exact lt_of_some HX1.out)).trans (c0))) (held_cons (.inl (by kernel_rfl)) (held_nil))), ?_⟩
    refine At.take 9 (some 28) (.agg #[.int .i64 2, .int .i64 x.f1, .int .i64 x.f2, .int .i64 0, .string x.f4]) rfl rfl (by kernel_rfl) (by kernel_rfl) (by kernel_rfl) (by kernel_rfl) (fun _ _ _ h => h) (yl_pure (by kernel_rfl) (fun _ => by kernel_rfl)) ?_
    have HTH : Hid (W2.there (w.heap.size) 0 5) := fun j hj => by
      have hR2 := (hb2.block (w.heap.size) (lt_of_some HR1.out)).trans HR1.out
      have : W2.heap[w.heap.size]? = some (.cells #[.int .i64 0, .int .i64 0, .int .i64 0, .int .i64 0, .string ⟨#[]⟩] 157) := hR2
      rcases j with _ | _ | _ | _ | _ | j <;> first | omega | simp [World.cell?, World.frozen?, this]
    refine At.step 10 none rfl rfl (by kernel_rfl) (by kernel_rfl) (fun u W => u = undef ∧ W = W2.setCells (w.heap.size) 0 [.int .i64 2, .int .i64 x.f1, .int .i64 x.f2, .int .i64 0, .string x.f4]) (gives_unit (Instr.storeAt 157 (.pointer (some ⟨w.heap.size, 0, none⟩)) (.agg #[.int .i64 2, .int .i64 x.f1, .int .i64 x.f2, .int .i64 0, .string x.f4])) (fun _ => by kernel_rfl) (run_storeAt_mid W2 (w.heap.size) 0 157 #[.int .i64 2, .int .i64 x.f1, .int .i64 x.f2, .int .i64 0, .string x.f4] HTH.out (by kernel_rfl) (by simp [Value.oneCell']))) ?_
    rintro u WE ⟨rfl, hWE⟩
    refine ⟨held_cons (.inl (by kernel_rfl)) (held_cons (.inl (by kernel_rfl)) (held_cons (.inl (by kernel_rfl)) (held_nil))), ?_⟩
    refine At.done (by kernel_rfl) ?_
    simp only [Act.put, List.setIfInBounds_toArray, List.set_cons_zero, List.set_cons_succ]
    have hr : WE.rangeAt (w.heap.size) 0 [.int .i64 2, .int .i64 x.f1, .int .i64 x.f2, .int .i64 0, .string x.f4] := by rw [hWE]; exact World.rangeAt_setCells_same W2 (w.heap.size) 0 _ HTH.out
    have HBE : Hid (Below w.heap.size w WE) := by
      rw [hWE]
      exact bel_setCells (Nat.le_refl _) _ _ _ ((HB1.out.drew).trans (hb2.mono HB1.out.size))
    have z0 : WE.cell? ⟨w.heap.size, 0, none⟩ = some (.int .i64 2) := by have := hr 0 _ rfl; rwa [Nat.zero_add] at this
    have z1 : WE.cell? ⟨w.heap.size, 1, none⟩ = some (.int .i64 x.f1) := by have := hr 1 _ rfl; rwa [Nat.zero_add] at this
    have z2 : WE.cell? ⟨w.heap.size, 2, none⟩ = some (.int .i64 x.f2) := by have := hr 2 _ rfl; rwa [Nat.zero_add] at this
    have z3 : WE.cell? ⟨w.heap.size, 3, none⟩ = some (.int .i64 0) := by have := hr 3 _ rfl; rwa [Nat.zero_add] at this
    have z4 : WE.cell? ⟨w.heap.size, 4, none⟩ = some (.string x.f4) := by have := hr 4 _ rfl; rwa [Nat.zero_add] at this
    clear hr hWE hb2 c0 c1 c2
    go_wp2
    exact bodyPost_ret (v := .agg #[.int .i64 2, .int .i64 x.f1, .int .i64 x.f2, .int .i64 0, .string x.f4]) (by simp [results, Tryz.results122, go_sem, z0, z1, z2, z3, z4]) rfl ⟨by rw [HC.out], HBE.out⟩
  by_cases k3 : x.f0 = 3
  · have HV : recV x = .iface 207 (.agg #[.int .i64 x.f2]) := by unfold recV; rw [if_neg k1]; rw [if_neg k2]; rw [if_pos k3]
    have HC : Hid (cutR x = ⟨3, 0, x.f2, 0, ⟨#[]⟩⟩) := by show _ = _; unfold cutR; rw [if_neg k1]; rw [if_neg k2]; rw [if_pos k3]
    rw [HV]
    clear HV k1 k2 k3
    have ra1 := ta31
    have ra2 := ta32
    have ra3 := ta33
    go_enter Tryz.func122, Tryz.ntmps122
    go_wp2
    refine bodyPost_ret (v := .agg #[.int .i64 3, .int .i64 0, .int .i64 x.f2, .int .i64 0, .string ⟨#[]⟩]) (by simp [results, Tryz.results122, go_sem]) rfl ⟨by rw [HC.out], ?_⟩
    exact ((Below.refl _ _).alloc (Nat.le_refl _) _).alloc (by simp) _
  by_cases k4 : x.f0 = 4
  · have HV : recV x = .iface 161 (.agg #[.int .i64 x.f1, .int .i64 x.f2]) := by unfold recV; rw [if_neg k1]; rw [if_neg k2]; rw [if_neg k3]; rw [if_pos k4]
    have HC : Hid (cutR x = ⟨4, x.f1, x.f2, 0, ⟨#[]⟩⟩) := by show _ = _; unfold cutR; rw [if_neg k1]; rw [if_neg k2]; rw [if_neg k3]; rw [if_pos k4]
    rw [HV]
    clear HV k1 k2 k3 k4
    have ra1 := ta41
    have ra2 := ta42
    have ra3 := ta43
    have ra4 := ta44
    go_enter Tryz.func122, Tryz.ntmps122
    go_wp2
    refine bodyPost_ret (v := .agg #[.int .i64 4, .int .i64 x.f1, .int .i64 x.f2, .int .i64 0, .string ⟨#[]⟩]) (by simp [results, Tryz.results122, go_sem]) rfl ⟨by rw [HC.out], ?_⟩
    exact ((Below.refl _ _).alloc (Nat.le_refl _) _).alloc (by simp) _
  have HV : recV x = .nilIface := by unfold recV; rw [if_neg k1, if_neg k2, if_neg k3, if_neg k4]
  have HC : Hid (cutR x = ⟨0, 0, 0, 0, ⟨#[]⟩⟩) := by show _ = _; unfold cutR; rw [if_neg k1, if_neg k2, if_neg k3, if_neg k4]
  rw [HV]
  clear HV k1 k2 k3 k4
  have ra1 := ta01 undef
  have ra2 := ta02 undef
  have ra3 := ta03 undef
  have ra4 := ta04 undef
  go_enter Tryz.func122, Tryz.ntmps122
  go_wp2
  exact bodyPost_ret (v := .agg #[.int .i64 0, .int .i64 0, .int .i64 0, .int .i64 0, .string ⟨#[]⟩]) (by simp [results, Tryz.results122, go_sem]) rfl ⟨by rw [HC.out], (Below.refl _ _).alloc (Nat.le_refl _) _⟩

end Go.Proofs.YtoecakjjondeeaaGreat

/- The program's records taken, by contracts. -/
namespace Go.Proofs.YtoecakjjondeeaaGreat
open Go.RowKit
set_option linter.unusedVariables false

theorem cells5R {w w' : World} {b : Nat} {a0 a1 a2 a3 a4 : Value} {t : TypeId} (hb : w'.heap[b]? = w.heap[b]?) (h : w.heap[b]? = some (.cells #[a0, a1, a2, a3, a4] t)) :
    ∀ j u, [a0, a1, a2, a3, a4][j]? = some u → w'.cell? ((⟨b, 0, none⟩ : Addr).add j) = some u := by
  intro j u hj
  rw [Addr.add_mid, Nat.zero_add]
  rw [h] at hb
  simp only [World.cell?, hb]
  rcases j with _ | _ | _ | _ | _ | j <;> simp at hj ⊢ <;> exact hj

theorem box5 {w : World} {b : Nat} {a0 a1 a2 a3 a4 : Value} {t : TypeId} (h : w.heap[b]? = some (.cells #[a0, a1, a2, a3, a4] t)) : w.cell? ⟨b, 0, none⟩ = some a0 ∧ w.cell? ⟨b, 1, none⟩ = some a1 ∧ w.cell? ⟨b, 2, none⟩ = some a2 ∧ w.cell? ⟨b, 3, none⟩ = some a3 ∧ w.cell? ⟨b, 4, none⟩ = some a4 := by
  simp [World.cell?, h]

theorem txt_iff (a b : ByteArray) : a.toList = b.toList ↔ a = b := by
  rw [ByteArray.toList_eq, ByteArray.toList_eq]
  constructor
  · intro h
    cases a
    cases b
    simp only [ByteArray.mk.injEq]
    exact Array.toList_inj.1 h
  · intro h; rw [h]

theorem neqR (x y : S_Rec) (W : World) : (binOp .neq 157 (.agg #[.int .i64 x.f0, .int .i64 x.f1, .int .i64 x.f2, .int .i64 x.f3, .string x.f4]) (.agg #[.int .i64 y.f0, .int .i64 y.f1, .int .i64 y.f2, .int .i64 y.f3, .string y.f4])).run Tryz.prog W = .ok (.bool (!decide (sameR x y))) W := by
  have hs := txt_iff x.f4 y.f4
  go_simp
  by_cases h0 : x.f0 = y.f0
  · by_cases h1 : x.f1 = y.f1
    · by_cases h2 : x.f2 = y.f2
      · by_cases h3 : x.f3 = y.f3
        · by_cases h4 : x.f4 = y.f4
          · rw [if_pos h0, if_pos h1, if_pos h2, if_pos h3, if_pos h4, decide_eq_true (show sameR x y from ⟨h0, h1, h2, h3, h4⟩)]; rfl
          · rw [if_pos h0, if_pos h1, if_pos h2, if_pos h3, if_neg h4, decide_eq_false (fun h : sameR x y => h4 h.2.2.2.2)]; rfl
        · rw [if_pos h0, if_pos h1, if_pos h2, if_neg h3, decide_eq_false (fun h : sameR x y => h3 h.2.2.2.1)]; rfl
      · rw [if_pos h0, if_pos h1, if_neg h2, decide_eq_false (fun h : sameR x y => h2 h.2.2.1)]; rfl
    · rw [if_pos h0, if_neg h1, decide_eq_false (fun h : sameR x y => h1 h.2.1)]; rfl
  · rw [if_neg h0, decide_eq_false (fun h : sameR x y => h0 h.1)]; rfl

/-- What the program takes a record for. -/
def ofV (x : S_Rec) : Value := if okR x then recV x else .nilIface

set_option maxRecDepth 20000 in
set_option maxHeartbeats 1000000 in
theorem recordOf_c (x : S_Rec) (w : World) (hz : x.f4.size ≤ 1048576) : Calls Tryz.prog 147 #[.agg #[.int .i64 x.f0, .int .i64 x.f1, .int .i64 x.f2, .int .i64 x.f3, .string x.f4]] w fun e w' => e = .returned (.tuple #[ofV x, .bool (decide (okR x))]) ∧ Below w.heap.size w w' := by
  obtain ⟨W0, hW0⟩ : ∃ W, W = w.alloc (.cells #[.int .i64 x.f0, .int .i64 x.f1, .int .i64 x.f2, .int .i64 x.f3, .string x.f4] 157) := ⟨_, rfl⟩
  have HW0 : Hid (w.alloc (.cells #[.int .i64 x.f0, .int .i64 x.f1, .int .i64 x.f2, .int .i64 x.f3, .string x.f4] 157) = W0) := hW0.symm
  have HX0 : Hid (W0.heap[w.heap.size]? = some (.cells #[.int .i64 x.f0, .int .i64 x.f1, .int .i64 x.f2, .int .i64 x.f3, .string x.f4] 157)) := by rw [hW0]; exact alloc_last _ _
  have HB0 : Hid (Below w.heap.size w W0) := by rw [hW0]; exact (Below.refl _ _).alloc (Nat.le_refl _) _
  clear hW0
  obtain ⟨x0, x1, x2, x3, x4⟩ := box5 HX0.out
  go_enter Tryz.func147, Tryz.ntmps147
  go_wp2_with fail
  rw [HW0.out]
  refine (bounds_c x W0 (by unfold sRec maxLen; omega)).mono ?_
  rintro e w1 ⟨rfl, b1⟩
  have HX1 : Hid (w1.heap[w.heap.size]? = some (.cells #[.int .i64 x.f0, .int .i64 x.f1, .int .i64 x.f2, .int .i64 x.f3, .string x.f4] 157)) := (b1.block _ (lt_of_some HX0.out)).trans HX0.out
  have HB1 : Hid (Below w.heap.size w w1) := HB0.out.trans (b1.mono HB0.out.size)
  clear b1 x0 x1 x2 x3 x4
  by_cases hbd : bdR x
  case neg =>
    have HN : Hid (¬ okR x) := fun h => hbd ((okR_iff x).1 h).1
    rw [decide_eq_false hbd]
    clear hbd
    go_wp2
    go_ret2
    exact ⟨by rw [ofV, if_neg HN.out, decide_eq_false HN.out]; rfl, HB1.out⟩
  have HBD : Hid (bdR x) := hbd
  rw [decide_eq_true hbd]
  clear hbd
  obtain ⟨x0, x1, x2, x3, x4⟩ := box5 HX1.out
  go_wp2_with fail
  refine (kindOf_c x w1).mono ?_
  rintro e w3 ⟨rfl, b3⟩
  have HX : Hid (w3.heap[w.heap.size]? = some (.cells #[.int .i64 x.f0, .int .i64 x.f1, .int .i64 x.f2, .int .i64 x.f3, .string x.f4] 157)) := (b3.block _ (lt_of_some HX1.out)).trans HX1.out
  have HB3 : Hid (Below w.heap.size w w3) := HB1.out.trans (b3.mono HB1.out.size)
  clear b3 x0 x1 x2 x3 x4
  have HSB : Hid (decide (sameR (cutR x) x) = decide (okR x)) := by
    show _ = _
    rw [decide_eq_decide, okR_iff]
    exact ⟨fun h => ⟨HBD.out, h⟩, fun h => h.2⟩
  cases hs : decide (sameR (cutR x) x)
  · have HSM : Hid (decide (sameR (cutR x) x) = false) := hs
    have HN : Hid (¬ okR x) := by rw [HSB.out] at hs; exact of_decide_eq_false hs
    clear hs
    go_upto_region 4 with fail
    refine wp_region_told (fun W => Below w3.heap.size w3 W) (by kernel_rfl) (by kernel_rfl) ((Below.refl w3.heap.size w3).drew) ?_
    refine told_pure (some 10) (recV x) rfl (by kernel_rfl) (fun _ => by kernel_rfl) ?_
    refine told_call (some 11) (.agg #[.int .i64 (cutR x).f0, .int .i64 (cutR x).f1, .int .i64 (cutR x).f2, .int .i64 (cutR x).f3, .string (cutR x).f4]) 122 #[recV x] rfl (by kernel_rfl) (fun _ => by kernel_rfl) (fun W hS => below_S (tellRec_c x W hz) hS) ?_
    refine told_loads (some 12) ⟨w.heap.size, 0, none⟩ [.int .i64 x.f0, .int .i64 x.f1, .int .i64 x.f2, .int .i64 x.f3, .string x.f4] rfl (by kernel_rfl) (fun _ => by kernel_rfl) (fun _ hS => cells5R (hS.block _ (lt_of_some HX.out)) HX.out) ?_
    refine told_run (some 13) (.bool true) (binOp .neq 157 (.agg #[.int .i64 (cutR x).f0, .int .i64 (cutR x).f1, .int .i64 (cutR x).f2, .int .i64 (cutR x).f3, .string (cutR x).f4]) (.agg #[.int .i64 x.f0, .int .i64 x.f1, .int .i64 x.f2, .int .i64 x.f3, .string x.f4])) rfl (by kernel_rfl) (fun _ => by kernel_rfl) (fun W hS => by rw [neqR, HSM.out]; rfl) ?_
    refine told_nil ?_
    intro w4 hS4
    have HB4 : Hid (Below w.heap.size w w4) := HB3.out.trans (Below.mono hS4 HB3.out.size)
    simp only [Act.put, List.setIfInBounds_toArray, List.set_cons_zero, List.set_cons_succ]
    clear hS4
    go_wp2
    go_ret2
    exact ⟨by rw [ofV, if_neg HN.out, decide_eq_false HN.out]; rfl, HB4.out⟩
  · have HSM : Hid (decide (sameR (cutR x) x) = true) := hs
    have HN : Hid (okR x) := by rw [HSB.out] at hs; exact (of_decide_eq_true hs : okR x)
    clear hs
    go_upto_region 4 with fail
    refine wp_region_told (fun W => Below w3.heap.size w3 W) (by kernel_rfl) (by kernel_rfl) ((Below.refl w3.heap.size w3).drew) ?_
    refine told_pure (some 10) (recV x) rfl (by kernel_rfl) (fun _ => by kernel_rfl) ?_
    refine told_call (some 11) (.agg #[.int .i64 (cutR x).f0, .int .i64 (cutR x).f1, .int .i64 (cutR x).f2, .int .i64 (cutR x).f3, .string (cutR x).f4]) 122 #[recV x] rfl (by kernel_rfl) (fun _ => by kernel_rfl) (fun W hS => below_S (tellRec_c x W hz) hS) ?_
    refine told_loads (some 12) ⟨w.heap.size, 0, none⟩ [.int .i64 x.f0, .int .i64 x.f1, .int .i64 x.f2, .int .i64 x.f3, .string x.f4] rfl (by kernel_rfl) (fun _ => by kernel_rfl) (fun _ hS => cells5R (hS.block _ (lt_of_some HX.out)) HX.out) ?_
    refine told_run (some 13) (.bool false) (binOp .neq 157 (.agg #[.int .i64 (cutR x).f0, .int .i64 (cutR x).f1, .int .i64 (cutR x).f2, .int .i64 (cutR x).f3, .string (cutR x).f4]) (.agg #[.int .i64 x.f0, .int .i64 x.f1, .int .i64 x.f2, .int .i64 x.f3, .string x.f4])) rfl (by kernel_rfl) (fun _ => by kernel_rfl) (fun W hS => by rw [neqR, HSM.out]; rfl) ?_
    refine told_nil ?_
    intro w4 hS4
    have HB4 : Hid (Below w.heap.size w w4) := HB3.out.trans (Below.mono hS4 HB3.out.size)
    simp only [Act.put, List.setIfInBounds_toArray, List.set_cons_zero, List.set_cons_succ]
    clear hS4
    go_wp2
    go_ret2
    exact ⟨by rw [ofV, if_pos HN.out, decide_eq_true HN.out]; rfl, HB4.out⟩

set_option maxRecDepth 20000 in
set_option maxHeartbeats 1000000 in
theorem implRecOk_c (x : S_Rec) (w : World) (hz : x.f4.size ≤ 1048576) : Calls Tryz.prog 115 #[.agg #[.int .i64 x.f0, .int .i64 x.f1, .int .i64 x.f2, .int .i64 x.f3, .string x.f4]] w fun e w' => e = .returned (.bool (decide (okR x))) ∧ Below w.heap.size w w' := by
  go_enter Tryz.func115, Tryz.ntmps115
  go_wp2_with fail
  refine (recordOf_c x _ hz).mono ?_
  rintro e w1 ⟨rfl, b1⟩
  have HB1 : Hid (Below w.heap.size w w1) := ((Below.refl _ _).alloc (Nat.le_refl _) _ : Below w.heap.size w _).trans (b1.mono (by simp))
  clear b1
  generalize ofV x = V
  obtain ⟨D, hD⟩ : ∃ D, decide (okR x) = D := ⟨_, rfl⟩
  have HD : Hid (decide (okR x) = D) := hD
  rw [hD]
  clear hD
  go_wp2
  go_ret
  exact ⟨by rw [HD.out]; rfl, HB1.out⟩

end Go.Proofs.YtoecakjjondeeaaGreat
