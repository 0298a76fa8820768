/- Merging once: which pair, and what comes of it; no program is named here. -/
import Derived.Test.YtdggkcohidijcaaT8Math
namespace Go.Proofs.Ytdggkcohidijcaa
open Go.RowKit
set_option linter.unusedVariables false

/-- These two neighbours merge by this number. -/
def matB (M : List S_Pair) (ts : List Int) (r i : Nat) : Bool := match M[r]?, ts[i]?, ts[i + 1]? with
  | some p, some a, some b => a == p.f0 && b == p.f1
  | _, _, _ => false

theorem matB_iff {M : List S_Pair} {ts : List Int} {r i : Nat} : matB M ts r i = true ↔ ∃ p a b, M[r]? = some p ∧ ts[i]? = some a ∧ ts[i + 1]? = some b ∧ a = p.f0 ∧ b = p.f1 := by
  unfold matB
  rcases h1 : M[r]? with _ | p
  · constructor
    · intro h; cases h
    · rintro ⟨p, a, b, h, _⟩; cases h
  · rcases h2 : ts[i]? with _ | a
    · constructor
      · intro h; cases h
      · rintro ⟨p, a, b, _, h, _⟩; cases h
    · rcases h3 : ts[i + 1]? with _ | b
      · constructor
        · intro h; cases h
        · rintro ⟨p, a, b, _, _, h, _⟩; cases h
      · constructor
        · intro h
          have h' : (a == p.f0 && b == p.f1) = true := h
          rw [Bool.and_eq_true, beq_iff_eq, beq_iff_eq] at h'
          exact ⟨p, a, b, rfl, rfl, rfl, h'.1, h'.2⟩
        · rintro ⟨p', a', b', e1, e2, e3, e4, e5⟩
          cases e1; cases e2; cases e3
          show (a == p.f0 && b == p.f1) = true
          rw [e4, e5]
          simp

theorem matB_lt {M : List S_Pair} {ts : List Int} {r i : Nat} (h : matB M ts r i = true) : r < M.length ∧ i + 1 < ts.length := by
  obtain ⟨p, a, b, h1, _, h3, _⟩ := matB_iff.1 h
  exact ⟨(List.getElem?_eq_some_iff.1 h1).1, (List.getElem?_eq_some_iff.1 h3).1⟩

/-- The place and the number of what merges next. -/
def placeF (M : List S_Pair) (ts : List Int) : Option (Nat × Nat) :=
  match (List.range M.length).find? (fun r => (List.range ts.length).any (matB M ts r)) with
  | none => none
  | some r => match (List.range ts.length).find? (matB M ts r) with
    | none => none
    | some i => some (i, r)

def PlaceP (M : List S_Pair) (ts : List Int) (i r : Nat) : Prop := matB M ts r i = true ∧ (∀ r', r' < r → ∀ i', matB M ts r' i' = false) ∧ ∀ i', i' < i → matB M ts r i' = false

theorem find_first (p : Nat → Bool) (n i : Nat) (hi : i < n) (hp : p i = true) (hn : ∀ j, j < i → p j = false) : (List.range n).find? p = some i := by
  rw [List.find?_range_eq_some]
  exact ⟨hp, by simpa using hi, fun j hj => by rw [hn j hj]; rfl⟩

theorem place_some {M : List S_Pair} {ts : List Int} {i r : Nat} (h : PlaceP M ts i r) : placeF M ts = some (i, r) := by
  have hl := matB_lt h.1
  have h1 : (List.range M.length).find? (fun r => (List.range ts.length).any (matB M ts r)) = some r := by
    refine find_first _ _ _ hl.1 ?_ (fun j hj => ?_)
    · rw [List.any_eq_true]
      exact ⟨i, by rw [List.mem_range]; omega, h.1⟩
    · rw [List.any_eq_false]
      intro x _
      rw [h.2.1 j hj x]
      exact Bool.false_ne_true
  have h2 : (List.range ts.length).find? (matB M ts r) = some i := find_first _ _ _ (by omega) h.1 h.2.2
  unfold placeF
  rw [h1]
  show (match (List.range ts.length).find? (matB M ts r) with
    | none => none
    | some i => some (i, r)) = _
  rw [h2]

theorem place_none {M : List S_Pair} {ts : List Int} (h : ∀ r i, matB M ts r i = false) : placeF M ts = none := by
  unfold placeF
  have h1 : (List.range M.length).find? (fun r => (List.range ts.length).any (matB M ts r)) = none := by
    rw [List.find?_eq_none]
    intro r _
    rw [Bool.not_eq_true, List.any_eq_false]
    intro x _
    rw [h r x]
    exact Bool.false_ne_true
  rw [h1]

theorem place_is {M : List S_Pair} {ts : List Int} {i r : Nat} (h : placeF M ts = some (i, r)) : matB M ts r i = true := by
  unfold placeF at h
  rcases h1 : (List.range M.length).find? (fun r => (List.range ts.length).any (matB M ts r)) with _ | r1
  · rw [h1] at h; cases h
  · rw [h1] at h
    rcases h2 : (List.range ts.length).find? (matB M ts r1) with _ | i1
    · have h' : (match (List.range ts.length).find? (matB M ts r1) with
        | none => none
        | some i => some (i, r1)) = some (i, r) := h
      rw [h2] at h'; cases h'
    · have h' : (match (List.range ts.length).find? (matB M ts r1) with
        | none => none
        | some i => some (i, r1)) = some (i, r) := h
      rw [h2] at h'
      cases h'
      exact List.find?_some h2

/-- The tokens behind the merging at a place. -/
def mgT (ts : List Int) (i r : Nat) : List Int := ts.take i ++ (256 + (r : Int)) :: ts.drop (i + 2)

theorem mgT_len {ts : List Int} {i r : Nat} (h : i + 1 < ts.length) : (mgT ts i r).length + 1 = ts.length := by
  unfold mgT
  rw [List.length_append, List.length_take, List.length_cons, List.length_drop]
  omega

def moF (M : List S_Pair) (ts : List Int) : List Int := match placeF M ts with
  | some (i, r) => mgT ts i r
  | none => ts

theorem moF_len (M : List S_Pair) (ts : List Int) : (moF M ts).length ≤ ts.length := by
  unfold moF
  rcases h : placeF M ts with _ | ⟨i, r⟩
  · exact Nat.le_refl _
  · have := mgT_len (r := r) (matB_lt (place_is h)).2
    show (mgT ts i r).length ≤ _
    omega

/-- What MergeOnce answers. -/
def moB (L : List S_Pair) (ts : List Int) : List Int := if okT L ts then moF L ts else []
def moO (L : List S_Pair) (ts : List Int) : Bool := decide (okT L ts) && (placeF L ts).isSome
def stB (L : List S_Pair) (ts : List Int) : Bool := decide (okT L ts) && (placeF L ts).isNone

theorem moB_len (L : List S_Pair) (ts : List Int) : (moB L ts).length ≤ 1000 := by
  unfold moB
  split
  · rename_i h
    exact Nat.le_trans (moF_len L ts) h.2.1
  · exact Nat.zero_le _

def pl1 (o : Option (Nat × Nat)) : Int := match o with
  | some (i, _) => (i : Int)
  | none => -1
def pl2 (o : Option (Nat × Nat)) : Int := match o with
  | some (_, r) => (r : Int)
  | none => -1

end Go.Proofs.Ytdggkcohidijcaa
