/- Vocabularies: the table of their tokens; no program is named here. -/
import Derived.Test.YtdggkcohidijcaaHaVocab
import Derived.Test.YtdggkcohidijcaaVarMath
namespace Go.Proofs.Ytdggkcohidijcaa
open Go.RowKit
set_option linter.unusedVariables false

instance decBA (a b : ByteArray) : Decidable (a = b) := if h : a.data = b.data then isTrue (by cases a; cases b; simp only at h; rw [h]) else isFalse (fun e => h (by rw [e]))

instance memBA (x : ByteArray) (t : List ByteArray) : Decidable (x ∈ t) := decidable_of_iff (∃ b, b ∈ t ∧ b = x) ⟨fun ⟨b, h, e⟩ => e ▸ h, fun h => ⟨x, h, rfl⟩⟩

/-- There is such a token, where merges made these so far. -/
def inV (t : List ByteArray) (i : Int) : Prop := 0 ≤ i ∧ i ≤ 255 + (t.length : Int)

instance (t : List ByteArray) (i : Int) : Decidable (inV t i) := by unfold inV; infer_instance

/-- The bytes of a token. -/
def bytV (t : List ByteArray) (i : Int) : ByteArray := if i < 256 then strOfNums [i] else (t[(i - 256).toNat]?).getD ⟨#[]⟩

def jnV (t : List ByteArray) (p : S_Pair) : ByteArray := bytV t p.f0 ++ bytV t p.f1

/-- The merge may stand next. -/
def okP (t : List ByteArray) (p : S_Pair) : Prop := inV t p.f0 ∧ inV t p.f1 ∧ (jnV t p).size ≤ 24 ∧ jnV t p ∉ t

instance (t : List ByteArray) (p : S_Pair) : Decidable (okP t p) := by unfold okP; infer_instance

/-- The table that the first merges make, if they may stand so. -/
def tabK (L : List S_Pair) : Nat → Option (List ByteArray)
  | 0 => some []
  | k + 1 => match tabK L k, L[k]? with
    | some t, some p => if okP t p then some (t ++ [jnV t p]) else none
    | _, _ => none

def tabV (L : List S_Pair) : Option (List ByteArray) := if L.length ≤ 60 then tabK L L.length else none

def okV (L : List S_Pair) : Prop := (tabV L).isSome = true

instance (L : List S_Pair) : Decidable (okV L) := by unfold okV; infer_instance

theorem tab_step {L : List S_Pair} {k : Nat} {t : List ByteArray} (h : tabK L k = some t) (hk : k < L.length) (hp : okP t L[k]) : tabK L (k + 1) = some (t ++ [jnV t L[k]]) := by
  show (match tabK L k, L[k]? with
    | some t, some p => if okP t p then some (t ++ [jnV t p]) else none
    | _, _ => none) = _
  rw [h, List.getElem?_eq_getElem hk]
  exact if_pos hp

theorem tab_bad {L : List S_Pair} {k : Nat} {t : List ByteArray} (h : tabK L k = some t) (hk : k < L.length) (hp : ¬ okP t L[k]) : tabK L (k + 1) = none := by
  show (match tabK L k, L[k]? with
    | some t, some p => if okP t p then some (t ++ [jnV t p]) else none
    | _, _ => none) = _
  rw [h, List.getElem?_eq_getElem hk]
  exact if_neg hp

theorem tab_none {L : List S_Pair} {k : Nat} (h : tabK L k = none) : ∀ d, tabK L (k + d) = none
  | 0 => h
  | d + 1 => by
    show (match tabK L (k + d), L[k + d]? with
      | some t, some p => if okP t p then some (t ++ [jnV t p]) else none
      | _, _ => none) = _
    rw [tab_none h d]

theorem tab_inv {L : List S_Pair} {k : Nat} {t : List ByteArray} (h : tabK L (k + 1) = some t) : ∃ t0 p, tabK L k = some t0 ∧ L[k]? = some p ∧ okP t0 p ∧ t = t0 ++ [jnV t0 p] := by
  have h' : (match tabK L k, L[k]? with
    | some t, some p => if okP t p then some (t ++ [jnV t p]) else none
    | _, _ => none) = some t := h
  revert h'
  rcases tabK L k with _ | t0
  · intro h'; cases h'
  · rcases hp : L[k]? with _ | p
    · intro h'; cases h'
    · intro h'
      by_cases ho : okP t0 p
      · have e : (if okP t0 p then some (t0 ++ [jnV t0 p]) else none) = some t := h'
        rw [if_pos ho] at e
        exact ⟨t0, p, rfl, rfl, ho, (Option.some.inj e).symm⟩
      · have e : (if okP t0 p then some (t0 ++ [jnV t0 p]) else none) = some t := h'
        rw [if_neg ho] at e
        cases e

theorem tab_len {L : List S_Pair} : ∀ {k : Nat} {t : List ByteArray}, tabK L k = some t → t.length = k
  | 0, t, h => by cases h; rfl
  | k + 1, t, h => by
    obtain ⟨t0, p, h0, _, _, rfl⟩ := tab_inv h
    rw [List.length_append, tab_len h0]
    rfl

theorem byt_at {t : List ByteArray} {i : Int} (h : inV t i) (h2 : ¬ i < 256) : ∃ hk : (i - 256).toNat < t.length, bytV t i = t[(i - 256).toNat] := by
  unfold inV at h
  have hk : (i - 256).toNat < t.length := by omega
  refine ⟨hk, ?_⟩
  unfold bytV
  rw [if_neg h2, List.getElem?_eq_getElem hk]
  rfl

theorem byt_size {t : List ByteArray} (ht : ∀ b ∈ t, 0 < b.size ∧ b.size ≤ 24) {i : Int} (h : inV t i) : 0 < (bytV t i).size ∧ (bytV t i).size ≤ 24 := by
  by_cases h2 : i < 256
  · unfold bytV
    rw [if_pos h2, strOfNums_size]
    exact (by decide : 0 < 1 ∧ 1 ≤ 24)
  · obtain ⟨hk, e⟩ := byt_at h h2
    rw [e]
    exact ht _ (List.getElem_mem hk)

theorem tab_size {L : List S_Pair} : ∀ {k : Nat} {t : List ByteArray}, tabK L k = some t → ∀ b ∈ t, 0 < b.size ∧ b.size ≤ 24
  | 0, t, h => by cases h; intro b hb; cases hb
  | k + 1, t, h => by
    obtain ⟨t0, p, h0, _, ho, rfl⟩ := tab_inv h
    have ih := tab_size h0
    intro b hb
    rcases List.mem_append.1 hb with hb | hb
    · exact ih b hb
    · rw [List.mem_singleton.1 hb]
      refine ⟨?_, ho.2.2.1⟩
      have := (byt_size ih ho.1).1
      unfold jnV
      rw [ByteArray.size_append]
      omega

theorem tabV_yes {L : List S_Pair} {t : List ByteArray} (h : tabK L L.length = some t) (hn : L.length ≤ 60) : tabV L = some t := by unfold tabV; rw [if_pos hn]; exact h
theorem tabV_many {L : List S_Pair} (hn : ¬ L.length ≤ 60) : tabV L = none := if_neg hn
theorem tabV_bad {L : List S_Pair} {k : Nat} (h : tabK L k = none) (hk : k ≤ L.length) : tabV L = none := by
  unfold tabV
  split
  · have := tab_none h (L.length - k)
    rwa [show k + (L.length - k) = L.length by omega] at this
  · rfl
theorem tabV_some {L : List S_Pair} {t : List ByteArray} (h : tabV L = some t) : L.length ≤ 60 ∧ tabK L L.length = some t := by
  unfold tabV at h
  split at h
  · exact ⟨by assumption, h⟩
  · cases h
theorem tabV_len {L : List S_Pair} {t : List ByteArray} (h : tabV L = some t) : t.length = L.length := tab_len (tabV_some h).2
theorem tabV_size {L : List S_Pair} {t : List ByteArray} (h : tabV L = some t) : ∀ b ∈ t, 0 < b.size ∧ b.size ≤ 24 := tab_size (tabV_some h).2
theorem okV_yes {L : List S_Pair} {t : List ByteArray} (h : tabV L = some t) : okV L := by unfold okV; rw [h]; rfl
theorem okV_no {L : List S_Pair} (h : tabV L = none) : ¬ okV L := by unfold okV; rw [h]; intro h'; cases h'
theorem okV_len {L : List S_Pair} (h : okV L) : L.length ≤ 60 := by
  unfold okV at h
  obtain ⟨t, ht⟩ := Option.isSome_iff_exists.1 h
  exact (tabV_some ht).1

/-- The cells of a row of texts. -/
theorem mapS_at (t : List ByteArray) (j : Nat) (h : j < t.length) : (t.map Value.string)[j]? = some (.string t[j]) := by
  rw [List.getElem?_map, List.getElem?_eq_getElem h]; rfl

theorem mapS_len (t : List ByteArray) : (t.map Value.string).length = t.length := List.length_map ..

/-- What reads a vocabulary hands back: its table, if it is right. -/
def TabR (L : List S_Pair) (w : World) (e : Ending) (w' : World) : Prop :=
  Below w.heap.size w w' ∧ ((∃ t v, tabV L = some t ∧ e = .returned (.tuple #[v, .bool true]) ∧ w'.ownsRow w.heap.size 9 1 v t.length (t.map Value.string)) ∨ (∃ v, tabV L = none ∧ e = .returned (.tuple #[v, .bool false])))

end Go.Proofs.Ytdggkcohidijcaa
