/- Tokens of a vocabulary: what is right, their bytes, where they end; no program is named here. -/
import Derived.Test.YtdggkcohidijcaaVcMath
namespace Go.Proofs.Ytdggkcohidijcaa
open Go.RowKit
set_option linter.unusedVariables false

/-- All bytes, one behind the other. -/
def catB (l : List ByteArray) : ByteArray := l.foldl (· ++ ·) ⟨#[]⟩

theorem catB_snoc (l : List ByteArray) (b : ByteArray) : catB (l ++ [b]) = catB l ++ b := by unfold catB; rw [List.foldl_append]; rfl

theorem foldB_size : ∀ (l : List ByteArray) (acc : ByteArray), (∀ b ∈ l, b.size ≤ 24) → (l.foldl (· ++ ·) acc).size ≤ acc.size + 24 * l.length
  | [], acc, _ => by simp
  | b :: l, acc, h => by
    have ih := foldB_size l (acc ++ b) (fun c hc => h c (List.mem_cons_of_mem _ hc))
    have hb := h b List.mem_cons_self
    simp only [List.foldl_cons, List.length_cons]
    rw [ByteArray.size_append] at ih
    omega

theorem catB_size {l : List ByteArray} (h : ∀ b ∈ l, b.size ≤ 24) : (catB l).size ≤ 24 * l.length := by
  have h1 := foldB_size l ⟨#[]⟩ h
  have e : (⟨#[]⟩ : ByteArray).size = 0 := rfl
  rw [e, Nat.zero_add] at h1
  exact h1

/-- Where each ends, and where the last does. -/
def endF (l : List ByteArray) : List Int × Int := l.foldl (fun s b => (s.1 ++ [s.2 + (b.size : Int)], s.2 + (b.size : Int))) ([], 0)

theorem endF_snoc (l : List ByteArray) (b : ByteArray) : endF (l ++ [b]) = ((endF l).1 ++ [(endF l).2 + (b.size : Int)], (endF l).2 + (b.size : Int)) := by unfold endF; rw [List.foldl_append]; rfl

theorem endF_gen : ∀ (l : List ByteArray) (s : List Int × Int), (∀ b ∈ l, b.size ≤ 24) → 0 ≤ s.2 → (l.foldl (fun s b => (s.1 ++ [s.2 + (b.size : Int)], s.2 + (b.size : Int))) s).1.length = s.1.length + l.length ∧ 0 ≤ (l.foldl (fun s b => (s.1 ++ [s.2 + (b.size : Int)], s.2 + (b.size : Int))) s).2 ∧ (l.foldl (fun s b => (s.1 ++ [s.2 + (b.size : Int)], s.2 + (b.size : Int))) s).2 ≤ s.2 + 24 * (l.length : Int)
  | [], s, _, h0 => by simp; exact h0
  | b :: l, s, h, h0 => by
    have hb := h b List.mem_cons_self
    obtain ⟨i1, i2, i3⟩ := endF_gen l (s.1 ++ [s.2 + (b.size : Int)], s.2 + (b.size : Int)) (fun c hc => h c (List.mem_cons_of_mem _ hc)) (by show 0 ≤ s.2 + (b.size : Int); omega)
    simp only [List.foldl_cons, List.length_cons]
    refine ⟨by rw [i1]; simp; omega, i2, ?_⟩
    have : ((s.1 ++ [s.2 + (b.size : Int)], s.2 + (b.size : Int)) : List Int × Int).2 = s.2 + (b.size : Int) := rfl
    rw [this] at i3
    omega

theorem endF_len {l : List ByteArray} (h : ∀ b ∈ l, b.size ≤ 24) : (endF l).1.length = l.length := by
  have := (endF_gen l ([], 0) h (Int.le_refl _)).1
  unfold endF
  rw [this]; simp

theorem endF_end {l : List ByteArray} (h : ∀ b ∈ l, b.size ≤ 24) : 0 ≤ (endF l).2 ∧ (endF l).2 ≤ 24 * (l.length : Int) := by
  have := (endF_gen l ([], 0) h (Int.le_refl _)).2
  unfold endF
  simpa using this

/-- A token of this vocabulary. -/
def inL (L : List S_Pair) (x : Int) : Prop := 0 ≤ x ∧ x ≤ 255 + (L.length : Int)

instance (L : List S_Pair) (x : Int) : Decidable (inL L x) := by unfold inL; infer_instance

/-- The vocabulary is right, and so are the tokens. -/
def okT (L : List S_Pair) (ts : List Int) : Prop := okV L ∧ ts.length ≤ 1000 ∧ ∀ x ∈ ts, inL L x

instance (L : List S_Pair) (ts : List Int) : Decidable (okT L ts) := by unfold okT; infer_instance

theorem inL_inV {L : List S_Pair} {t : List ByteArray} (h : tabV L = some t) (x : Int) : inL L x ↔ inV t x := by
  unfold inL inV
  rw [tabV_len h]

/-- The bytes of each token. -/
def prt (L : List S_Pair) (ts : List Int) : List ByteArray := match tabV L with
  | some t => ts.map (bytV t)
  | none => []

theorem prt_some {L : List S_Pair} {t : List ByteArray} (h : tabV L = some t) (ts : List Int) : prt L ts = ts.map (bytV t) := by unfold prt; rw [h]

theorem bytes_24 {L : List S_Pair} {t : List ByteArray} (h : tabV L = some t) {ts : List Int} (hi : ∀ x ∈ ts, inL L x) : ∀ b ∈ ts.map (bytV t), b.size ≤ 24 := by
  intro b hb
  obtain ⟨x, hx, rfl⟩ := List.mem_map.1 hb
  exact (byt_size (tabV_size h) ((inL_inV h x).1 (hi x hx))).2

/-- The bytes of all tokens; none where they aren't right. -/
def deB (L : List S_Pair) (ts : List Int) : ByteArray := if okT L ts then catB (prt L ts) else ⟨#[]⟩
theorem deB_yes {L : List S_Pair} {ts : List Int} (h : okT L ts) {t : List ByteArray} (ht : tabV L = some t) : deB L ts = catB (ts.map (bytV t)) := by unfold deB; rw [if_pos h, prt_some ht]
theorem deB_no {L : List S_Pair} {ts : List Int} (h : ¬ okT L ts) : deB L ts = ⟨#[]⟩ := if_neg h

/-- Where each token ends; nothing where they aren't right. -/
def enB (L : List S_Pair) (ts : List Int) : List Int := if okT L ts then (endF (prt L ts)).1 else []
theorem enB_yes {L : List S_Pair} {ts : List Int} (h : okT L ts) {t : List ByteArray} (ht : tabV L = some t) : enB L ts = (endF (ts.map (bytV t))).1 := by unfold enB; rw [if_pos h, prt_some ht]
theorem enB_no {L : List S_Pair} {ts : List Int} (h : ¬ okT L ts) : enB L ts = [] := if_neg h

theorem okV_tab {L : List S_Pair} (h : okV L) : ∃ t, tabV L = some t := Option.isSome_iff_exists.1 h

theorem enB_len (L : List S_Pair) (ts : List Int) : (enB L ts).length ≤ 1000 := by
  by_cases h : okT L ts
  · obtain ⟨t, ht⟩ := okV_tab h.1
    rw [enB_yes h ht, endF_len (bytes_24 ht h.2.2), List.length_map]
    exact h.2.1
  · rw [enB_no h]; simp

theorem take_snoc {α : Type} (L : List α) (k : Nat) (h : k < L.length) : L.take (k + 1) = L.take k ++ [L[k]] := by
  rw [List.take_add_one, List.getElem?_eq_getElem h]; rfl

theorem map_take_snoc (f : Int → ByteArray) (ts : List Int) (k : Nat) (h : k < ts.length) : (ts.take (k + 1)).map f = (ts.take k).map f ++ [f ts[k]] := by
  rw [take_snoc ts k h, List.map_append]; rfl

end Go.Proofs.Ytdggkcohidijcaa
