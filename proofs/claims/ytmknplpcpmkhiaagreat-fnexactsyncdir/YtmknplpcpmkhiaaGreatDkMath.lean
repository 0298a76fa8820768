/- Plain facts on disks: names, links, moves; no program's walk is here. -/
import Derived.Test.YtmknplpcpmkhiaaGreatHaDisk
import Derived.Laws.Strings
namespace Go.Proofs.YtmknplpcpmkhiaaGreat

theorem ba_ext2 {a b : ByteArray} (h : a.data.toList = b.data.toList) : a = b := by
  cases a; cases b; simp only [ByteArray.mk.injEq]; exact Array.toList_inj.1 h

theorem beq_txt (a b : ByteArray) : (a.toList == b.toList) = decide (a = b) := by
  by_cases h : a = b
  · subst h; simp
  · have : a.toList ≠ b.toList := fun e => h (by rw [ByteArray.toList_eq, ByteArray.toList_eq] at e; exact ba_ext2 e)
    simp [h, this]

/-- The place of the first that is so, or -1. -/
def idx {α : Type} (p : α → Bool) : List α → Int
  | [] => -1
  | x :: xs => if p x then 0 else if idx p xs < 0 then -1 else idx p xs + 1

theorem idx_range {α : Type} (p : α → Bool) : ∀ L : List α, -1 ≤ idx p L ∧ idx p L < L.length
  | [] => by simp [idx]
  | x :: xs => by
    have := idx_range p xs
    simp only [idx, List.length_cons]
    split
    · omega
    · split <;> omega

theorem idx_hit {α : Type} (p : α → Bool) : ∀ (L : List α) (k : Nat) (hk : k < L.length), (∀ j (hj : j < k), p (L[j]'(by omega)) = false) → p L[k] = true → idx p L = k
  | x :: xs, 0, _, _, h => by
    simp only [List.getElem_cons_zero] at h
    simp [idx, h]
  | x :: xs, k + 1, hk, hb, h => by
    have h0 := hb 0 (by omega)
    simp only [List.getElem_cons_zero] at h0
    have ih := idx_hit p xs k (by simpa using hk) (fun j hj => by have := hb (j + 1) (by omega); simpa using this) (by simpa using h)
    simp only [idx, h0, ih]
    rw [if_neg (by simp), if_neg (by omega)]
    simp

theorem idx_miss {α : Type} (p : α → Bool) : ∀ (L : List α), (∀ j (hj : j < L.length), p L[j] = false) → idx p L = -1
  | [], _ => rfl
  | x :: xs, h => by
    have h0 := h 0 (by simp)
    simp only [List.getElem_cons_zero] at h0
    have ih := idx_miss p xs (fun j hj => by have := h (j + 1) (by simpa using hj); simpa using this)
    simp only [idx, h0, ih]
    simp

theorem any_hit {α : Type} (p : α → Bool) (L : List α) (k : Nat) (hk : k < L.length) (h : p L[k] = true) : L.any p = true :=
  List.any_eq_true.2 ⟨_, List.getElem_mem hk, h⟩

theorem any_miss {α : Type} (p : α → Bool) (L : List α) (h : ∀ j (hj : j < L.length), p L[j] = false) : L.any p = false := by
  rw [List.any_eq_false]
  intro x hx
  obtain ⟨i, hi, rfl⟩ := List.getElem_of_mem hx
  simp [h i hi]

/-- A byte that a name may have. -/
def nb (c : UInt8) : Bool := (decide (97 ≤ c.toNat) && decide (c.toNat ≤ 122)) || (decide (48 ≤ c.toNat) && decide (c.toNat ≤ 57)) || decide (c.toNat = 46)

/-- Is it a name? -/
def nameB (s : ByteArray) : Bool := decide (1 ≤ s.size ∧ s.size ≤ 12) && s.data.toList.all nb

theorem name_long {s : ByteArray} (h : ¬ (1 ≤ s.size ∧ s.size ≤ 12)) : nameB s = false := by simp [nameB]; omega

theorem name_bad {s : ByteArray} (k : Nat) (hk : k < s.size) (h : nb s[k] = false) : nameB s = false := by
  have : s.data.toList.all nb = false := by
    rw [List.all_eq_false]
    exact ⟨s[k], Array.mem_toList_iff.2 (Array.getElem_mem (show k < s.data.size from hk)), by simp [h]⟩
  simp [nameB, this]

theorem name_good {s : ByteArray} (h : 1 ≤ s.size ∧ s.size ≤ 12) (hb : ∀ k (hk : k < s.size), nb s[k] = true) : nameB s = true := by
  have : s.data.toList.all nb = true := by
    rw [List.all_eq_true]
    intro c hc
    obtain ⟨i, hi, rfl⟩ := List.getElem_of_mem hc
    have hi' : i < s.size := by simpa using hi
    have := hb i hi'
    rw [Array.getElem_toList]
    exact this
  simp [nameB, this, h]

theorem filter_take {α : Type} (p : α → Bool) (L : List α) (k : Nat) (h : k < L.length) : (L.take (k + 1)).filter p = (L.take k).filter p ++ (if p L[k] then [L[k]] else []) := by
  have e : L.take (k + 1) = L.take k ++ [L[k]] := by rw [List.take_add_one, List.getElem?_eq_getElem h]; rfl
  rw [e, List.filter_append]
  congr 1
  simp only [List.filter_cons, List.filter_nil]

end Go.Proofs.YtmknplpcpmkhiaaGreat
