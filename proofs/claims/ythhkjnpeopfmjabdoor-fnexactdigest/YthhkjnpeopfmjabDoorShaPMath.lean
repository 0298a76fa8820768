/- Plain facts on the blocks of a text; no program is named here. -/
import Derived.Test.YthhkjnpeopfmjabDoorShaMath
namespace Go.Proofs.YthhkjnpeopfmjabDoor

/-- What the first n blocks of p come to. -/
def shaN (ks : List Int) (h0 : V8) (p : List Int) : Nat → V8
  | 0 => h0
  | n + 1 => blk ks (shaN ks h0 p n) ((p.drop (64 * n)).take 64)

/-- The bytes of a text as numbers. -/
def nums (s : ByteArray) : List Int := s.data.toList.map fun c => ((c.toNat : Nat) : Int)

theorem nums_length (s : ByteArray) : (nums s).length = s.size := by
  unfold nums; rw [List.length_map, Array.length_toList]; rfl

theorem nums_take_succ (s : ByteArray) (k : Nat) (h : k < s.size) : (nums s).take (k + 1) = (nums s).take k ++ [((s[k]).toNat : Int)] := by
  rw [List.take_succ_eq_append_getElem (by rw [nums_length]; exact h)]
  simp [nums]
  rfl

theorem shaN_append (ks : List Int) (h0 : V8) (p q : List Int) : ∀ n, 64 * n ≤ p.length → shaN ks h0 (p ++ q) n = shaN ks h0 p n
  | 0, _ => rfl
  | n + 1, h => by
    simp only [shaN]
    rw [shaN_append ks h0 p q n (by omega), List.drop_append_of_le_length (by omega), List.take_append_of_le_length (by simp; omega)]

theorem shaN_ok (ks : List Int) (h0 : V8) (p : List Int) (h : h0.ok) : ∀ n, (shaN ks h0 p n).ok
  | 0 => h
  | _ + 1 => blk_ok _ _ _

theorem step_part (p wt : List Int) (x : Int) (r n : Nat) (hw : wt.length = 64) (hp : p.length = 64 * n + r) (hr : r + 1 < 64) (h : wt.take r = p.drop (64 * n)) :
    (wt.set r x).take (r + 1) = (p ++ [x]).drop (64 * n) := by
  rw [List.drop_append_of_le_length (by omega), ← h]
  apply List.ext_getElem?
  intro i
  by_cases h1 : i < r
  · rw [List.getElem?_take_of_lt (by omega), List.getElem?_append_left (by simp; omega), List.getElem?_take_of_lt h1, List.getElem?_set_ne (by omega)]
  · by_cases h2 : i = r
    · subst h2
      rw [List.getElem?_take_of_lt (by omega), List.getElem?_append_right (by simp; omega)]
      simp [hw, show i < 64 by omega]
      rw [show i - min i 64 = 0 by omega]
      rfl
    · rw [List.getElem?_eq_none (by simp; omega), List.getElem?_eq_none (by simp; omega)]

theorem step_full (p wt : List Int) (x : Int) (n : Nat) (hw : wt.length = 64) (hp : p.length = 64 * n + 63) (h : wt.take 63 = p.drop (64 * n)) :
    wt.set 63 x = ((p ++ [x]).drop (64 * n)).take 64 := by
  rw [List.drop_append_of_le_length (by omega), ← h]
  apply List.ext_getElem?
  intro i
  by_cases h1 : i < 63
  · rw [List.getElem?_take_of_lt (by omega), List.getElem?_append_left (by simp; omega), List.getElem?_take_of_lt h1, List.getElem?_set_ne (by omega)]
  · by_cases h2 : i = 63
    · subst h2
      rw [List.getElem?_take_of_lt (by omega), List.getElem?_append_right (by simp; omega)]
      simp [hw]
    · rw [List.getElem?_eq_none (by simp; omega), List.getElem?_eq_none (by simp; omega)]

theorem set_range (wt : List Int) (x : Int) (r : Nat) (hx : 0 ≤ x ∧ x ≤ 255) (h : ∀ j, 0 ≤ wt.getD j 0 ∧ wt.getD j 0 ≤ 255) (j : Nat) : 0 ≤ (wt.set r x).getD j 0 ∧ (wt.set r x).getD j 0 ≤ 255 := by
  have hj := h j
  by_cases e : r = j
  · subst e
    by_cases hl : r < wt.length
    · simpa [List.getD, hl] using hx
    · rw [List.set_eq_of_length_le (by omega)]; exact hj
  · simp only [List.getD, List.getElem?_set_ne e] at hj ⊢
    exact hj

end Go.Proofs.YthhkjnpeopfmjabDoor
