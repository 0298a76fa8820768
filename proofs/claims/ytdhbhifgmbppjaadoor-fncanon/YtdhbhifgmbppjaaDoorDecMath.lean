/- Plain facts on numbers in decimal digits; no program is named here. -/
import Derived.Laws.BitsLemmas
import Derived.Laws.Wrap64
namespace Go.Proofs.YtdhbhifgmbppjaaDoor

/-- m with its last k digits taken off. -/
def dq (m : Int) : Nat → Int
  | 0 => m
  | k + 1 => dq m k / 10

/-- The last k digits of m, as signs. -/
def dl (m : Int) : Nat → List Int
  | 0 => []
  | k + 1 => (48 + dq m k % 10) :: dl m k

/-- The digits of m, from 0 on, without needless noughts; f bounds their number. -/
def decF : Nat → Int → List Int
  | 0, m => [48 + m]
  | f + 1, m => if 10 ≤ m then decF f (m / 10) ++ [48 + m % 10] else [48 + m]

/-- The digits of m, from 0 on, without needless noughts. -/
def decN (m : Int) : List Int := decF m.toNat m

theorem decF_eq : ∀ (f g : Nat) (m : Int), m.toNat ≤ f → m.toNat ≤ g → decF f m = decF g m
  | 0, 0, _, _, _ => rfl
  | 0, g + 1, m, h, _ => by rw [decF, decF, if_neg (by omega)]
  | f + 1, 0, m, _, h => by rw [decF, decF, if_neg (by omega)]
  | f + 1, g + 1, m, h1, h2 => by
    rw [decF, decF]
    by_cases h : 10 ≤ m
    · rw [if_pos h, if_pos h, decF_eq f g (m / 10) (by omega) (by omega)]
    · rw [if_neg h, if_neg h]

/-- A number in decimal digits. -/
def decL (n : Int) : List Int := if n < 0 then 45 :: decN (-n) else decN n

theorem decN_more (m : Int) (h : 10 ≤ m) : decN m = decN (m / 10) ++ [48 + m % 10] := by
  obtain ⟨k, hk⟩ : ∃ k, m.toNat = k + 1 := ⟨m.toNat - 1, by omega⟩
  unfold decN
  rw [hk, decF, if_pos h, decF_eq k (m / 10).toNat (m / 10) (by omega) (Nat.le_refl _)]

theorem decN_last (m : Int) (h : m < 10) : decN m = [48 + m] := by
  unfold decN
  rw [decF_eq m.toNat (m.toNat + 1) m (Nat.le_refl _) (by omega), decF, if_neg (by omega)]

theorem dl_length (m : Int) : ∀ k, (dl m k).length = k
  | 0 => rfl
  | k + 1 => by simp [dl, dl_length m k]

theorem dq_nonneg (m : Int) (h : 0 ≤ m) : ∀ k, 0 ≤ dq m k
  | 0 => h
  | k + 1 => by have := dq_nonneg m h k; simp only [dq]; omega

theorem dq_le (m : Int) (h : 0 ≤ m) : ∀ k, dq m k ≤ m
  | 0 => Int.le_refl _
  | k + 1 => by have := dq_le m h k; have := dq_nonneg m h k; simp only [dq]; omega

theorem dq_add (m : Int) (j : Nat) : ∀ k, dq m (j + k) = dq (dq m j) k
  | 0 => rfl
  | k + 1 => by rw [← Nat.add_assoc]; simp only [dq]; rw [dq_add m j k]

theorem dq19 (m : Int) (h0 : 0 ≤ m) (h1 : m ≤ 9223372036854775808) : dq m 19 = 0 := by
  simp only [dq]; omega

theorem dq_le18 (m : Int) (h0 : 0 ≤ m) (h1 : m ≤ 9223372036854775808) (k : Nat) (h : 1 ≤ dq m k) : k ≤ 18 := by
  rcases Nat.lt_or_ge 18 k with hk | hk
  · obtain ⟨j, rfl⟩ : ∃ j, k = 19 + j := ⟨k - 19, by omega⟩
    rw [dq_add, dq19 m h0 h1] at h
    have := dq_le 0 (Int.le_refl 0) j
    omega
  · exact hk

theorem decN_dl (m : Int) : ∀ k, 1 ≤ dq m k → decN m = decN (dq m k) ++ dl m k
  | 0, _ => by simp [dq, dl]
  | k + 1, h => by
    have h1 : 10 ≤ dq m k := by simp only [dq] at h; omega
    rw [decN_dl m k (by omega), decN_more _ h1]
    simp [dl, dq]

theorem dec_end (m : Int) (k : Nat) (h0 : 1 ≤ dq m k ∨ k = 0) (h1 : dq m (k + 1) ≤ 0) (hm : 0 ≤ m) : decN m = dl m (k + 1) := by
  have h2 : dq m k < 10 := by simp only [dq] at h1; omega
  have h3 := dq_nonneg m hm k
  have e : dq m k % 10 = dq m k := by omega
  rcases h0 with h | rfl
  · rw [decN_dl m k h, decN_last _ h2]; simp [dl, e]
  · simp only [dq] at h2 e
    rw [decN_last m h2]; simp [dl, dq, e]

theorem dl_set (m : Int) (k : Nat) (h : k < 20) : (List.replicate (20 - k) 0 ++ dl m k).set (20 - k - 1) (48 + dq m k % 10) = List.replicate (20 - (k + 1)) 0 ++ dl m (k + 1) := by
  obtain ⟨j, hj⟩ : ∃ j, 20 - k = j + 1 := ⟨20 - k - 1, by omega⟩
  have h1 : 20 - k - 1 = j := by omega
  have h2 : 20 - (k + 1) = j := by omega
  rw [h1, h2, hj, List.replicate_succ', List.append_assoc, List.set_append_right _ _ (by simp)]
  simp [dl]

theorem dl_set_sign (m : Int) (k : Nat) (h : k < 20) : (List.replicate (20 - k) 0 ++ dl m k).set (20 - k - 1) 45 = List.replicate (20 - (k + 1)) 0 ++ (45 :: dl m k) := by
  obtain ⟨j, hj⟩ : ∃ j, 20 - k = j + 1 := ⟨20 - k - 1, by omega⟩
  have h1 : 20 - k - 1 = j := by omega
  have h2 : 20 - (k + 1) = j := by omega
  rw [h1, h2, hj, List.replicate_succ', List.append_assoc, List.set_append_right _ _ (by simp)]
  simp

end Go.Proofs.YtdhbhifgmbppjaaDoor
