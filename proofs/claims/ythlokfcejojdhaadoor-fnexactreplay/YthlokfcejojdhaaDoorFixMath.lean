/- Plain facts on a number told in so many bytes, the highest first; no program is named here. -/
import Derived.Laws.BitsLemmas
import Derived.Laws.Wrap64
namespace Go.Proofs.YthlokfcejojdhaaDoor

/-- n with its lowest k bytes taken off. -/
def fq (n : Int) : Nat → Int
  | 0 => n
  | k + 1 => fq n k / 256

/-- The lowest k bytes of n, the highest first. -/
def beL (n : Int) : Nat → List Int
  | 0 => []
  | k + 1 => (fq n k % 256) :: beL n k

theorem beL_length (n : Int) : ∀ k, (beL n k).length = k
  | 0 => rfl
  | k + 1 => by simp [beL, beL_length n k]

theorem fq_nonneg (n : Int) (h : 0 ≤ n) : ∀ k, 0 ≤ fq n k
  | 0 => h
  | k + 1 => by have := fq_nonneg n h k; simp only [fq]; omega

theorem fq_le (n : Int) (h : 0 ≤ n) : ∀ k, fq n k ≤ n
  | 0 => Int.le_refl _
  | k + 1 => by have := fq_le n h k; have := fq_nonneg n h k; simp only [fq]; omega

theorem fq_eq (n : Int) : ∀ k, fq n k = n / 2 ^ (8 * k)
  | 0 => by simp [fq]
  | k + 1 => by
    have e : (2 : Int) ^ (8 * (k + 1)) = 2 ^ (8 * k) * 256 := by
      rw [show 8 * (k + 1) = 8 * k + 8 by omega, Int.pow_add]; rfl
    rw [fq, fq_eq n k, e, Int.ediv_ediv_of_nonneg (Int.le_of_lt (Int.pow_pos (by decide)))]

theorem be_set (n : Int) (W k : Nat) (h : k < W) : (List.replicate (W - k) 0 ++ beL n k).set (W - 1 - k) (fq n k % 256) = List.replicate (W - (k + 1)) 0 ++ beL n (k + 1) := by
  obtain ⟨m, hm⟩ : ∃ m, W - k = m + 1 := ⟨W - k - 1, by omega⟩
  have h1 : W - 1 - k = m := by omega
  have h2 : W - (k + 1) = m := by omega
  rw [h1, h2, hm, List.replicate_succ', List.append_assoc, List.set_append_right _ _ (by simp)]
  simp [beL]

theorem fq_ne (n : Int) (W : Nat) (h : 0 ≤ n) (hq : fq n W ≤ 0) : (n / 2 ^ (8 * W) != 0) = false := by
  have h1 := fq_nonneg n h W
  have h2 := fq_eq n W
  have h3 : n / 2 ^ (8 * W) = 0 := by omega
  simp [h3]

theorem fq_ne' (n : Int) (W : Nat) (hq : 0 < fq n W) : (n / 2 ^ (8 * W) != 0) = true := by
  have h2 := fq_eq n W
  have h3 : n / 2 ^ (8 * W) ≠ 0 := by omega
  simp [h3]

end Go.Proofs.YthlokfcejojdhaaDoor
