/- Plain facts on what is put behind a text, and on how a sum is told. -/
import Derived.Test.YthhkjnpeopfmjabDoorShaPMath
import Derived.Test.YthhkjnpeopfmjabDoorFixMath
import Derived.Laws.BytesArg
namespace Go.Proofs.YthhkjnpeopfmjabDoor

/-- How many noughts follow the first byte behind a text of n bytes. -/
def zs (n : Nat) : Nat := (119 - n % 64) % 64

theorem zs_at (n : Nat) : (n + 1 + zs n) % 64 = 56 := by unfold zs; omega

theorem zs_lt (n : Nat) : zs n < 64 := by unfold zs; omega

theorem zs_before (n k : Nat) (h : k < zs n) : (n + 1 + k) % 64 ≠ 56 := by unfold zs at h; omega

/-- The whole text with what is put behind it. -/
def padL (p : List Int) : List Int := (p ++ [128] ++ List.replicate (zs p.length) 0) ++ (0 :: beL (8 * (p.length : Int)) 7)

theorem padL_length (p : List Int) : (padL p).length = p.length + 1 + zs p.length + 8 := by
  unfold padL; simp [beL_length]; omega

/-- The words of l told in four bytes each, the first k of them. -/
def outL (l : List Int) : Nat → List Int
  | 0 => []
  | k + 1 => outL l k ++ beL (l.getD k 0) 4

theorem outL_length (l : List Int) : ∀ k, (outL l k).length = 4 * k
  | 0 => rfl
  | k + 1 => by simp [outL, outL_length l k, beL_length]; omega

theorem beL_range (n : Int) : ∀ k, ∀ x ∈ beL n k, 0 ≤ x ∧ x ≤ 255
  | 0, x, h => by simp [beL] at h
  | k + 1, x, h => by
    simp only [beL, List.mem_cons] at h
    rcases h with rfl | h
    · omega
    · exact beL_range n k x h

theorem nums_strOf (xs : List Int) (h : ∀ x ∈ xs, 0 ≤ x ∧ x ≤ 255) : nums (strOfNums xs) = xs := by
  unfold nums
  rw [strOfNums_data, List.map_map]
  conv => rhs; rw [← List.map_id xs]
  refine List.map_congr_left fun x hx => ?_
  have := h x hx
  simp only [Function.comp, id]
  rw [UInt8.toNat_ofNat']
  omega

theorem fq_small (n : Int) (W : Nat) (h0 : 0 ≤ n) (h : n < 2 ^ (8 * W)) : fq n W ≤ 0 := by
  rw [fq_eq, Int.ediv_eq_zero_of_lt h0 h]; exact Int.le_refl _

end Go.Proofs.YthhkjnpeopfmjabDoor
