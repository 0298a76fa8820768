/- Plain facts on pieces of texts as numbers. -/
import Derived.Test.YthhkjnpeopfmjabDoorShaTMath
namespace Go.Proofs.YthhkjnpeopfmjabDoor

theorem nums_extract (s : ByteArray) (i j : Nat) : nums (s.extract i j) = ((nums s).take j).drop i := by
  unfold nums
  rw [ByteArray.data_extract, Array.toList_extract, List.extract_eq_take_drop, List.map_take, List.map_drop, List.drop_take]

theorem strOf_nums (s : ByteArray) : strOfNums (nums s) = s := by
  unfold strOfNums nums
  rw [List.map_map]
  have e : (fun n : Int => UInt8.ofNat n.toNat) ∘ (fun c : UInt8 => ((c.toNat : Nat) : Int)) = id := by
    funext c
    simp
  rw [e, List.map_id]

theorem extract_strOf (s : ByteArray) (i : Nat) : s.extract i s.size = strOfNums ((nums s).drop i) := by
  rw [← strOf_nums (s.extract i s.size), nums_extract, List.take_of_length_le (by rw [nums_length]; exact Nat.le_refl _)]

theorem extract_size (s : ByteArray) (j : Nat) (h : j + 64 ≤ s.size) : (s.extract j (j + 64)).size = 64 := by
  rw [ByteArray.size_extract]; omega

theorem extract_block (s : ByteArray) (j : Nat) : nums (s.extract j (j + 64)) = ((nums s).drop j).take 64 := by
  rw [nums_extract, List.drop_take]
  congr 1
  omega

/-- What stands behind the whole blocks of p, with what is put behind it. -/
def restL (p : List Int) : List Int := p.drop (p.length / 64 * 64) ++ (128 :: List.replicate (zs p.length) 0 ++ 0 :: beL (8 * (p.length : Int)) 7)

theorem padL_split (p : List Int) : padL p = p.take (p.length / 64 * 64) ++ restL p := by
  unfold restL
  rw [← List.append_assoc, List.take_append_drop]
  unfold padL
  simp

theorem restL_length (p : List Int) : (restL p).length = p.length % 64 + 1 + zs p.length + 8 := by
  unfold restL
  simp [beL_length]
  omega

theorem restL_mod (p : List Int) : (restL p).length % 64 = 0 := by
  rw [restL_length]
  have := zs_at p.length
  omega

theorem restL_range (p : List Int) (hp : ∀ x ∈ p, 0 ≤ x ∧ x ≤ 255) : ∀ x ∈ restL p, 0 ≤ x ∧ x ≤ 255 := by
  intro x hx
  unfold restL at hx
  simp only [List.mem_append, List.mem_cons, List.mem_replicate] at hx
  rcases hx with hx | ((hx | ⟨_, hx⟩) | hx | hx)
  · exact hp x (List.mem_of_mem_drop hx)
  · omega
  · omega
  · omega
  · exact beL_range _ _ x hx

theorem nums_mem (s : ByteArray) : ∀ x ∈ nums s, 0 ≤ x ∧ x ≤ 255 := by
  intro x hx
  unfold nums at hx
  obtain ⟨c, _, rfl⟩ := List.mem_map.1 hx
  have := c.toNat_lt
  omega

/-- The block behind the whole blocks of p, and behind n more. -/
theorem shaN_rest (ks : List Int) (h0 : V8) (p : List Int) (n : Nat) : shaN ks h0 (padL p) (p.length / 64 + n + 1) = blk ks (shaN ks h0 (padL p) (p.length / 64 + n)) (((restL p).drop (64 * n)).take 64) := by
  show blk ks _ (((padL p).drop (64 * (p.length / 64 + n))).take 64) = _
  have e : (padL p).drop (64 * (p.length / 64 + n)) = (restL p).drop (64 * n) := by
    rw [padL_split]
    rw [show 64 * (p.length / 64 + n) = (p.take (p.length / 64 * 64)).length + 64 * n by rw [List.length_take]; omega]
    rw [List.drop_append]
    simp
  rw [e]

theorem shaN_whole (ks : List Int) (h0 : V8) (p : List Int) : shaN ks h0 (padL p) (p.length / 64) = shaN ks h0 p (p.length / 64) := by
  have e : padL p = p ++ ([128] ++ List.replicate (zs p.length) 0 ++ (0 :: beL (8 * (p.length : Int)) 7)) := by unfold padL; simp
  rw [e, shaN_append ks h0 p _ _ (by omega)]

theorem padL_blocks (p : List Int) : (padL p).length / 64 = p.length / 64 + (restL p).length / 64 := by
  rw [padL_length, restL_length]
  have := zs_at p.length
  omega

end Go.Proofs.YthhkjnpeopfmjabDoor
