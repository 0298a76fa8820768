/- Plain facts on the bytes of a text, as numbers; no program is named here. -/
import Derived.Laws.BytesArg
import Derived.Laws.Strings
import Derived.Lib.Strings
namespace Go.Proofs.Ytdggkcohidijcaa

/-- Byte k of s. -/
def byteAt (s : ByteArray) (k : Nat) : Int := ((s.data[k]?.getD 0).toNat : Int)

theorem byteAt_eq (s : ByteArray) (k : Nat) (h : k < s.size) : byteAt s k = ((s[k]).toNat : Int) := by
  have e : s.data[k]? = some s[k] := by
    rw [Array.getElem?_eq_getElem (by exact h)]; rfl
  simp only [byteAt, e, Option.getD_some]

theorem byteAt_range (s : ByteArray) (k : Nat) : 0 ≤ byteAt s k ∧ byteAt s k < 256 := by
  have := (s.data[k]?.getD 0).toNat_lt
  unfold byteAt; omega

/-- The first k bytes of s, as numbers. -/
def bl (s : ByteArray) (k : Nat) : List Int := (List.range k).map (byteAt s)

theorem bl_length (s : ByteArray) (k : Nat) : (bl s k).length = k := by simp [bl]
theorem bl_succ (s : ByteArray) (k : Nat) : bl s (k + 1) = bl s k ++ [byteAt s k] := by simp [bl, List.range_succ]
theorem bl_drop (s : ByteArray) (k j : Nat) (h : j < k) : (bl s k).drop j = byteAt s j :: (bl s k).drop (j + 1) := by
  have hl : j < (bl s k).length := by rw [bl_length]; exact h
  rw [List.drop_eq_getElem_cons hl]
  simp [bl]

theorem back_bytes (xs : List Int) (h : ∀ b ∈ xs, 0 ≤ b ∧ b < 256) : (xs.map fun n => UInt8.ofNat n.toNat).map (fun c => ((c.toNat : Nat) : Int)) = xs := by
  rw [List.map_map]
  conv => rhs; rw [← List.map_id xs]
  apply List.map_congr_left
  intro b hb
  have := h b hb
  simp
  omega

theorem bl_take (s : ByteArray) (k : Nat) (h : k ≤ s.size) : (s.data.toList.take k).map (fun c => ((c.toNat : Nat) : Int)) = bl s k := by
  have hsz : s.data.toList.length = s.size := Array.length_toList
  apply List.ext_getElem
  · simp [bl, hsz]; omega
  · intro i h1 h2
    have hi : i < k := by rw [bl_length] at h2; exact h2
    have hi' : i < s.data.size := by show i < s.size; omega
    simp [bl, byteAt, Array.getElem?_eq_getElem hi']

theorem str_eq_pre (xs : List Int) (hx : ∀ b ∈ xs, 0 ≤ b ∧ b < 256) (s : ByteArray) (k : Nat) (hk : k ≤ s.size) :
    ((strOfNums xs).toList == (s.extract 0 k).toList) = decide (xs = bl s k) := by
  rw [ByteArray.toList_eq, ByteArray.toList_eq, strOfNums_data, Lib.extract_data, List.drop_zero, Nat.sub_zero]
  by_cases h : xs = bl s k
  · have e : (xs.map fun n => UInt8.ofNat n.toNat) = s.data.toList.take k := by
      rw [h, ← bl_take s k hk, List.map_map]
      conv => rhs; rw [← List.map_id (s.data.toList.take k)]
      apply List.map_congr_left
      intro c _
      simp
    rw [e]; simp [h]
  · rw [decide_eq_false h, beq_eq_false_iff_ne]
    intro e
    apply h
    rw [← bl_take s k hk, ← e, back_bytes xs hx]

theorem str_eq_all (xs : List Int) (hx : ∀ b ∈ xs, 0 ≤ b ∧ b < 256) (s : ByteArray) : ((strOfNums xs).toList == s.toList) = decide (xs = bl s s.size) := by
  have h := str_eq_pre xs hx s s.size (Nat.le_refl _)
  have e : (s.extract 0 s.size).toList = s.toList := by
    rw [ByteArray.toList_eq, ByteArray.toList_eq, Lib.extract_data, List.drop_zero, Nat.sub_zero, List.take_of_length_le]
    exact Nat.le_of_eq Array.length_toList
  rw [e] at h
  exact h

end Go.Proofs.Ytdggkcohidijcaa
