/- Plain facts on reading bytes told by two signs each; no program is named here. -/
import Derived.Test.YtdhbhifgmbppjaaDoorHexMath
import Derived.Laws.BytesArg
import Derived.Lib.Bytealg
namespace Go.Proofs.YtdhbhifgmbppjaaDoor

/-- The number whose sign c is; below 0 where there is none. -/
def unhexd (c : Int) : Int := if 48 ≤ c ∧ c ≤ 57 then c - 48 else if 97 ≤ c ∧ c ≤ 102 then c - 87 else -1

theorem unhexd_range (c : Int) : -1 ≤ unhexd c ∧ unhexd c < 16 := by
  unfold unhexd
  split
  · omega
  · split <;> omega

theorem unhexd_hexd (d : Int) (h0 : 0 ≤ d) (h1 : d < 16) : unhexd (hexd d) = d := by
  unfold hexd unhexd
  by_cases h : d < 10
  · rw [if_pos h, if_pos (by omega)]; omega
  · rw [if_neg h, if_neg (by omega), if_pos (by omega)]; omega

theorem unhexd_none (c : Int) (h : ∀ d : Int, 0 ≤ d → d < 16 → hexd d ≠ c) : unhexd c = -1 := by
  unfold unhexd
  by_cases h1 : 48 ≤ c ∧ c ≤ 57
  · exact absurd (show hexd (c - 48) = c by unfold hexd; rw [if_pos (by omega)]; omega) (h (c - 48) (by omega) (by omega))
  · rw [if_neg h1]
    by_cases h2 : 97 ≤ c ∧ c ≤ 102
    · exact absurd (show hexd (c - 87) = c by unfold hexd; rw [if_neg (by omega)]; omega) (h (c - 87) (by omega) (by omega))
    · rw [if_neg h2]

theorem index_signs : ∀ n : Fin 256, Lib.indexByte [48, 49, 50, 51, 52, 53, 54, 55, 56, 57, 97, 98, 99, 100, 101, 102] (UInt8.ofNat n.val) = unhexd (n.val : Int) := by decide +kernel

theorem index_hex (c : Int) (h0 : 0 ≤ c) (h1 : c < 256) : Lib.indexByte [48, 49, 50, 51, 52, 53, 54, 55, 56, 57, 97, 98, 99, 100, 101, 102] c.toNat.toUInt8 = unhexd c := by
  have h := index_signs ⟨c.toNat, by omega⟩
  have e : ((c.toNat : Nat) : Int) = c := by omega
  rw [show ((⟨c.toNat, by omega⟩ : Fin 256).val : Int) = c from e] at h
  exact h

/-- The bytes that the first 2 k signs of s tell. -/
def un (s : ByteArray) : Nat → List Int
  | 0 => []
  | k + 1 => un s k ++ [16 * unhexd (byteAt s (2 * k)) + unhexd (byteAt s (2 * k + 1))]

theorem un_length (s : ByteArray) : ∀ k, (un s k).length = k
  | 0 => rfl
  | k + 1 => by simp [un, un_length s k]

/-- The first n of s are signs. -/
def Good (s : ByteArray) (n : Nat) : Prop := ∀ i, i < n → 0 ≤ unhexd (byteAt s i)

theorem Good.two {s : ByteArray} {n : Nat} (h : Good s n) (h0 : 0 ≤ unhexd (byteAt s n)) (h1 : 0 ≤ unhexd (byteAt s (n + 1))) : Good s (n + 2) := by
  intro i hi
  by_cases a : i < n
  · exact h i a
  · by_cases b : i = n
    · rw [b]; exact h0
    · have : i = n + 1 := by omega
      rw [this]; exact h1

/-- s is told by pairs of signs. -/
def Uok (s : ByteArray) : Prop := s.size % 2 = 0 ∧ Good s s.size

/-- What is read. -/
def uRes (s : ByteArray) : ByteArray × Bool := if s.size % 2 = 0 ∧ (∀ i, i < s.size → 0 ≤ unhexd (byteAt s i)) then (strOfNums (un s (s.size / 2)), true) else (⟨#[]⟩, false)

theorem uRes_yes (s : ByteArray) (h : Uok s) : uRes s = (strOfNums (un s (s.size / 2)), true) := by unfold uRes; exact if_pos h
theorem uRes_no (s : ByteArray) (h : ¬ Uok s) : uRes s = (⟨#[]⟩, false) := by unfold uRes; exact if_neg h
theorem uRes_odd (s : ByteArray) (h : s.size % 2 = 1) : uRes s = (⟨#[]⟩, false) := uRes_no s fun u => by have := u.1; omega
theorem uRes_bad (s : ByteArray) (i : Nat) (hi : i < s.size) (h : unhexd (byteAt s i) < 0) : uRes s = (⟨#[]⟩, false) := uRes_no s fun u => by have := u.2 i hi; omega

end Go.Proofs.YtdhbhifgmbppjaaDoor
