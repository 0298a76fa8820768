/- Plain facts on numbers told in bytes, the highest first; no program is named here. -/
import Derived.Laws.BitsLemmas
import Derived.Laws.Wrap64
namespace Go.Proofs.YthlokfcejojdhaaDoor

/-- The number that the first k bytes of s tell, the highest first. -/
def rd (s : ByteArray) : Nat → Int
  | 0 => 0
  | k + 1 => rd s k * 256 + ((s.data[k]?.getD 0).toNat : Int)

theorem byte_lt (c : UInt8) : ((c.toNat : Nat) : Int) < 256 := by
  have := c.toNat_lt; omega

theorem rd_succ (s : ByteArray) (k : Nat) (h : k < s.size) : rd s (k + 1) = rd s k * 256 + ((s[k]).toNat : Int) := by
  have e : s.data[k]? = some s[k] := by
    rw [Array.getElem?_eq_getElem (by exact h)]; rfl
  simp only [rd, e, Option.getD_some]

theorem rd_nonneg (s : ByteArray) : ∀ k, 0 ≤ rd s k
  | 0 => Int.le_refl 0
  | k + 1 => by have := rd_nonneg s k; simp only [rd]; omega

theorem rd_lt (s : ByteArray) : ∀ k, rd s k < 256 ^ k
  | 0 => by simp [rd]
  | k + 1 => by
    have h := rd_lt s k
    have hb := byte_lt (s.data[k]?.getD 0)
    have e : (256 : Int) ^ (k + 1) = 256 ^ k * 256 := Int.pow_succ _ _
    simp only [rd, e]; omega

theorem rd_le6 (s : ByteArray) (k : Nat) (h : k < 7) : rd s k ≤ 281474976710655 := by
  have h1 := rd_lt s k
  have h2 : (256 : Int) ^ k ≤ 256 ^ 6 := by
    have := Nat.pow_le_pow_right (n := 256) (by decide) (show k ≤ 6 by omega)
    calc (256 : Int) ^ k = ((256 ^ k : Nat) : Int) := by simp
      _ ≤ ((256 ^ 6 : Nat) : Int) := Int.ofNat_le.mpr this
      _ = 256 ^ 6 := rfl
  have h3 : (256 : Int) ^ 6 = 281474976710656 := by decide
  omega

theorem or_byte (x y : Int) (h0 : 0 ≤ x) (h1 : x ≤ 281474976710655) (h2 : 0 ≤ y) (h3 : y < 256) : bits .or .i64 (x * 256) y = x * 256 + y :=
  bits_join .i64 62 (by decide) (fun n a b => by simp [IntKind.wrap, IntKind.bits, IntKind.signed]; omega) 8 (x * 256) y (by omega) (by omega) (by omega) h2 (by omega) (by omega)

end Go.Proofs.YthlokfcejojdhaaDoor
