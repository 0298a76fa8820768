/- Plain facts on the sum that is halved and turned bit by bit; no program is named here. -/
import Derived.Laws.BitsLemmas
import Derived.Laws.BitsAllLaws
import Derived.Laws.Wrap64
namespace Go.Proofs.YthlokfcejojdhaaDoor

/-- Two numbers, the one turned by the other. -/
def cx (c b : Int) : Int := ((c.toNat ^^^ b.toNat : Nat) : Int)

/-- One halving: where it was odd it is turned. -/
def ct (c : Int) : Int := if c % 2 = 1 then cx (c / 2) 2197175160 else c / 2

def ci (c : Int) : Nat → Int
  | 0 => c
  | k + 1 => ct (ci c k)

/-- What the first k bytes of s come to. -/
def cp (s : ByteArray) : Nat → Int
  | 0 => 4294967295
  | k + 1 => ci (cx (cp s k) ((s.data[k]?.getD 0).toNat : Int)) 8

theorem cx_range (c b : Int) (hc0 : 0 ≤ c) (hc : c ≤ 4294967295) (hb0 : 0 ≤ b) (hb : b ≤ 4294967295) : 0 ≤ cx c b ∧ cx c b ≤ 4294967295 := by
  have h := Nat.xor_lt_two_pow (x := c.toNat) (y := b.toNat) (n := 32) (by omega) (by omega)
  unfold cx
  have e : (2 : Nat) ^ 32 = 4294967296 := by decide
  omega

theorem ct_range (c : Int) (hc0 : 0 ≤ c) (hc : c ≤ 4294967295) : 0 ≤ ct c ∧ ct c ≤ 4294967295 := by
  unfold ct
  split
  · exact cx_range _ _ (by omega) (by omega) (by omega) (by omega)
  · omega

theorem ci_range (c : Int) (hc0 : 0 ≤ c) (hc : c ≤ 4294967295) : ∀ k, 0 ≤ ci c k ∧ ci c k ≤ 4294967295
  | 0 => ⟨hc0, hc⟩
  | k + 1 => ct_range _ (ci_range c hc0 hc k).1 (ci_range c hc0 hc k).2

theorem cbyte_lt (c : UInt8) : ((c.toNat : Nat) : Int) < 256 := by
  have := c.toNat_lt; omega

theorem cp_range (s : ByteArray) : ∀ k, 0 ≤ cp s k ∧ cp s k ≤ 4294967295
  | 0 => by simp [cp]
  | k + 1 => by
    have h := cp_range s k
    have hb := cbyte_lt (s.data[k]?.getD 0)
    have hx := cx_range (cp s k) ((s.data[k]?.getD 0).toNat : Int) h.1 h.2 (by omega) (by omega)
    exact ci_range _ hx.1 hx.2 8

theorem cp_succ (s : ByteArray) (k : Nat) (h : k < s.size) : cp s (k + 1) = ci (cx (cp s k) ((s[k]).toNat : Int)) 8 := by
  have e : s.data[k]? = some s[k] := by
    rw [Array.getElem?_eq_getElem (by exact h)]; rfl
  simp only [cp, e, Option.getD_some]

theorem xor_u32 (a b : Int) (h0 : 0 ≤ a) (h1 : a ≤ 4294967295) (h2 : 0 ≤ b) (h3 : b ≤ 4294967295) : bits .xor .u32 a b = cx a b :=
  u32_xor a b h0 (by omega) h2 (by omega)

theorem xor_i64 (a b : Int) (h0 : 0 ≤ a) (h1 : a ≤ 4294967295) (h2 : 0 ≤ b) (h3 : b ≤ 4294967295) : bits .xor .i64 a b = cx a b := by
  obtain ⟨A, rfl⟩ := Int.eq_ofNat_of_zero_le h0
  obtain ⟨B, rfl⟩ := Int.eq_ofNat_of_zero_le h2
  have hr := cx_range A B (by omega) (by omega) (by omega) (by omega)
  have oa : ∀ a : Nat, a ≤ 4294967295 → (BitVec.ofInt 64 (a : Int)).toNat = a := by
    intro a ha
    rw [BitVec.ofInt_natCast, BitVec.toNat_ofNat, Nat.mod_eq_of_lt (by omega)]
  have e : bits .xor .i64 (A : Int) (B : Int) = IntKind.i64.wrap ((BitVec.ofInt 64 (A : Int) ^^^ BitVec.ofInt 64 (B : Int)).toNat : Int) := rfl
  rw [e, BitVec.toNat_xor, oa A (by omega), oa B (by omega)]
  have e2 : ((A ^^^ B : Nat) : Int) = cx A B := by simp [cx]
  rw [e2]
  simp only [IntKind.wrap, IntKind.bits, IntKind.signed]
  simp
  omega

theorem ct_odd (c : Int) (h : c % 2 = 1) : ct c = cx (c / 2) 2197175160 := by unfold ct; rw [if_pos h]

theorem ct_even (c : Int) (h : c % 2 = 0) : ct c = c / 2 := by unfold ct; rw [if_neg (by omega)]

theorem cx_zero (c : Int) (h : 0 ≤ c) : cx c 0 = c := by unfold cx; simp; omega

theorem mask_odd (c : Int) (h0 : 0 ≤ c) (h1 : c ≤ 4294967295) (h : c % 2 = 1) : bits .and .u32 2197175160 ((-(bits .and .u32 c 1)) % 4294967296) = 2197175160 := by
  have e : bits .and .u32 c 1 = 1 := by
    rw [u32_and c 1 h0 (by omega) (by omega) (by omega)]
    have : c.toNat &&& (1 : Int).toNat = c.toNat % 2 := Nat.and_one_is_mod _
    omega
  rw [e]; rfl

theorem mask_even (c : Int) (h0 : 0 ≤ c) (h1 : c ≤ 4294967295) (h : c % 2 = 0) : bits .and .u32 2197175160 ((-(bits .and .u32 c 1)) % 4294967296) = 0 := by
  have e : bits .and .u32 c 1 = 0 := by
    rw [u32_and c 1 h0 (by omega) (by omega) (by omega)]
    have : c.toNat &&& (1 : Int).toNat = c.toNat % 2 := Nat.and_one_is_mod _
    omega
  rw [e]; rfl

end Go.Proofs.YthlokfcejojdhaaDoor
