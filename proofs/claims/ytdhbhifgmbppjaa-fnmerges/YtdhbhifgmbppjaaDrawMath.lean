/- Plain functions: what the cursor over the bytes of a draw yields; no program is named here. -/
import Derived.Laws.BitsLemmas
import Derived.Laws.Bits128
import Derived.Laws.Wrap64
import Derived.RowKit
import Derived.Laws.BytesArg
namespace Go.Proofs.Ytdhbhifgmbppjaa
open Go.RowKit

/-- The mixed number's next state. -/
def hF (h : Int) : Int := wrap64 (wrap64 (h * 6364136223846793005) + 1442695040888963407)
/-- Its byte. -/
def xF (h : Int) : Int := bits .and .i64 (bits .xor .i64 (h / 8589934592) (h / 35184372088832)) 255
/-- The next byte of the draw, and where the cursor stands then. -/
def bF (zs : List Int) (len : Nat) (st : Nat × Int) : Int × (Nat × Int) :=
  if st.1 < len then (bits .and .i64 (xF (hF st.2) + zs.getD st.1 0) 255, (st.1 + 1, hF st.2)) else (xF (hF st.2), (st.1, hF st.2))

theorem and255 (n : Int) : bits .and .i64 n 255 = n % 256 := by
  have h127 : (BitVec.ofInt 64 255).toNat = 2 ^ 8 - 1 := by decide
  have key : (BitVec.ofInt 64 n &&& BitVec.ofInt 64 255).toNat = (n % ((2 ^ 64 : Nat) : Int)).toNat % 2 ^ 8 := by
    rw [BitVec.toNat_and, BitVec.toNat_ofInt, h127, Nat.and_two_pow_sub_one_eq_mod]
  show IntKind.i64.wrap ((BitVec.ofInt 64 n &&& BitVec.ofInt 64 255).toNat : Int) = n % 256
  rw [key]
  simp [IntKind.wrap, IntKind.bits, IntKind.signed]
  omega

theorem xF_range (h : Int) : 0 ≤ xF h ∧ xF h ≤ 255 := by unfold xF; rw [and255]; omega
theorem bF_range (zs : List Int) (len : Nat) (st : Nat × Int) : 0 ≤ (bF zs len st).1 ∧ (bF zs len st).1 ≤ 255 := by
  unfold bF
  split
  · show 0 ≤ bits .and .i64 _ 255 ∧ _
    rw [and255]; omega
  · exact xF_range _

/-- A number from 0 on below n; 0 where n is not above 0. -/
def belowF (zs : List Int) (len : Nat) (n : Int) (st : Nat × Int) : Int × (Nat × Int) :=
  if n ≤ 0 then (0, st) else if n ≤ 256 then ((bF zs len st).1 % n, (bF zs len st).2) else
    (((bF zs len st).1 * 16777216 + (bF zs len (bF zs len st).2).1 * 65536 + (bF zs len (bF zs len (bF zs len st).2).2).1 * 256 + (bF zs len (bF zs len (bF zs len (bF zs len st).2).2).2).1) % n,
      (bF zs len (bF zs len (bF zs len (bF zs len st).2).2).2).2)

theorem belowF_zero (zs : List Int) (len : Nat) (n : Int) (st : Nat × Int) (h : n ≤ 0) : belowF zs len n st = (0, st) := by unfold belowF; rw [if_pos h]
theorem belowF_small (zs : List Int) (len : Nat) (n : Int) (st : Nat × Int) (h : 0 < n) (h2 : n ≤ 256) : belowF zs len n st = ((bF zs len st).1 % n, (bF zs len st).2) := by
  unfold belowF; rw [if_neg (by omega), if_pos h2]
theorem belowF_great (zs : List Int) (len : Nat) (n : Int) (st : Nat × Int) (h2 : 256 < n) : belowF zs len n st =
    (((bF zs len st).1 * 16777216 + (bF zs len (bF zs len st).2).1 * 65536 + (bF zs len (bF zs len (bF zs len st).2).2).1 * 256 + (bF zs len (bF zs len (bF zs len (bF zs len st).2).2).2).1) % n,
      (bF zs len (bF zs len (bF zs len (bF zs len st).2).2).2).2) := by
  unfold belowF; rw [if_neg (by omega), if_neg (by omega)]

theorem belowF_range (zs : List Int) (len : Nat) (n : Int) (st : Nat × Int) : 0 ≤ (belowF zs len n st).1 ∧ (0 < n → (belowF zs len n st).1 < n) := by
  by_cases h : n ≤ 0
  · rw [belowF_zero _ _ _ _ h]; exact ⟨Int.le_refl 0, fun h' => by omega⟩
  · by_cases h2 : n ≤ 256
    · rw [belowF_small _ _ _ _ (by omega) h2]
      exact ⟨Int.emod_nonneg _ (by omega), fun h' => Int.emod_lt_of_pos _ h'⟩
    · rw [belowF_great _ _ _ _ (by omega)]
      exact ⟨Int.emod_nonneg _ (by omega), fun h' => Int.emod_lt_of_pos _ h'⟩

/-- The numbers at a limit that are drawn from. -/
def picks : List Int := [-1, 0, 127, 128, 255, 256, 16383, 16384, 65535, 65536, 562949953421311, 562949953421312, 999999999, 1000000000, -999999999, 9223372036854775807, -9223372036854775808]

/-- A number, small, at a limit, or any. -/
def numF (zs : List Int) (len : Nat) (st : Nat × Int) : Int × (Nat × Int) :=
  let a := belowF zs len 8 st
  if a.1 = 0 then (picks.getD (belowF zs len 17 a.2).1.toNat 0, (belowF zs len 17 a.2).2)
  else if a.1 = 1 then ((belowF zs len 1000000000 a.2).1 * (belowF zs len 1000000000 (belowF zs len 1000000000 a.2).2).1, (belowF zs len 1000000000 (belowF zs len 1000000000 a.2).2).2)
  else if a.1 = 2 then (-(belowF zs len 100000 a.2).1, (belowF zs len 100000 a.2).2)
  else belowF zs len 70000 a.2

theorem numF_pick (zs : List Int) (len : Nat) (st : Nat × Int) (h : (belowF zs len 8 st).1 = 0) :
    numF zs len st = (picks.getD (belowF zs len 17 (belowF zs len 8 st).2).1.toNat 0, (belowF zs len 17 (belowF zs len 8 st).2).2) := by unfold numF; simp only []; rw [if_pos h]
theorem numF_mul (zs : List Int) (len : Nat) (st : Nat × Int) (h : (belowF zs len 8 st).1 = 1) :
    numF zs len st = ((belowF zs len 1000000000 (belowF zs len 8 st).2).1 * (belowF zs len 1000000000 (belowF zs len 1000000000 (belowF zs len 8 st).2).2).1, (belowF zs len 1000000000 (belowF zs len 1000000000 (belowF zs len 8 st).2).2).2) := by
  unfold numF; simp only []; rw [if_neg (by omega), if_pos h]
theorem numF_neg (zs : List Int) (len : Nat) (st : Nat × Int) (h : (belowF zs len 8 st).1 = 2) :
    numF zs len st = (-(belowF zs len 100000 (belowF zs len 8 st).2).1, (belowF zs len 100000 (belowF zs len 8 st).2).2) := by
  unfold numF; simp only []; rw [if_neg (by omega), if_neg (by omega), if_pos h]
theorem numF_any (zs : List Int) (len : Nat) (st : Nat × Int) (h0 : (belowF zs len 8 st).1 ≠ 0) (h1 : (belowF zs len 8 st).1 ≠ 1) (h2 : (belowF zs len 8 st).1 ≠ 2) :
    numF zs len st = belowF zs len 70000 (belowF zs len 8 st).2 := by
  unfold numF; simp only []; rw [if_neg h0, if_neg h1, if_neg h2]

theorem mul_below (a b : Int) (ha : 0 ≤ a) (ha' : a < 1000000000) (hb : 0 ≤ b) (hb' : b < 1000000000) : 0 ≤ a * b ∧ a * b ≤ 1000000000000000000 := by
  refine ⟨Int.mul_nonneg ha hb, ?_⟩
  have h1 : a * b ≤ 1000000000 * b := Int.mul_le_mul_of_nonneg_right (by omega) hb
  omega

theorem picks_range : ∀ k : Fin 17, -9223372036854775808 ≤ picks.getD k.val 0 ∧ picks.getD k.val 0 ≤ 9223372036854775807 := by decide +kernel

theorem numF_range (zs : List Int) (len : Nat) (st : Nat × Int) : -9223372036854775808 ≤ (numF zs len st).1 ∧ (numF zs len st).1 ≤ 9223372036854775807 := by
  unfold numF
  simp only []
  have r8 := belowF_range zs len 8 st
  split
  · have r := belowF_range zs len 17 (belowF zs len 8 st).2
    exact picks_range ⟨(belowF zs len 17 (belowF zs len 8 st).2).1.toNat, by have := r.2 (by omega); omega⟩
  · split
    · have r1 := belowF_range zs len 1000000000 (belowF zs len 8 st).2
      have r2 := belowF_range zs len 1000000000 (belowF zs len 1000000000 (belowF zs len 8 st).2).2
      have := mul_below _ _ r1.1 (r1.2 (by omega)) r2.1 (r2.2 (by omega))
      show _ ≤ _ * _ ∧ _ * _ ≤ _
      omega
    · split
      · have r := belowF_range zs len 100000 (belowF zs len 8 st).2
        have := r.2 (by omega)
        show _ ≤ -_ ∧ -_ ≤ _
        omega
      · have r := belowF_range zs len 70000 (belowF zs len 8 st).2
        have := r.2 (by omega)
        omega

/-- A drawn byte in the text's style. -/
def tb (style x : Int) : Int := if style = 1 then x % 2 else if style = 2 then 97 + x % 4 else x

theorem tb_range (style x : Int) (h0 : 0 ≤ x) (h1 : x ≤ 255) : 0 ≤ tb style x ∧ tb style x ≤ 255 := by
  unfold tb
  split
  · omega
  · split <;> omega

/-- m bytes more behind acc. -/
def textGo (zs : List Int) (len : Nat) (style : Int) : Nat → List Int × (Nat × Int) → List Int × (Nat × Int)
  | 0, x => x
  | m + 1, x => textGo zs len style m (x.1 ++ [tb style (bF zs len x.2).1], (bF zs len x.2).2)

/-- A drawn text of at most so many bytes. -/
def textF (zs : List Int) (len : Nat) (most : Int) (st : Nat × Int) : List Int × (Nat × Int) :=
  textGo zs len (belowF zs len 4 st).1 (belowF zs len (most + 1) (belowF zs len 4 st).2).1.toNat ([], (belowF zs len (most + 1) (belowF zs len 4 st).2).2)

theorem textGo_facts (zs : List Int) (len : Nat) (style : Int) : ∀ (m : Nat) (x : List Int × (Nat × Int)), (∀ b ∈ x.1, 0 ≤ b ∧ b ≤ 255) →
    (textGo zs len style m x).1.length = x.1.length + m ∧ ∀ b ∈ (textGo zs len style m x).1, 0 ≤ b ∧ b ≤ 255
  | 0, x, h => ⟨rfl, h⟩
  | m + 1, x, h => by
    have r := bF_range zs len x.2
    have ih := textGo_facts zs len style m (x.1 ++ [tb style (bF zs len x.2).1], (bF zs len x.2).2) (by
      intro b hb
      rcases List.mem_append.mp hb with hb | hb
      · exact h b hb
      · simp at hb; subst hb; exact tb_range _ _ r.1 r.2)
    refine ⟨by rw [textGo, ih.1]; simp; omega, by rw [textGo]; exact ih.2⟩

theorem textF_facts (zs : List Int) (len : Nat) (most : Nat) (st : Nat × Int) : (textF zs len most st).1.length ≤ most ∧ ∀ b ∈ (textF zs len most st).1, 0 ≤ b ∧ b ≤ 255 := by
  have h := textGo_facts zs len (belowF zs len 4 st).1 (belowF zs len ((most : Int) + 1) (belowF zs len 4 st).2).1.toNat ([], (belowF zs len ((most : Int) + 1) (belowF zs len 4 st).2).2) (by simp)
  have r := belowF_range zs len ((most : Int) + 1) (belowF zs len 4 st).2
  have := r.2 (by omega)
  unfold textF
  refine ⟨by rw [h.1]; simp; omega, h.2⟩

theorem and30 (n : Int) : bits .and .i64 n 1073741823 = n % 1073741824 := by
  have h127 : (BitVec.ofInt 64 1073741823).toNat = 2 ^ 30 - 1 := by decide
  have key : (BitVec.ofInt 64 n &&& BitVec.ofInt 64 1073741823).toNat = (n % ((2 ^ 64 : Nat) : Int)).toNat % 2 ^ 30 := by
    rw [BitVec.toNat_and, BitVec.toNat_ofInt, h127, Nat.and_two_pow_sub_one_eq_mod]
  show IntKind.i64.wrap ((BitVec.ofInt 64 n &&& BitVec.ofInt 64 1073741823).toNat : Int) = n % 1073741824
  rw [key]
  simp [IntKind.wrap, IntKind.bits, IntKind.signed]
  omega

/-- The number that a new cursor begins with, behind k bytes of the code. -/
def nH (zs : List Int) (len : Nat) : Nat → Int
  | 0 => 10101 + len
  | k + 1 => bits .and .i64 (nH zs len k * 131 + zs.getD k 0 + 7) 1073741823

theorem nH_range (zs : List Int) (len : Nat) (hl : len ≤ 1048576) : ∀ k, 0 ≤ nH zs len k ∧ nH zs len k ≤ 1073741823
  | 0 => by simp only [nH]; omega
  | k + 1 => by simp only [nH]; rw [and30]; omega

/-- Where a new cursor stands. -/
def newF (zs : List Int) (len : Nat) : Nat × Int := (0, nH zs len (min len 4000))

/-- The number of byte k of s. -/
def byteOf (s : ByteArray) (k : Nat) : Int := ((s.data[k]?.getD 0).toNat : Int)

/-- s with a byte dropped, added, turned, or cut off. -/
def spoilF (zs : List Int) (len : Nat) (s : ByteArray) (st : Nat × Int) : ByteArray × (Nat × Int) :=
  if s.size = 0 then (strOfNums (textF zs len 3 st).1, (textF zs len 3 st).2)
  else
    let a := belowF zs len s.size st
    let c := belowF zs len 4 a.2
    if c.1 = 0 then (s.extract 0 a.1.toNat ++ s.extract (a.1.toNat + 1) s.size, c.2)
    else if c.1 = 1 then (s.extract 0 a.1.toNat ++ strOfNums [(bF zs len c.2).1] ++ s.extract a.1.toNat s.size, (bF zs len c.2).2)
    else if c.1 = 2 then (s.extract 0 a.1.toNat, c.2)
    else (s.extract 0 a.1.toNat ++ strOfNums [bits .xor .i64 (byteOf s a.1.toNat) (1 + (belowF zs len 255 c.2).1) % 256] ++ s.extract (a.1.toNat + 1) s.size, (belowF zs len 255 c.2).2)

theorem spoilF_size (zs : List Int) (len : Nat) (s : ByteArray) (st : Nat × Int) : (spoilF zs len s st).1.size ≤ s.size + 3 := by
  unfold spoilF
  split
  · have := (textF_facts zs len 3 st).1
    show (strOfNums (textF zs len ((3 : Nat) : Int) st).1).size ≤ _
    rw [strOfNums_size]; omega
  · simp only []
    split
    · simp only [ByteArray.size_append, ByteArray.size_extract]; omega
    · split
      · simp only [ByteArray.size_append, ByteArray.size_extract, strOfNums_size, List.length_singleton]; omega
      · split
        · simp only [ByteArray.size_extract]; omega
        · simp only [ByteArray.size_append, ByteArray.size_extract, strOfNums_size, List.length_singleton]; omega

end Go.Proofs.Ytdhbhifgmbppjaa
