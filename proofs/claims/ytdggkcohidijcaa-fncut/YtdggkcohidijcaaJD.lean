/- Plain functions: what the cursor over the bytes of a draw yields; no program is named here. -/
import Derived.Laws.BitsLemmas
import Derived.Laws.Bits128
import Derived.Laws.Wrap64
import Derived.RowKit
import Derived.Laws.BytesArg
import Derived.Test.YtdggkcohidijcaaOwnLaws
import Derived.Deep.QuietTactic
import Derived.BigQuiet
import Derived.Maps.AppendAt
import Derived.Maps.Range
import Derived.Deep.RegionWith
namespace Go.Proofs.Ytdggkcohidijcaa
open Go.RowKit

/-- The mixed number's next state. -/
def hF (h : Int) : Int := wrap64 (wrap64 (h * 6364136223846793005) + 1442695040888963407)
/-- Its byte. -/
def xF (h : Int) : Int := bits .and .i64 (bits .xor .i64 (h / 8589934592) (h / 35184372088832)) 255
/-- The next byte of the draw, and where the cursor stands then. -/
def bF (zs : List Int) (len : Nat) (st : Nat × Int) : Int × (Nat × Int) :=
  if st.1 < len then (bits .and .i64 (xF (hF st.2) + zs.getD st.1 0) 255, (st.1 + 1, hF st.2)) else (xF (hF st.2), (st.1, hF st.2))

theorem and255 (n : Int) : bits .and .i64 n 255 = n % 256 := by
  have h127 : (BitVec.ofInt 64 255).toNat = 2 ^ 8 - 1 := by decide
  have key : (BitVec.ofInt 64 n &&& BitVec.ofInt 64 255).toNat = (n % ((2 ^ 64 : Nat) : Int)).toNat % 2 ^ 8 := by
    rw [BitVec.toNat_and, BitVec.toNat_ofInt, h127, Nat.and_two_pow_sub_one_eq_mod]
  show IntKind.i64.wrap ((BitVec.ofInt 64 n &&& BitVec.ofInt 64 255).toNat : Int) = n % 256
  rw [key]
  simp [IntKind.wrap, IntKind.bits, IntKind.signed]
  omega

theorem xF_range (h : Int) : 0 ≤ xF h ∧ xF h ≤ 255 := by unfold xF; rw [and255]; omega
theorem bF_range (zs : List Int) (len : Nat) (st : Nat × Int) : 0 ≤ (bF zs len st).1 ∧ (bF zs len st).1 ≤ 255 := by
  unfold bF
  split
  · show 0 ≤ bits .and .i64 _ 255 ∧ _
    rw [and255]; omega
  · exact xF_range _

/-- A number from 0 on below n; 0 where n is not above 0. -/
def belowF (zs : List Int) (len : Nat) (n : Int) (st : Nat × Int) : Int × (Nat × Int) :=
  if n ≤ 0 then (0, st) else if n ≤ 256 then ((bF zs len st).1 % n, (bF zs len st).2) else
    (((bF zs len st).1 * 16777216 + (bF zs len (bF zs len st).2).1 * 65536 + (bF zs len (bF zs len (bF zs len st).2).2).1 * 256 + (bF zs len (bF zs len (bF zs len (bF zs len st).2).2).2).1) % n,
      (bF zs len (bF zs len (bF zs len (bF zs len st).2).2).2).2)

theorem belowF_zero (zs : List Int) (len : Nat) (n : Int) (st : Nat × Int) (h : n ≤ 0) : belowF zs len n st = (0, st) := by unfold belowF; rw [if_pos h]
theorem belowF_small (zs : List Int) (len : Nat) (n : Int) (st : Nat × Int) (h : 0 < n) (h2 : n ≤ 256) : belowF zs len n st = ((bF zs len st).1 % n, (bF zs len st).2) := by
  unfold belowF; rw [if_neg (by omega), if_pos h2]
theorem belowF_great (zs : List Int) (len : Nat) (n : Int) (st : Nat × Int) (h2 : 256 < n) : belowF zs len n st =
    (((bF zs len st).1 * 16777216 + (bF zs len (bF zs len st).2).1 * 65536 + (bF zs len (bF zs len (bF zs len st).2).2).1 * 256 + (bF zs len (bF zs len (bF zs len (bF zs len st).2).2).2).1) % n,
      (bF zs len (bF zs len (bF zs len (bF zs len st).2).2).2).2) := by
  unfold belowF; rw [if_neg (by omega), if_neg (by omega)]

theorem belowF_range (zs : List Int) (len : Nat) (n : Int) (st : Nat × Int) : 0 ≤ (belowF zs len n st).1 ∧ (0 < n → (belowF zs len n st).1 < n) := by
  by_cases h : n ≤ 0
  · rw [belowF_zero _ _ _ _ h]; exact ⟨Int.le_refl 0, fun h' => by omega⟩
  · by_cases h2 : n ≤ 256
    · rw [belowF_small _ _ _ _ (by omega) h2]
      exact ⟨Int.emod_nonneg _ (by omega), fun h' => Int.emod_lt_of_pos _ h'⟩
    · rw [belowF_great _ _ _ _ (by omega)]
      exact ⟨Int.emod_nonneg _ (by omega), fun h' => Int.emod_lt_of_pos _ h'⟩

/-- The numbers at a limit that are drawn from. -/
def picks : List Int := [-1, 0, 127, 128, 255, 256, 16383, 16384, 65535, 65536, 562949953421311, 562949953421312, 999999999, 1000000000, -999999999, 9223372036854775807, -9223372036854775808]

/-- A number, small, at a limit, or any. -/
def numF (zs : List Int) (len : Nat) (st : Nat × Int) : Int × (Nat × Int) :=
  let a := belowF zs len 8 st
  if a.1 = 0 then (picks.getD (belowF zs len 17 a.2).1.toNat 0, (belowF zs len 17 a.2).2)
  else if a.1 = 1 then ((belowF zs len 1000000000 a.2).1 * (belowF zs len 1000000000 (belowF zs len 1000000000 a.2).2).1, (belowF zs len 1000000000 (belowF zs len 1000000000 a.2).2).2)
  else if a.1 = 2 then (-(belowF zs len 100000 a.2).1, (belowF zs len 100000 a.2).2)
  else belowF zs len 70000 a.2

theorem numF_pick (zs : List Int) (len : Nat) (st : Nat × Int) (h : (belowF zs len 8 st).1 = 0) :
    numF zs len st = (picks.getD (belowF zs len 17 (belowF zs len 8 st).2).1.toNat 0, (belowF zs len 17 (belowF zs len 8 st).2).2) := by unfold numF; simp only []; rw [if_pos h]
theorem numF_mul (zs : List Int) (len : Nat) (st : Nat × Int) (h : (belowF zs len 8 st).1 = 1) :
    numF zs len st = ((belowF zs len 1000000000 (belowF zs len 8 st).2).1 * (belowF zs len 1000000000 (belowF zs len 1000000000 (belowF zs len 8 st).2).2).1, (belowF zs len 1000000000 (belowF zs len 1000000000 (belowF zs len 8 st).2).2).2) := by
  unfold numF; simp only []; rw [if_neg (by omega), if_pos h]
theorem numF_neg (zs : List Int) (len : Nat) (st : Nat × Int) (h : (belowF zs len 8 st).1 = 2) :
    numF zs len st = (-(belowF zs len 100000 (belowF zs len 8 st).2).1, (belowF zs len 100000 (belowF zs len 8 st).2).2) := by
  unfold numF; simp only []; rw [if_neg (by omega), if_neg (by omega), if_pos h]
theorem numF_any (zs : List Int) (len : Nat) (st : Nat × Int) (h0 : (belowF zs len 8 st).1 ≠ 0) (h1 : (belowF zs len 8 st).1 ≠ 1) (h2 : (belowF zs len 8 st).1 ≠ 2) :
    numF zs len st = belowF zs len 70000 (belowF zs len 8 st).2 := by
  unfold numF; simp only []; rw [if_neg h0, if_neg h1, if_neg h2]

theorem mul_below (a b : Int) (ha : 0 ≤ a) (ha' : a < 1000000000) (hb : 0 ≤ b) (hb' : b < 1000000000) : 0 ≤ a * b ∧ a * b ≤ 1000000000000000000 := by
  refine ⟨Int.mul_nonneg ha hb, ?_⟩
  have h1 : a * b ≤ 1000000000 * b := Int.mul_le_mul_of_nonneg_right (by omega) hb
  omega

theorem picks_range : ∀ k : Fin 17, -9223372036854775808 ≤ picks.getD k.val 0 ∧ picks.getD k.val 0 ≤ 9223372036854775807 := by decide +kernel

theorem numF_range (zs : List Int) (len : Nat) (st : Nat × Int) : -9223372036854775808 ≤ (numF zs len st).1 ∧ (numF zs len st).1 ≤ 9223372036854775807 := by
  unfold numF
  simp only []
  have r8 := belowF_range zs len 8 st
  split
  · have r := belowF_range zs len 17 (belowF zs len 8 st).2
    exact picks_range ⟨(belowF zs len 17 (belowF zs len 8 st).2).1.toNat, by have := r.2 (by omega); omega⟩
  · split
    · have r1 := belowF_range zs len 1000000000 (belowF zs len 8 st).2
      have r2 := belowF_range zs len 1000000000 (belowF zs len 1000000000 (belowF zs len 8 st).2).2
      have := mul_below _ _ r1.1 (r1.2 (by omega)) r2.1 (r2.2 (by omega))
      show _ ≤ _ * _ ∧ _ * _ ≤ _
      omega
    · split
      · have r := belowF_range zs len 100000 (belowF zs len 8 st).2
        have := r.2 (by omega)
        show _ ≤ -_ ∧ -_ ≤ _
        omega
      · have r := belowF_range zs len 70000 (belowF zs len 8 st).2
        have := r.2 (by omega)
        omega

/-- A drawn byte in the text's style. -/
def tb (style x : Int) : Int := if style = 1 then x % 2 else if style = 2 then 97 + x % 4 else x

theorem tb_range (style x : Int) (h0 : 0 ≤ x) (h1 : x ≤ 255) : 0 ≤ tb style x ∧ tb style x ≤ 255 := by
  unfold tb
  split
  · omega
  · split <;> omega

/-- m bytes more behind acc. -/
def textGo (zs : List Int) (len : Nat) (style : Int) : Nat → List Int × (Nat × Int) → List Int × (Nat × Int)
  | 0, x => x
  | m + 1, x => textGo zs len style m (x.1 ++ [tb style (bF zs len x.2).1], (bF zs len x.2).2)

/-- A drawn text of at most so many bytes. -/
def textF (zs : List Int) (len : Nat) (most : Int) (st : Nat × Int) : List Int × (Nat × Int) :=
  textGo zs len (belowF zs len 4 st).1 (belowF zs len (most + 1) (belowF zs len 4 st).2).1.toNat ([], (belowF zs len (most + 1) (belowF zs len 4 st).2).2)

theorem textGo_facts (zs : List Int) (len : Nat) (style : Int) : ∀ (m : Nat) (x : List Int × (Nat × Int)), (∀ b ∈ x.1, 0 ≤ b ∧ b ≤ 255) →
    (textGo zs len style m x).1.length = x.1.length + m ∧ ∀ b ∈ (textGo zs len style m x).1, 0 ≤ b ∧ b ≤ 255
  | 0, x, h => ⟨rfl, h⟩
  | m + 1, x, h => by
    have r := bF_range zs len x.2
    have ih := textGo_facts zs len style m (x.1 ++ [tb style (bF zs len x.2).1], (bF zs len x.2).2) (by
      intro b hb
      rcases List.mem_append.mp hb with hb | hb
      · exact h b hb
      · simp at hb; subst hb; exact tb_range _ _ r.1 r.2)
    refine ⟨by rw [textGo, ih.1]; simp; omega, by rw [textGo]; exact ih.2⟩

theorem textF_facts (zs : List Int) (len : Nat) (most : Nat) (st : Nat × Int) : (textF zs len most st).1.length ≤ most ∧ ∀ b ∈ (textF zs len most st).1, 0 ≤ b ∧ b ≤ 255 := by
  have h := textGo_facts zs len (belowF zs len 4 st).1 (belowF zs len ((most : Int) + 1) (belowF zs len 4 st).2).1.toNat ([], (belowF zs len ((most : Int) + 1) (belowF zs len 4 st).2).2) (by simp)
  have r := belowF_range zs len ((most : Int) + 1) (belowF zs len 4 st).2
  have := r.2 (by omega)
  unfold textF
  refine ⟨by rw [h.1]; simp; omega, h.2⟩

theorem and30 (n : Int) : bits .and .i64 n 1073741823 = n % 1073741824 := by
  have h127 : (BitVec.ofInt 64 1073741823).toNat = 2 ^ 30 - 1 := by decide
  have key : (BitVec.ofInt 64 n &&& BitVec.ofInt 64 1073741823).toNat = (n % ((2 ^ 64 : Nat) : Int)).toNat % 2 ^ 30 := by
    rw [BitVec.toNat_and, BitVec.toNat_ofInt, h127, Nat.and_two_pow_sub_one_eq_mod]
  show IntKind.i64.wrap ((BitVec.ofInt 64 n &&& BitVec.ofInt 64 1073741823).toNat : Int) = n % 1073741824
  rw [key]
  simp [IntKind.wrap, IntKind.bits, IntKind.signed]
  omega

/-- The number that a new cursor begins with, behind k bytes of the code. -/
def nH (zs : List Int) (len : Nat) : Nat → Int
  | 0 => 10101 + len
  | k + 1 => bits .and .i64 (nH zs len k * 131 + zs.getD k 0 + 7) 1073741823

theorem nH_range (zs : List Int) (len : Nat) (hl : len ≤ 1048576) : ∀ k, 0 ≤ nH zs len k ∧ nH zs len k ≤ 1073741823
  | 0 => by simp only [nH]; omega
  | k + 1 => by simp only [nH]; rw [and30]; omega

/-- Where a new cursor stands. -/
def newF (zs : List Int) (len : Nat) : Nat × Int := (0, nH zs len (min len 4000))

/-- The number of byte k of s. -/
def byteOf (s : ByteArray) (k : Nat) : Int := ((s.data[k]?.getD 0).toNat : Int)

/-- s with a byte dropped, added, turned, or cut off. -/
def spoilF (zs : List Int) (len : Nat) (s : ByteArray) (st : Nat × Int) : ByteArray × (Nat × Int) :=
  if s.size = 0 then (strOfNums (textF zs len 3 st).1, (textF zs len 3 st).2)
  else
    let a := belowF zs len s.size st
    let c := belowF zs len 4 a.2
    if c.1 = 0 then (s.extract 0 a.1.toNat ++ s.extract (a.1.toNat + 1) s.size, c.2)
    else if c.1 = 1 then (s.extract 0 a.1.toNat ++ strOfNums [(bF zs len c.2).1] ++ s.extract a.1.toNat s.size, (bF zs len c.2).2)
    else if c.1 = 2 then (s.extract 0 a.1.toNat, c.2)
    else (s.extract 0 a.1.toNat ++ strOfNums [bits .xor .i64 (byteOf s a.1.toNat) (1 + (belowF zs len 255 c.2).1) % 256] ++ s.extract (a.1.toNat + 1) s.size, (belowF zs len 255 c.2).2)

theorem spoilF_size (zs : List Int) (len : Nat) (s : ByteArray) (st : Nat × Int) : (spoilF zs len s st).1.size ≤ s.size + 3 := by
  unfold spoilF
  split
  · have := (textF_facts zs len 3 st).1
    show (strOfNums (textF zs len ((3 : Nat) : Int) st).1).size ≤ _
    rw [strOfNums_size]; omega
  · simp only []
    split
    · simp only [ByteArray.size_append, ByteArray.size_extract]; omega
    · split
      · simp only [ByteArray.size_append, ByteArray.size_extract, strOfNums_size, List.length_singleton]; omega
      · split
        · simp only [ByteArray.size_extract]; omega
        · simp only [ByteArray.size_append, ByteArray.size_extract, strOfNums_size, List.length_singleton]; omega

end Go.Proofs.Ytdggkcohidijcaa

/- The walks of what draws by the bytes of a code. -/
namespace Go.Proofs.Ytdggkcohidijcaa
open Go.RowKit
set_option linter.unusedVariables false

/-- The cursor lies in block B: the code, the place, the mixed number; the code's bytes are the numbers zs. -/
structure Cur (w : World) (B : Nat) (ao : Option Addr) (len cap : Nat) (zs : List Int) (st : Nat × Int) : Prop where
  own : w.ownsRow B 84 1 (.slice (some ⟨B, 0, none⟩) 3 3) 3 [.slice ao len cap, .int .i64 st.1, .int .i64 st.2]
  code : ∀ j, j < len → ∃ b off, ao = some ⟨b, off, none⟩ ∧ b < B ∧ w.cell? ⟨b, off + j, none⟩ = some (.int .u8 (zs.getD j 0))

theorem grownBy_drewN {w w' : World} {row : Option Nat} (h : w.grownBy w' row) (n : Nat) : w.grownBy (w'.drewN n) row := by
  induction n with
  | zero => exact h
  | succ n ih => exact ⟨ih.os, ih.tape, ih.output, ih.size, ih.block⟩

theorem ownsRow_drewN {w : World} {base : Nat} {e : TypeId} {size : Nat} {v : Value} {n : Nat} {xs : List Value} (h : w.ownsRow base e size v n xs) (k : Nat) : (w.drewN k).ownsRow base e size v n xs := by
  induction k with
  | zero => exact h
  | succ k ih => exact ih

/-- The code's bytes stay where they are while the cursor's block alone is written. -/
theorem Cur.later {w w' : World} {B len cap : Nat} {ao : Option Addr} {zs : List Int} {st st' : Nat × Int} (hC : Cur w B ao len cap zs st) (hg : w.grownBy w' (some B))
    (ho : w'.ownsRow B 84 1 (.slice (some ⟨B, 0, none⟩) 3 3) 3 [.slice ao len cap, .int .i64 st'.1, .int .i64 st'.2]) : Cur w' B ao len cap zs st' :=
  ⟨ho, fun j hj => by
    obtain ⟨b, off, e, hb, hc⟩ := hC.code j hj
    exact ⟨b, off, e, hb, hg.cell hc (by simp; omega)⟩⟩

theorem Cur.drewN {w : World} {B len cap : Nat} {ao : Option Addr} {zs : List Int} {st : Nat × Int} (hC : Cur w B ao len cap zs st) (q : Nat) : Cur (w.drewN q) B ao len cap zs st :=
  hC.later (grownBy_drewN (World.grownBy.refl w (some B)) q) (ownsRow_drewN hC.own q)

theorem ret_int {k : IntKind} {a b : Int} (h : a = b) : Ending.returned (.int k a) = .returned (.int k b) := by rw [h]

theorem cur_one {w : World} {B len cap : Nat} {ao : Option Addr} {zs : List Int} {i : Nat} {h : Int} (hC : Cur w B ao len cap zs (i, h)) (H : Int) (q : Nat) :
    Cur ((w.setCell ⟨B, 2, none⟩ (.int .i64 H)).drewN q) B ao len cap zs (i, H) ∧ w.grownBy ((w.setCell ⟨B, 2, none⟩ (.int .i64 H)).drewN q) (some B) := by
  have s1 := hC.own.stored 2 (.int .i64 H)
  have g1 := grownBy_drewN s1.2 q
  exact ⟨hC.later g1 (ownsRow_drewN s1.1 q), g1⟩

theorem cur_two {w : World} {B len cap : Nat} {ao : Option Addr} {zs : List Int} {i : Nat} {h : Int} (hC : Cur w B ao len cap zs (i, h)) (H : Int) (q : Nat) :
    Cur (((w.setCell ⟨B, 2, none⟩ (.int .i64 H)).drewN q).setCell ⟨B, 1, none⟩ (.int .i64 ((i : Int) + 1))) B ao len cap zs (i + 1, H) ∧
      w.grownBy (((w.setCell ⟨B, 2, none⟩ (.int .i64 H)).drewN q).setCell ⟨B, 1, none⟩ (.int .i64 ((i : Int) + 1))) (some B) := by
  obtain ⟨c1, g1⟩ := cur_one hC H q
  have s2 := c1.own.stored 1 (.int .i64 ((i : Int) + 1))
  have g2 := g1.trans s2.2
  exact ⟨hC.later g2 (by simpa using s2.1), g2⟩

set_option maxRecDepth 100000 in
set_option maxHeartbeats 1000000 in
theorem byte_more (w : World) (B b off len cap : Nat) (zs : List Int) (i : Nat) (h : Int) (hC : Cur w B (some ⟨b, off, none⟩) len cap zs (i, h)) (hi : i < len) (hl : len ≤ 1048576) (hz0 : 0 ≤ zs.getD i 0) (hz1 : zs.getD i 0 ≤ 255) :
    Calls Try.prog 70 #[.pointer (some ⟨B, 0, none⟩)] w fun e w' => e = .returned (.int .i64 (bF zs len (i, h)).1) ∧ Cur w' B (some ⟨b, off, none⟩) len cap zs (bF zs len (i, h)).2 ∧ w.grownBy w' (some B) := by
  have c0 : w.cell? ⟨B, 0, none⟩ = some (.slice (some ⟨b, off, none⟩) len cap) := by rw [hC.own.cellAt 0 (by omega)]; rfl
  have c1 : w.cell? ⟨B, 1, none⟩ = some (.int .i64 i) := by rw [hC.own.cellAt 1 (by omega)]; rfl
  have c2 : w.cell? ⟨B, 2, none⟩ = some (.int .i64 h) := by rw [hC.own.cellAt 2 (by omega)]; rfl
  have f1 := hC.own.frozenAt 1
  have f2 := hC.own.frozenAt 2
  obtain ⟨b', off', e, hb, hcd⟩ := hC.code i hi
  obtain ⟨rfl, rfl⟩ : b = b' ∧ off = off' := by simpa using e
  obtain ⟨z, hz⟩ : ∃ z, zs.getD i 0 = z := ⟨_, rfl⟩
  rw [hz] at hcd hz0 hz1
  obtain ⟨H, hH⟩ : ∃ H, wrap64 (wrap64 (h * 6364136223846793005) + 1442695040888963407) = H := ⟨_, rfl⟩
  obtain ⟨X, hX⟩ : ∃ X, bits .and .i64 (bits .xor .i64 (H / 8589934592) (H / 35184372088832)) 255 = X := ⟨_, rfl⟩
  have HH : Hid (hF h = H) := hH
  have HX : Hid (xF (hF h) = X) := by show xF (hF h) = X; rw [HH.out]; exact hX
  obtain ⟨x0, x1⟩ : 0 ≤ X ∧ X ≤ 255 := by have := xF_range (hF h); rw [HX.out] at this; exact this
  have HF : Hid (bF zs len (i, h) = (bits .and .i64 (X + z) 255, (i + 1, H))) := by
    show bF zs len (i, h) = _
    unfold bF; rw [if_pos hi]; simp only [HX.out, hz]; rw [HH.out]
  have HC : Hid (Cur w B (some ⟨b, off, none⟩) len cap zs (i, h)) := hC
  clear hC e hz
  go_enter Try.func70, Try.ntmps70
  go_wp2
  go_quiet (fail)
  go_wp2
  go_quiet (fail)
  go_wp2
  go_quiet (fail)
  go_wp2
  go_ret
  exact ⟨ret_int (by rw [HF.out]), by rw [HF.out]; exact (cur_two HC.out H _).1, (cur_two HC.out H _).2⟩

set_option maxRecDepth 100000 in
set_option maxHeartbeats 1000000 in
theorem byte_over (w : World) (B len cap : Nat) (ao : Option Addr) (zs : List Int) (i : Nat) (h : Int) (hC : Cur w B ao len cap zs (i, h)) (hi : ¬ i < len) :
    Calls Try.prog 70 #[.pointer (some ⟨B, 0, none⟩)] w fun e w' => e = .returned (.int .i64 (bF zs len (i, h)).1) ∧ Cur w' B ao len cap zs (bF zs len (i, h)).2 ∧ w.grownBy w' (some B) := by
  have c0 : w.cell? ⟨B, 0, none⟩ = some (.slice ao len cap) := by rw [hC.own.cellAt 0 (by omega)]; rfl
  have c1 : w.cell? ⟨B, 1, none⟩ = some (.int .i64 i) := by rw [hC.own.cellAt 1 (by omega)]; rfl
  have c2 : w.cell? ⟨B, 2, none⟩ = some (.int .i64 h) := by rw [hC.own.cellAt 2 (by omega)]; rfl
  have f1 := hC.own.frozenAt 1
  have f2 := hC.own.frozenAt 2
  obtain ⟨H, hH⟩ : ∃ H, wrap64 (wrap64 (h * 6364136223846793005) + 1442695040888963407) = H := ⟨_, rfl⟩
  obtain ⟨X, hX⟩ : ∃ X, bits .and .i64 (bits .xor .i64 (H / 8589934592) (H / 35184372088832)) 255 = X := ⟨_, rfl⟩
  have HH : Hid (hF h = H) := hH
  have HX : Hid (xF (hF h) = X) := by show xF (hF h) = X; rw [HH.out]; exact hX
  obtain ⟨x0, x1⟩ : 0 ≤ X ∧ X ≤ 255 := by have := xF_range (hF h); rw [HX.out] at this; exact this
  have HF : Hid (bF zs len (i, h) = (X, (i, H))) := by
    show bF zs len (i, h) = _
    unfold bF; rw [if_neg hi]; simp only [HX.out]; rw [HH.out]
  have HC : Hid (Cur w B ao len cap zs (i, h)) := hC
  clear hC
  go_enter Try.func70, Try.ntmps70
  go_wp2
  go_quiet (fail)
  go_wp2
  go_quiet (fail)
  go_wp2
  go_ret
  exact ⟨ret_int (by rw [HF.out]), by rw [HF.out]; exact ((cur_one HC.out H _).1).drewN _, grownBy_drewN (cur_one HC.out H _).2 _⟩

/-- The next byte of the draw. -/
theorem byte_any (w : World) (B len cap : Nat) (ao : Option Addr) (zs : List Int) (st : Nat × Int) (hC : Cur w B ao len cap zs st) (hl : len ≤ 1048576) (hz : ∀ j, 0 ≤ zs.getD j 0 ∧ zs.getD j 0 ≤ 255) :
    Calls Try.prog 70 #[.pointer (some ⟨B, 0, none⟩)] w fun e w' => e = .returned (.int .i64 (bF zs len st).1) ∧ Cur w' B ao len cap zs (bF zs len st).2 ∧ w.grownBy w' (some B) := by
  obtain ⟨i, h⟩ := st
  by_cases hi : i < len
  · obtain ⟨b, off, rfl, _, _⟩ := hC.code i hi
    exact byte_more w B b off len cap zs i h hC hi hl (hz i).1 (hz i).2
  · exact byte_over w B len cap ao zs i h hC hi

set_option maxRecDepth 100000 in
set_option maxHeartbeats 1000000 in
/-- A number from 0 on below n. -/
theorem below_any (w : World) (B len cap : Nat) (ao : Option Addr) (zs : List Int) (st : Nat × Int) (n : Int) (hC : Cur w B ao len cap zs st) (hl : len ≤ 1048576) (hz : ∀ j, 0 ≤ zs.getD j 0 ∧ zs.getD j 0 ≤ 255) :
    Calls Try.prog 60 #[.pointer (some ⟨B, 0, none⟩), .int .i64 n] w fun e w' => e = .returned (.int .i64 (belowF zs len n st).1) ∧ Cur w' B ao len cap zs (belowF zs len n st).2 ∧ w.grownBy w' (some B) := by
  have HZ : Hid (∀ j, 0 ≤ zs.getD j 0 ∧ zs.getD j 0 ≤ 255) := hz
  have HC : Hid (Cur w B ao len cap zs st) := hC
  clear hz hC
  by_cases h0 : n ≤ 0
  · have HF : Hid (belowF zs len n st = (0, st)) := belowF_zero zs len n st h0
    go_enter Try.func60, Try.ntmps60
    go_wp2_with fail
    go_ret
    exact ⟨ret_int (by rw [HF.out]), by rw [HF.out]; exact HC.out, World.grownBy.refl _ _⟩
  · by_cases h256 : n ≤ 256
    · have HF : Hid (belowF zs len n st = ((bF zs len st).1 % n, (bF zs len st).2)) := belowF_small zs len n st (by omega) h256
      obtain ⟨r0, r1⟩ := bF_range zs len st
      go_enter Try.func60, Try.ntmps60
      go_wp2_with fail
      refine (byte_any _ B len cap ao zs st HC.out hl HZ.out).mono ?_
      rintro e w1 ⟨rfl, hC1, hg1⟩
      have HC1 : Hid (Cur w1 B ao len cap zs (bF zs len st).2 ∧ w.grownBy w1 (some B)) := ⟨hC1, hg1⟩
      clear hC1 hg1
      go_wp2
      go_ret
      exact ⟨ret_int (by rw [HF.out]), by rw [HF.out]; exact HC1.out.1, HC1.out.2⟩
    · have HF := belowF_great zs len n st (by omega)
      have HF : Hid _ := HF
      obtain ⟨a0, a1⟩ := bF_range zs len st
      obtain ⟨b0, b1⟩ := bF_range zs len (bF zs len st).2
      obtain ⟨c0, c1⟩ := bF_range zs len (bF zs len (bF zs len st).2).2
      obtain ⟨d0, d1⟩ := bF_range zs len (bF zs len (bF zs len (bF zs len st).2).2).2
      go_enter Try.func60, Try.ntmps60
      go_wp2_with fail
      refine (byte_any _ B len cap ao zs st HC.out hl HZ.out).mono ?_
      rintro e w1 ⟨rfl, hC1, hg1⟩
      have K1 : Hid (Cur w1 B ao len cap zs (bF zs len st).2 ∧ w.grownBy w1 (some B)) := ⟨hC1, hg1⟩
      clear hC1 hg1
      go_wp2_with fail
      refine (byte_any _ B len cap ao zs _ K1.out.1 hl HZ.out).mono ?_
      rintro e w2 ⟨rfl, hC2, hg2⟩
      have K2 : Hid (Cur w2 B ao len cap zs (bF zs len (bF zs len st).2).2 ∧ w.grownBy w2 (some B)) := ⟨hC2, K1.out.2.trans hg2⟩
      clear hC2 hg2 K1
      go_wp2_with fail
      refine (byte_any _ B len cap ao zs _ K2.out.1 hl HZ.out).mono ?_
      rintro e w3 ⟨rfl, hC3, hg3⟩
      have K3 : Hid (Cur w3 B ao len cap zs (bF zs len (bF zs len (bF zs len st).2).2).2 ∧ w.grownBy w3 (some B)) := ⟨hC3, K2.out.2.trans hg3⟩
      clear hC3 hg3 K2
      go_wp2_with fail
      refine (byte_any _ B len cap ao zs _ K3.out.1 hl HZ.out).mono ?_
      rintro e w4 ⟨rfl, hC4, hg4⟩
      have K4 : Hid (Cur w4 B ao len cap zs (bF zs len (bF zs len (bF zs len (bF zs len st).2).2).2).2 ∧ w.grownBy w4 (some B)) := ⟨hC4, K3.out.2.trans hg4⟩
      clear hC4 hg4 K3
      go_wp2
      go_ret
      exact ⟨ret_int (by rw [HF.out]), by rw [HF.out]; exact K4.out.1, K4.out.2⟩

end Go.Proofs.Ytdggkcohidijcaa

/- The walks of what draws a cursor, a number, a text. -/
namespace Go.Proofs.Ytdggkcohidijcaa
open Go.RowKit
set_option linter.unusedVariables false

/-- The code's bytes lie in old memory. -/
def CodeAt (w : World) (B : Nat) (ao : Option Addr) (len : Nat) (zs : List Int) : Prop :=
  ∀ j, j < len → ∃ b off, ao = some ⟨b, off, none⟩ ∧ b < B ∧ w.cell? ⟨b, off + j, none⟩ = some (.int .u8 (zs.getD j 0))

theorem cur_new (w : World) (ao : Option Addr) (len cap : Nat) (zs : List Int) (h : Int) (hc : CodeAt w w.heap.size ao len zs) :
    Cur (w.alloc (.cells #[.slice ao len cap, .int .i64 0, .int .i64 h] 84)) w.heap.size ao len cap zs (0, h) :=
  ⟨World.ownsRow_lit w _ 3 (Nat.le_refl _) (by decide) rfl, fun j hj => by
    obtain ⟨b, off, e, hb, hcell⟩ := hc j hj
    refine ⟨b, off, e, hb, ?_⟩
    rw [← hcell]
    exact World.cell?_of_block (Below.heap_alloc _ _ _ hb)⟩

theorem code_row {w : World} {B : Nat} {ao : Option Addr} {len : Nat} {zs : List Int} (hc : CodeAt w B ao len zs) (h : 0 < len) :
    ∃ b off, ao = some ⟨b, off, none⟩ ∧ ∀ j, j < len → w.cell? ⟨b, off + j, none⟩ = some (.int .u8 (zs.getD j 0)) := by
  obtain ⟨b, off, rfl, hb, _⟩ := hc 0 h
  refine ⟨b, off, rfl, fun j hj => ?_⟩
  obtain ⟨b', off', e, _, hcell⟩ := hc j hj
  obtain ⟨rfl, rfl⟩ : b = b' ∧ off = off' := by simpa using e
  exact hcell

set_option maxHeartbeats 1000000 in
set_option maxRecDepth 100000 in
theorem cursor_any (w : World) (ao : Option Addr) (len cap : Nat) (zs : List Int) (hc : CodeAt w w.heap.size ao len zs) (hl : len ≤ 1048576) (hz : ∀ j, 0 ≤ zs.getD j 0 ∧ zs.getD j 0 ≤ 255) :
    Calls Try.prog 33 #[.slice ao len cap] w fun e w' => e = .returned (.pointer (some ⟨w.heap.size, 0, none⟩)) ∧ Cur w' w.heap.size ao len cap zs (newF zs len) ∧ w.grownBy w' none := by
  have HC : Hid (CodeAt w w.heap.size ao len zs) := hc
  have HZ : Hid (∀ j, 0 ≤ zs.getD j 0 ∧ zs.getD j 0 ≤ 255) := hz
  clear hc hz
  go_enter Try.func33, Try.ntmps33
  go_wp2
  go_loop [3, 4] (fun h i => ∃ k : Nat, k ≤ len ∧ k ≤ 4000 ∧ i = .int .i64 k ∧ h = .int .i64 (nH zs len k)) (fun _ i => len - (intOf i).toNat)
  case atStart => exact ⟨0, Nat.zero_le _, Nat.zero_le _, rfl, by go_num⟩
  case round =>
    obtain ⟨k, hk, hk4, rfl, rfl⟩ := hrel
    obtain ⟨r0, r1⟩ := nH_range zs len hl k
    by_cases hlt : k < len ∧ k < 4000
    · obtain ⟨h1, h2⟩ := hlt
      obtain ⟨b, off, rfl, hcell⟩ := code_row HC.out (by omega)
      have hcd := hcell k h1
      obtain ⟨z0, z1⟩ := HZ.out k
      obtain ⟨z, hzz⟩ : ∃ z, zs.getD k 0 = z := ⟨_, rfl⟩
      rw [hzz] at hcd z0 z1
      have HN : Hid (nH zs len (k + 1) = bits .and .i64 (nH zs len k * 131 + z + 7) 1073741823) := by show nH zs len (k + 1) = _; simp only [nH, hzz]
      clear hcell hzz
      go_wp2
      go_round
      case rel => exact ⟨k + 1, by omega, by omega, by go_num, by rw [HN.out]⟩
      case measure => simp [intOf]; omega
    · have HK : Hid (min len 4000 = k) := by show min len 4000 = k; omega
      have HE : Hid (newF zs len = (0, nH zs len k)) := by show newF zs len = _; unfold newF; rw [HK.out]
      by_cases h1 : (k : Int) < len
      · have h2 : ¬ ((k : Int) < 4000) := by omega
        clear hlt
        go_wp2
        go_ret
        exact ⟨rfl, by rw [HE.out]; exact cur_new w ao len cap zs _ HC.out, World.grownBy_alloc w _ none⟩
      · clear hlt
        go_wp2
        go_ret
        exact ⟨rfl, by rw [HE.out]; exact cur_new w ao len cap zs _ HC.out, World.grownBy_alloc w _ none⟩

/-- A cursor stays while other blocks, made later, are written. -/
theorem Cur.keep {w w' : World} {B len cap : Nat} {ao : Option Addr} {zs : List Int} {st : Nat × Int} {row : Option Nat} (hC : Cur w B ao len cap zs st) (hg : w.grownBy w' row) (hr : ∀ k, row = some k → B < k) : Cur w' B ao len cap zs st :=
  ⟨hC.own.kept hg (.inr (fun e => by have := hr B e.symm; omega)), fun j hj => by
    obtain ⟨b, off, e, hb, hc⟩ := hC.code j hj
    exact ⟨b, off, e, hb, hg.cell hc (fun e => by have := hr b e.symm; omega)⟩⟩

theorem Cur.lt {w : World} {B len cap : Nat} {ao : Option Addr} {zs : List Int} {st : Nat × Int} (hC : Cur w B ao len cap zs st) : B < w.heap.size :=
  (hC.own.lt B rfl).2

set_option maxHeartbeats 1000000 in
theorem pick_any (w : World) (B len cap L : Nat) (ao : Option Addr) (zs : List Int) (st : Nat × Int) (hC : Cur w B ao len cap zs st) (hl : len ≤ 1048576) (hz : ∀ j, 0 ≤ zs.getD j 0 ∧ zs.getD j 0 ≤ 255)
    (hL : L ≠ B) (hp : ∀ j, j < 17 → w.cell? ⟨L, j, none⟩ = some (.int .i64 (picks.getD j 0))) :
    Calls Try.prog 61 #[.pointer (some ⟨B, 0, none⟩), .slice (some ⟨L, 0, none⟩) 17 17] w fun e w' => e = .returned (.int .i64 (picks.getD (belowF zs len 17 st).1.toNat 0)) ∧ Cur w' B ao len cap zs (belowF zs len 17 st).2 ∧ w.grownBy w' (some B) := by
  have HP : Hid (∀ j, j < 17 → w.cell? ⟨L, j, none⟩ = some (.int .i64 (picks.getD j 0))) := hp
  have HZ : Hid (∀ j, 0 ≤ zs.getD j 0 ∧ zs.getD j 0 ≤ 255) := hz
  have HC : Hid (Cur w B ao len cap zs st) := hC
  clear hp hz hC
  obtain ⟨r0, r1⟩ := belowF_range zs len 17 st
  have r2 := r1 (by omega)
  clear r1
  go_enter Try.func61, Try.ntmps61
  go_wp2_with fail
  refine (below_any _ B len cap ao zs st 17 HC.out hl HZ.out).mono ?_
  rintro e w1 ⟨rfl, hC1, hg1⟩
  obtain ⟨x, hx⟩ : ∃ x, (belowF zs len 17 st).1 = x := ⟨_, rfl⟩
  obtain ⟨k, rfl⟩ := Int.eq_ofNat_of_zero_le (show 0 ≤ x by omega)
  have hcell := hg1.cell (HP.out k (by omega)) (by simp; omega)
  obtain ⟨p, hpk⟩ : ∃ p, picks.getD k 0 = p := ⟨_, rfl⟩
  rw [hpk] at hcell
  have HX : Hid (picks.getD (belowF zs len 17 st).1.toNat 0 = p) := by show picks.getD (belowF zs len 17 st).1.toNat 0 = p; rw [hx]; exact hpk
  have K1 : Hid (Cur w1 B ao len cap zs (belowF zs len 17 st).2 ∧ w.grownBy w1 (some B)) := ⟨hC1, hg1⟩
  rw [hx] at r0 r2 ⊢
  clear hC1 hg1 hpk
  have hk17 : (k : Int) < 17 := by omega
  go_wp2
  go_ret
  exact ⟨ret_int (by rw [← HX.out, hx]), K1.out.1, K1.out.2⟩

end Go.Proofs.Ytdggkcohidijcaa

/- The walks of what draws a number, a chance, a text. -/
namespace Go.Proofs.Ytdggkcohidijcaa
open Go.RowKit
set_option linter.unusedVariables false

/-- A cursor stays behind a new block. -/
theorem Cur.alloc {w : World} {B len cap : Nat} {ao : Option Addr} {zs : List Int} {st : Nat × Int} (hC : Cur w B ao len cap zs st) (o : Obj) : Cur (w.alloc o) B ao len cap zs st :=
  hC.keep (World.grownBy_alloc w o none) (by simp)

theorem Cur.drew {w : World} {B len cap : Nat} {ao : Option Addr} {zs : List Int} {st : Nat × Int} (hC : Cur w B ao len cap zs st) : Cur w.drew B ao len cap zs st :=
  ⟨hC.own.drew, hC.code⟩

set_option maxRecDepth 100000 in
set_option maxHeartbeats 400000 in
theorem once_any (w : World) (B len cap : Nat) (ao : Option Addr) (zs : List Int) (st : Nat × Int) (n : Int) (hC : Cur w B ao len cap zs st) (hl : len ≤ 1048576) (hz : ∀ j, 0 ≤ zs.getD j 0 ∧ zs.getD j 0 ≤ 255) :
    Calls Try.prog 42 #[.pointer (some ⟨B, 0, none⟩), .int .i64 n] w fun e w' => e = .returned (.bool ((belowF zs len n st).1 == 0)) ∧ Cur w' B ao len cap zs (belowF zs len n st).2 ∧ w.grownBy w' (some B) := by
  have HZ : Hid (∀ j, 0 ≤ zs.getD j 0 ∧ zs.getD j 0 ≤ 255) := hz
  have HC : Hid (Cur w B ao len cap zs st) := hC
  clear hz hC
  go_enter Try.func42, Try.ntmps42
  go_wp2_with fail
  refine (below_any _ B len cap ao zs st n HC.out hl HZ.out).mono ?_
  rintro e w1 ⟨rfl, hC1, hg1⟩
  have K1 : Hid (Cur w1 B ao len cap zs (belowF zs len n st).2 ∧ w.grownBy w1 (some B)) := ⟨hC1, hg1⟩
  clear hC1 hg1
  go_wp2
  go_ret
  exact ⟨rfl, K1.out.1, K1.out.2⟩

/-- A row that was made behind the cursor stays while the cursor is moved. -/
theorem own_cur {w w' : World} {B base : Nat} {e : TypeId} {v : Value} {n : Nat} {xs : List Value} (h : w.ownsRow base e 1 v n xs) (hg : w.grownBy w' (some B)) (hB : B < base) : w'.ownsRow base e 1 v n xs :=
  h.kept hg (.inr (fun he => by have := (h.lt B he).1; omega))

set_option maxHeartbeats 2000000 in
set_option maxRecDepth 100000 in
theorem text_any (w : World) (B len cap : Nat) (ao : Option Addr) (zs : List Int) (st : Nat × Int) (most : Nat) (hC : Cur w B ao len cap zs st) (hl : len ≤ 1048576) (hz : ∀ j, 0 ≤ zs.getD j 0 ∧ zs.getD j 0 ≤ 255) (hm : most ≤ 100) :
    Calls Try.prog 43 #[.pointer (some ⟨B, 0, none⟩), .int .i64 (most : Int)] w fun e w' => e = .returned (.string (strOfNums (textF zs len most st).1)) ∧ Cur w' B ao len cap zs (textF zs len most st).2 ∧ w.grownBy w' (some B) := by
  have HZ : Hid (∀ j, 0 ≤ zs.getD j 0 ∧ zs.getD j 0 ≤ 255) := hz
  have HC : Hid (Cur w B ao len cap zs st) := hC
  clear hz hC
  have hBw := HC.out.lt
  obtain ⟨i0, hi, hz0, hz1, hz2⟩ := info_parts info5
  obtain ⟨s0, s1'⟩ := belowF_range zs len 4 st
  have s1 := s1' (by omega)
  obtain ⟨n0, n1'⟩ := belowF_range zs len ((most : Int) + 1) (belowF zs len 4 st).2
  have n1 := n1' (by omega)
  clear s1' n1'
  obtain ⟨style, hst⟩ : ∃ x, (belowF zs len 4 st).1 = x := ⟨_, rfl⟩
  obtain ⟨nn, hnn⟩ : ∃ x, (belowF zs len ((most : Int) + 1) (belowF zs len 4 st).2).1 = x := ⟨_, rfl⟩
  have HT : Hid (textF zs len most st = textGo zs len style nn.toNat ([], (belowF zs len ((most : Int) + 1) (belowF zs len 4 st).2).2)) := by
    show textF zs len most st = _; unfold textF; rw [hst, hnn]
  have hb4 := fun w (h : Cur w B ao len cap zs st) => below_any w B len cap ao zs st 4 h hl HZ.out
  have hbn := fun w (h : Cur w B ao len cap zs (belowF zs len 4 st).2) => below_any w B len cap ao zs (belowF zs len 4 st).2 ((most : Int) + 1) h hl HZ.out
  rw [hst] at hb4 s0 s1
  rw [hnn] at hbn n0 n1
  have HB4 : Hid _ := hb4
  have HBN : Hid _ := hbn
  clear hst hnn hb4 hbn
  go_enter Try.func43, Try.ntmps43
  go_wp2_with fail
  refine (HB4.out _ (HC.out.alloc _)).mono ?_
  rintro e w1 ⟨rfl, hC1, hg1⟩
  have hown1 := own_cur (World.ownsRow_made (base := w.heap.size) (e := 5) (size := 1) w #[] 0 (Nat.le_refl _) (by decide) (by simp)) hg1 hBw
  have K1 : Hid (Cur w1 B ao len cap zs (belowF zs len 4 st).2 ∧ w.grownBy w1 (some B) ∧ w1.ownsRow w.heap.size 5 1 (.slice (some ⟨w.heap.size, 0, none⟩) 0 0) 0 []) :=
    ⟨hC1, ((World.grownBy_alloc w _ none).but (some B)).trans hg1, hown1⟩
  clear hC1 hg1 hown1
  go_wp2_with fail
  refine (HBN.out _ K1.out.1).mono ?_
  rintro e w2 ⟨rfl, hC2, hg2⟩
  have K2 : Hid (Cur w2 B ao len cap zs (belowF zs len ((most : Int) + 1) (belowF zs len 4 st).2).2 ∧ w.grownBy w2 (some B) ∧ w2.ownsRow w.heap.size 5 1 (.slice (some ⟨w.heap.size, 0, none⟩) 0 0) 0 []) :=
    ⟨hC2, K1.out.2.1.trans hg2, own_cur K1.out.2.2 hg2 hBw⟩
  clear hC2 hg2 K1 HB4 HBN
  go_wp2_with fail
  go_loopw [5, 7] (fun v i wr => ∃ (m : Nat) (acc : List Int) (st' : Nat × Int), i = .int .i64 m ∧ m + acc.length ≤ 101 ∧ wr.ownsRow w.heap.size 5 1 v acc.length (acc.map (Value.int .u8)) ∧ Hid (Cur wr B ao len cap zs st') ∧ Hid (w.grownBy wr (some B)) ∧ Hid (textGo zs len style m (acc, st') = textF zs len most st)) (fun _ i _ => (intOf i).toNat)
  case atStart => exact ⟨nn.toNat, [], (belowF zs len ((most : Int) + 1) (belowF zs len 4 st).2).2, by rw [Int.toNat_of_nonneg n0], by simp; omega, K2.out.2.2, K2.out.1, K2.out.2.1, HT.out.symm⟩
  case round =>
    obtain ⟨m, acc, st', rfl, hacc, hown, HCr, HGr, HE⟩ := hrel
    have hszr := HGr.out.size
    rcases m with _ | m
    · have HR : Hid (textF zs len most st = (acc, st')) := HE.out.symm
      have hconv := run_string_of_own acc rfl hown
      clear hown HE
      go_wp2
      go_ret
      exact ⟨ret_str (by rw [HR.out]), by rw [HR.out]; exact HCr.out, HGr.out⟩
    · obtain ⟨x0, x1⟩ := bF_range zs len st'
      obtain ⟨x, hx⟩ : ∃ x, (bF zs len st').1 = x := ⟨_, rfl⟩
      have HE' : Hid (textGo zs len style m (acc ++ [tb style x], (bF zs len st').2) = textF zs len most st) := by
        have := HE.out; rw [textGo, hx] at this; exact this
      have hb := fun w (h : Cur w B ao len cap zs st') => byte_any w B len cap ao zs st' h hl HZ.out
      rw [hx] at hb x0 x1
      have HB : Hid _ := hb
      obtain ⟨y0, y1⟩ := tb_range style x x0 x1
      clear hb hx HE
      have hmm : (0 : Int) < (m : Int) + 1 := by omega
      by_cases e1 : style = 1
      · have t1 : (style == 1) = true := by simp [e1]
        have t2 : (style == 2) = false := by simp [e1]
        have ht : tb style x = x % 2 := by unfold tb; rw [if_pos e1]
        rw [ht] at y0 y1
        have HE2 : Hid (textGo zs len style m (acc ++ [x % 2], (bF zs len st').2) = textF zs len most st) := by have := HE'.out; rw [ht] at this; exact this
        clear HE' ht e1
        go_wp2_with fail
        refine (HB.out _ HCr.out).mono ?_
        rintro e w3 ⟨rfl, hC3, hg3⟩
        have hown3 := own_cur hown hg3 hBw
        have K3 : Hid (Cur w3 B ao len cap zs (bF zs len st').2 ∧ w.grownBy w3 (some B)) := ⟨hC3, HGr.out.trans hg3⟩
        have hsz3 := K3.out.2.size
        clear hC3 hg3 hown
        go_wp2_with (at_builtin; refine wpList_append_own _ rfl _ _ 22 rfl w.heap.size 5 i0 (.int .u8 0) 1 1 Try.underlying22 hi hz0 hz1 hz2 rfl (by decide) _ _ _ rfl (hown3.alloc _) ⟨w3.heap.size, 0, none⟩ 1 1 [.int .u8 (x % 2)] rfl rfl (cell_one_new _ _ _) (by intro u hu; simp at hu; subst hu; rfl) (by unfold maxLen; omega) (by omega) (by simp; omega) ?_)
        intro v' w4 hown4 hgrow _
        have R1 := own_snoc hown4
        have hrow : ∀ j, Value.ownBlock _ = some j → w.heap.size ≤ j := fun j hj => (hown3.lt j hj).1
        have g34 : w3.grownBy w4 (Value.ownBlock _) := (World.grownBy_alloc w3 _ _).trans hgrow
        have K4 : Hid (Cur w4 B ao len cap zs (bF zs len st').2) := K3.out.1.keep g34 (fun k hk => by have := hrow k hk; omega)
        have G4 : Hid (w.grownBy w4 (some B)) := K3.out.2.andThen g34 (fun j hj => .inl (hrow j hj))
        clear hown4 hgrow hown3 hrow g34
        go_wp2
        go_roundw
        case rel => first | exact ⟨m, acc ++ [x % 2], (bF zs len st').2, by go_num, by simp; omega, R1, K4, G4, HE2⟩ | ((repeat apply Exists.intro); exact ⟨⟨m, acc ++ [x % 2], (bF zs len st').2, by go_num, by simp; omega, R1, K4, G4, HE2⟩, rfl⟩)
        case measure => simp [intOf]
      · have t1 : (style == 1) = false := by simp [e1]
        by_cases e2 : style = 2
        · have t2 : (style == 2) = true := by simp [e2]
          have ht : tb style x = 97 + x % 4 := by unfold tb; rw [if_neg e1, if_pos e2]
          rw [ht] at y0 y1
          have HE2 : Hid (textGo zs len style m (acc ++ [97 + x % 4], (bF zs len st').2) = textF zs len most st) := by have := HE'.out; rw [ht] at this; exact this
          clear HE' ht e1 e2
          go_wp2_with fail
          refine (HB.out _ HCr.out).mono ?_
          rintro e w3 ⟨rfl, hC3, hg3⟩
          have hown3 := own_cur hown hg3 hBw
          have K3 : Hid (Cur w3 B ao len cap zs (bF zs len st').2 ∧ w.grownBy w3 (some B)) := ⟨hC3, HGr.out.trans hg3⟩
          have hsz3 := K3.out.2.size
          clear hC3 hg3 hown
          go_wp2_with (at_builtin; refine wpList_append_own _ rfl _ _ 22 rfl w.heap.size 5 i0 (.int .u8 0) 1 1 Try.underlying22 hi hz0 hz1 hz2 rfl (by decide) _ _ _ rfl (hown3.alloc _) ⟨w3.heap.size, 0, none⟩ 1 1 [.int .u8 (97 + x % 4)] rfl rfl (cell_one_new _ _ _) (by intro u hu; simp at hu; subst hu; rfl) (by unfold maxLen; omega) (by omega) (by simp; omega) ?_)
          intro v' w4 hown4 hgrow _
          have R1 := own_snoc hown4
          have hrow : ∀ j, Value.ownBlock _ = some j → w.heap.size ≤ j := fun j hj => (hown3.lt j hj).1
          have g34 : w3.grownBy w4 (Value.ownBlock _) := (World.grownBy_alloc w3 _ _).trans hgrow
          have K4 : Hid (Cur w4 B ao len cap zs (bF zs len st').2) := K3.out.1.keep g34 (fun k hk => by have := hrow k hk; omega)
          have G4 : Hid (w.grownBy w4 (some B)) := K3.out.2.andThen g34 (fun j hj => .inl (hrow j hj))
          clear hown4 hgrow hown3 hrow g34
          go_wp2
          go_roundw
          case rel => first | exact ⟨m, acc ++ [97 + x % 4], (bF zs len st').2, by go_num, by simp; omega, R1, K4, G4, HE2⟩ | ((repeat apply Exists.intro); exact ⟨⟨m, acc ++ [97 + x % 4], (bF zs len st').2, by go_num, by simp; omega, R1, K4, G4, HE2⟩, rfl⟩)
          case measure => simp [intOf]
        · have t2 : (style == 2) = false := by simp [e2]
          have ht : tb style x = x := by unfold tb; rw [if_neg e1, if_neg e2]
          rw [ht] at y0 y1
          have HE2 : Hid (textGo zs len style m (acc ++ [x], (bF zs len st').2) = textF zs len most st) := by have := HE'.out; rw [ht] at this; exact this
          clear HE' ht e1 e2
          go_wp2_with fail
          refine (HB.out _ HCr.out).mono ?_
          rintro e w3 ⟨rfl, hC3, hg3⟩
          have hown3 := own_cur hown hg3 hBw
          have K3 : Hid (Cur w3 B ao len cap zs (bF zs len st').2 ∧ w.grownBy w3 (some B)) := ⟨hC3, HGr.out.trans hg3⟩
          have hsz3 := K3.out.2.size
          clear hC3 hg3 hown
          go_wp2_with (at_builtin; refine wpList_append_own _ rfl _ _ 22 rfl w.heap.size 5 i0 (.int .u8 0) 1 1 Try.underlying22 hi hz0 hz1 hz2 rfl (by decide) _ _ _ rfl (hown3.alloc _) ⟨w3.heap.size, 0, none⟩ 1 1 [.int .u8 (x)] rfl rfl (cell_one_new _ _ _) (by intro u hu; simp at hu; subst hu; rfl) (by unfold maxLen; omega) (by omega) (by simp; omega) ?_)
          intro v' w4 hown4 hgrow _
          have R1 := own_snoc hown4
          have hrow : ∀ j, Value.ownBlock _ = some j → w.heap.size ≤ j := fun j hj => (hown3.lt j hj).1
          have g34 : w3.grownBy w4 (Value.ownBlock _) := (World.grownBy_alloc w3 _ _).trans hgrow
          have K4 : Hid (Cur w4 B ao len cap zs (bF zs len st').2) := K3.out.1.keep g34 (fun k hk => by have := hrow k hk; omega)
          have G4 : Hid (w.grownBy w4 (some B)) := K3.out.2.andThen g34 (fun j hj => .inl (hrow j hj))
          clear hown4 hgrow hown3 hrow g34
          go_wp2
          go_roundw
          case rel => first | exact ⟨m, acc ++ [x], (bF zs len st').2, by go_num, by simp; omega, R1, K4, G4, HE2⟩ | ((repeat apply Exists.intro); exact ⟨⟨m, acc ++ [x], (bF zs len st').2, by go_num, by simp; omega, R1, K4, G4, HE2⟩, rfl⟩)
          case measure => simp [intOf]

end Go.Proofs.Ytdggkcohidijcaa

/- The walk of what spoils a drawn text. -/
namespace Go.Proofs.Ytdggkcohidijcaa
open Go.RowKit
set_option linter.unusedVariables false

theorem grownBy_drew {w w' : World} {row : Option Nat} (h : w.grownBy w' row) : w.grownBy w'.drew row := ⟨h.os, h.tape, h.output, h.size, h.block⟩

theorem run_add_small (a b : ByteArray) (h : a.size + b.size ≤ 9223372036854775807) : ∀ w, (Op.stringOp .add a b).run Try.prog w = .ok (.string (a ++ b)) w := fun w => run_string_add_sum w a b h

end Go.Proofs.Ytdggkcohidijcaa
