/- Plain facts on the sum that is halved and turned bit by bit; no program is named here. -/
import Derived.Laws.BitsLemmas
import Derived.Laws.BitsAllLaws
import Derived.Laws.Wrap64
import Derived.Test.YtoecakjjondeeaaGreatRows
import Derived.WalkKit
import Derived.WalkSpells
import Derived.WalkLawsBesides
import Derived.Below
import Derived.Test.YtoecakjjondeeaaGreatOwnLaws
import Derived.OpenShut
import Derived.Laws.BytesArg
import Derived.Laws.Concat
import Derived.Laws.Strings
import Derived.Lib.Strings
import Derived.Test.YtoecakjjondeeaaGreatJW
import Derived.Test.YtoecakjjondeeaaGreatWsWalk
import Derived.Test.YtoecakjjondeeaaGreatPlSpec
import Derived.Test.YtoecakjjondeeaaGreatJR
import Derived.Test.YtoecakjjondeeaaGreatPlMath
import Derived.Shelf.Strings.BuilderK
import Derived.ProofKit
import Derived.Deep.Slices
namespace Go.Proofs.YtoecakjjondeeaaGreat

/-- Two numbers, the one turned by the other. -/
def cx (c b : Int) : Int := ((c.toNat ^^^ b.toNat : Nat) : Int)

/-- One halving: where it was odd it is turned. -/
def ct (c : Int) : Int := if c % 2 = 1 then cx (c / 2) 2197175160 else c / 2

def ci (c : Int) : Nat → Int
  | 0 => c
  | k + 1 => ct (ci c k)

/-- What the first k bytes of s come to. -/
def cp (s : ByteArray) : Nat → Int
  | 0 => 4294967295
  | k + 1 => ci (cx (cp s k) ((s.data[k]?.getD 0).toNat : Int)) 8

theorem cx_range (c b : Int) (hc0 : 0 ≤ c) (hc : c ≤ 4294967295) (hb0 : 0 ≤ b) (hb : b ≤ 4294967295) : 0 ≤ cx c b ∧ cx c b ≤ 4294967295 := by
  have h := Nat.xor_lt_two_pow (x := c.toNat) (y := b.toNat) (n := 32) (by omega) (by omega)
  unfold cx
  have e : (2 : Nat) ^ 32 = 4294967296 := by decide
  omega

theorem ct_range (c : Int) (hc0 : 0 ≤ c) (hc : c ≤ 4294967295) : 0 ≤ ct c ∧ ct c ≤ 4294967295 := by
  unfold ct
  split
  · exact cx_range _ _ (by omega) (by omega) (by omega) (by omega)
  · omega

theorem ci_range (c : Int) (hc0 : 0 ≤ c) (hc : c ≤ 4294967295) : ∀ k, 0 ≤ ci c k ∧ ci c k ≤ 4294967295
  | 0 => ⟨hc0, hc⟩
  | k + 1 => ct_range _ (ci_range c hc0 hc k).1 (ci_range c hc0 hc k).2

theorem cbyte_lt (c : UInt8) : ((c.toNat : Nat) : Int) < 256 := by
  have := c.toNat_lt; omega

theorem cp_range (s : ByteArray) : ∀ k, 0 ≤ cp s k ∧ cp s k ≤ 4294967295
  | 0 => by simp [cp]
  | k + 1 => by
    have h := cp_range s k
    have hb := cbyte_lt (s.data[k]?.getD 0)
    have hx := cx_range (cp s k) ((s.data[k]?.getD 0).toNat : Int) h.1 h.2 (by omega) (by omega)
    exact ci_range _ hx.1 hx.2 8

theorem cp_succ (s : ByteArray) (k : Nat) (h : k < s.size) : cp s (k + 1) = ci (cx (cp s k) ((s[k]).toNat : Int)) 8 := by
  have e : s.data[k]? = some s[k] := by
    rw [Array.getElem?_eq_getElem (by exact h)]; rfl
  simp only [cp, e, Option.getD_some]

theorem xor_u32 (a b : Int) (h0 : 0 ≤ a) (h1 : a ≤ 4294967295) (h2 : 0 ≤ b) (h3 : b ≤ 4294967295) : bits .xor .u32 a b = cx a b :=
  u32_xor a b h0 (by omega) h2 (by omega)

theorem xor_i64 (a b : Int) (h0 : 0 ≤ a) (h1 : a ≤ 4294967295) (h2 : 0 ≤ b) (h3 : b ≤ 4294967295) : bits .xor .i64 a b = cx a b := by
  obtain ⟨A, rfl⟩ := Int.eq_ofNat_of_zero_le h0
  obtain ⟨B, rfl⟩ := Int.eq_ofNat_of_zero_le h2
  have hr := cx_range A B (by omega) (by omega) (by omega) (by omega)
  have oa : ∀ a : Nat, a ≤ 4294967295 → (BitVec.ofInt 64 (a : Int)).toNat = a := by
    intro a ha
    rw [BitVec.ofInt_natCast, BitVec.toNat_ofNat, Nat.mod_eq_of_lt (by omega)]
  have e : bits .xor .i64 (A : Int) (B : Int) = IntKind.i64.wrap ((BitVec.ofInt 64 (A : Int) ^^^ BitVec.ofInt 64 (B : Int)).toNat : Int) := rfl
  rw [e, BitVec.toNat_xor, oa A (by omega), oa B (by omega)]
  have e2 : ((A ^^^ B : Nat) : Int) = cx A B := by simp [cx]
  rw [e2]
  simp only [IntKind.wrap, IntKind.bits, IntKind.signed]
  simp
  omega

theorem ct_odd (c : Int) (h : c % 2 = 1) : ct c = cx (c / 2) 2197175160 := by unfold ct; rw [if_pos h]

theorem ct_even (c : Int) (h : c % 2 = 0) : ct c = c / 2 := by unfold ct; rw [if_neg (by omega)]

theorem cx_zero (c : Int) (h : 0 ≤ c) : cx c 0 = c := by unfold cx; simp; omega

theorem mask_odd (c : Int) (h0 : 0 ≤ c) (h1 : c ≤ 4294967295) (h : c % 2 = 1) : bits .and .u32 2197175160 ((-(bits .and .u32 c 1)) % 4294967296) = 2197175160 := by
  have e : bits .and .u32 c 1 = 1 := by
    rw [u32_and c 1 h0 (by omega) (by omega) (by omega)]
    have : c.toNat &&& (1 : Int).toNat = c.toNat % 2 := Nat.and_one_is_mod _
    omega
  rw [e]; rfl

theorem mask_even (c : Int) (h0 : 0 ≤ c) (h1 : c ≤ 4294967295) (h : c % 2 = 0) : bits .and .u32 2197175160 ((-(bits .and .u32 c 1)) % 4294967296) = 0 := by
  have e : bits .and .u32 c 1 = 0 := by
    rw [u32_and c 1 h0 (by omega) (by omega) (by omega)]
    have : c.toNat &&& (1 : Int).toNat = c.toNat % 2 := Nat.and_one_is_mod _
    omega
  rw [e]; rfl

end Go.Proofs.YtoecakjjondeeaaGreat

/- The walks of the two that tell whether a text was turned, and of the law over them. -/
namespace Go.Proofs.YtoecakjjondeeaaGreat
open Go.RowKit
set_option linter.unusedVariables false

theorem crc_ret {k : IntKind} {a b : Int} (h : a = b) : Ending.returned (.int k a) = .returned (.int k b) := by rw [h]

set_option maxRecDepth 20000 in
set_option maxHeartbeats 1000000 in
theorem specCrc (s : ByteArray) (w : World) (hm : s.size ≤ maxLen) :
    Calls Tryz.prog 144 #[.string s] w fun e w' => e = .returned (.int .i64 (4294967295 - cp s s.size)) ∧ w' = w := by
  unfold maxLen at hm
  go_enter Tryz.func144, Tryz.ntmps144
  go_wp2
  go_loop [3, 4] (fun c i => ∃ k : Nat, k ≤ s.size ∧ i = .int .i64 k ∧ c = .int .i64 (cp s k)) (fun _ i => s.size - (intOf i).toNat)
  case atStart => exact ⟨0, Nat.zero_le _, rfl, rfl⟩
  case round =>
    obtain ⟨k, hk, rfl, rfl⟩ := hrel
    obtain ⟨h0, h1⟩ := cp_range s k
    by_cases hlt : k < s.size
    · have hb := cbyte_lt s[k]
      have hx := xor_i64 (cp s k) ((s[k]).toNat : Int) h0 h1 (by omega) (by omega)
      obtain ⟨x0, x1⟩ := cx_range (cp s k) ((s[k]).toNat : Int) h0 h1 (by omega) (by omega)
      have HS : Hid (cp s (k + 1) = ci (cx (cp s k) ((s[k]).toNat : Int)) 8) := cp_succ s k hlt
      obtain ⟨X, hX⟩ : ∃ X, cx (cp s k) ((s[k]).toNat : Int) = X := ⟨_, rfl⟩
      rw [hX] at hx x0 x1
      have HX : Hid (cx (cp s k) ((s[k]).toNat : Int) = X) := hX
      clear hX
      go_wp2
      go_loop [3, 5] (fun c j => ∃ m : Nat, m ≤ 8 ∧ j = .int .i64 m ∧ c = .int .i64 (ci X m)) (fun _ j => 8 - (intOf j).toNat)
      case atStart => exact ⟨0, by omega, rfl, rfl⟩
      case round =>
        obtain ⟨m, hm8, rfl, rfl⟩ := hrel
        obtain ⟨y0, y1⟩ := ci_range X x0 x1 m
        by_cases hl8 : m < 8
        · rcases Int.emod_two_eq (ci X m) with ho | ho
          · have HE : Hid (ci X (m + 1) = ci X m / 2) := ct_even _ ho
            have ht : (ci X m % 2 == 1) = false := by rw [ho]; rfl
            clear ho
            go_wp2
            go_round
            case rel => exact ⟨m + 1, by omega, by go_num, by rw [HE.out]⟩
            case measure => simp [intOf]; omega
          · have hx2 := xor_i64 (ci X m / 2) 2197175160 (by omega) (by omega) (by omega) (by omega)
            have HE : Hid (ci X (m + 1) = cx (ci X m / 2) 2197175160) := ct_odd _ ho
            have ht : (ci X m % 2 == 1) = true := by rw [ho]; rfl
            clear ho
            go_wp2
            go_round
            case rel => exact ⟨m + 1, by omega, by go_num, by rw [HE.out]⟩
            case measure => simp [intOf]; omega
        · have : m = 8 := by omega
          subst this
          go_wp2
          go_round
          case rel => exact ⟨k + 1, by omega, by go_num, by rw [HS.out, HX.out]⟩
          case measure => simp [intOf]; omega
    · have : k = s.size := by omega
      subst this
      go_wp2
      go_ret
      exact ⟨rfl, rfl⟩

set_option maxRecDepth 20000 in
set_option maxHeartbeats 1000000 in
theorem implTake (s : ByteArray) (w : World) (B : Nat) (hm : s.size ≤ maxLen) (hown : w.ownsRow B 217 1 (.slice (some ⟨B, 0, none⟩) 1 1) 1 [.int .u32 4294967295]) :
    Calls Tryz.prog 165 #[.pointer (some ⟨B, 0, none⟩), .string s] w fun e w' => e = .returned (.tuple #[]) ∧ w' = w.setCell ⟨B, 0, none⟩ (.int .u32 (cp s s.size)) := by
  unfold maxLen at hm
  have c0 : w.cell? ⟨B, 0, none⟩ = some (.int .u32 4294967295) := by rw [hown.cellAt 0 (by omega)]; rfl
  have f0 := hown.frozenAt 0
  clear hown
  go_enter Tryz.func165, Tryz.ntmps165
  go_wp2
  go_loop [4, 12] (fun c i => ∃ k : Nat, k ≤ s.size ∧ i = .int .i64 k ∧ c = .int .u32 (cp s k)) (fun _ i => s.size - (intOf i).toNat)
  case atStart => exact ⟨0, Nat.zero_le _, rfl, rfl⟩
  case round =>
    obtain ⟨k, hk, rfl, rfl⟩ := hrel
    obtain ⟨h0, h1⟩ := cp_range s k
    by_cases hlt : k < s.size
    · have hb := cbyte_lt s[k]
      have hx := xor_u32 (cp s k) ((s[k]).toNat : Int) h0 h1 (by omega) (by omega)
      obtain ⟨x0, x1⟩ := cx_range (cp s k) ((s[k]).toNat : Int) h0 h1 (by omega) (by omega)
      have HS : Hid (cp s (k + 1) = ci (cx (cp s k) ((s[k]).toNat : Int)) 8) := cp_succ s k hlt
      obtain ⟨X, hX⟩ : ∃ X, cx (cp s k) ((s[k]).toNat : Int) = X := ⟨_, rfl⟩
      rw [hX] at hx x0 x1
      have HX : Hid (cx (cp s k) ((s[k]).toNat : Int) = X) := hX
      clear hX
      go_wp2
      go_loop [4, 21] (fun c j => ∃ m : Nat, m ≤ 8 ∧ j = .int .i64 m ∧ c = .int .u32 (ci X m)) (fun _ j => 8 - (intOf j).toNat)
      case atStart => exact ⟨0, by omega, rfl, rfl⟩
      case round =>
        obtain ⟨m, hm8, rfl, rfl⟩ := hrel
        obtain ⟨y0, y1⟩ := ci_range X x0 x1 m
        by_cases hl8 : m < 8
        · rcases Int.emod_two_eq (ci X m) with ho | ho
          · have HE : Hid (ci X (m + 1) = ci X m / 2) := ct_even _ ho
            have hk2 := mask_even (ci X m) y0 y1 ho
            have hx2 := xor_u32 (ci X m / 2) 0 (by omega) (by omega) (by omega) (by omega)
            rw [cx_zero _ (by omega)] at hx2
            clear ho
            go_wp2
            go_round
            case rel => exact ⟨m + 1, by omega, by go_num, by rw [HE.out]⟩
            case measure => simp [intOf]; omega
          · have hk2 := mask_odd (ci X m) y0 y1 ho
            have hx2 := xor_u32 (ci X m / 2) 2197175160 (by omega) (by omega) (by omega) (by omega)
            have HE : Hid (ci X (m + 1) = cx (ci X m / 2) 2197175160) := ct_odd _ ho
            clear ho
            go_wp2
            go_round
            case rel => exact ⟨m + 1, by omega, by go_num, by rw [HE.out]⟩
            case measure => simp [intOf]; omega
        · have : m = 8 := by omega
          subst this
          go_wp2
          go_round
          case rel => exact ⟨k + 1, by omega, by go_num, by rw [HS.out, HX.out]⟩
          case measure => simp [intOf]; omega
    · have : k = s.size := by omega
      subst this
      go_wp2
      go_end0
      exact ⟨rfl, rfl⟩

theorem implTell (w : World) (B : Nat) (c : Int) (h0 : 0 ≤ c) (h1 : c ≤ 4294967295) (hc : w.cell? ⟨B, 0, none⟩ = some (.int .u32 c)) :
    Calls Tryz.prog 166 #[.pointer (some ⟨B, 0, none⟩)] w fun e w' => e = .returned (.int .i64 (4294967295 - c)) ∧ w' = w := by
  have hr : (4294967295 - c) % 4294967296 = 4294967295 - c := by omega
  go_enter Tryz.func166, Tryz.ntmps166
  go_wp2
  go_ret
  exact ⟨rfl, rfl⟩

end Go.Proofs.YtoecakjjondeeaaGreat

/- Plain facts on a number told in so many bytes, the highest first; no program is named here. -/
namespace Go.Proofs.YtoecakjjondeeaaGreat

/-- n with its lowest k bytes taken off. -/
def fq (n : Int) : Nat → Int
  | 0 => n
  | k + 1 => fq n k / 256

/-- The lowest k bytes of n, the highest first. -/
def beL (n : Int) : Nat → List Int
  | 0 => []
  | k + 1 => (fq n k % 256) :: beL n k

theorem beL_length (n : Int) : ∀ k, (beL n k).length = k
  | 0 => rfl
  | k + 1 => by simp [beL, beL_length n k]

theorem fq_nonneg (n : Int) (h : 0 ≤ n) : ∀ k, 0 ≤ fq n k
  | 0 => h
  | k + 1 => by have := fq_nonneg n h k; simp only [fq]; omega

theorem fq_le (n : Int) (h : 0 ≤ n) : ∀ k, fq n k ≤ n
  | 0 => Int.le_refl _
  | k + 1 => by have := fq_le n h k; have := fq_nonneg n h k; simp only [fq]; omega

theorem fq_eq (n : Int) : ∀ k, fq n k = n / 2 ^ (8 * k)
  | 0 => by simp [fq]
  | k + 1 => by
    have e : (2 : Int) ^ (8 * (k + 1)) = 2 ^ (8 * k) * 256 := by
      rw [show 8 * (k + 1) = 8 * k + 8 by omega, Int.pow_add]; rfl
    rw [fq, fq_eq n k, e, Int.ediv_ediv_of_nonneg (Int.le_of_lt (Int.pow_pos (by decide)))]

theorem be_set (n : Int) (W k : Nat) (h : k < W) : (List.replicate (W - k) 0 ++ beL n k).set (W - 1 - k) (fq n k % 256) = List.replicate (W - (k + 1)) 0 ++ beL n (k + 1) := by
  obtain ⟨m, hm⟩ : ∃ m, W - k = m + 1 := ⟨W - k - 1, by omega⟩
  have h1 : W - 1 - k = m := by omega
  have h2 : W - (k + 1) = m := by omega
  rw [h1, h2, hm, List.replicate_succ', List.append_assoc, List.set_append_right _ _ (by simp)]
  simp [beL]

theorem fq_ne (n : Int) (W : Nat) (h : 0 ≤ n) (hq : fq n W ≤ 0) : (n / 2 ^ (8 * W) != 0) = false := by
  have h1 := fq_nonneg n h W
  have h2 := fq_eq n W
  have h3 : n / 2 ^ (8 * W) = 0 := by omega
  simp [h3]

theorem fq_ne' (n : Int) (W : Nat) (hq : 0 < fq n W) : (n / 2 ^ (8 * W) != 0) = true := by
  have h2 := fq_eq n W
  have h3 : n / 2 ^ (8 * W) ≠ 0 := by omega
  simp [h3]

end Go.Proofs.YtoecakjjondeeaaGreat

/- The walks of the two that tell a number in so many bytes, the highest first. -/
namespace Go.Proofs.YtoecakjjondeeaaGreat
open Go.RowKit
set_option linter.unusedVariables false

theorem add_be (n : Int) (k : Nat) (hk : k ≤ 7) : ∀ w, (Op.stringOp .add (strOfNums [fq n k % 256]) (strOfNums (beL n k))).run Tryz.prog w = .ok (.string (strOfNums (beL n (k + 1)))) w := fun w =>
  run_add_nums [fq n k % 256] (beL n k) (by rw [beL_length]; simp; omega) w

theorem be_cell (n : Int) (W k : Nat) (h : k < W) : ((List.replicate (W - k) 0 ++ beL n k).map (Value.int .u8))[W - 1 - k]? = some (.int .u8 0) := by
  rw [List.map_append, List.getElem?_append_left (by simp; omega), List.map_replicate, List.getElem?_replicate_of_lt (by omega)]

set_option maxRecDepth 20000 in
set_option maxHeartbeats 400000 in
theorem specFix_yes (n : Int) (W : Nat) (w : World) (h0 : 0 ≤ n) (h1 : n ≤ 9223372036854775807) (hW1 : 1 ≤ W) (hW7 : W ≤ 7) (hq : fq n W ≤ 0) :
    Calls Tryz.prog 143 #[.int .i64 n, .int .i64 W] w fun e w' => e = .returned (.string (strOfNums (beL n W))) ∧ Below w.heap.size w w' := by
  have HQ : Hid (fq n W ≤ 0) := hq
  clear hq
  go_enter Tryz.func143, Tryz.ntmps143
  go_wp2
  go_loopw [0, 5, 6] (fun m v i wr => ∃ k : Nat, k ≤ W ∧ i = .int .i64 k ∧ m = .int .i64 (fq n k) ∧ v = .string (strOfNums (beL n k)) ∧ Below w.heap.size w wr) (fun _ _ i _ => W - (intOf i).toNat)
  case atStart => exact ⟨0, Nat.zero_le _, rfl, rfl, rfl, Below.refl _ _⟩
  case round =>
    obtain ⟨k, hk, rfl, rfl, rfl, hbel⟩ := hrel
    have hsz := hbel.size
    have f0 := fq_nonneg n h0 k
    have f1 := fq_le n h0 k
    by_cases hlt : k < W
    · have hco := conv_one wr
      have had := add_be n k (by omega)
      go_wp2
      go_roundw
      case rel => exact ⟨k + 1, by omega, by go_num, rfl, rfl, hbel.alloc (by omega) _⟩
      case measure => simp [intOf]; omega
    · have : k = W := by omega
      subst this
      have hz := HQ.out
      go_wp2
      go_ret
      exact ⟨rfl, hbel⟩

set_option maxRecDepth 20000 in
set_option maxHeartbeats 400000 in
theorem implFix_yes (n : Int) (W : Nat) (w : World) (h0 : 0 ≤ n) (h1 : n ≤ 9223372036854775807) (hW1 : 1 ≤ W) (hW7 : W ≤ 7) (hq : fq n W ≤ 0) :
    Calls Tryz.prog 150 #[.int .i64 n, .int .i64 W] w fun e w' => e = .returned (.string (strOfNums (beL n W))) ∧ Below w.heap.size w w' := by
  have hne := fq_ne n W h0 hq
  clear hq
  obtain ⟨i0, hi, hz0, hz1, hz2⟩ := info_parts info5
  go_enter Tryz.func150, Tryz.ntmps150
  go_wp2_with (first | (at_make; refine wpList_make_full _ rfl _ _ 146 rfl w.heap.size 5 i0 (.int .u8 0) 1 Tryz.underlying146 hi hz0 hz1 .i64 .i64 W W W rfl rfl rfl rfl (by rw [hz2]; omega) (by unfold maxLen; omega) (Nat.le_refl _) ?_) | go_in)
  intro w0 hown0 hgrow0
  have hbel0 : Below w.heap.size w w0 := (Below.refl _ _).grown hgrow0 (Nat.le_refl _) (by simp)
  clear hgrow0
  have hown1 : w0.ownsRow w.heap.size 5 1 (.slice (some ⟨w.heap.size, 0, none⟩) W W) W ((List.replicate (W - 0) 0 ++ beL n 0).map (Value.int .u8)) := by
    simpa [toList_madeCells_one, beL] using hown0
  clear hown0
  go_wp2
  go_loopw [24] (fun i wr => ∃ k : Nat, k ≤ W ∧ i = .int .i64 k ∧ wr.ownsRow w.heap.size 5 1 (.slice (some ⟨w.heap.size, 0, none⟩) W W) W ((List.replicate (W - k) 0 ++ beL n k).map (Value.int .u8)) ∧ Below w.heap.size w wr) (fun i _ => W - (intOf i).toNat)
  case atStart => exact ⟨0, Nat.zero_le _, rfl, hown1, hbel0⟩
  case round =>
    obtain ⟨k, hk, rfl, hown, hbel⟩ := hrel
    have hsz := hbel.size
    by_cases hlt : k < W
    · have hcl : wr.cell? ⟨w.heap.size, W - 1 - k, none⟩ = some (.int .u8 0) := by
        rw [hown.cellAt (W - 1 - k) (by omega)]
        exact be_cell n W k hlt
      have hfz := hown.frozenAt (W - 1 - k)
      go_wp2
      have hst := hown.stored (W - 1 - k) (.int .u8 (n / 2 ^ (8 * k) % 256))
      have R1 : (wr.setCell ⟨w.heap.size, W - 1 - k, none⟩ (.int .u8 (n / 2 ^ (8 * k) % 256))).ownsRow w.heap.size 5 1 (.slice (some ⟨w.heap.size, 0, none⟩) W W) W ((List.replicate (W - (k + 1)) 0 ++ beL n (k + 1)).map (Value.int .u8)) := by
        rw [← be_set n W k hlt, List.map_set, fq_eq n k]
        exact hst.1
      have R2 : Below w.heap.size w (wr.setCell ⟨w.heap.size, W - 1 - k, none⟩ (.int .u8 (n / 2 ^ (8 * k) % 256))) := hbel.setCell (Nat.le_refl _) _
      go_roundw
      case rel => first | exact ⟨k + 1, by omega, by go_num, R1, R2⟩ | ((repeat apply Exists.intro); exact ⟨⟨k + 1, by omega, by go_num, R1, R2⟩, rfl⟩)
      case measure => simp [intOf]; omega
    · have hkW : k = W := by omega
      subst hkW
      have hown2 : wr.ownsRow w.heap.size 5 1 (.slice (some ⟨w.heap.size, 0, none⟩) k k) k ((beL n k).map (Value.int .u8)) := by
        simpa using hown
      have hconv := run_string_of_own (beL n k) (by rw [beL_length]) hown2
      clear hown hown1 hown2
      go_wp2
      go_ret
      exact ⟨rfl, hbel⟩

set_option maxRecDepth 20000 in
set_option maxHeartbeats 400000 in
theorem specFix_out (n v : Int) (w : World) (h : v < 1 ∨ 7 < v ∨ n < 0) :
    Calls Tryz.prog 143 #[.int .i64 n, .int .i64 v] w fun e w' => e = .returned (.string ⟨#[]⟩) ∧ Below w.heap.size w w' := by
  by_cases h1 : v < 1
  · go_enter Tryz.func143, Tryz.ntmps143
    go_wp2
    go_ret
    exact ⟨rfl, Below.refl _ _⟩
  · by_cases h7 : 7 < v
    · go_enter Tryz.func143, Tryz.ntmps143
      go_wp2
      go_ret
      exact ⟨rfl, Below.refl _ _⟩
    · have hn : n < 0 := by omega
      go_enter Tryz.func143, Tryz.ntmps143
      go_wp2
      go_ret
      exact ⟨rfl, Below.refl _ _⟩

set_option maxRecDepth 20000 in
set_option maxHeartbeats 400000 in
theorem implFix_out (n v : Int) (w : World) (h : v < 1 ∨ 7 < v ∨ n < 0) :
    Calls Tryz.prog 150 #[.int .i64 n, .int .i64 v] w fun e w' => e = .returned (.string ⟨#[]⟩) ∧ Below w.heap.size w w' := by
  by_cases h1 : v < 1
  · go_enter Tryz.func150, Tryz.ntmps150
    go_wp2
    go_ret
    exact ⟨rfl, Below.refl _ _⟩
  · by_cases h7 : 7 < v
    · go_enter Tryz.func150, Tryz.ntmps150
      go_wp2
      go_ret
      exact ⟨rfl, Below.refl _ _⟩
    · have hn : n < 0 := by omega
      go_enter Tryz.func150, Tryz.ntmps150
      go_wp2
      go_ret
      exact ⟨rfl, Below.refl _ _⟩

set_option maxRecDepth 20000 in
set_option maxHeartbeats 400000 in
theorem specFix_no (n : Int) (W : Nat) (w : World) (h0 : 0 ≤ n) (h1 : n ≤ 9223372036854775807) (hW1 : 1 ≤ W) (hW7 : W ≤ 7) (hq : 0 < fq n W) :
    Calls Tryz.prog 143 #[.int .i64 n, .int .i64 W] w fun e w' => e = .returned (.string ⟨#[]⟩) ∧ Below w.heap.size w w' := by
  have HQ : Hid (0 < fq n W) := hq
  clear hq
  go_enter Tryz.func143, Tryz.ntmps143
  go_wp2
  go_loopw [0, 5, 6] (fun m v i wr => ∃ k : Nat, k ≤ W ∧ i = .int .i64 k ∧ m = .int .i64 (fq n k) ∧ v = .string (strOfNums (beL n k)) ∧ Below w.heap.size w wr) (fun _ _ i _ => W - (intOf i).toNat)
  case atStart => exact ⟨0, Nat.zero_le _, rfl, rfl, rfl, Below.refl _ _⟩
  case round =>
    obtain ⟨k, hk, rfl, rfl, rfl, hbel⟩ := hrel
    have hsz := hbel.size
    have f0 := fq_nonneg n h0 k
    have f1 := fq_le n h0 k
    by_cases hlt : k < W
    · have hco := conv_one wr
      have had := add_be n k (by omega)
      go_wp2
      go_roundw
      case rel => exact ⟨k + 1, by omega, by go_num, rfl, rfl, hbel.alloc (by omega) _⟩
      case measure => simp [intOf]; omega
    · have : k = W := by omega
      subst this
      have hz := HQ.out
      go_wp2
      go_ret
      exact ⟨rfl, hbel⟩

set_option maxRecDepth 20000 in
set_option maxHeartbeats 400000 in
theorem implFix_no (n : Int) (W : Nat) (w : World) (h0 : 0 ≤ n) (hW1 : 1 ≤ W) (hW7 : W ≤ 7) (hq : 0 < fq n W) :
    Calls Tryz.prog 150 #[.int .i64 n, .int .i64 W] w fun e w' => e = .returned (.string ⟨#[]⟩) ∧ Below w.heap.size w w' := by
  have hne := fq_ne' n W hq
  clear hq
  go_enter Tryz.func150, Tryz.ntmps150
  go_wp2
  go_ret
  exact ⟨rfl, Below.refl _ _⟩

end Go.Proofs.YtoecakjjondeeaaGreat

/- Plain facts on numbers told in bytes, the highest first; no program is named here. -/
namespace Go.Proofs.YtoecakjjondeeaaGreat

/-- The number that the first k bytes of s tell, the highest first. -/
def rd (s : ByteArray) : Nat → Int
  | 0 => 0
  | k + 1 => rd s k * 256 + ((s.data[k]?.getD 0).toNat : Int)

theorem byte_lt (c : UInt8) : ((c.toNat : Nat) : Int) < 256 := by
  have := c.toNat_lt; omega

theorem rd_succ (s : ByteArray) (k : Nat) (h : k < s.size) : rd s (k + 1) = rd s k * 256 + ((s[k]).toNat : Int) := by
  have e : s.data[k]? = some s[k] := by
    rw [Array.getElem?_eq_getElem (by exact h)]; rfl
  simp only [rd, e, Option.getD_some]

theorem rd_nonneg (s : ByteArray) : ∀ k, 0 ≤ rd s k
  | 0 => Int.le_refl 0
  | k + 1 => by have := rd_nonneg s k; simp only [rd]; omega

theorem rd_lt (s : ByteArray) : ∀ k, rd s k < 256 ^ k
  | 0 => by simp [rd]
  | k + 1 => by
    have h := rd_lt s k
    have hb := byte_lt (s.data[k]?.getD 0)
    have e : (256 : Int) ^ (k + 1) = 256 ^ k * 256 := Int.pow_succ _ _
    simp only [rd, e]; omega

theorem rd_le6 (s : ByteArray) (k : Nat) (h : k < 7) : rd s k ≤ 281474976710655 := by
  have h1 := rd_lt s k
  have h2 : (256 : Int) ^ k ≤ 256 ^ 6 := by
    have := Nat.pow_le_pow_right (n := 256) (by decide) (show k ≤ 6 by omega)
    calc (256 : Int) ^ k = ((256 ^ k : Nat) : Int) := by simp
      _ ≤ ((256 ^ 6 : Nat) : Int) := Int.ofNat_le.mpr this
      _ = 256 ^ 6 := rfl
  have h3 : (256 : Int) ^ 6 = 281474976710656 := by decide
  omega

theorem or_byte (x y : Int) (h0 : 0 ≤ x) (h1 : x ≤ 281474976710655) (h2 : 0 ≤ y) (h3 : y < 256) : bits .or .i64 (x * 256) y = x * 256 + y :=
  bits_join .i64 62 (by decide) (fun n a b => by simp [IntKind.wrap, IntKind.bits, IntKind.signed]; omega) 8 (x * 256) y (by omega) (by omega) (by omega) h2 (by omega) (by omega)

end Go.Proofs.YtoecakjjondeeaaGreat

/- Plain facts on frames: a length, a sum, a body; no program is named here. -/
namespace Go.Proofs.YtoecakjjondeeaaGreat

/-- What the first k bytes of s make of c. -/
def cq (c : Int) (s : ByteArray) : Nat → Int
  | 0 => c
  | k + 1 => ci (cx (cq c s k) ((s.data[k]?.getD 0).toNat : Int)) 8

theorem cp_cq (s : ByteArray) : ∀ k, cp s k = cq 4294967295 s k
  | 0 => rfl
  | k + 1 => by simp only [cp, cq, cp_cq s k]

theorem cq_range (c : Int) (h0 : 0 ≤ c) (h1 : c ≤ 4294967295) (s : ByteArray) : ∀ k, 0 ≤ cq c s k ∧ cq c s k ≤ 4294967295
  | 0 => ⟨h0, h1⟩
  | k + 1 => by
    have h := cq_range c h0 h1 s k
    have hb := cbyte_lt (s.data[k]?.getD 0)
    have hx := cx_range (cq c s k) ((s.data[k]?.getD 0).toNat : Int) h.1 h.2 (by omega) (by omega)
    exact ci_range _ hx.1 hx.2 8

theorem cq_succ (c : Int) (s : ByteArray) (k : Nat) (h : k < s.size) : cq c s (k + 1) = ci (cx (cq c s k) ((s[k]).toNat : Int)) 8 := by
  have e : s.data[k]? = some s[k] := by
    rw [Array.getElem?_eq_getElem (by exact h)]; rfl
  simp only [cq, e, Option.getD_some]

theorem app_left (a b : ByteArray) (k : Nat) (h : k < a.size) : (a ++ b).data[k]? = a.data[k]? := by
  rw [ByteArray.data_append, Array.getElem?_append_left (by exact h)]

theorem app_right (a b : ByteArray) (k : Nat) : (a ++ b).data[a.size + k]? = b.data[k]? := by
  rw [ByteArray.data_append, Array.getElem?_append_right (by show a.data.size ≤ a.data.size + k; omega)]
  congr 1
  show a.data.size + k - a.data.size = k
  omega

theorem cq_app1 (c : Int) (a b : ByteArray) : ∀ k, k ≤ a.size → cq c (a ++ b) k = cq c a k
  | 0, _ => rfl
  | k + 1, h => by
    simp only [cq, cq_app1 c a b k (by omega), app_left a b k (by omega)]

theorem cq_app2 (c : Int) (a b : ByteArray) : ∀ k, cq c (a ++ b) (a.size + k) = cq (cq c a a.size) b k
  | 0 => cq_app1 c a b a.size (Nat.le_refl _)
  | k + 1 => by
    rw [show a.size + (k + 1) = (a.size + k) + 1 by omega]
    simp only [cq, cq_app2 c a b k, app_right a b k]

/-- The sum of a length's text and a body. -/
def fsum (h b : ByteArray) : Int := 4294967295 - cq (cq 4294967295 h h.size) b b.size

theorem fsum_range (h b : ByteArray) : 0 ≤ fsum h b ∧ fsum h b ≤ 4294967295 := by
  have h1 := cq_range 4294967295 (by omega) (by omega) h h.size
  have h2 := cq_range _ h1.1 h1.2 b b.size
  unfold fsum; omega

theorem fsum_cp (h b : ByteArray) : 4294967295 - cp (h ++ b) (h ++ b).size = fsum h b := by
  rw [cp_cq, ByteArray.size_append, cq_app2]; rfl

/-- The frame of a body. -/
def frameOf (b : ByteArray) : ByteArray := strOfNums (beL b.size 4) ++ strOfNums (beL (fsum (strOfNums (beL b.size 4)) b) 4) ++ b

theorem be_size (n : Int) (k : Nat) : (strOfNums (beL n k)).size = k := by rw [strOfNums_size, beL_length]

theorem frameOf_size (b : ByteArray) : (frameOf b).size = 8 + b.size := by
  unfold frameOf
  rw [ByteArray.size_append, ByteArray.size_append, be_size, be_size]

theorem fq4 (n : Int) (h0 : 0 ≤ n) (h1 : n ≤ 4294967295) : fq n 4 ≤ 0 := by
  simp only [fq]; omega

/-! ### The length that is read, the length that is told -/

def bt (s : ByteArray) (i : Nat) : Int := ((s.data[i]?.getD 0).toNat : Int)

theorem bt_range (s : ByteArray) (i : Nat) : 0 ≤ bt s i ∧ bt s i ≤ 255 := by
  have := byte_lt (s.data[i]?.getD 0)
  unfold bt; omega

theorem rd4 (s : ByteArray) : rd s 4 = ((bt s 0 * 256 + bt s 1) * 256 + bt s 2) * 256 + bt s 3 := by
  simp only [rd, bt]; omega

theorem rd4_range (s : ByteArray) : 0 ≤ rd s 4 ∧ rd s 4 ≤ 4294967295 := by
  have h0 := bt_range s 0
  have h1 := bt_range s 1
  have h2 := bt_range s 2
  have h3 := bt_range s 3
  rw [rd4]; omega

theorem be4 (n : Int) : beL n 4 = [n / 256 / 256 / 256 % 256, n / 256 / 256 % 256, n / 256 % 256, n % 256] := rfl

theorem be_rd (s : ByteArray) : beL (rd s 4) 4 = [bt s 0, bt s 1, bt s 2, bt s 3] := by
  have h0 := bt_range s 0
  have h1 := bt_range s 1
  have h2 := bt_range s 2
  have h3 := bt_range s 3
  rw [be4, rd4]
  have e0 : (((bt s 0 * 256 + bt s 1) * 256 + bt s 2) * 256 + bt s 3) / 256 / 256 / 256 % 256 = bt s 0 := by omega
  have e1 : (((bt s 0 * 256 + bt s 1) * 256 + bt s 2) * 256 + bt s 3) / 256 / 256 % 256 = bt s 1 := by omega
  have e2 : (((bt s 0 * 256 + bt s 1) * 256 + bt s 2) * 256 + bt s 3) / 256 % 256 = bt s 2 := by omega
  have e3 : (((bt s 0 * 256 + bt s 1) * 256 + bt s 2) * 256 + bt s 3) % 256 = bt s 3 := by omega
  rw [e0, e1, e2, e3]

theorem ba_ext {a b : ByteArray} (h : a.data.toList = b.data.toList) : a = b := by
  cases a; cases b; simp only [ByteArray.mk.injEq]; exact Array.toList_inj.1 h

theorem ext_data (s : ByteArray) (i j : Nat) : (s.extract i j).data.toList = (s.data.toList.drop i).take (j - i) := Lib.extract_data s i j

theorem bt_list (s : ByteArray) (i : Nat) : UInt8.ofNat (bt s i).toNat = s.data.toList[i]?.getD 0 := by
  unfold bt; simp

theorem four (l : List UInt8) (h : 4 ≤ l.length) : [l[0]?.getD 0, l[1]?.getD 0, l[2]?.getD 0, l[3]?.getD 0] = l.take 4 := by
  match l, h with
  | a :: b :: c :: d :: r, _ => rfl

theorem be_rd_text (s : ByteArray) (h : 4 ≤ s.size) : strOfNums (beL (rd s 4) 4) = s.extract 0 4 := by
  apply ba_ext
  rw [ext_data, be_rd]
  show (([bt s 0, bt s 1, bt s 2, bt s 3].map fun n => UInt8.ofNat n.toNat).toArray).toList = _
  simp only [List.map_cons, List.map_nil, bt_list, List.drop_zero, Nat.sub_zero]
  exact four _ (by rw [Array.length_toList]; exact h)

theorem bt_app (a b : ByteArray) (i : Nat) (h : i < a.size) : bt (a ++ b) i = bt a i := by unfold bt; rw [app_left a b i h]

theorem bt_be (n : Int) (i : Nat) (hi : i < 4) : bt (strOfNums (beL n 4)) i = (beL n 4)[i]'(by rw [beL_length]; exact hi) := by
  have hl := beL_length n 4
  unfold bt
  have e : (strOfNums (beL n 4)).data[i]? = some (UInt8.ofNat ((beL n 4)[i]'(by rw [hl]; exact hi)).toNat) := by
    show ((beL n 4).map fun n => UInt8.ofNat n.toNat).toArray[i]? = _
    rw [List.getElem?_toArray, List.getElem?_map, List.getElem?_eq_getElem (by rw [hl]; exact hi)]
    rfl
  rw [e]
  have hr : 0 ≤ (beL n 4)[i]'(by rw [hl]; exact hi) ∧ (beL n 4)[i]'(by rw [hl]; exact hi) < 256 := by
    match i, hi with
    | 0, _ => simp only [be4, List.getElem_cons_zero]; omega
    | 1, _ => simp only [be4, List.getElem_cons_zero, List.getElem_cons_succ]; omega
    | 2, _ => simp only [be4, List.getElem_cons_zero, List.getElem_cons_succ]; omega
    | 3, _ => simp only [be4, List.getElem_cons_zero, List.getElem_cons_succ]; omega
  simp only [Option.getD_some, UInt8.toNat_ofNat']
  omega

theorem rd_be (n : Int) (t : ByteArray) (h0 : 0 ≤ n) (h1 : n ≤ 4294967295) : rd (strOfNums (beL n 4) ++ t) 4 = n := by
  have hs := be_size n 4
  rw [rd4, bt_app _ _ 0 (by omega), bt_app _ _ 1 (by omega), bt_app _ _ 2 (by omega), bt_app _ _ 3 (by omega), bt_be n 0 (by omega), bt_be n 1 (by omega), bt_be n 2 (by omega), bt_be n 3 (by omega)]
  simp only [be4, List.getElem_cons_zero, List.getElem_cons_succ]
  omega

theorem be_inj (a b : Int) (ha0 : 0 ≤ a) (ha1 : a ≤ 4294967295) (hb0 : 0 ≤ b) (hb1 : b ≤ 4294967295) (h : strOfNums (beL a 4) = strOfNums (beL b 4)) : a = b := by
  have e1 := rd_be a ByteArray.empty ha0 ha1
  have e2 := rd_be b ByteArray.empty hb0 hb1
  rw [h] at e1
  omega

end Go.Proofs.YtoecakjjondeeaaGreat

/- The walks of the two that tell a frame, and of the law over them. -/
namespace Go.Proofs.YtoecakjjondeeaaGreat
open Go.RowKit
set_option linter.unusedVariables false

theorem add_sm (a b : ByteArray) (h : a.size + b.size ≤ 9223372036854775807) : ∀ w, (Op.stringOp .add a b).run Tryz.prog w = .ok (.string (a ++ b)) w := fun w => run_string_add_sum w a b h

set_option maxRecDepth 20000 in
set_option maxHeartbeats 1000000 in
theorem takeQ (s : ByteArray) (w : World) (B : Nat) (c0 : Int) (hc0 : 0 ≤ c0) (hc1 : c0 ≤ 4294967295) (hm : s.size ≤ maxLen) (hown : w.ownsRow B 217 1 (.slice (some ⟨B, 0, none⟩) 1 1) 1 [.int .u32 c0]) :
    Calls Tryz.prog 165 #[.pointer (some ⟨B, 0, none⟩), .string s] w fun e w' => e = .returned (.tuple #[]) ∧ w' = w.setCell ⟨B, 0, none⟩ (.int .u32 (cq c0 s s.size)) := by
  unfold maxLen at hm
  have c0' : w.cell? ⟨B, 0, none⟩ = some (.int .u32 c0) := by rw [hown.cellAt 0 (by omega)]; rfl
  have f0 := hown.frozenAt 0
  clear hown
  go_enter Tryz.func165, Tryz.ntmps165
  go_wp2
  go_loop [4, 12] (fun c i => ∃ k : Nat, k ≤ s.size ∧ i = .int .i64 k ∧ c = .int .u32 (cq c0 s k)) (fun _ i => s.size - (intOf i).toNat)
  case atStart => exact ⟨0, Nat.zero_le _, rfl, rfl⟩
  case round =>
    obtain ⟨k, hk, rfl, rfl⟩ := hrel
    obtain ⟨h0, h1⟩ := cq_range c0 hc0 hc1 s k
    by_cases hlt : k < s.size
    · have hb := cbyte_lt s[k]
      have hx := xor_u32 (cq c0 s k) ((s[k]).toNat : Int) h0 h1 (by omega) (by omega)
      obtain ⟨x0, x1⟩ := cx_range (cq c0 s k) ((s[k]).toNat : Int) h0 h1 (by omega) (by omega)
      have HS : Hid (cq c0 s (k + 1) = ci (cx (cq c0 s k) ((s[k]).toNat : Int)) 8) := cq_succ c0 s k hlt
      obtain ⟨X, hX⟩ : ∃ X, cx (cq c0 s k) ((s[k]).toNat : Int) = X := ⟨_, rfl⟩
      rw [hX] at hx x0 x1
      have HX : Hid (cx (cq c0 s k) ((s[k]).toNat : Int) = X) := hX
      clear hX
      go_wp2
      go_loop [4, 21] (fun c j => ∃ m : Nat, m ≤ 8 ∧ j = .int .i64 m ∧ c = .int .u32 (ci X m)) (fun _ j => 8 - (intOf j).toNat)
      case atStart => exact ⟨0, by omega, rfl, rfl⟩
      case round =>
        obtain ⟨m, hm8, rfl, rfl⟩ := hrel
        obtain ⟨y0, y1⟩ := ci_range X x0 x1 m
        by_cases hl8 : m < 8
        · rcases Int.emod_two_eq (ci X m) with ho | ho
          · have HE : Hid (ci X (m + 1) = ci X m / 2) := ct_even _ ho
            have hk2 := mask_even (ci X m) y0 y1 ho
            have hx2 := xor_u32 (ci X m / 2) 0 (by omega) (by omega) (by omega) (by omega)
            rw [cx_zero _ (by omega)] at hx2
            clear ho
            go_wp2
            go_round
            case rel => exact ⟨m + 1, by omega, by go_num, by rw [HE.out]⟩
            case measure => simp [intOf]; omega
          · have hk2 := mask_odd (ci X m) y0 y1 ho
            have hx2 := xor_u32 (ci X m / 2) 2197175160 (by omega) (by omega) (by omega) (by omega)
            have HE : Hid (ci X (m + 1) = cx (ci X m / 2) 2197175160) := ct_odd _ ho
            clear ho
            go_wp2
            go_round
            case rel => exact ⟨m + 1, by omega, by go_num, by rw [HE.out]⟩
            case measure => simp [intOf]; omega
        · have : m = 8 := by omega
          subst this
          go_wp2
          go_round
          case rel => exact ⟨k + 1, by omega, by go_num, by rw [HS.out, HX.out]⟩
          case measure => simp [intOf]; omega
    · have : k = s.size := by omega
      subst this
      go_wp2
      go_end0
      exact ⟨rfl, rfl⟩

theorem tellQ (w : World) (B : Nat) (c : Int) (h0 : 0 ≤ c) (h1 : c ≤ 4294967295) (hc : w.cell? ⟨B, 0, none⟩ = some (.int .u32 c)) :
    Calls Tryz.prog 166 #[.pointer (some ⟨B, 0, none⟩)] w fun e w' => e = .returned (.int .i64 (4294967295 - c)) ∧ w' = w := by
  have hr : (4294967295 - c) % 4294967296 = 4294967295 - c := by omega
  go_enter Tryz.func166, Tryz.ntmps166
  go_wp2
  go_ret
  exact ⟨rfl, rfl⟩

set_option maxHeartbeats 1000000 in
theorem frameSum_c (h s : ByteArray) (w : World) (hm : h.size ≤ maxLen) (hm2 : s.size ≤ maxLen) :
    Calls Tryz.prog 151 #[.string h, .string s] w fun e w' => e = .returned (.int .i64 (fsum h s)) ∧ Below w.heap.size w w' := by
  have HF : Hid (fsum h s = 4294967295 - cq (cq 4294967295 h h.size) s s.size) := rfl
  obtain ⟨x0, x1⟩ := cq_range 4294967295 (by omega) (by omega) h h.size
  obtain ⟨y0, y1⟩ := cq_range _ x0 x1 s s.size
  go_enter Tryz.func151, Tryz.ntmps151
  go_wp2_with fail
  have hown : (w.alloc (.cells #[.int .u32 4294967295] 217)).ownsRow w.heap.size 217 1 (.slice (some ⟨w.heap.size, 0, none⟩) 1 1) 1 [.int .u32 4294967295] := World.ownsRow_lit w #[.int .u32 4294967295] 1 (Nat.le_refl _) (by decide) rfl
  refine (takeQ h _ w.heap.size 4294967295 (by omega) (by omega) hm hown).mono ?_
  rintro e w1 ⟨rfl, rfl⟩
  generalize hX : cq 4294967295 h h.size = X at x0 x1 y0 y1 HF ⊢
  clear hown hX
  have hown2 : (w.alloc (.cells #[.int .u32 X] 217)).ownsRow w.heap.size 217 1 (.slice (some ⟨w.heap.size, 0, none⟩) 1 1) 1 [.int .u32 X] := World.ownsRow_lit w #[.int .u32 X] 1 (Nat.le_refl _) (by decide) rfl
  go_wp2_with fail
  refine (takeQ s _ w.heap.size X x0 x1 hm2 hown2).mono ?_
  rintro e w1 ⟨rfl, rfl⟩
  generalize hY : cq X s s.size = Y at y0 y1 HF ⊢
  clear hown2 hY
  have hown3 : (w.alloc (.cells #[.int .u32 Y] 217)).ownsRow w.heap.size 217 1 (.slice (some ⟨w.heap.size, 0, none⟩) 1 1) 1 [.int .u32 Y] := World.ownsRow_lit w #[.int .u32 Y] 1 (Nat.le_refl _) (by decide) rfl
  have hc : (w.alloc (.cells #[.int .u32 Y] 217)).cell? ⟨w.heap.size, 0, none⟩ = some (.int .u32 Y) := hown3.cellAt 0 (by omega)
  have hbel : Below w.heap.size w (w.alloc (.cells #[.int .u32 Y] 217)) := (Below.refl _ _).alloc (Nat.le_refl _) _
  clear hown3
  go_wp2_with fail
  refine (tellQ _ w.heap.size Y y0 y1 hc).mono ?_
  rintro e w1 ⟨rfl, rfl⟩
  go_wp2
  go_ret
  exact ⟨by rw [HF.out]; rfl, hbel⟩

theorem bodyOk_yes (n : Int) (w : World) (h1 : 1 ≤ n) (h2 : n ≤ 2000) : Calls Tryz.prog 149 #[.int .i64 n] w fun e w' => e = .returned (.bool true) ∧ w' = w := by
  go_enter Tryz.func149, Tryz.ntmps149
  go_wp2
  go_ret
  exact ⟨rfl, rfl⟩

theorem bodyOk_no (n : Int) (w : World) (h : n < 1 ∨ 2000 < n) : Calls Tryz.prog 149 #[.int .i64 n] w fun e w' => e = .returned (.bool false) ∧ w' = w := by
  by_cases h1 : 1 ≤ n
  · have h2 : ¬ n ≤ 2000 := by omega
    clear h
    go_enter Tryz.func149, Tryz.ntmps149
    go_wp2
    go_ret
    exact ⟨rfl, rfl⟩
  · clear h
    go_enter Tryz.func149, Tryz.ntmps149
    go_wp2
    go_ret
    exact ⟨rfl, rfl⟩

/-! ### Frame -/

theorem specFr_no (s : ByteArray) (w : World) (h : s.size = 0 ∨ 2000 < s.size) :
    Calls Tryz.prog 112 #[.string s] w fun e w' => e = .returned (.string ⟨#[]⟩) ∧ w' = w := by
  have h' : (s.size : Int) = 0 ∨ 2000 < (s.size : Int) := by omega
  generalize hN : (s.size : Int) = N at h'
  clear h
  by_cases h0 : N = 0
  · clear h'
    subst h0
    go_enter Tryz.func112, Tryz.ntmps112
    go_wp2
    go_ret
    exact ⟨rfl, rfl⟩
  · have h2 : 2000 < N := by omega
    have ht : (N == 0) = false := by simp [h0]
    clear h' h0
    go_enter Tryz.func112, Tryz.ntmps112
    go_wp2
    go_ret
    exact ⟨rfl, rfl⟩

theorem implFr_no (s : ByteArray) (w : World) (h : s.size = 0 ∨ 2000 < s.size) :
    Calls Tryz.prog 120 #[.string s] w fun e w' => e = .returned (.string ⟨#[]⟩) ∧ w' = w := by
  have h' : (s.size : Int) = 0 ∨ 2000 < (s.size : Int) := by omega
  generalize hN : (s.size : Int) = N at h'
  clear h
  have hd : Hid (N < 1 ∨ 2000 < N) := by show _ ∨ _; omega
  clear h'
  go_enter Tryz.func120, Tryz.ntmps120
  go_wp2_with fail
  refine (bodyOk_no N _ hd.out).mono ?_
  rintro e w1 ⟨rfl, rfl⟩
  clear hd
  go_wp2
  go_ret
  exact ⟨rfl, rfl⟩

set_option maxHeartbeats 1000000 in
theorem specFr (s : ByteArray) (w : World) (h1 : 1 ≤ s.size) (h2 : s.size ≤ 2000) :
    Calls Tryz.prog 112 #[.string s] w fun e w' => e = .returned (.string (frameOf s)) ∧ Below w.heap.size w w' := by
  have HF : Hid (frameOf s = strOfNums (beL s.size 4) ++ strOfNums (beL (fsum (strOfNums (beL s.size 4)) s) 4) ++ s) := rfl
  have g1 : (1 : Int) ≤ s.size := by omega
  have g2 : (s.size : Int) ≤ 2000 := by omega
  obtain ⟨r0, r1⟩ := fsum_range (strOfNums (beL s.size 4)) s
  have HC : Hid (4294967295 - cp (strOfNums (beL s.size 4) ++ s) (strOfNums (beL s.size 4) ++ s).size = fsum (strOfNums (beL s.size 4)) s) := fsum_cp _ _
  have z1 := be_size (s.size : Int) 4
  have z2 := be_size (fsum (strOfNums (beL s.size 4)) s) 4
  have HL : Hid (s.size ≤ 2000) := h2
  have hN : ∃ N : Int, (s.size : Int) = N := ⟨_, rfl⟩
  obtain ⟨N, hN⟩ := hN
  rw [hN] at HF g1 g2 r0 r1 HC z1 z2
  obtain ⟨H, hH⟩ : ∃ H, strOfNums (beL N 4) = H := ⟨_, rfl⟩
  rw [hH] at HF r0 r1 HC z1 z2
  have HH : Hid (strOfNums (beL N 4) = H) := hH
  clear hH
  obtain ⟨F, hF⟩ : ∃ F, fsum H s = F := ⟨_, rfl⟩
  rw [hF] at HF r0 r1 HC z2
  clear hF
  obtain ⟨G, hG⟩ : ∃ G, strOfNums (beL F 4) = G := ⟨_, rfl⟩
  rw [hG] at HF z2
  have HG : Hid (strOfNums (beL F 4) = G) := hG
  clear hG
  have ha1 := add_sm H s (by omega)
  have ha2 := add_sm H G (by omega)
  have ha3 := add_sm (H ++ G) s (by rw [ByteArray.size_append]; omega)
  have Z1 : Hid (H.size = 4) := z1
  have t0 : (N == 0) = false := by simp; omega
  clear h1 h2 z1 z2
  go_enter Tryz.func112, Tryz.ntmps112
  go_wp2_with fail
  refine (specFix_yes N 4 _ (by omega) (by omega) (by omega) (by omega) (fq4 N (by omega) (by omega))).mono ?_
  rintro e w1 ⟨rfl, b1⟩
  rw [HH.out]
  go_wp2_with fail
  refine (specCrc (H ++ s) _ (by rw [ByteArray.size_append, Z1.out]; have := HL.out; unfold maxLen; omega)).mono ?_
  rintro e w2 ⟨rfl, rfl⟩
  rw [HC.out]
  go_wp2_with fail
  refine (specFix_yes F 4 _ (by omega) (by omega) (by omega) (by omega) (fq4 F (by omega) (by omega))).mono ?_
  rintro e w3 ⟨rfl, b3⟩
  rw [HG.out]
  have b := b1.trans (b3.mono b1.size)
  clear b1 b3
  go_wp2
  go_ret
  exact ⟨by rw [HF.out]; rfl, b⟩

set_option maxHeartbeats 1000000 in
theorem implFr (s : ByteArray) (w : World) (h1 : 1 ≤ s.size) (h2 : s.size ≤ 2000) :
    Calls Tryz.prog 120 #[.string s] w fun e w' => e = .returned (.string (frameOf s)) ∧ Below w.heap.size w w' := by
  have HF : Hid (frameOf s = strOfNums (beL s.size 4) ++ strOfNums (beL (fsum (strOfNums (beL s.size 4)) s) 4) ++ s) := rfl
  have g1 : (1 : Int) ≤ s.size := by omega
  have g2 : (s.size : Int) ≤ 2000 := by omega
  obtain ⟨r0, r1⟩ := fsum_range (strOfNums (beL s.size 4)) s
  have z1 := be_size (s.size : Int) 4
  have z2 := be_size (fsum (strOfNums (beL s.size 4)) s) 4
  have HL : Hid (s.size ≤ 2000) := h2
  have hN : ∃ N : Int, (s.size : Int) = N := ⟨_, rfl⟩
  obtain ⟨N, hN⟩ := hN
  rw [hN] at HF g1 g2 r0 r1 z1 z2
  obtain ⟨H, hH⟩ : ∃ H, strOfNums (beL N 4) = H := ⟨_, rfl⟩
  rw [hH] at HF r0 r1 z1 z2
  have HH : Hid (strOfNums (beL N 4) = H) := hH
  clear hH
  obtain ⟨F, hF⟩ : ∃ F, fsum H s = F := ⟨_, rfl⟩
  rw [hF] at HF r0 r1 z2
  have HFS : Hid (fsum H s = F) := hF
  clear hF
  obtain ⟨G, hG⟩ : ∃ G, strOfNums (beL F 4) = G := ⟨_, rfl⟩
  rw [hG] at HF z2
  have HG : Hid (strOfNums (beL F 4) = G) := hG
  clear hG
  have ha2 := add_sm H G (by omega)
  have ha3 := add_sm (H ++ G) s (by rw [ByteArray.size_append]; omega)
  have Z1 : Hid (H.size = 4) := z1
  clear h1 h2 z1 z2
  go_enter Tryz.func120, Tryz.ntmps120
  go_wp2_with fail
  refine (bodyOk_yes N _ (by omega) (by omega)).mono ?_
  rintro e w1 ⟨rfl, rfl⟩
  go_wp2_with fail
  refine (implFix_yes N 4 _ (by omega) (by omega) (by omega) (by omega) (fq4 N (by omega) (by omega))).mono ?_
  rintro e w1 ⟨rfl, b1⟩
  rw [HH.out]
  go_wp2_with fail
  refine (frameSum_c H s _ (by rw [Z1.out]; unfold maxLen; omega) (by have := HL.out; unfold maxLen; omega)).mono ?_
  rintro e w2 ⟨rfl, b2⟩
  rw [HFS.out]
  have b12 := b1.trans (b2.mono b1.size)
  clear b1 b2
  go_wp2_with fail
  refine (implFix_yes F 4 _ (by omega) (by omega) (by omega) (by omega) (fq4 F (by omega) (by omega))).mono ?_
  rintro e w3 ⟨rfl, b3⟩
  rw [HG.out]
  have b := b12.trans (b3.mono b12.size)
  clear b12 b3
  go_wp2
  go_ret
  exact ⟨by rw [HF.out]; rfl, b⟩

end Go.Proofs.YtoecakjjondeeaaGreat

/- The text of a Wal. -/
namespace Go.Proofs.YtoecakjjondeeaaGreat
open Go.RowKit
set_option linter.unusedVariables false

def bsRec (x : S_Wal) : S_Rec := ⟨4, x.f3, x.f2, 0, ⟨#[]⟩⟩
def hdRec (x : S_Wal) : S_Rec := ⟨1, x.f0, 0, x.f1, ⟨#[]⟩⟩
def enRec (x : S_Wal) (k : Nat) : S_Rec := match x.f4[k]? with | some e => ⟨2, e.f0, x.f2 + 1 + k, 0, e.f1⟩ | none => ⟨0, 0, 0, 0, ⟨#[]⟩⟩
def frR (r : S_Rec) : ByteArray := frameOf (recT r)
def walP (x : S_Wal) : Nat → ByteArray
  | 0 => frR (bsRec x) ++ frR (hdRec x)
  | k + 1 => walP x k ++ frR (enRec x k)
def walT (x : S_Wal) : ByteArray := if okW x then walP x x.f4.length else ⟨#[]⟩

theorem okE_mem (top : Int) : ∀ (L : List S_Entry) (last : Int), okE top last L → ∀ e ∈ L, 1 ≤ e.f0 ∧ e.f0 ≤ top ∧ e.f1.size ≤ 900
  | [], _, _, e, he => by simp at he
  | a :: L, last, h, e, he => by
    obtain ⟨h1, h2, h3, h4, h5⟩ := h
    rcases List.mem_cons.1 he with rfl | he
    · exact ⟨h1, h3, h4⟩
    · exact okE_mem top L a.f0 h5 e he

theorem okR_bs {x : S_Wal} (h : okW x) : okR (bsRec x) := (okR_base _ _).2 h.1.2.2.1
theorem okR_hd {x : S_Wal} (h : okW x) : okR (hdRec x) := (okR_hard _ _).2 ⟨h.1.1, h.1.2.1⟩
theorem en_at {x : S_Wal} {k : Nat} (hk : k < x.f4.length) : enRec x k = ⟨2, x.f4[k].f0, x.f2 + 1 + k, 0, x.f4[k].f1⟩ := by
  unfold enRec; rw [List.getElem?_eq_getElem hk]
theorem okW_base {x : S_Wal} (h : okW x) : 0 ≤ x.f2 ∧ x.f2 ≤ 100000 := by have := h.1.2.2.1; unfold bsR at this; omega
theorem okR_en {x : S_Wal} (h : okW x) {k : Nat} (hk : k < x.f4.length) : okR ⟨2, x.f4[k].f0, x.f2 + 1 + k, 0, x.f4[k].f1⟩ := by
  have h1 := okE_mem _ _ _ h.2 _ (List.getElem_mem hk)
  have h2 := okW_base h
  have h3 := h.1
  unfold headW at h3
  refine .inr (.inl ⟨rfl, ⟨h1.1, ?_⟩, ⟨?_, ?_⟩, rfl, h1.2.2⟩)
  · show x.f4[k].f0 ≤ 100000; omega
  · show 1 ≤ x.f2 + 1 + (k : Int); omega
  · show x.f2 + 1 + (k : Int) ≤ 100000; omega

theorem okR_data {r : S_Rec} (h : okR r) : r.f4.size ≤ 900 := by
  rcases h with h | h | h | h
  · rw [h.2.2.2.2]; exact Nat.zero_le _
  · exact h.2.2.2.2
  · rw [h.2.2.2.2]; exact Nat.zero_le _
  · rw [h.2.2.2]; exact Nat.zero_le _

theorem recT_size {r : S_Rec} (h : okR r) : 1 ≤ (recT r).size ∧ (recT r).size ≤ 910 := by
  have h1 := okR_range h
  have h2 := okR_data h
  have a := varL_len3 r.f1 (by omega) (by omega)
  have b := varL_len3 r.f2 (by omega) (by omega)
  have c := varL_len3 (r.f3 + 1) (by omega) (by omega)
  unfold recT
  rw [if_pos h, ByteArray.size_append, strOfNums_size]
  simp only [List.length_append, List.length_cons, List.length_nil]
  omega

theorem frR_size {r : S_Rec} (h : okR r) : (frR r).size ≤ 918 := by
  have := recT_size h
  unfold frR
  rw [frameOf_size]
  omega

theorem walP_size {x : S_Wal} (h : okW x) : ∀ k, k ≤ x.f4.length → (walP x k).size ≤ 918 * (k + 2)
  | 0, _ => by
    have a := frR_size (okR_bs h)
    have b := frR_size (okR_hd h)
    show (frR (bsRec x) ++ frR (hdRec x)).size ≤ _
    rw [ByteArray.size_append]
    omega
  | k + 1, hk => by
    have a := walP_size h k (by omega)
    have b := frR_size (okR_en h (show k < x.f4.length by omega))
    show (walP x k ++ frR (enRec x k)).size ≤ _
    rw [ByteArray.size_append, en_at (by omega)]
    omega

theorem walP_small {x : S_Wal} (h : okW x) (k : Nat) (hk : k ≤ x.f4.length) : (walP x k).size ≤ 60000 := by
  have := walP_size h k hk
  have h1 := h.1.2.2.2.2.1
  omega

theorem sframe_c (r : S_Rec) (w : World) (h : okR r) : Calls Tryz.prog 112 #[.string (recT r)] w fun e w' => e = .returned (.string (frR r)) ∧ Below w.heap.size w w' := by
  have := recT_size h
  exact specFr (recT r) w (by omega) (by omega)

theorem iframe_c (r : S_Rec) (w : World) (h : okR r) : Calls Tryz.prog 120 #[.string (recT r)] w fun e w' => e = .returned (.string (frR r)) ∧ Below w.heap.size w w' := by
  have := recT_size h
  exact implFr (recT r) w (by omega) (by omega)

end Go.Proofs.YtoecakjjondeeaaGreat

/- WalText of the specification. -/
namespace Go.Proofs.YtoecakjjondeeaaGreat
open Go.RowKit
set_option linter.unusedVariables false
set_option linter.unusedSimpArgs false

set_option maxRecDepth 20000 in
set_option maxHeartbeats 4000000 in
theorem specWalText_c (x : S_Wal) (p : Option Addr) (cap : Nat) (w : World) (hn : x.f4.length ≤ 1048576) (hs : ∀ y ∈ x.f4, sEntry y) (hr : RowR w (.slice p x.f4.length cap) x.f4.length 2 (rEntry x.f4)) :
    Calls Tryz.prog 61 #[.agg #[.int .i64 x.f0, .int .i64 x.f1, .int .i64 x.f2, .int .i64 x.f3, .slice p x.f4.length cap]] w fun e w' => e = .returned (.string (walT x)) ∧ Below w.heap.size w w' := by
  obtain ⟨W0, hW0⟩ : ∃ W, W = (w.alloc (.cells #[.int .i64 x.f0, .int .i64 x.f1, .int .i64 x.f2, .int .i64 x.f3, .slice p x.f4.length cap] 60)) := ⟨_, rfl⟩
  have HW0 : Hid ((w.alloc (.cells #[.int .i64 x.f0, .int .i64 x.f1, .int .i64 x.f2, .int .i64 x.f3, .slice p x.f4.length cap] 60)) = W0) := hW0.symm
  have HZ0 : Hid (W0.heap.size = w.heap.size + 1) := by show _ = _; rw [hW0]; simp
  have HB0 : Hid (Below w.heap.size w W0) := by rw [hW0]; exact (Below.refl _ _).alloc (Nat.le_refl _) _
  have HX : Hid (∀ W', Below W0.heap.size W0 W' → W'.cell? ⟨w.heap.size, 0, none⟩ = some (.int .i64 x.f0) ∧ W'.cell? ⟨w.heap.size, 1, none⟩ = some (.int .i64 x.f1) ∧ W'.cell? ⟨w.heap.size, 2, none⟩ = some (.int .i64 x.f2) ∧ W'.cell? ⟨w.heap.size, 3, none⟩ = some (.int .i64 x.f3) ∧ W'.cell? ⟨w.heap.size, 4, none⟩ = some (.slice p x.f4.length cap)) := fun W' hW => by
    have hk : W'.heap[w.heap.size]? = some (.cells #[.int .i64 x.f0, .int .i64 x.f1, .int .i64 x.f2, .int .i64 x.f3, .slice p x.f4.length cap] 60) := by rw [hW.block _ (by rw [HZ0.out]; exact Nat.lt_succ_self _), hW0]; exact alloc_last _ _
    exact box5 hk
  have HS : Hid (∀ y ∈ x.f4, sEntry y) := hs
  have HR : Hid (RowR w (.slice p x.f4.length cap) x.f4.length 2 (rEntry x.f4)) := hr
  have HN : Hid (x.f4.length ≤ 1048576) := hn
  have hn' : (x.f4.length : Int) ≤ 1048576 := by omega
  obtain ⟨d0, d1, d2, d3, d4⟩ := HX.out W0 (Below.refl _ _)
  clear hs hr hW0
  go_enter Tryz.func61, Tryz.ntmps61
  go_wp2_with fail
  rw [HW0.out]
  refine (specWalOk_c x p cap W0 HN.out HS.out (RowR.keep HR.out HB0.out (Nat.le_refl _))).mono ?_
  rintro e w1 ⟨rfl, b1⟩
  have HB1 : Hid (Below W0.heap.size W0 w1) := b1
  have HE1 : Hid (Below w.heap.size w w1) := HB0.out.trans (b1.mono (by rw [HZ0.out]; omega))
  clear b1 d0 d1 d2 d3 d4
  by_cases hok : okW x
  rotate_left
  · have HF : Hid (walT x = ⟨#[]⟩) := by show _ = _; unfold walT; rw [if_neg hok]
    rw [decide_eq_false hok]
    go_wp2
    go_ret
    exact ⟨by rw [HF.out]; rfl, HE1.out⟩
  rw [decide_eq_true hok]
  have HOK : Hid (okW x) := hok
  have HWT : Hid (walT x = walP x x.f4.length) := by show _ = _; unfold walT; rw [if_pos hok]
  clear hok
  obtain ⟨d0, d1, d2, d3, d4⟩ := HX.out w1 HB1.out
  go_upto_region 3 with fail
  refine wp_region_told (fun W => Below w1.heap.size w1 W) (by kernel_rfl) (by kernel_rfl) ((Below.refl w1.heap.size w1).drew) ?_
  refine told_pure (some 8) (.pointer (some ⟨w.heap.size, 3, none⟩)) rfl (by kernel_rfl) (fun _ => by kernel_rfl) ?_
  refine told_load (some 9) ⟨w.heap.size, 3, none⟩ (.int .i64 x.f3) rfl (by kernel_rfl) (fun _ => by kernel_rfl) (fun _ hS => atB hS d3) ?_
  refine told_pure (some 10) (.pointer (some ⟨w.heap.size, 2, none⟩)) rfl (by kernel_rfl) (fun _ => by kernel_rfl) ?_
  refine told_load (some 11) ⟨w.heap.size, 2, none⟩ (.int .i64 x.f2) rfl (by kernel_rfl) (fun _ => by kernel_rfl) (fun _ hS => atB hS d2) ?_
  refine told_pure (some 12) (.agg #[.int .i64 4, .int .i64 x.f3, .int .i64 x.f2, .int .i64 0, .string ⟨#[]⟩]) rfl (by kernel_rfl) (fun _ => by kernel_rfl) ?_
  refine told_call (some 13) (.string (recT (bsRec x))) 113 #[.agg #[.int .i64 4, .int .i64 x.f3, .int .i64 x.f2, .int .i64 0, .string ⟨#[]⟩]] rfl (by kernel_rfl) (fun _ => by kernel_rfl) (fun W hS => below_S (specShow_c (bsRec x) W (Nat.zero_le _)) hS) ?_
  refine told_call (some 14) (.string (frR (bsRec x))) 112 #[.string (recT (bsRec x))] rfl (by kernel_rfl) (fun _ => by kernel_rfl) (fun W hS => below_S (sframe_c (bsRec x) W (okR_bs HOK.out)) hS) ?_
  refine told_pure (some 15) (.pointer (some ⟨w.heap.size, 0, none⟩)) rfl (by kernel_rfl) (fun _ => by kernel_rfl) ?_
  refine told_load (some 16) ⟨w.heap.size, 0, none⟩ (.int .i64 x.f0) rfl (by kernel_rfl) (fun _ => by kernel_rfl) (fun _ hS => atB hS d0) ?_
  refine told_pure (some 17) (.pointer (some ⟨w.heap.size, 1, none⟩)) rfl (by kernel_rfl) (fun _ => by kernel_rfl) ?_
  refine told_load (some 18) ⟨w.heap.size, 1, none⟩ (.int .i64 x.f1) rfl (by kernel_rfl) (fun _ => by kernel_rfl) (fun _ hS => atB hS d1) ?_
  refine told_pure (some 19) (.agg #[.int .i64 1, .int .i64 x.f0, .int .i64 0, .int .i64 x.f1, .string ⟨#[]⟩]) rfl (by kernel_rfl) (fun _ => by kernel_rfl) ?_
  refine told_call (some 20) (.string (recT (hdRec x))) 113 #[.agg #[.int .i64 1, .int .i64 x.f0, .int .i64 0, .int .i64 x.f1, .string ⟨#[]⟩]] rfl (by kernel_rfl) (fun _ => by kernel_rfl) (fun W hS => below_S (specShow_c (hdRec x) W (Nat.zero_le _)) hS) ?_
  refine told_call (some 21) (.string (frR (hdRec x))) 112 #[.string (recT (hdRec x))] rfl (by kernel_rfl) (fun _ => by kernel_rfl) (fun W hS => below_S (sframe_c (hdRec x) W (okR_hd HOK.out)) hS) ?_
  refine told_run (some 22) (.string (frR (bsRec x) ++ frR (hdRec x))) (Op.stringOp .add (frR (bsRec x)) (frR (hdRec x))) rfl (by kernel_rfl) (fun _ => by kernel_rfl) (fun W _ => run_string_add_sum W _ _ (by have a := frR_size (okR_bs HOK.out); have b := frR_size (okR_hd HOK.out); omega)) ?_
  refine told_pure (some 3) (.string (frR (bsRec x) ++ frR (hdRec x))) rfl (by kernel_rfl) (fun _ => by kernel_rfl) ?_
  refine told_nil ?_
  intro w2 hS2
  simp only [Act.put, List.setIfInBounds_toArray, List.set_cons_zero, List.set_cons_succ]
  have HK0 : Hid (frR (bsRec x) ++ frR (hdRec x) = walP x 0) := rfl
  have HB2 : Hid (Below W0.heap.size W0 w2) := HB1.out.trans (Below.mono hS2 HB1.out.size)
  clear hS2 d0 d1 d2 d3 d4
  go_wp2_with fail
  go_loopw [3, 4] (fun sv iv wr => ∃ k : Nat, k ≤ x.f4.length ∧ iv = .int .i64 (k : Int) ∧ sv = .string (walP x k) ∧ Hid (Below W0.heap.size W0 wr)) (fun _ iv _ => x.f4.length - (intOf iv).toNat)
  case atStart => exact ⟨0, Nat.zero_le _, rfl, by rw [HK0.out], HB2⟩
  case round =>
    obtain ⟨k, hk, rfl, rfl, HBr⟩ := hrel
    obtain ⟨d0, d1, d2, d3, d4⟩ := HX.out wr HBr.out
    have HB : Hid (Below w.heap.size w wr) := HB0.out.trans (HBr.out.mono (by rw [HZ0.out]; omega))
    by_cases hlt : k < x.f4.length
    · have hlt' : (k : Int) < x.f4.length := by omega
      obtain ⟨b, off, cap', hv, hb, hc⟩ := HR.out.some (by omega) (by decide)
      simp only [Value.slice.injEq, true_and] at hv
      obtain ⟨rfl, rfl⟩ := hv
      have HC : Hid (∀ j, j < x.f4.length * 2 → w.cell? ⟨b, off + j, none⟩ = (rEntry x.f4)[j]?) := hc
      clear hc
      have c : ∀ q, q < 2 → wr.cell? ⟨b, off + (k * 2 + q), none⟩ = (cEntry x.f4[k])[q]? := fun q hq => by
        rw [HB.out.cell (by exact hb), HC.out (k * 2 + q) (by omega)]
        exact flat_at cEntry 2 cEntry_len x.f4 k q hlt hq
      have c0 : wr.cell? ⟨b, off + k * 2, none⟩ = some (.int .i64 (x.f4[k]).f0) := by have := c 0 (by decide); rw [← Nat.add_assoc] at this; exact this
      have c1 : wr.cell? ⟨b, off + k * 2 + 1, none⟩ = some (.string (x.f4[k]).f1) := by have := c 1 (by decide); rw [← Nat.add_assoc] at this; exact this
      clear c
      have HWR : Hid (IntKind.i64.wrap (x.f2 + 1) = x.f2 + 1 ∧ IntKind.i64.wrap (x.f2 + 1 + (k : Int)) = x.f2 + 1 + (k : Int)) := by
        have h2 := okW_base HOK.out
        exact ⟨IntWalk.i64_in _ (by omega), IntWalk.i64_in _ (by omega)⟩
      have HK1 : Hid (walP x k ++ frR ⟨2, x.f4[k].f0, x.f2 + 1 + k, 0, x.f4[k].f1⟩ = walP x (k + 1)) := by show _ = walP x k ++ frR (enRec x k); rw [en_at hlt]
      go_upto_region 7 with fail
      refine wp_region_told (fun W => Below wr.heap.size wr W) (by kernel_rfl) (by kernel_rfl) ((Below.refl wr.heap.size wr).drew) ?_
      refine told_pure (some 30) (.string (walP x k)) rfl (by kernel_rfl) (fun _ => by kernel_rfl) ?_
      refine told_pure (some 31) (.pointer (some ⟨w.heap.size, 4, none⟩)) rfl (by kernel_rfl) (fun _ => by kernel_rfl) ?_
      refine told_load (some 32) ⟨w.heap.size, 4, none⟩ (.slice (some ⟨b, off, none⟩) x.f4.length cap) rfl (by kernel_rfl) (fun _ => by kernel_rfl) (fun _ hS => atB hS d4) ?_
      refine told_pure (some 33) (.int .i64 (k : Int)) rfl (by kernel_rfl) (fun _ => by kernel_rfl) ?_
      refine told_pure (some 34) (.pointer (some ⟨b, off + k * 2, none⟩)) rfl (by kernel_rfl) (fun w => by go_simp) ?_
      refine told_pure (some 35) (.pointer (some ⟨b, off + k * 2, none⟩)) rfl (by kernel_rfl) (fun _ => by kernel_rfl) ?_
      refine told_load (some 36) ⟨b, off + k * 2, none⟩ (.int .i64 x.f4[k].f0) rfl (by kernel_rfl) (fun _ => by kernel_rfl) (fun _ hS => atB hS c0) ?_
      refine told_pure (some 37) (.pointer (some ⟨w.heap.size, 2, none⟩)) rfl (by kernel_rfl) (fun _ => by kernel_rfl) ?_
      refine told_load (some 38) ⟨w.heap.size, 2, none⟩ (.int .i64 x.f2) rfl (by kernel_rfl) (fun _ => by kernel_rfl) (fun _ hS => atB hS d2) ?_
      refine told_is (some 39) (.int .i64 (IntKind.i64.wrap (x.f2 + 1))) (.int .i64 (x.f2 + 1)) (by rw [HWR.out.1]) rfl (by kernel_rfl) (fun _ => by kernel_rfl) ?_
      refine told_pure (some 40) (.int .i64 (k : Int)) rfl (by kernel_rfl) (fun _ => by kernel_rfl) ?_
      refine told_is (some 41) (.int .i64 (IntKind.i64.wrap (x.f2 + 1 + (k : Int)))) (.int .i64 (x.f2 + 1 + (k : Int))) (by rw [HWR.out.2]) rfl (by kernel_rfl) (fun _ => by kernel_rfl) ?_
      refine told_pure (some 42) (.pointer (some ⟨w.heap.size, 4, none⟩)) rfl (by kernel_rfl) (fun _ => by kernel_rfl) ?_
      refine told_load (some 43) ⟨w.heap.size, 4, none⟩ (.slice (some ⟨b, off, none⟩) x.f4.length cap) rfl (by kernel_rfl) (fun _ => by kernel_rfl) (fun _ hS => atB hS d4) ?_
      refine told_pure (some 44) (.int .i64 (k : Int)) rfl (by kernel_rfl) (fun _ => by kernel_rfl) ?_
      refine told_pure (some 45) (.pointer (some ⟨b, off + k * 2, none⟩)) rfl (by kernel_rfl) (fun w => by go_simp) ?_
      refine told_pure (some 46) (.pointer (some ⟨b, off + k * 2 + 1, none⟩)) rfl (by kernel_rfl) (fun _ => by kernel_rfl) ?_
      refine told_load (some 47) ⟨b, off + k * 2 + 1, none⟩ (.string x.f4[k].f1) rfl (by kernel_rfl) (fun _ => by kernel_rfl) (fun _ hS => atB hS c1) ?_
      refine told_pure (some 48) (.agg #[.int .i64 2, .int .i64 x.f4[k].f0, .int .i64 (x.f2 + 1 + (k : Int)), .int .i64 0, .string x.f4[k].f1]) rfl (by kernel_rfl) (fun _ => by kernel_rfl) ?_
      refine told_call (some 49) (.string (recT ⟨2, x.f4[k].f0, x.f2 + 1 + k, 0, x.f4[k].f1⟩)) 113 #[.agg #[.int .i64 2, .int .i64 x.f4[k].f0, .int .i64 (x.f2 + 1 + (k : Int)), .int .i64 0, .string x.f4[k].f1]] rfl (by kernel_rfl) (fun _ => by kernel_rfl) (fun W hS => below_S (specShow_c ⟨2, x.f4[k].f0, x.f2 + 1 + k, 0, x.f4[k].f1⟩ W (by have := okR_data (okR_en HOK.out hlt); omega)) hS) ?_
      refine told_call (some 50) (.string (frR ⟨2, x.f4[k].f0, x.f2 + 1 + k, 0, x.f4[k].f1⟩)) 112 #[.string (recT ⟨2, x.f4[k].f0, x.f2 + 1 + k, 0, x.f4[k].f1⟩)] rfl (by kernel_rfl) (fun _ => by kernel_rfl) (fun W hS => below_S (sframe_c ⟨2, x.f4[k].f0, x.f2 + 1 + k, 0, x.f4[k].f1⟩ W (okR_en HOK.out hlt)) hS) ?_
      refine told_run (some 51) (.string (walP x k ++ frR ⟨2, x.f4[k].f0, x.f2 + 1 + k, 0, x.f4[k].f1⟩)) (Op.stringOp .add (walP x k) (frR ⟨2, x.f4[k].f0, x.f2 + 1 + k, 0, x.f4[k].f1⟩)) rfl (by kernel_rfl) (fun _ => by kernel_rfl) (fun W _ => run_string_add_sum W _ _ (by have a := walP_small HOK.out k hk; have b := frR_size (okR_en HOK.out hlt); omega)) ?_
      refine told_pure (some 3) (.string (walP x k ++ frR ⟨2, x.f4[k].f0, x.f2 + 1 + k, 0, x.f4[k].f1⟩)) rfl (by kernel_rfl) (fun _ => by kernel_rfl) ?_
      refine told_nil ?_
      intro w3 hS3
      simp only [Act.put, List.setIfInBounds_toArray, List.set_cons_zero, List.set_cons_succ]
      rw [HK1.out]
      have HB3 : Hid (Below W0.heap.size W0 w3) := HBr.out.trans (Below.mono hS3 HBr.out.size)
      clear hS3 d0 d1 d2 d3 d4 c0 c1 HK1 HWR HC
      go_wp2
      go_roundw
      case rel => exact ⟨k + 1, by omega, by go_num, rfl, HB3⟩
      case measure => simp [intOf]; omega
    · have hke : k = x.f4.length := by omega
      subst hke
      go_wp2
      go_ret
      exact ⟨by rw [HWT.out]; rfl, HB.out⟩

end Go.Proofs.YtoecakjjondeeaaGreat

/- PlanLog of the specification. -/
namespace Go.Proofs.YtoecakjjondeeaaGreat
open Go.RowKit
set_option linter.unusedVariables false
set_option linter.unusedSimpArgs false

set_option maxRecDepth 20000 in
set_option maxHeartbeats 4000000 in
theorem specPlg_c (x : S_Disk) (y : S_Wal) (L : List S_Step) (hb : Bnd x) (hn : y.f4.length ≤ 1048576) (hs : ∀ e ∈ y.f4, sEntry e) (hyes : okX x → okW y → L = anL (thB x (logB ++ newB)) logB (walT y)) (hno : ¬ (okX x ∧ okW y) → L = []) :
    ∀ (w : World) (p2 p3 p4 py : Option Addr) (c2 c3 c4 cy : Nat), RdDisk w x (.slice p2 x.f2.length c2) (.slice p3 x.f3.length c3) (.slice p4 x.f4.length c4) → x.f3.length ≤ c3 → x.f4.length ≤ c4 → (p4 = none → c4 = 0) → RdWal w y (.slice py y.f4.length cy) → Calls Tryz.prog 22 #[.agg #[.int .i64 x.f0, .int .i64 x.f1, .slice p2 x.f2.length c2, .slice p3 x.f3.length c3, .slice p4 x.f4.length c4], .agg #[.int .i64 y.f0, .int .i64 y.f1, .int .i64 y.f2, .int .i64 y.f3, .slice py y.f4.length cy]] w fun e w' => ∃ v, e = .returned v ∧ w'.ownsRow w.heap.size 39 4 v L.length (rStep L) ∧ Below w.heap.size w w' := by
  intro w p2 p3 p4 py c2 c3 c4 cy hr hc3 hc4 hp hy
  have HBN : Hid (Bnd x) := hb
  have HN : Hid (y.f4.length ≤ 1048576) := hn
  have HS : Hid (∀ e ∈ y.f4, sEntry e) := hs
  have HYES : Hid (okX x → okW y → L = anL (thB x (logB ++ newB)) logB (walT y)) := hyes
  have HNO : Hid (¬ (okX x ∧ okW y) → L = []) := hno
  have HC : Hid (x.f3.length ≤ c3 ∧ x.f4.length ≤ c4 ∧ (p4 = none → c4 = 0)) := ⟨hc3, hc4, hp⟩
  obtain ⟨W0, hW0⟩ : ∃ W, W = (w.alloc (.cells #[.int .i64 x.f0, .int .i64 x.f1, .slice p2 x.f2.length c2, .slice p3 x.f3.length c3, .slice p4 x.f4.length c4] 35)).alloc (.cells #[.int .i64 y.f0, .int .i64 y.f1, .int .i64 y.f2, .int .i64 y.f3, .slice py y.f4.length cy] 60) := ⟨_, rfl⟩
  have HW0 : Hid ((w.alloc (.cells #[.int .i64 x.f0, .int .i64 x.f1, .slice p2 x.f2.length c2, .slice p3 x.f3.length c3, .slice p4 x.f4.length c4] 35)).alloc (.cells #[.int .i64 y.f0, .int .i64 y.f1, .int .i64 y.f2, .int .i64 y.f3, .slice py y.f4.length cy] 60) = W0) := hW0.symm
  have HS0 : Hid (W0.heap.size = w.heap.size + 2) := by show _ = _; rw [hW0]; simp
  have HB0 : Hid (Below w.heap.size w W0) := by rw [hW0]; exact (((Below.refl _ _).alloc (Nat.le_refl _) _).alloc (by simp) _)
  have HKA : W0.heap[w.heap.size]? = some (.cells #[.int .i64 x.f0, .int .i64 x.f1, .slice p2 x.f2.length c2, .slice p3 x.f3.length c3, .slice p4 x.f4.length c4] 35) := by rw [hW0]; exact (Below.heap_alloc _ _ _ (by simp)).trans (alloc_at w _)
  have HKB : W0.heap[w.heap.size + 1]? = some (.cells #[.int .i64 y.f0, .int .i64 y.f1, .int .i64 y.f2, .int .i64 y.f3, .slice py y.f4.length cy] 60) := by rw [hW0]; have h := alloc_at (w.alloc (.cells #[.int .i64 x.f0, .int .i64 x.f1, .slice p2 x.f2.length c2, .slice p3 x.f3.length c3, .slice p4 x.f4.length c4] 35)) (.cells #[.int .i64 y.f0, .int .i64 y.f1, .int .i64 y.f2, .int .i64 y.f3, .slice py y.f4.length cy] 60); simpa using h
  have HBA : Hid (∀ W', Below W0.heap.size W0 W' → W'.heap[w.heap.size]? = some (.cells #[.int .i64 x.f0, .int .i64 x.f1, .slice p2 x.f2.length c2, .slice p3 x.f3.length c3, .slice p4 x.f4.length c4] 35)) := fun W' hb => (hb.block _ (by rw [HS0.out]; omega)).trans HKA
  have HBB : Hid (∀ W', Below W0.heap.size W0 W' → W'.heap[w.heap.size + 1]? = some (.cells #[.int .i64 y.f0, .int .i64 y.f1, .int .i64 y.f2, .int .i64 y.f3, .slice py y.f4.length cy] 60)) := fun W' hb => (hb.block _ (by rw [HS0.out]; omega)).trans HKB
  have HRD : Hid (∀ W', Below W0.heap.size W0 W' → RdDisk W' x (.slice p2 x.f2.length c2) (.slice p3 x.f3.length c3) (.slice p4 x.f4.length c4)) := fun W' hbel => (hr.keep HB0.out (Nat.le_refl _)).keep hbel (Nat.le_refl _)
  have HRY : Hid (∀ W', Below W0.heap.size W0 W' → RowR W' (.slice py y.f4.length cy) y.f4.length 2 (rEntry y.f4)) := fun W' hbel => RdWal.keep (RdWal.keep hy HB0.out (Nat.le_refl _)) hbel (Nat.le_refl _)
  have HDN : Hid (∀ W', Below W0.heap.size W0 W' → Below w.heap.size w W') := fun W' hbel => HB0.out.trans (hbel.mono (by rw [HS0.out]; omega))
  have HLOW : Hid (w.heap.size ≤ W0.heap.size) := by show _ ≤ _; rw [HS0.out]; omega
  clear hW0 hr hy hb hn hs hyes hno hc3 hc4 hp HKA HKB
  obtain ⟨e0, e1, e2, e3, e4⟩ := box5 (HBA.out W0 (Below.refl _ _))
  go_enter Tryz.func22, Tryz.ntmps22
  go_wp2_with fail
  rw [HW0.out]
  refine (specOk_c x p2 p3 p4 c2 c3 c4 W0 HBN.out (HRD.out W0 (Below.refl _ _)) HC.out.1 HC.out.2.1).mono ?_
  rintro e w1 ⟨⟨hok, rfl⟩ | ⟨hok, rfl⟩, b1⟩
  rotate_left
  · have HC1 : Hid (Below W0.heap.size W0 w1) := b1
    clear e0 e1 e2 e3 e4 b1
    have HLE : Hid (L = []) := HNO.out (fun h => hok h.1)
    have HF : Hid ((w1.alloc (.cells #[] 39)).ownsRow w.heap.size 39 4 (.slice (some ⟨w1.heap.size, 0, none⟩) 0 0) L.length (rStep L)) := by
      rw [HLE.out]
      exact World.ownsRow_made (base := w.heap.size) (e := 39) (size := 4) w1 #[] 0 (HDN.out _ HC1.out).size (by decide) rfl
    have HBF : Hid (Below w.heap.size w (w1.alloc (.cells #[] 39))) := (HDN.out _ HC1.out).alloc (HDN.out _ HC1.out).size _
    clear HNO HYES
    go_wp2
    go_ret
    exact ⟨_, rfl, HF.out, HBF.out⟩
  have HC1 : Hid (Below W0.heap.size W0 w1) := b1
  have HOK : Hid (okX x) := hok
  clear e0 e1 e2 e3 e4 b1 hok
  obtain ⟨d0, d1, d2, d3, d4⟩ := box5 (HBB.out w1 HC1.out)
  go_wp2_with fail
  refine (specWalOk_c y py cy w1 HN.out HS.out (HRY.out w1 HC1.out)).mono ?_
  rintro e w2 ⟨rfl, b2⟩
  have HC2 : Hid (Below W0.heap.size W0 w2) := HC1.out.trans (b2.mono HC1.out.size)
  clear d0 d1 d2 d3 d4
  clear b2
  by_cases hw : okW y
  rotate_left
  · rw [decide_eq_false hw]
    have HLE : Hid (L = []) := HNO.out (fun h => hw h.2)
    have HF : Hid ((w2.alloc (.cells #[] 39)).ownsRow w.heap.size 39 4 (.slice (some ⟨w2.heap.size, 0, none⟩) 0 0) L.length (rStep L)) := by
      rw [HLE.out]
      exact World.ownsRow_made (base := w.heap.size) (e := 39) (size := 4) w2 #[] 0 (HDN.out _ HC2.out).size (by decide) rfl
    have HBF : Hid (Below w.heap.size w (w2.alloc (.cells #[] 39))) := (HDN.out _ HC2.out).alloc (HDN.out _ HC2.out).size _
    clear HNO HYES
    go_wp2
    go_ret
    exact ⟨_, rfl, HF.out, HBF.out⟩
  rw [decide_eq_true hw]
  have HLE : Hid (L = anL (thB x (logB ++ newB)) logB (walT y)) := HYES.out HOK.out hw
  clear hw HNO HYES
  go_upto_region 3 with fail
  have HCD : Hid (Below W0.heap.size W0 w2.drew) := HC2.out.drew
  refine wp_region_L [⟨3, fun W => ∀ j u, ([.int .i64 x.f0, .int .i64 x.f1, .slice p2 x.f2.length c2, .slice p3 x.f3.length c3, .slice p4 x.f4.length c4] : List Value)[j]? = some u → W.cell? ((⟨w.heap.size, 0, none⟩ : Addr).add j) = some u⟩, ⟨2, fun W => ∀ j u, ([.int .i64 y.f0, .int .i64 y.f1, .int .i64 y.f2, .int .i64 y.f3, .slice py y.f4.length cy] : List Value)[j]? = some u → W.cell? ((⟨w.heap.size + 1, 0, none⟩ : Addr).add j) = some u⟩] (by kernel_rfl) (fun f hf => by
    simp only [List.mem_cons, List.not_mem_nil, or_false] at hf
    rcases hf with rfl | rfl
    · exact cells5R rfl (HBA.out _ HCD.out)
    · exact cells5R rfl (HBB.out _ HCD.out)) ?_
  refine At.take 0 (some 14) (.agg #[.int .i64 x.f0, .int .i64 x.f1, .slice p2 x.f2.length c2, .slice p3 x.f3.length c3, .slice p4 x.f4.length c4]) rfl rfl (by kernel_rfl) (by kernel_rfl) (by kernel_rfl) (by kernel_rfl) (fun _ _ _ h => h) (yl_loads 3 ⟨w.heap.size, 0, none⟩ [.int .i64 x.f0, .int .i64 x.f1, .slice p2 x.f2.length c2, .slice p3 x.f3.length c3, .slice p4 x.f4.length c4] (List.mem_cons_self) [3] (by kernel_rfl) rfl (by kernel_rfl) (fun _ => by kernel_rfl)) ?_
  refine At.take 1 (some 15) (.agg #[.int .i64 y.f0, .int .i64 y.f1, .int .i64 y.f2, .int .i64 y.f3, .slice py y.f4.length cy]) rfl rfl (by kernel_rfl) (by kernel_rfl) (by kernel_rfl) (by kernel_rfl) (fun _ _ _ h => h) (yl_loads 2 ⟨w.heap.size + 1, 0, none⟩ [.int .i64 y.f0, .int .i64 y.f1, .int .i64 y.f2, .int .i64 y.f3, .slice py y.f4.length cy] (List.mem_cons_of_mem _ (List.mem_cons_self)) [2] (by kernel_rfl) rfl (by kernel_rfl) (fun _ => by kernel_rfl)) ?_
  refine At.step 2 (some 16) rfl rfl (by kernel_rfl) (by kernel_rfl) (fun u W => u = .string (walT y) ∧ Below w2.drew.heap.size w2.drew W) (gives_call (by kernel_rfl) ((specWalText_c y py cy w2.drew HN.out HS.out (HRY.out _ HCD.out)).mono fun e w' ⟨he, hb⟩ => ⟨_, he, rfl, hb⟩)) ?_
  rintro u Z1 ⟨rfl, b3⟩
  have HCZ : Hid (Below W0.heap.size W0 Z1) := HCD.out.trans (b3.mono HCD.out.size)
  refine ⟨held_cons (.inr (cells5R rfl (HBA.out _ HCZ.out))) (held_cons (.inl (by kernel_rfl)) (held_nil)), ?_⟩
  refine At.step 3 (some 17) rfl rfl (by kernel_rfl) (by kernel_rfl) (fun u W => W.ownsRow Z1.heap.size 39 4 u (anL (thB x (logB ++ newB)) logB (walT y)).length (rStep (anL (thB x (logB ++ newB)) logB (walT y))) ∧ Below Z1.heap.size Z1 W) (gives_call (by kernel_rfl) ((specAnew_c x p2 p3 p4 c2 c3 c4 logB (walT y) Z1 HOK.out HBN.out (HRD.out _ HCZ.out) HC.out.1 HC.out.2.1 (by decide)).mono fun e w' ⟨v, he, ho, hb⟩ => ⟨_, he, ho, hb⟩)) ?_
  rintro u w9 ⟨ho, b9⟩
  refine ⟨held_cons (.inl (by kernel_rfl)) (held_cons (.inl (by kernel_rfl)) (held_nil)), ?_⟩
  refine At.take 4 (some 4) u rfl rfl (by kernel_rfl) (by kernel_rfl) (by kernel_rfl) (by kernel_rfl) (fun _ _ _ h => h) (yl_pure (by kernel_rfl) (fun _ => by kernel_rfl)) ?_
  refine At.done (by kernel_rfl) ?_
  simp only [Act.put, List.setIfInBounds_toArray, List.set_cons_zero, List.set_cons_succ]
  have HF : Hid (w9.ownsRow w.heap.size 39 4 u L.length (rStep L)) := by
    show World.ownsRow _ _ _ _ _ _ _
    rw [HLE.out]
    exact own_low ho (Nat.le_trans HLOW.out HCZ.out.size)
  have HBF : Hid (Below w.heap.size w w9) := HDN.out _ (HCZ.out.trans (b9.mono HCZ.out.size))
  clear ho b9 b3
  go_wp2
  go_ret
  exact ⟨_, rfl, HF.out, HBF.out⟩

end Go.Proofs.YtoecakjjondeeaaGreat

/- The steps that lay a file anew, of the program. -/
namespace Go.Proofs.YtoecakjjondeeaaGreat
open Go.RowKit
set_option linter.unusedVariables false
set_option linter.unusedSimpArgs false

set_option maxRecDepth 20000 in
set_option maxHeartbeats 4000000 in
theorem has_c (x : S_Disk) (B m bf bd bn : Nat) (vm : Value) (bs : List Nat) (s : ByteArray) (w : World) (hok : okX x) (hM : Mnt B w m x bf bd bn vm bs) (hsz : s.size ≤ 1048576) :
    Calls Tryz.prog 117 #[.pointer (some ⟨m, 0, none⟩), .string s] w fun e w' => e = .returned (.bool (thB x s)) ∧ Below w.heap.size w w' := by
  have HOK : Hid (okX x) := hok
  have HM : Hid (Mnt B w m x bf bd bn vm bs) := hM
  clear hM hok
  go_enter Tryz.func117, Tryz.ntmps117
  go_wp2_with fail
  refine (fileOf_c B m x.f0 x.f1 bf bd bn vm (x.f2.zip bs) _ (nms x.f3 x.f4) s w HM.out.2.2.2.2.1 HM.out.2.1 HM.out.2.2.2.1 (by unfold maxLen; omega)).mono ?_
  rintro e w2 ⟨rfl, hw2⟩
  have HB2 : Hid (Below w.heap.size w w2) := by rw [hw2]; exact (Below.refl _ _).drew
  have HT : Hid (thB x s = hasF (x.f2.zip bs) (idOf (nms x.f3 x.f4) s)) := by
    show _ = _
    unfold thB
    rcases fptr_zip HOK.out s bs HM.out.1 with ⟨hneg, h1, h2⟩ | ⟨k, hk, hkb, hkf, h1, h2⟩
    · rw [h2, decide_eq_true hneg]; rfl
    · rw [h2, decide_eq_false (by omega)]; rfl
  generalize fptr (x.f2.zip bs) (idOf (nms x.f3 x.f4) s) = ff
  generalize hasF (x.f2.zip bs) (idOf (nms x.f3 x.f4) s) = hh at HT ⊢
  clear hw2
  go_wp2
  go_ret
  exact ⟨by rw [HT.out]; rfl, HB2.out⟩

set_option maxRecDepth 20000 in
set_option maxHeartbeats 4000000 in
theorem putFile_c (x : S_Disk) (B m bf bd bn : Nat) (vm : Value) (bs : List Nat) (s T : ByteArray) (w : World) (hok : okX x) (hM : Mnt B w m x bf bd bn vm bs) (hsz : s.size ≤ 12) :
    Calls Tryz.prog 64 #[.pointer (some ⟨m, 0, none⟩), .string s, .string T] w fun e w' => ∃ v, e = .returned v ∧ w'.ownsRow w.heap.size 39 4 v (anL (thB x (s ++ newB)) s T).length (rStep (anL (thB x (s ++ newB)) s T)) ∧ Below w.heap.size w w' := by
  obtain ⟨i0, hi, hz0, hz1, hz2⟩ := info_parts infoSt
  obtain ⟨F, hF⟩ : ∃ F, s ++ newB = F := ⟨_, rfl⟩
  have HFF : Hid (s ++ newB = F) := hF
  have HFS : Hid (F.size ≤ 20) := by show _ ≤ _; rw [← hF, ByteArray.size_append]; have : newB.size = 4 := rfl; omega
  have had : ∀ W, (Op.stringOp .add s (⟨#[46, 110, 101, 119]⟩ : ByteArray)).run Tryz.prog W = .ok (.string F) W := fun W => by
    rw [run_string_add_sum W s ⟨#[46, 110, 101, 119]⟩ (by have : (⟨#[46, 110, 101, 119]⟩ : ByteArray).size = 4 := rfl; omega), ← hF]
    rfl
  have HOK : Hid (okX x) := hok
  have HM : Hid (Mnt B w m x bf bd bn vm bs) := hM
  clear hM hok hF
  go_enter Tryz.func64, Tryz.ntmps64
  go_wp2_with fail
  refine (has_c x B m bf bd bn vm bs F w HOK.out HM.out (by have := HFS.out; omega)).mono ?_
  rintro e w2 ⟨rfl, b2⟩
  have HC2 : Hid (Below w.heap.size w w2) := b2
  have HM2 : Hid (w2.ownsRow w.heap.size 39 4 (.slice none 0 0) 0 []) := World.ownsRow_nil _ _ _ _
  obtain ⟨B, hB⟩ : ∃ B, thB x F = B := ⟨_, rfl⟩
  have HBB : Hid (thB x F = B) := hB
  rw [hB]
  clear b2 hB
  cases B
  · have HMx : Hid (w2.ownsRow w.heap.size 39 4 (.slice none 0 0) (anH false F).length (rStep (anH false F))) := HM2.out
    clear HM2
    have hal := anH_len false F
    have hown := HMx.out
    have hsz := HC2.out.size
    go_wp2_with (at_builtin; refine wpList_append_own _ rfl _ _ 48 rfl w.heap.size 39 i0 (.agg #[.int .i64 0, .string ⟨#[]⟩, .string ⟨#[]⟩, .string ⟨#[]⟩]) 4 56 Tryz.underlying48 hi hz0 hz1 hz2 rfl (by decide) _ _ _ rfl (hown.alloc _) ⟨w2.heap.size, 0, none⟩ 5 5 [.int .i64 1, .string F, .string ⟨#[]⟩, .string ⟨#[]⟩, .int .i64 2, .string F, .string ⟨#[]⟩, .string T, .int .i64 3, .string F, .string ⟨#[]⟩, .string ⟨#[]⟩, .int .i64 4, .string F, .string s, .string ⟨#[]⟩, .int .i64 6, .string ⟨#[]⟩, .string ⟨#[]⟩, .string ⟨#[]⟩] rfl rfl (cells_lit _ _ _) (ones_an F s T) (by unfold maxLen; omega) (by omega) (by have := hown.lt; first | omega | (simp; omega)) ?_)
    intro v9 w9 hown9 hgrow9 _
    have R1 : Hid (w9.ownsRow w.heap.size 39 4 v9 (anH false F ++ anT F s T).length (rStep (anH false F ++ anT F s T))) := by
      show World.ownsRow _ _ _ _ _ _ _
      rw [rStep_app, List.length_append]
      exact hown9
    have R2 : Hid (Below w.heap.size w w9) := below_append HC2.out (Nat.le_refl _) hown hgrow9
    clear hown9 hgrow9 hown hsz hal
    go_wp2
    go_ret
    exact ⟨_, rfl, by unfold anL; rw [HFF.out, HBB.out]; exact R1.out, R2.out⟩
  · have hown0 := HM2.out
    have hsz0 := HC2.out.size
    go_wp2_with (at_builtin; refine wpList_append_own _ rfl _ _ 48 rfl w.heap.size 39 i0 (.agg #[.int .i64 0, .string ⟨#[]⟩, .string ⟨#[]⟩, .string ⟨#[]⟩]) 4 56 Tryz.underlying48 hi hz0 hz1 hz2 rfl (by decide) _ _ _ rfl (hown0.alloc _) ⟨w2.heap.size, 0, none⟩ 1 1 [.int .i64 5, .string F, .string ⟨#[]⟩, .string ⟨#[]⟩] rfl rfl (cells_lit _ _ _) (ones_st _ _ _ _) (by unfold maxLen; omega) (by omega) (by have := hown0.lt; first | omega | (simp; omega)) ?_)
    intro v5 w5 hown5 hgrow5 _
    have HMx : Hid (w5.ownsRow w.heap.size 39 4 v5 (anH true F).length (rStep (anH true F))) := hown5
    have HC5 : Hid (Below w.heap.size w w5) := below_append HC2.out (Nat.le_refl _) hown0 hgrow5
    clear hown5 hgrow5 hown0 hsz0 HM2 HC2
    have hal := anH_len true F
    have hown := HMx.out
    have hsz := HC5.out.size
    go_wp2_with (at_builtin; refine wpList_append_own _ rfl _ _ 48 rfl w.heap.size 39 i0 (.agg #[.int .i64 0, .string ⟨#[]⟩, .string ⟨#[]⟩, .string ⟨#[]⟩]) 4 56 Tryz.underlying48 hi hz0 hz1 hz2 rfl (by decide) _ _ _ rfl (hown.alloc _) ⟨w5.heap.size, 0, none⟩ 5 5 [.int .i64 1, .string F, .string ⟨#[]⟩, .string ⟨#[]⟩, .int .i64 2, .string F, .string ⟨#[]⟩, .string T, .int .i64 3, .string F, .string ⟨#[]⟩, .string ⟨#[]⟩, .int .i64 4, .string F, .string s, .string ⟨#[]⟩, .int .i64 6, .string ⟨#[]⟩, .string ⟨#[]⟩, .string ⟨#[]⟩] rfl rfl (cells_lit _ _ _) (ones_an F s T) (by unfold maxLen; omega) (by omega) (by have := hown.lt; first | omega | (simp; omega)) ?_)
    intro v9 w9 hown9 hgrow9 _
    have R1 : Hid (w9.ownsRow w.heap.size 39 4 v9 (anH true F ++ anT F s T).length (rStep (anH true F ++ anT F s T))) := by
      show World.ownsRow _ _ _ _ _ _ _
      rw [rStep_app, List.length_append]
      exact hown9
    have R2 : Hid (Below w.heap.size w w9) := below_append HC5.out (Nat.le_refl _) hown hgrow9
    clear hown9 hgrow9 hown hsz hal
    go_wp2
    go_ret
    exact ⟨_, rfl, by unfold anL; rw [HFF.out, HBB.out]; exact R1.out, R2.out⟩

end Go.Proofs.YtoecakjjondeeaaGreat

/- The records of a Wal's entries, by the program's contract. -/
namespace Go.Proofs.YtoecakjjondeeaaGreat
open Go.RowKit
set_option linter.unusedVariables false
set_option linter.unusedSimpArgs false

theorem infoRecd : (Tryz.prog.info? 170).map (fun i => (i.zero, i.size, i.bytes)) = some (some .nilIface, 1, 16) := by kernel_rfl

theorem cells_newW (w : World) (cs : List Value) (t : TypeId) : ∀ j u, cs[j]? = some u → (w.alloc (.cells cs.toArray t)).cell? ((⟨w.heap.size, 0, none⟩ : Addr).add j) = some u := fun j u h => by
  rw [Addr.add_mid, Nat.zero_add]
  simp only [World.cell?, alloc_last]
  rw [List.getElem?_toArray]
  exact h

theorem cell_allocW {w : World} {a : Addr} {u : Value} {o : Obj} (h : w.cell? a = some u) : (w.alloc o).cell? a = some u := (World.grownBy_alloc w o none).cell h (by simp)

theorem cells2W {w : World} {b n : Nat} {a0 a1 : Value} (h0 : w.cell? ⟨b, n, none⟩ = some a0) (h1 : w.cell? ⟨b, n + 1, none⟩ = some a1) : ∀ j u, [a0, a1][j]? = some u → w.cell? ((⟨b, n, none⟩ : Addr).add j) = some u := by
  intro j u h
  rw [Addr.add_mid]
  rcases j with _ | _ | j
  · simp only [List.getElem?_cons_zero, Option.some.injEq] at h; rw [← h]; exact h0
  · simp only [List.getElem?_cons_succ, List.getElem?_cons_zero, Option.some.injEq] at h; rw [← h]; exact h1
  · simp at h

/-- The records of j entries from number bt on. -/
def recP (x : S_Wal) (bt : Nat) : Nat → List S_Rec
  | 0 => []
  | j + 1 => recP x bt j ++ [enRec x (bt + j)]

theorem recP_len (x : S_Wal) (bt : Nat) : ∀ j, (recP x bt j).length = j
  | 0 => rfl
  | j + 1 => by show (recP x bt j ++ [_]).length = _; rw [List.length_append, recP_len x bt j]; rfl

theorem recV_en (x : S_Wal) (k : Nat) (hk : k < x.f4.length) : recV (enRec x k) = .iface 205 (.agg #[.int .i64 (x.f2 + 1 + (k : Int)), .int .i64 x.f4[k].f0, .string x.f4[k].f1]) := by
  rw [en_at hk]
  unfold recV
  rfl

theorem own_lowW {w : World} {b b' : Nat} {e : TypeId} {size n : Nat} {v : Value} {xs : List Value} (h : w.ownsRow b e size v n xs) (hb : b' ≤ b) : w.ownsRow b' e size v n xs := by
  obtain ⟨h1, ⟨rfl, h2⟩ | ⟨g, cap, cur, rfl, hg, r⟩⟩ := h
  · exact ⟨h1, .inl ⟨rfl, h2⟩⟩
  · exact ⟨h1, .inr ⟨g, cap, cur, rfl, Nat.le_trans hb hg, r⟩⟩

theorem own_step {w : World} {base : Nat} {v : Value} {x : S_Wal} {bt k : Nat} (hb : bt ≤ k) (hk : k < x.f4.length) (h : w.ownsRow base 170 1 v (k - bt + 1) ((recP x bt (k - bt)).map recV ++ [.iface 205 (.agg #[.int .i64 (x.f2 + 1 + (k : Int)), .int .i64 x.f4[k].f0, .string x.f4[k].f1])])) : w.ownsRow base 170 1 v (k + 1 - bt) ((recP x bt (k + 1 - bt)).map recV) := by
  have e : k + 1 - bt = (k - bt) + 1 := by omega
  rw [e]
  show w.ownsRow _ _ _ _ _ ((recP x bt (k - bt) ++ [enRec x (bt + (k - bt))]).map recV)
  rw [List.map_append, show bt + (k - bt) = k by omega]
  show w.ownsRow _ _ _ _ _ (_ ++ [recV (enRec x k)])
  rw [recV_en x k hk]
  exact h

set_option maxRecDepth 20000 in
set_option maxHeartbeats 4000000 in
theorem entryRecs_c (x : S_Wal) (p : Option Addr) (cap bt : Nat) (w : World) (hok : okW x) (hbt : bt ≤ x.f4.length) (hn : x.f4.length ≤ 1048576) (hs : ∀ y ∈ x.f4, sEntry y) (hr : RowR w (.slice p x.f4.length cap) x.f4.length 2 (rEntry x.f4)) :
    Calls Tryz.prog 118 #[.agg #[.int .i64 x.f0, .int .i64 x.f1, .int .i64 x.f2, .int .i64 x.f3, .slice p x.f4.length cap], .int .i64 (bt : Int)] w fun e w' => ∃ v, e = .returned v ∧ w'.ownsRow w.heap.size 170 1 v (x.f4.length - bt) ((recP x bt (x.f4.length - bt)).map recV) ∧ Below w.heap.size w w' := by
  obtain ⟨iR, hiR, hR0, hR1, hR2⟩ := info_parts infoRecd
  obtain ⟨W0, hW0⟩ : ∃ W, W = (w.alloc (.cells #[.int .i64 x.f0, .int .i64 x.f1, .int .i64 x.f2, .int .i64 x.f3, .slice p x.f4.length cap] 60)) := ⟨_, rfl⟩
  have HW0 : Hid ((w.alloc (.cells #[.int .i64 x.f0, .int .i64 x.f1, .int .i64 x.f2, .int .i64 x.f3, .slice p x.f4.length cap] 60)) = W0) := hW0.symm
  have HZ0 : Hid (W0.heap.size = w.heap.size + 1) := by show _ = _; rw [hW0]; simp
  have HB0 : Hid (Below w.heap.size w W0) := by rw [hW0]; exact (Below.refl _ _).alloc (Nat.le_refl _) _
  have HX : Hid (∀ W', Below W0.heap.size W0 W' → W'.cell? ⟨w.heap.size, 0, none⟩ = some (.int .i64 x.f0) ∧ W'.cell? ⟨w.heap.size, 1, none⟩ = some (.int .i64 x.f1) ∧ W'.cell? ⟨w.heap.size, 2, none⟩ = some (.int .i64 x.f2) ∧ W'.cell? ⟨w.heap.size, 3, none⟩ = some (.int .i64 x.f3) ∧ W'.cell? ⟨w.heap.size, 4, none⟩ = some (.slice p x.f4.length cap)) := fun W' hW => by
    have hk : W'.heap[w.heap.size]? = some (.cells #[.int .i64 x.f0, .int .i64 x.f1, .int .i64 x.f2, .int .i64 x.f3, .slice p x.f4.length cap] 60) := by rw [hW.block _ (by rw [HZ0.out]; exact Nat.lt_succ_self _), hW0]; exact alloc_last _ _
    exact box5 hk
  have HS : Hid (∀ y ∈ x.f4, sEntry y) := hs
  have HR : Hid (RowR w (.slice p x.f4.length cap) x.f4.length 2 (rEntry x.f4)) := hr
  have HN : Hid (x.f4.length ≤ 1048576) := hn
  have hn' : (x.f4.length : Int) ≤ 1048576 := by omega
  obtain ⟨d0, d1, d2, d3, d4⟩ := HX.out W0 (Below.refl _ _)
  clear hs hr hW0
  have HOK : Hid (okW x) := hok
  clear hok
  go_enter Tryz.func118, Tryz.ntmps118
  go_wp2_with fail
  rw [HW0.out]
  go_loopw [5, 6] (fun ov iv wr => ∃ k : Nat, bt ≤ k ∧ k ≤ x.f4.length ∧ iv = .int .i64 (k : Int) ∧ Hid (wr.ownsRow W0.heap.size 170 1 ov (k - bt) ((recP x bt (k - bt)).map recV)) ∧ Hid (Below W0.heap.size W0 wr)) (fun _ iv _ => x.f4.length - (intOf iv).toNat)
  case atStart => exact ⟨bt, Nat.le_refl _, hbt, rfl, ⟨by rw [Nat.sub_self]; rfl, .inl ⟨rfl, by rw [Nat.sub_self]⟩⟩, Below.refl _ _⟩
  case round =>
    obtain ⟨k, hbk, hk, rfl, HO, HBr⟩ := hrel
    have HBw : Hid (Below w.heap.size w wr) := HB0.out.trans (HBr.out.mono (by rw [HZ0.out]; omega))
    clear d0 d1 d2 d3 d4
    obtain ⟨d0, d1, d2, d3, d4⟩ := HX.out wr HBr.out
    by_cases hlt : k < x.f4.length
    · have hlt' : (k : Int) < x.f4.length := by omega
      obtain ⟨b, off, cap', hv, hb, hc⟩ := HR.out.some (by omega) (by decide)
      simp only [Value.slice.injEq, true_and] at hv
      obtain ⟨rfl, rfl⟩ := hv
      have HC : Hid (∀ j, j < x.f4.length * 2 → w.cell? ⟨b, off + j, none⟩ = (rEntry x.f4)[j]?) := hc
      clear hc
      have c : ∀ q, q < 2 → wr.cell? ⟨b, off + (k * 2 + q), none⟩ = (cEntry x.f4[k])[q]? := fun q hq => by
        rw [HBw.out.cell (by exact hb), HC.out (k * 2 + q) (by omega)]
        exact flat_at cEntry 2 cEntry_len x.f4 k q hlt hq
      have c0 : wr.cell? ⟨b, off + k * 2, none⟩ = some (.int .i64 (x.f4[k]).f0) := by have := c 0 (by decide); rw [← Nat.add_assoc] at this; exact this
      have c1 : wr.cell? ⟨b, off + k * 2 + 1, none⟩ = some (.string (x.f4[k]).f1) := by have := c 1 (by decide); rw [← Nat.add_assoc] at this; exact this
      clear c
      have HWR : Hid (IntKind.i64.wrap (x.f2 + (k : Int)) = x.f2 + (k : Int) ∧ IntKind.i64.wrap (x.f2 + (k : Int) + 1) = x.f2 + 1 + (k : Int)) := by
        have h2 := okW_base HOK.out
        exact ⟨IntWalk.i64_in _ (by omega), by rw [IntWalk.i64_in _ (by omega)]; omega⟩
      go_upto_region 5 with fail
      refine wp_region_L [⟨13, fun W => W.cell? ⟨w.heap.size, 2, none⟩ = some (.int .i64 x.f2)⟩, ⟨13, fun W => W.cell? ⟨w.heap.size, 4, none⟩ = some (.slice (some ⟨b, off, none⟩) x.f4.length cap)⟩, ⟨13, fun W => ∀ j u, ([.int .i64 x.f4[k].f0, .string x.f4[k].f1] : List Value)[j]? = some u → W.cell? ((⟨b, off + k * 2, none⟩ : Addr).add j) = some u⟩] (by kernel_rfl) (fun f hf => by
          simp only [List.mem_cons, List.not_mem_nil, or_false] at hf
          rcases hf with rfl | rfl | rfl
          · exact d2
          · exact d4
          · exact cells2W c0 c1
          ) ?_
      refine At.take 0 (some 15) (u5) rfl rfl (by kernel_rfl) (by kernel_rfl) (by kernel_rfl) (by kernel_rfl) (fun _ _ _ h => h) (yl_pure (by kernel_rfl) (fun _ => by kernel_rfl)) ?_
      refine At.take 1 (some 16) (.pointer (some ⟨w.heap.size, 2, none⟩)) rfl rfl (by kernel_rfl) (by kernel_rfl) (by kernel_rfl) (by kernel_rfl) (fun _ _ _ h => h) (yl_pure (by kernel_rfl) (fun _ => by kernel_rfl)) ?_
      refine At.take 2 (some 17) (.int .i64 x.f2) rfl rfl (by kernel_rfl) (by kernel_rfl) (by kernel_rfl) (by kernel_rfl) (fun _ _ _ h => h) (yl_load 13 ⟨w.heap.size, 2, none⟩ (.int .i64 x.f2) (List.mem_cons_self) [4, 5, 11, 12, 13] (by kernel_rfl) rfl (by kernel_rfl) (fun _ => by kernel_rfl)) ?_
      refine At.take 3 (some 18) (.int .i64 (k : Int)) rfl rfl (by kernel_rfl) (by kernel_rfl) (by kernel_rfl) (by kernel_rfl) (fun _ _ _ h => h) (yl_pure (by kernel_rfl) (fun _ => by kernel_rfl)) ?_
      refine At.take 4 (some 19) (.int .i64 (x.f2 + (k : Int))) rfl rfl (by kernel_rfl) (by kernel_rfl) (by kernel_rfl) (by kernel_rfl) (fun _ _ _ h => h) (yl_is (.int .i64 (IntKind.i64.wrap (x.f2 + (k : Int)))) (by rw [HWR.out.1]) (by kernel_rfl) (fun _ => by kernel_rfl)) ?_
      refine At.take 5 (some 20) (.int .i64 (x.f2 + 1 + (k : Int))) rfl rfl (by kernel_rfl) (by kernel_rfl) (by kernel_rfl) (by kernel_rfl) (fun _ _ _ h => h) (yl_is (.int .i64 (IntKind.i64.wrap (x.f2 + (k : Int) + 1))) (by rw [HWR.out.2]) (by kernel_rfl) (fun _ => by kernel_rfl)) ?_
      refine At.take 6 (some 21) (.pointer (some ⟨w.heap.size, 4, none⟩)) rfl rfl (by kernel_rfl) (by kernel_rfl) (by kernel_rfl) (by kernel_rfl) (fun _ _ _ h => h) (yl_pure (by kernel_rfl) (fun _ => by kernel_rfl)) ?_
      refine At.take 7 (some 22) (.slice (some ⟨b, off, none⟩) x.f4.length cap) rfl rfl (by kernel_rfl) (by kernel_rfl) (by kernel_rfl) (by kernel_rfl) (fun _ _ _ h => h) (yl_load 13 ⟨w.heap.size, 4, none⟩ (.slice (some ⟨b, off, none⟩) x.f4.length cap) (List.mem_cons_of_mem _ (List.mem_cons_self)) [9, 10, 11, 12, 13] (by kernel_rfl) rfl (by kernel_rfl) (fun _ => by kernel_rfl)) ?_
      refine At.take 8 (some 23) (.int .i64 (k : Int)) rfl rfl (by kernel_rfl) (by kernel_rfl) (by kernel_rfl) (by kernel_rfl) (fun _ _ _ h => h) (yl_pure (by kernel_rfl) (fun _ => by kernel_rfl)) ?_
      refine At.take 9 (some 24) (.pointer (some ⟨b, off + k * 2, none⟩)) rfl rfl (by kernel_rfl) (by kernel_rfl) (by kernel_rfl) (by kernel_rfl) (fun _ _ _ h => h) (yl_pure (by kernel_rfl) (fun w => by go_simp)) ?_
      refine At.take 10 (some 25) (.agg #[.int .i64 x.f4[k].f0, .string x.f4[k].f1]) rfl rfl (by kernel_rfl) (by kernel_rfl) (by kernel_rfl) (by kernel_rfl) (fun _ _ _ h => h) (yl_loads 13 ⟨b, off + k * 2, none⟩ [.int .i64 x.f4[k].f0, .string x.f4[k].f1] (List.mem_cons_of_mem _ (List.mem_cons_of_mem _ (List.mem_cons_self))) [11, 12, 13] (by kernel_rfl) rfl (by kernel_rfl) (fun _ => by kernel_rfl)) ?_
      refine At.take 11 (some 26) (.agg #[.int .i64 (x.f2 + 1 + (k : Int)), .int .i64 x.f4[k].f0, .string x.f4[k].f1]) rfl rfl (by kernel_rfl) (by kernel_rfl) (by kernel_rfl) (by kernel_rfl) (fun _ _ _ h => h) (yl_pure (by kernel_rfl) (fun _ => by kernel_rfl)) ?_
      refine At.take 12 (some 27) (.iface 205 (.agg #[.int .i64 (x.f2 + 1 + (k : Int)), .int .i64 x.f4[k].f0, .string x.f4[k].f1])) rfl rfl (by kernel_rfl) (by kernel_rfl) (by kernel_rfl) (by kernel_rfl) (fun _ _ _ h => h) (yl_pure (by kernel_rfl) (fun _ => by kernel_rfl)) ?_
      refine At.step 13 (some 28) rfl rfl (by kernel_rfl) (by kernel_rfl) (fun u W => u = .slice (some ⟨wr.drew.heap.size, 0, none⟩) 1 1 ∧ W = wr.drew.alloc (.cells #[.iface 205 (.agg #[.int .i64 (x.f2 + 1 + (k : Int)), .int .i64 x.f4[k].f0, .string x.f4[k].f1])] 170)) (gives_run (by kernel_rfl)) ?_
      rintro u WB ⟨rfl, hWB⟩
      refine ⟨by subst hWB; exact held_cons (.inl (by kernel_rfl)) (held_cons (.inl (by kernel_rfl)) (held_cons (.inl (by kernel_rfl)) (held_nil))), ?_⟩
      have HOB : Hid (WB.ownsRow W0.heap.size 170 1 u5 (k - bt) ((recP x bt (k - bt)).map recV)) := by rw [hWB]; exact (show wr.drew.ownsRow _ _ _ _ _ _ from HO.out).alloc _
      have HBB : Hid (Below W0.heap.size W0 WB) := by rw [hWB]; exact (HBr.out.drew).alloc HBr.out.size _
      obtain ⟨v', WC, hrunC, hownC, hgrowC, _⟩ := run_append_own (P := Tryz.prog) WB W0.heap.size 164 164 170 iR .nilIface 1 16 Tryz.underlying164 hiR hR0 hR1 hR2 rfl (by decide) u5 (k - bt) _ HOB.out ⟨wr.drew.heap.size, 0, none⟩ 1 1 [.iface 205 (.agg #[.int .i64 (x.f2 + 1 + (k : Int)), .int .i64 x.f4[k].f0, .string x.f4[k].f1])] rfl (by rw [hWB]; exact cells_newW wr.drew _ _) (by intro u hu; simp at hu; subst hu; rfl) (by unfold maxLen; omega) (by omega) HBB.out.size
      refine At.step 14 (some 29) rfl rfl (by kernel_rfl) (by kernel_rfl) (fun u W => u = v' ∧ W = WC) (gives_append (fun _ => by kernel_rfl) hrunC) ?_
      rintro u WC' ⟨rfl, hWC⟩
      subst hWC
      refine ⟨held_cons (.inl (by kernel_rfl)) (held_cons (.inl (by kernel_rfl)) (held_cons (.inl (by kernel_rfl)) (held_nil))), ?_⟩
      refine At.take 15 (some 5) (u) rfl rfl (by kernel_rfl) (by kernel_rfl) (by kernel_rfl) (by kernel_rfl) (fun _ _ _ h => h) (yl_pure (by kernel_rfl) (fun _ => by kernel_rfl)) ?_
      refine At.done (by kernel_rfl) ?_
      simp only [Act.put, List.setIfInBounds_toArray, List.set_cons_zero, List.set_cons_succ]
      have HOE := own_step hbk hlt hownC
      have HBE : Hid (Below W0.heap.size W0 WC') := HBB.out.grown hgrowC HBB.out.size (ownBlock_ge HOB.out)
      clear hownC hgrowC hrunC HOB HBB hWB d0 d1 d2 d3 d4 c0 c1 HWR HC
      go_wp2
      go_roundw
      case rel => exact ⟨k + 1, by omega, by omega, by go_num, HOE, HBE⟩
      case measure => simp [intOf]; omega
    · have hke : k = x.f4.length := by omega
      subst hke
      go_wp2
      go_ret
      exact ⟨_, rfl, own_lowW HO.out (by rw [HZ0.out]; omega), HBw.out⟩

end Go.Proofs.YtoecakjjondeeaaGreat

/- strings.Builder: WriteString and String by their contracts. -/
namespace Go.Proofs.YtoecakjjondeeaaGreat
open Go.RowKit Go.Shelf
set_option linter.unusedVariables false

def renBu : Go.Shelf.Ren := ⟨fun
  | 166 => 119
  | 169 => 123
  | 240 => 148
  | 276 => 163
  | k => k, fun
  | 0 => 0
  | 3 => 3
  | 4 => 4
  | 5 => 5
  | 9 => 9
  | 20 => 20
  | 37 => 146
  | 70 => 165
  | 72 => 167
  | 75 => 172
  | 80 => 176
  | 127 => 208
  | 164 => 213
  | k => k, fun k => k⟩

set_option maxRecDepth 100000 in
theorem laysBu166 : Go.Proofs.Lays.n166 Tryz.prog renBu :=
  { mixed := by kernel_rfl,
    f166 := by kernel_rfl,
    f240 := by kernel_rfl,
    f276 := by kernel_rfl,
    t0 := by kernel_rfl,
    a0 := fun _ => by kernel_rfl,
    z0 := fun _ => by kernel_rfl,
    v0 := fun _ => by kernel_rfl,
    t3 := by kernel_rfl,
    a3 := fun _ => by kernel_rfl,
    z3 := fun _ => by kernel_rfl,
    v3 := fun _ => by kernel_rfl,
    t4 := by kernel_rfl,
    a4 := fun _ => by kernel_rfl,
    z4 := fun _ => by kernel_rfl,
    v4 := fun _ => by kernel_rfl,
    t9 := by kernel_rfl,
    a9 := fun _ => by kernel_rfl,
    z9 := fun _ => by kernel_rfl,
    v9 := fun _ => by kernel_rfl,
    t20 := by kernel_rfl,
    a20 := fun _ => by kernel_rfl,
    z20 := fun _ => by kernel_rfl,
    v20 := fun _ => by kernel_rfl,
    t37 := by kernel_rfl,
    a37 := fun _ => by kernel_rfl,
    z37 := fun _ => by kernel_rfl,
    v37 := fun _ => by kernel_rfl,
    t70 := by kernel_rfl,
    a70 := fun _ => by kernel_rfl,
    z70 := fun _ => by kernel_rfl,
    v70 := fun _ => by kernel_rfl,
    t72 := by kernel_rfl,
    a72 := fun _ => by kernel_rfl,
    z72 := fun _ => by kernel_rfl,
    v72 := fun _ => by kernel_rfl,
    t75 := by kernel_rfl,
    a75 := fun _ => by kernel_rfl,
    z75 := fun _ => by kernel_rfl,
    v75 := fun _ => by kernel_rfl,
    t164 := by kernel_rfl,
    a164 := fun _ => by kernel_rfl,
    z164 := fun _ => by kernel_rfl,
    v164 := fun _ => by kernel_rfl }

set_option maxRecDepth 100000 in
theorem laysBu169 : Go.Proofs.Lays.n169 Tryz.prog renBu :=
  { mixed := by kernel_rfl,
    f169 := by kernel_rfl,
    t0 := by kernel_rfl,
    a0 := fun _ => by kernel_rfl,
    z0 := fun _ => by kernel_rfl,
    v0 := fun _ => by kernel_rfl,
    t3 := by kernel_rfl,
    a3 := fun _ => by kernel_rfl,
    z3 := fun _ => by kernel_rfl,
    v3 := fun _ => by kernel_rfl,
    t9 := by kernel_rfl,
    a9 := fun _ => by kernel_rfl,
    z9 := fun _ => by kernel_rfl,
    v9 := fun _ => by kernel_rfl,
    t37 := by kernel_rfl,
    a37 := fun _ => by kernel_rfl,
    z37 := fun _ => by kernel_rfl,
    v37 := fun _ => by kernel_rfl,
    t70 := by kernel_rfl,
    a70 := fun _ => by kernel_rfl,
    z70 := fun _ => by kernel_rfl,
    v70 := fun _ => by kernel_rfl,
    t72 := by kernel_rfl,
    a72 := fun _ => by kernel_rfl,
    z72 := fun _ => by kernel_rfl,
    v72 := fun _ => by kernel_rfl,
    t127 := by kernel_rfl,
    a127 := fun _ => by kernel_rfl,
    z127 := fun _ => by kernel_rfl,
    v127 := fun _ => by kernel_rfl }

theorem exBu : Go.Proofs.Builder.Extra Tryz.prog renBu where
  sizeBuilder := by kernel_rfl
  liesBuilder := by kernel_rfl
  t5 := by kernel_rfl
  a5 := fun _ => by kernel_rfl
  z5 := fun _ => by kernel_rfl
  v5 := fun _ => by kernel_rfl
  infoByte := by kernel_rfl
  cellsByte := by kernel_rfl
  sizeByte := by kernel_rfl
  neB5 := by decide

/-- A builder in block b (its row at B or above) that holds the bytes of s. -/
def Bu (B b : Nat) (s : ByteArray) (w : World) : Prop := Lib.IsBuilderF 167 5 B b (Lib.strCells s) w

/-- It stays where its own block, and all bytes, do. -/
theorem Bu.keep {B b : Nat} {s : ByteArray} {w w' : World} (h : Bu B b s w) (hk : ∀ k o, w.heap[k]? = some o → (k = b ∨ ∃ c fz, o = .cells c 5 fz) → w'.heap[k]? = some o) : Bu B b s w' := by
  have key : ∀ p, Lib.BuilderAtF 167 5 B b p (Lib.strCells s) w → Lib.BuilderAtF 167 5 B b p (Lib.strCells s) w' := by
    rintro p ⟨hB, v, hb, hown, hne⟩
    refine ⟨hB, v, hk b _ hb (.inl rfl), ⟨hown.1, ?_⟩, hne⟩
    rcases hown.2 with hn | ⟨g, cap, cur, fz, hv, hbg, hg, rest⟩
    · exact .inl hn
    · exact .inr ⟨g, cap, cur, fz, hv, hbg, hk g _ hg (.inr ⟨_, _, rfl⟩), rest⟩
  exact h.elim (fun x => .inl (key _ x)) (fun x => .inr (key _ x))

theorem Bu.bel {B b : Nat} {s : ByteArray} {w w' : World} (h : Bu B b s w) (hb : Below w.heap.size w w') : Bu B b s w' :=
  h.keep fun k o ho _ => (hb.block k (Array.getElem?_eq_some_iff.1 ho).1).trans ho

theorem Bu.block {B b : Nat} {s : ByteArray} {w : World} (h : Bu B b s w) : ∃ cs, w.heap[b]? = some (.cells cs 167 (0, 0)) := by
  rcases h with ⟨_, v, hb, _⟩ | ⟨_, v, hb, _⟩ <;> exact ⟨_, hb⟩

/-- What neither is the builder nor bytes stands. -/
def BuK (b : Nat) (w w' : World) : Prop := Lib.OthersKept 5 (some b) w w'

theorem BuK.own {B b : Nat} {s : ByteArray} {w w' : World} (h : BuK b w w') (hB : Bu B b s w) {base : Nat} {e : TypeId} {size n : Nat} {v : Value} {xs : List Value} (he : e ≠ 5) (he' : e ≠ 167) (ho : w.ownsRow base e size v n xs) : w'.ownsRow base e size v n xs := by
  obtain ⟨h1, ⟨rfl, h2⟩ | ⟨g, cap, cur, rfl, hg, hh, r⟩⟩ := ho
  · exact ⟨h1, .inl ⟨rfl, h2⟩⟩
  · refine ⟨h1, .inr ⟨g, cap, cur, rfl, hg, h g _ hh (fun e1 => ?_) (fun c fz e1 => ?_), r⟩⟩
    · obtain ⟨cs, hcs⟩ := hB.block
      simp only [Option.some.injEq] at e1
      subst e1
      rw [hh] at hcs
      simp only [Option.some.injEq, Obj.cells.injEq] at hcs
      exact he' hcs.2.1
    · simp only [Obj.cells.injEq] at e1
      exact he e1.2.1

theorem strCells_add (a b : ByteArray) : Lib.strCells (a ++ b) = Lib.strCells a ++ Lib.strCells b := by
  unfold Lib.strCells
  rw [ByteArray.data_append, Array.toList_append, List.map_append]

theorem buWrite_c (B b : Nat) (t s : ByteArray) (w : World) (h : Bu B b t w) (hlen : t.size + s.size ≤ 140737488355328) (hBw : B ≤ w.heap.size) :
    Calls Tryz.prog 119 #[.pointer (some ⟨b, 0, none⟩), .string s] w fun e w' => e = .returned (.tuple #[.int .i64 s.size, .nilIface]) ∧ Bu B b (t ++ s) w' ∧ Below B w w' ∧ BuK b w w' := by
  refine (Any.Builder_WriteString_k laysBu166 exBu B b (Lib.strCells t) s w h (by rw [Lib.strCells_length]; exact hlen) hBw).mono ?_
  rintro e w' ⟨rfl, h1, h2, h3⟩
  refine ⟨rfl, ?_, h2, h3⟩
  unfold Bu
  rw [strCells_add]
  exact .inr h1

theorem buString_c (B b : Nat) (t : ByteArray) (w : World) (h : Bu B b t w) (hBw : B ≤ w.heap.size) :
    Calls Tryz.prog 123 #[.pointer (some ⟨b, 0, none⟩)] w fun e w' => e = .returned (.string t) ∧ Below B w w' := by
  have h' : Lib.IsBuilderF 167 5 B b (Lib.byteCells t.data.toList) w := by
    have := h
    unfold Bu at this
    rw [Lib.strCells_eq] at this
    exact this
  refine (Any.Builder_String_any_k laysBu169 exBu B b t.data.toList w h' hBw).mono ?_
  rintro e w' ⟨rfl, _, h2, _⟩
  exact ⟨rfl, h2⟩

theorem bu_fresh (w : World) : Bu w.heap.size w.heap.size ⟨#[]⟩ (w.alloc (.cells #[.pointer none, .slice none 0 0] 167)) := Lib.IsBuilderF.of (Lib.fresh_isBuilder _ _ w)

end Go.Proofs.YtoecakjjondeeaaGreat

/- WalText of the program. -/
namespace Go.Proofs.YtoecakjjondeeaaGreat
open Go.RowKit
set_option linter.unusedVariables false
set_option linter.unusedSimpArgs false

theorem wpList_append_toW {P : Program} {ops : Array Oper} {rest : List Oper} {op : Oper} {a : Act} {w : World} {Q : Exit → Act → World → Prop} (hgd : op.guard = none) (s y : Operand) (t : TypeId)
    (ho : op.op = .call { callee := .builtin .append, args := #[s, y], argTypes := #[t, t] }) (v u : Value) (hs : a.eval s = v) (hx : a.eval y = u) (v' : Value) (w' : World)
    (hrun : (Builtin.append_ #[t, t] op.type #[v, u]).run P w = .ok v' w') (h : wpList P ops Q rest (a.put op.dst v') w') : wpList P ops Q (op :: rest) a w := by
  refine wpList_plain hgd fun K hK => ?_
  unfold Oper.wp execOp
  simp only [ho, resolve, invoke, builtin, Sem.run_bind, Sem.run_pure, Result.andThen_ok, List.map_toArray, List.map_cons, List.map_nil, hs, hx, hrun]
  exact hK _ _ h

theorem ba_nil_add (a : ByteArray) : (⟨#[]⟩ : ByteArray) ++ a = a := by
  cases a with | mk d => rw [ByteArray.mk_append_mk]; simp

/-- The frames of records, one behind the other. -/
def accR (L : List S_Rec) : ByteArray := L.foldl (fun t r => t ++ frR r) ⟨#[]⟩

theorem accR_snoc (L : List S_Rec) (r : S_Rec) : accR (L ++ [r]) = accR L ++ frR r := by unfold accR; rw [List.foldl_append]; rfl

theorem accR_take (L : List S_Rec) (j : Nat) (hj : j < L.length) : accR (L.take (j + 1)) = accR (L.take j) ++ frR L[j] := by
  rw [List.take_succ_eq_append_getElem hj, accR_snoc]

def allR (x : S_Wal) (n : Nat) : List S_Rec := [bsRec x, hdRec x] ++ recP x 0 n

theorem accR_all (x : S_Wal) : ∀ n, accR (allR x n) = walP x n
  | 0 => by show (⟨#[]⟩ ++ frR (bsRec x)) ++ frR (hdRec x) = frR (bsRec x) ++ frR (hdRec x); rw [ba_nil_add]
  | n + 1 => by
    show accR ([bsRec x, hdRec x] ++ (recP x 0 n ++ [enRec x (0 + n)])) = walP x n ++ frR (enRec x n)
    rw [← List.append_assoc, accR_snoc, Nat.zero_add]
    rw [show accR ([bsRec x, hdRec x] ++ recP x 0 n) = walP x n from accR_all x n]

theorem recP_ok {x : S_Wal} (h : okW x) (bt : Nat) : ∀ j, bt + j ≤ x.f4.length → ∀ r ∈ recP x bt j, okR r
  | 0, _, r, hr => by cases hr
  | j + 1, hj, r, hr => by
    rcases List.mem_append.1 hr with hr | hr
    · exact recP_ok h bt j (by omega) r hr
    · rw [List.mem_singleton.1 hr, en_at (by omega)]
      exact okR_en h (by omega)

theorem allR_ok {x : S_Wal} (h : okW x) : ∀ r ∈ allR x x.f4.length, okR r := by
  intro r hr
  rcases List.mem_append.1 hr with hr | hr
  · rcases List.mem_cons.1 hr with rfl | hr
    · exact okR_bs h
    · rw [List.mem_singleton.1 hr]; exact okR_hd h
  · exact recP_ok h 0 _ (by omega) r hr

theorem allR_len (x : S_Wal) (n : Nat) : (allR x n).length = 2 + n := by unfold allR; rw [List.length_append, recP_len]; rfl

theorem accR_small (L : List S_Rec) (h : ∀ r ∈ L, okR r) : ∀ j, j ≤ L.length → (accR (L.take j)).size ≤ 918 * j
  | 0, _ => by rw [List.take_zero]; exact Nat.le_refl _
  | j + 1, hj => by
    have a := accR_small L h j (by omega)
    have b := frR_size (h _ (List.getElem_mem (show j < L.length by omega)))
    rw [accR_take L j (by omega), ByteArray.size_append]
    omega

theorem run_nilRecd (w : World) (g : Nat) : (Builtin.append_ #[164, 164] 164 #[.slice (some ⟨g, 0, none⟩) 2 2, .slice none 0 0]).run Tryz.prog w = .ok (.slice (some ⟨g, 0, none⟩) 2 2) w := by kernel_rfl

theorem app_recs (w : World) (b1 b2 g n : Nat) (v : Value) (xs ys : List Value) (h1 : w.ownsRow b1 170 1 (.slice (some ⟨g, 0, none⟩) 2 2) 2 xs) (h2 : w.ownsRow b2 170 1 v n ys) (hy : ∀ u ∈ ys, u.oneCell' = true) (hn : n ≤ 1048576) (hb : b1 ≤ w.heap.size) :
    ∃ v' w', (Builtin.append_ #[164, 164] 164 #[.slice (some ⟨g, 0, none⟩) 2 2, v]).run Tryz.prog w = .ok v' w' ∧ w'.ownsRow b1 170 1 v' (2 + n) (xs ++ ys) ∧ w.grownBy w' (some g) := by
  obtain ⟨iR, hiR, hR0, hR1, hR2⟩ := info_parts infoRecd
  have h2' := h2
  obtain ⟨hl, ⟨rfl, rfl⟩ | ⟨g2, cap, cur, rfl, hg, hh, _⟩⟩ := h2
  · have e : ys = [] := List.eq_nil_of_length_eq_zero (by omega)
    subst e
    exact ⟨_, _, run_nilRecd w g, by rw [List.append_nil]; exact h1, ⟨rfl, rfl, rfl, Nat.le_refl _, fun _ _ _ => rfl⟩⟩
  · obtain ⟨v', w', hrun, ho, hgr, _⟩ := run_append_own (P := Tryz.prog) w b1 164 164 170 iR .nilIface 1 16 Tryz.underlying164 hiR hR0 hR1 hR2 rfl (by decide) _ _ _ h1 ⟨g2, 0, none⟩ n cap ys (by simpa using hl) (fun j u hj => by
      rw [Addr.add_mid, Nat.zero_add]
      have hjl : j < n * 1 := by
        rw [← hl]
        exact (List.getElem?_eq_some_iff.1 hj).1
      rw [h2'.cellAt j hjl]
      exact hj) hy (by unfold maxLen; omega) (by omega) hb
    exact ⟨v', w', hrun, ho, hgr⟩

theorem recV_one (r : S_Rec) : (recV r).oneCell' = true := by
  unfold recV
  split
  · rfl
  · split
    · rfl
    · split
      · rfl
      · split <;> rfl

theorem cutR_id {r : S_Rec} (h : okR r) : cutR r = r := sameR_eq ((okR_iff r).1 h).2

theorem tellOk_c (r : S_Rec) (w : World) (h : okR r) : Calls Tryz.prog 122 #[recV r] w fun e w' => e = .returned (.agg #[.int .i64 r.f0, .int .i64 r.f1, .int .i64 r.f2, .int .i64 r.f3, .string r.f4]) ∧ Below w.heap.size w w' := by
  have := tellRec_c r w (by have := okR_data h; omega)
  rw [cutR_id h] at this
  exact this

set_option maxRecDepth 20000 in
set_option maxHeartbeats 4000000 in
theorem implWalText_c (x : S_Wal) (p : Option Addr) (cap : Nat) (w : World) (hn : x.f4.length ≤ 1048576) (hs : ∀ y ∈ x.f4, sEntry y) (hr : RowR w (.slice p x.f4.length cap) x.f4.length 2 (rEntry x.f4)) :
    Calls Tryz.prog 65 #[.agg #[.int .i64 x.f0, .int .i64 x.f1, .int .i64 x.f2, .int .i64 x.f3, .slice p x.f4.length cap]] w fun e w' => e = .returned (.string (walT x)) ∧ Below w.heap.size w w' := by
  obtain ⟨W0, hW0⟩ : ∃ W, W = (w.alloc (.cells #[.int .i64 x.f0, .int .i64 x.f1, .int .i64 x.f2, .int .i64 x.f3, .slice p x.f4.length cap] 60)) := ⟨_, rfl⟩
  have HW0 : Hid ((w.alloc (.cells #[.int .i64 x.f0, .int .i64 x.f1, .int .i64 x.f2, .int .i64 x.f3, .slice p x.f4.length cap] 60)) = W0) := hW0.symm
  have HZ0 : Hid (W0.heap.size = w.heap.size + 1) := by show _ = _; rw [hW0]; simp
  have HB0 : Hid (Below w.heap.size w W0) := by rw [hW0]; exact (Below.refl _ _).alloc (Nat.le_refl _) _
  have HX : Hid (∀ W', Below W0.heap.size W0 W' → W'.cell? ⟨w.heap.size, 0, none⟩ = some (.int .i64 x.f0) ∧ W'.cell? ⟨w.heap.size, 1, none⟩ = some (.int .i64 x.f1) ∧ W'.cell? ⟨w.heap.size, 2, none⟩ = some (.int .i64 x.f2) ∧ W'.cell? ⟨w.heap.size, 3, none⟩ = some (.int .i64 x.f3) ∧ W'.cell? ⟨w.heap.size, 4, none⟩ = some (.slice p x.f4.length cap)) := fun W' hW => by
    have hk : W'.heap[w.heap.size]? = some (.cells #[.int .i64 x.f0, .int .i64 x.f1, .int .i64 x.f2, .int .i64 x.f3, .slice p x.f4.length cap] 60) := by rw [hW.block _ (by rw [HZ0.out]; exact Nat.lt_succ_self _), hW0]; exact alloc_last _ _
    exact box5 hk
  have HS : Hid (∀ y ∈ x.f4, sEntry y) := hs
  have HR : Hid (RowR w (.slice p x.f4.length cap) x.f4.length 2 (rEntry x.f4)) := hr
  have HN : Hid (x.f4.length ≤ 1048576) := hn
  have hn' : (x.f4.length : Int) ≤ 1048576 := by omega
  obtain ⟨d0, d1, d2, d3, d4⟩ := HX.out W0 (Below.refl _ _)
  clear hs hr hW0
  go_enter Tryz.func65, Tryz.ntmps65
  go_wp2_with fail
  rw [HW0.out]
  refine (implWalOk_c x p cap W0 HN.out HS.out (RowR.keep HR.out HB0.out (Nat.le_refl _))).mono ?_
  rintro e w1 ⟨rfl, b1⟩
  have HB1 : Hid (Below W0.heap.size W0 w1) := b1
  have HE1 : Hid (Below w.heap.size w w1) := HB0.out.trans (b1.mono (by rw [HZ0.out]; omega))
  clear b1 d0 d1 d2 d3 d4
  by_cases hok : okW x
  rotate_left
  · have HF : Hid (walT x = ⟨#[]⟩) := by show _ = _; unfold walT; rw [if_neg hok]
    rw [decide_eq_false hok]
    go_wp2
    go_ret
    exact ⟨by rw [HF.out]; rfl, HE1.out⟩
  rw [decide_eq_true hok]
  have HOK : Hid (okW x) := hok
  have HWT : Hid (walT x = walP x x.f4.length) := by show _ = _; unfold walT; rw [if_pos hok]
  clear hok
  obtain ⟨d0, d1, d2, d3, d4⟩ := HX.out w1 HB1.out
  obtain ⟨WB, hWB⟩ : ∃ W, W = ((w1.alloc (.cells #[.iface 161 (.agg #[.int .i64 x.f3, .int .i64 x.f2]), .iface 163 (.agg #[.int .i64 x.f0, .int .i64 x.f1])] 170)).alloc (.cells #[.pointer none, .slice none 0 0] 167)) := ⟨_, rfl⟩
  have HWB : Hid (((w1.alloc (.cells #[.iface 161 (.agg #[.int .i64 x.f3, .int .i64 x.f2]), .iface 163 (.agg #[.int .i64 x.f0, .int .i64 x.f1])] 170)).alloc (.cells #[.pointer none, .slice none 0 0] 167)) = WB) := hWB.symm
  have HZB : Hid (WB.heap.size = w1.heap.size + 2) := by show _ = _; rw [hWB]; simp
  have HBB : Hid (Below w1.heap.size w1 WB) := by rw [hWB]; exact ((Below.refl _ _).alloc (Nat.le_refl _) _).alloc (by simp) _
  have HBu : Hid (Bu (w1.heap.size + 1) (w1.heap.size + 1) ⟨#[]⟩ WB) := by
    have := bu_fresh (w1.alloc (.cells #[.iface 161 (.agg #[.int .i64 x.f3, .int .i64 x.f2]), .iface 163 (.agg #[.int .i64 x.f0, .int .i64 x.f1])] 170))
    rw [World.size_alloc] at this
    rw [hWB]
    exact this
  have HRo : Hid (WB.ownsRow w1.heap.size 170 1 (.slice (some ⟨w1.heap.size, 0, none⟩) 2 2) 2 [recV (bsRec x), recV (hdRec x)]) := by
    rw [hWB]
    exact (World.ownsRow_lit (base := w1.heap.size) (e := 170) (size := 1) w1 #[.iface 161 (.agg #[.int .i64 x.f3, .int .i64 x.f2]), .iface 163 (.agg #[.int .i64 x.f0, .int .i64 x.f1])] 2 (Nat.le_refl _) (by decide) rfl).alloc _
  have HBW : Hid (Below W0.heap.size W0 WB) := HB1.out.trans (HBB.out.mono HB1.out.size)
  have xd : ∀ o : Nat, ((w1.alloc (.cells #[.iface 161 (.agg #[.int .i64 x.f3, .int .i64 x.f2]), .iface 163 (.agg #[.int .i64 x.f0, .int .i64 x.f1])] 170)).alloc (.cells #[.pointer none, .slice none 0 0] 167)).cell? ⟨w.heap.size, o, none⟩ = WB.cell? ⟨w.heap.size, o, none⟩ := fun o => by rw [hWB]
  clear hWB
  obtain ⟨g0, g1, g2, g3, g4⟩ := HX.out WB HBW.out
  go_wp2_with fail
  rw [HWB.out]
  have HWBR : Hid (RowR WB (.slice p x.f4.length cap) x.f4.length 2 (rEntry x.f4)) := RowR.keep HR.out (HB0.out.trans (HBW.out.mono HB0.out.size)) (Nat.le_refl _)
  have hER := entryRecs_c x p cap 0 WB HOK.out (Nat.zero_le _) HN.out HS.out HWBR.out
  refine Calls.mono hER ?_
  clear hER
  rintro e w2 ⟨v, rfl, hown, b2⟩
  rw [Nat.sub_zero] at hown
  have HO2 : Hid (w2.ownsRow WB.heap.size 170 1 v x.f4.length ((recP x 0 x.f4.length).map recV)) := hown
  have HRo2 : Hid (w2.ownsRow w1.heap.size 170 1 (.slice (some ⟨w1.heap.size, 0, none⟩) 2 2) 2 [recV (bsRec x), recV (hdRec x)]) := own_bel HRo.out b2 (Nat.le_refl _)
  have HBu2 : Hid (Bu (w1.heap.size + 1) (w1.heap.size + 1) ⟨#[]⟩ w2) := HBu.out.bel b2
  have HB2 : Hid (Below w1.heap.size w1 w2) := HBB.out.trans (b2.mono HBB.out.size)
  obtain ⟨v', w3, hrun, hown3, hgr⟩ := app_recs w2 w1.heap.size WB.heap.size w1.heap.size x.f4.length v _ _ HRo2.out HO2.out (fun u hu => by obtain ⟨r, _, rfl⟩ := List.mem_map.1 hu; exact recV_one r) HN.out HB2.out.size
  obtain ⟨R, hR⟩ : ∃ R, allR x x.f4.length = R := ⟨_, rfl⟩
  have HRL : Hid (R.length = 2 + x.f4.length) := by show _ = _; rw [← hR]; exact allR_len _ _
  have HRK : Hid (∀ r ∈ R, okR r) := by rw [← hR]; exact allR_ok HOK.out
  have HRW : Hid (accR R = walP x x.f4.length) := by show _ = _; rw [← hR]; exact accR_all _ _
  have HO3' : w3.ownsRow w1.heap.size 170 1 v' (2 + x.f4.length) (R.map recV) := by rw [← hR, allR, List.map_append]; exact hown3
  rw [← HRL.out] at HO3'
  have HO3 : Hid (w3.ownsRow w1.heap.size 170 1 v' R.length (R.map recV)) := HO3'
  have HBu3 : Hid (Bu (w1.heap.size + 1) (w1.heap.size + 1) ⟨#[]⟩ w3) := HBu2.out.keep fun k o ho hc => (hgr.block k (Array.getElem?_eq_some_iff.1 ho).1 (fun e1 => by
    simp only [Option.some.injEq] at e1
    subst e1
    rcases hc with hc | ⟨c, fz, rfl⟩
    · omega
    · obtain ⟨_, ⟨h, _⟩ | ⟨g, cap', cur, hv, _, hh, _⟩⟩ := HRo2.out
      · cases h
      · simp only [Value.slice.injEq, Option.some.injEq, Addr.mk.injEq] at hv
        rw [← hv.1.1, ho] at hh
        simp at hh)).trans ho
  have HB3 : Hid (Below w1.heap.size w1 w3) := HB2.out.grown hgr HB2.out.size (fun k hk => by simp only [Option.some.injEq] at hk; omega)
  have hRn : (R.length : Int) ≤ 1048578 := by have := HRL.out; have := HN.out; omega
  obtain ⟨g, c', hv'⟩ : ∃ g c', v' = .slice (some ⟨g, 0, none⟩) R.length c' := by
    obtain ⟨_, ⟨_, h⟩ | ⟨g, cap', cur, hv, _⟩⟩ := HO3'
    · have := HRL.out; omega
    · exact ⟨g, cap', hv⟩
  subst hv'
  clear hown b2 hown3 hgr HO3' hR HRo HBu HBB HBW xd d0 d1 d2 d3 d4 g0 g1 g2 g3 g4 HO2 HRo2 HBu2 HB2
  go_wp2_with (at_builtin; refine wpList_append_toW rfl _ _ 164 rfl _ _ rfl rfl _ _ hrun ?_)
  clear hrun
  go_loopw [28] (fun iv wr => ∃ j : Nat, j ≤ R.length ∧ iv = .int .i64 (j : Int) ∧ Hid (Bu (w1.heap.size + 1) (w1.heap.size + 1) (accR (R.take j)) wr) ∧ Hid (wr.ownsRow w1.heap.size 170 1 (.slice (some ⟨g, 0, none⟩) R.length c') R.length (R.map recV)) ∧ Hid (Below w1.heap.size w1 wr)) (fun iv _ => R.length - (intOf iv).toNat)
  case atStart => exact ⟨0, Nat.zero_le _, rfl, HBu3, HO3, HB3⟩
  case round =>
    obtain ⟨j, hj, rfl, HBu, HO, HBr⟩ := hrel
    by_cases hlt : j < R.length
    · have hlt' : (j : Int) < R.length := by omega
      have c0 : wr.cell? ⟨g, j, none⟩ = some (recV R[j]) := by
        rw [HO.out.cellAt j (by omega), List.getElem?_map, List.getElem?_eq_getElem hlt]
        rfl
      have HK : Hid (okR R[j]) := HRK.out _ (List.getElem_mem hlt)
      have HAT : Hid (accR (R.take (j + 1)) = accR (R.take j) ++ frR R[j]) := accR_take R j hlt
      have HAS : Hid ((accR (R.take j)).size ≤ 918 * j) := accR_small R HRK.out j hj
      generalize R[j] = r at c0 HK HAT
      go_wp2_with fail
      refine (tellOk_c r wr HK.out).mono ?_
      rintro e w4 ⟨rfl, b4⟩
      have HB4 : Hid (Below wr.heap.size wr w4) := b4
      clear b4 c0
      go_wp2_with fail
      refine (implShow_c r w4 (by have := okR_data HK.out; omega)).mono ?_
      rintro e w5 ⟨rfl, b5⟩
      have HB5 : Hid (Below wr.heap.size wr w5) := HB4.out.trans (b5.mono HB4.out.size)
      clear b5
      go_wp2_with fail
      refine (iframe_c r w5 HK.out).mono ?_
      rintro e w6 ⟨rfl, b6⟩
      have HB6 : Hid (Below wr.heap.size wr w6) := HB5.out.trans (b6.mono HB5.out.size)
      have HBu6 : Hid (Bu (w1.heap.size + 1) (w1.heap.size + 1) (accR (R.take j)) w6) := HBu.out.bel HB6.out
      have HO6 : Hid (w6.ownsRow w1.heap.size 170 1 (.slice (some ⟨g, 0, none⟩) R.length c') R.length (R.map recV)) := own_bel HO.out HB6.out (Nat.le_refl _)
      have HBr6 : Hid (Below w1.heap.size w1 w6) := HBr.out.trans (HB6.out.mono HBr.out.size)
      clear b6
      go_wp2_with fail
      refine (buWrite_c (w1.heap.size + 1) (w1.heap.size + 1) (accR (R.take j)) (frR r) w6 HBu6.out (by have a := HAS.out; have b := frR_size HK.out; omega) (by obtain ⟨cs, hcs⟩ := HBu6.out.block; have := lt_of_some hcs; omega)).mono ?_
      rintro e w7 ⟨rfl, hbu, b7, k7⟩
      have HBu7 : Hid (Bu (w1.heap.size + 1) (w1.heap.size + 1) (accR (R.take (j + 1))) w7) := by show Bu _ _ _ _; rw [HAT.out]; exact hbu
      have HO7 : Hid (w7.ownsRow w1.heap.size 170 1 (.slice (some ⟨g, 0, none⟩) R.length c') R.length (R.map recV)) := BuK.own k7 HBu6.out (by decide) (by decide) HO6.out
      have HBr7 : Hid (Below w1.heap.size w1 w7) := HBr6.out.trans (b7.mono (by omega))
      clear hbu b7 k7 HAT HAS
      go_wp2
      go_roundw
      case rel => exact ⟨j + 1, by omega, by go_num, HBu7, HO7, HBr7⟩
      case measure => simp [intOf]; omega
    · have hje : j = R.length := by omega
      subst hje
      have HBuE : Hid (Bu (w1.heap.size + 1) (w1.heap.size + 1) (walT x) wr) := by
        have := HBu.out
        rw [List.take_length, HRW.out, ← HWT.out] at this
        exact this
      go_wp2_with fail
      refine (buString_c (w1.heap.size + 1) (w1.heap.size + 1) (walT x) wr HBuE.out (by obtain ⟨cs, hcs⟩ := HBuE.out.block; have := lt_of_some hcs; omega)).mono ?_
      rintro e w8 ⟨rfl, b8⟩
      have HE8 : Hid (Below w.heap.size w w8) := HE1.out.trans ((HBr.out.trans (b8.mono (by omega))).mono HE1.out.size)
      clear b8
      go_wp2
      go_ret
      exact ⟨rfl, HE8.out⟩

end Go.Proofs.YtoecakjjondeeaaGreat

/- PlanLog of the program. -/
namespace Go.Proofs.YtoecakjjondeeaaGreat
open Go.RowKit
set_option linter.unusedVariables false
set_option linter.unusedSimpArgs false

theorem mnt_belP {B : Nat} {w w' : World} {m : Nat} {x : S_Disk} {bf bd bn : Nat} {vm : Value} {bs : List Nat} (h : Mnt B w m x bf bd bn vm bs) (hb : Below w.heap.size w w') : Mnt B w' m x bf bd bn vm bs := by
  have f : Fr (fun _ => False) w w' := (Fr.refl _ _).bel hb
  obtain ⟨hl, hF, hd, hn, hm, hv, r⟩ := h
  exact ⟨hl, hF.keep f (fun h => h) (fun _ _ h => h), f.map hd (fun h => h), f.map hn (fun h => h), f.at hm (fun h => h), own_bel hv hb (Nat.le_refl _), r⟩

set_option maxRecDepth 20000 in
set_option maxHeartbeats 4000000 in
theorem implPlg_c (x : S_Disk) (y : S_Wal) (L : List S_Step) (hb : Bnd x) (hn : y.f4.length ≤ 1048576) (hs : ∀ e ∈ y.f4, sEntry e) (hyes : okX x → okW y → L = anL (thB x (logB ++ newB)) logB (walT y)) (hno : ¬ (okX x ∧ okW y) → L = []) :
    ∀ (w : World) (p2 p3 p4 py : Option Addr) (c2 c3 c4 cy : Nat), RdDisk w x (.slice p2 x.f2.length c2) (.slice p3 x.f3.length c3) (.slice p4 x.f4.length c4) → x.f3.length ≤ c3 → x.f4.length ≤ c4 → (p4 = none → c4 = 0) → RdWal w y (.slice py y.f4.length cy) → Calls Tryz.prog 24 #[.agg #[.int .i64 x.f0, .int .i64 x.f1, .slice p2 x.f2.length c2, .slice p3 x.f3.length c3, .slice p4 x.f4.length c4], .agg #[.int .i64 y.f0, .int .i64 y.f1, .int .i64 y.f2, .int .i64 y.f3, .slice py y.f4.length cy]] w fun e w' => ∃ v, e = .returned v ∧ w'.ownsRow w.heap.size 39 4 v L.length (rStep L) ∧ Below w.heap.size w w' := by
  intro w p2 p3 p4 py c2 c3 c4 cy hr hc3 hc4 hp hy
  have HBN : Hid (Bnd x) := hb
  have HN : Hid (y.f4.length ≤ 1048576) := hn
  have HS : Hid (∀ e ∈ y.f4, sEntry e) := hs
  have HYES : Hid (okX x → okW y → L = anL (thB x (logB ++ newB)) logB (walT y)) := hyes
  have HNO : Hid (¬ (okX x ∧ okW y) → L = []) := hno
  have HC : Hid (x.f3.length ≤ c3 ∧ x.f4.length ≤ c4 ∧ (p4 = none → c4 = 0)) := ⟨hc3, hc4, hp⟩
  obtain ⟨W0, hW0⟩ : ∃ W, W = (w.alloc (.cells #[.int .i64 x.f0, .int .i64 x.f1, .slice p2 x.f2.length c2, .slice p3 x.f3.length c3, .slice p4 x.f4.length c4] 35)).alloc (.cells #[.int .i64 y.f0, .int .i64 y.f1, .int .i64 y.f2, .int .i64 y.f3, .slice py y.f4.length cy] 60) := ⟨_, rfl⟩
  have HW0 : Hid ((w.alloc (.cells #[.int .i64 x.f0, .int .i64 x.f1, .slice p2 x.f2.length c2, .slice p3 x.f3.length c3, .slice p4 x.f4.length c4] 35)).alloc (.cells #[.int .i64 y.f0, .int .i64 y.f1, .int .i64 y.f2, .int .i64 y.f3, .slice py y.f4.length cy] 60) = W0) := hW0.symm
  have HS0 : Hid (W0.heap.size = w.heap.size + 2) := by show _ = _; rw [hW0]; simp
  have HB0 : Hid (Below w.heap.size w W0) := by rw [hW0]; exact (((Below.refl _ _).alloc (Nat.le_refl _) _).alloc (by simp) _)
  have HKA : W0.heap[w.heap.size]? = some (.cells #[.int .i64 x.f0, .int .i64 x.f1, .slice p2 x.f2.length c2, .slice p3 x.f3.length c3, .slice p4 x.f4.length c4] 35) := by rw [hW0]; exact (Below.heap_alloc _ _ _ (by simp)).trans (alloc_at w _)
  have HKB : W0.heap[w.heap.size + 1]? = some (.cells #[.int .i64 y.f0, .int .i64 y.f1, .int .i64 y.f2, .int .i64 y.f3, .slice py y.f4.length cy] 60) := by rw [hW0]; have h := alloc_at (w.alloc (.cells #[.int .i64 x.f0, .int .i64 x.f1, .slice p2 x.f2.length c2, .slice p3 x.f3.length c3, .slice p4 x.f4.length c4] 35)) (.cells #[.int .i64 y.f0, .int .i64 y.f1, .int .i64 y.f2, .int .i64 y.f3, .slice py y.f4.length cy] 60); simpa using h
  have HBA : Hid (∀ W', Below W0.heap.size W0 W' → W'.heap[w.heap.size]? = some (.cells #[.int .i64 x.f0, .int .i64 x.f1, .slice p2 x.f2.length c2, .slice p3 x.f3.length c3, .slice p4 x.f4.length c4] 35)) := fun W' hb => (hb.block _ (by rw [HS0.out]; omega)).trans HKA
  have HBB : Hid (∀ W', Below W0.heap.size W0 W' → W'.heap[w.heap.size + 1]? = some (.cells #[.int .i64 y.f0, .int .i64 y.f1, .int .i64 y.f2, .int .i64 y.f3, .slice py y.f4.length cy] 60)) := fun W' hb => (hb.block _ (by rw [HS0.out]; omega)).trans HKB
  have HRD : Hid (∀ W', Below W0.heap.size W0 W' → RdDisk W' x (.slice p2 x.f2.length c2) (.slice p3 x.f3.length c3) (.slice p4 x.f4.length c4)) := fun W' hbel => (hr.keep HB0.out (Nat.le_refl _)).keep hbel (Nat.le_refl _)
  have HRY : Hid (∀ W', Below W0.heap.size W0 W' → RowR W' (.slice py y.f4.length cy) y.f4.length 2 (rEntry y.f4)) := fun W' hbel => RdWal.keep (RdWal.keep hy HB0.out (Nat.le_refl _)) hbel (Nat.le_refl _)
  have HDN : Hid (∀ W', Below W0.heap.size W0 W' → Below w.heap.size w W') := fun W' hbel => HB0.out.trans (hbel.mono (by rw [HS0.out]; omega))
  have HLOW : Hid (w.heap.size ≤ W0.heap.size) := by show _ ≤ _; rw [HS0.out]; omega
  clear hW0 hr hy hb hn hs hyes hno hc3 hc4 hp HKA HKB
  obtain ⟨e0, e1, e2, e3, e4⟩ := box5 (HBA.out W0 (Below.refl _ _))
  go_enter Tryz.func24, Tryz.ntmps24
  go_wp2_with fail
  rw [HW0.out]
  refine (mount_c x p2 p3 p4 c2 c3 c4 W0 HBN.out (HRD.out W0 (Below.refl _ _)) HC.out.2.2).mono ?_
  rintro e w1 (⟨hok, ⟨m, bf, bd, bn, vm, bs, rfl, hM⟩, b1⟩ | ⟨hok, rfl, b1⟩)
  rotate_left
  · have HC1 : Hid (Below W0.heap.size W0 w1) := b1
    clear e0 e1 e2 e3 e4 b1
    have HLE : Hid (L = []) := HNO.out (fun h => hok h.1)
    have HF : Hid (w1.ownsRow w.heap.size 39 4 (.slice none 0 0) L.length (rStep L)) := by
      rw [HLE.out]
      exact World.ownsRow_nil _ _ _ _
    clear HNO HYES
    go_wp2
    go_ret
    exact ⟨_, rfl, HF.out, HDN.out _ HC1.out⟩
  have HC1 : Hid (Below W0.heap.size W0 w1) := b1
  have HOK : Hid (okX x) := hok
  have HM1 : Hid (Mnt W0.heap.size w1 m x bf bd bn vm bs) := hM
  clear e0 e1 e2 e3 e4 b1 hok hM
  obtain ⟨d0, d1, d2, d3, d4⟩ := box5 (HBB.out w1 HC1.out)
  go_wp2_with fail
  refine (implWalOk_c y py cy w1 HN.out HS.out (HRY.out w1 HC1.out)).mono ?_
  rintro e w2 ⟨rfl, b2⟩
  have HC2 : Hid (Below W0.heap.size W0 w2) := HC1.out.trans (b2.mono HC1.out.size)
  clear d0 d1 d2 d3 d4
  have HM2 : Hid (Mnt W0.heap.size w2 m x bf bd bn vm bs) := mnt_belP HM1.out b2
  clear b2
  by_cases hw : okW y
  rotate_left
  · rw [decide_eq_false hw]
    have HLE : Hid (L = []) := HNO.out (fun h => hw h.2)
    have HF : Hid (w2.ownsRow w.heap.size 39 4 (.slice none 0 0) L.length (rStep L)) := by
      rw [HLE.out]
      exact World.ownsRow_nil _ _ _ _
    clear HNO HYES
    go_wp2
    go_ret
    exact ⟨_, rfl, HF.out, HDN.out _ HC2.out⟩
  rw [decide_eq_true hw]
  have HLE : Hid (L = anL (thB x (logB ++ newB)) logB (walT y)) := HYES.out HOK.out hw
  clear hw HNO HYES
  obtain ⟨d0, d1, d2, d3, d4⟩ := box5 (HBB.out w2 HC2.out)
  go_wp2_with fail
  refine (implWalText_c y py cy w2 HN.out HS.out (HRY.out w2 HC2.out)).mono ?_
  rintro e w3 ⟨rfl, b3⟩
  have HC3 : Hid (Below W0.heap.size W0 w3) := HC2.out.trans (b3.mono HC2.out.size)
  have HM3 : Hid (Mnt W0.heap.size w3 m x bf bd bn vm bs) := mnt_belP HM2.out b3
  clear b3 d0 d1 d2 d3 d4
  generalize walT y = T at HLE ⊢
  go_wp2_with fail
  refine (putFile_c x W0.heap.size m bf bd bn vm bs logB T w3 HOK.out HM3.out (by decide)).mono ?_
  rintro e w9 ⟨u, rfl, ho, b9⟩
  have HF : Hid (w9.ownsRow w.heap.size 39 4 u L.length (rStep L)) := by
    show World.ownsRow _ _ _ _ _ _ _
    rw [HLE.out]
    exact own_low ho (Nat.le_trans HLOW.out HC3.out.size)
  have HBF : Hid (Below w.heap.size w w9) := HDN.out _ (HC3.out.trans (b9.mono HC3.out.size))
  clear ho b9
  go_wp2
  go_ret
  exact ⟨_, rfl, HF.out, HBF.out⟩

end Go.Proofs.YtoecakjjondeeaaGreat

/- What scalars take. -/
namespace Go.Proofs.YtoecakjjondeeaaGreat
open Go.RowKit Go.ChangeShapes Go.WideShapes
set_option linter.unusedVariables false

theorem cells_intC : Tryz.prog.cellsOf 3 = 1 := by kernel_rfl

theorem cells_stringC : Tryz.prog.cellsOf 9 = 1 := by kernel_rfl

end Go.Proofs.YtoecakjjondeeaaGreat

/- What a Wal that came in gives a walk. -/
namespace Go.Proofs.YtoecakjjondeeaaGreat
open Go.RowKit Go.ChangeShapes Go.WideShapes
set_option linter.unusedVariables false

/-- Its numbers are in range. -/
def gEntry (x : S_Entry) : Prop := (Lit.int .i64 x.f0).wf = true

theorem cellsEntry : Tryz.prog.cellsOf 149 = 2 := by kernel_rfl

set_option maxRecDepth 20000 in
theorem opEntry {H : Type} {enc : TypeId × Value → H} {W : World} {base : Nat} {sp : Nat → Bool} {held : Bool} {fuel : Nat} {cs : List Value} {x : DataW H × List MemPlace}
    (h : DataW.trod enc Tryz.prog W base sp held fuel 149 cs = some x) : ∃ y : S_Entry, cs = cEntry y ∧ sEntry y ∧ gEntry y := by
  obtain ⟨xs, m, _, _, hl, hlen, hf⟩ := DataW.trod_struct Tryz.underlying149 h
  rw [cellsEntry] at hl
  match cs, hl with
  | [v0, v1], _ =>
    have h0 : DataW.trod enc Tryz.prog W base sp held m 3 (([v0, v1].drop 0).take (Tryz.prog.cellsOf 3)) = xs[0]? := hf 0 _ rfl
    obtain ⟨y0, hy0⟩ : ∃ y, xs[0]? = some y := ⟨_, List.getElem?_eq_getElem (by rw [hlen]; decide)⟩
    rw [cells_intC, hy0] at h0
    have h1 : DataW.trod enc Tryz.prog W base sp held m 9 (([v0, v1].drop 1).take (Tryz.prog.cellsOf 9)) = xs[1]? := hf 1 _ rfl
    obtain ⟨y1, hy1⟩ : ∃ y, xs[1]? = some y := ⟨_, List.getElem?_eq_getElem (by rw [hlen]; decide)⟩
    rw [cells_stringC, hy1] at h1
    obtain ⟨a0, e0, _, w0⟩ := DataW.trod_int (cs := [v0]) Tryz.underlying3 h0
    simp only [List.cons.injEq, and_true] at e0
    subst e0
    obtain ⟨a1, e1, _, w1⟩ := DataW.trod_string (cs := [v1]) Tryz.underlying9 h1
    simp only [List.cons.injEq, and_true] at e1
    subst e1
    exact ⟨⟨a0, a1⟩, rfl, w1, w0⟩

set_option maxRecDepth 20000 in
theorem opEntryS {H : Type} {enc : TypeId × Value → H} {W : World} {base : Nat} {sp : Nat → Bool} {held : Bool} {fuel : Nat} {cs : List Value} {x : DataW H × List MemPlace}
    (h : DataW.trod enc Tryz.prog W base sp held fuel 53 cs = some x) : ∃ v L, cs = [v] ∧ RowR W v (List.length L) 2 (rEntry L) ∧ List.length L ≤ maxLen ∧ ∀ y ∈ L, sEntry y ∧ gEntry y := by
  rcases Deep.open_slice Tryz.underlying53 h with ⟨rfl, _⟩ | ⟨a, len, cap, m, k, D, Pl, rfl, _, hl, hm, hmm, _, hx⟩
  · exact ⟨_, [], rfl, ⟨rfl, none, 0, rfl, fun j hj => by simp at hj⟩, Nat.zero_le _, fun y hy => by simp at hy⟩
  · have hlm : len ≤ m := by rw [hmm]; split <;> omega
    haveI : Inhabited S_Entry := ⟨⟨0, ⟨#[]⟩⟩⟩
    have each : ∀ i, i < len → ∃ y : S_Entry, (sEntry y ∧ gEntry y) ∧ ∀ q, q < 2 → W.cell? (a.add (i * 2 + q)) = (cEntry y)[q]? := fun i hi => by
      obtain ⟨cs', h1, h2⟩ := hx i (by omega)
      rw [cellsEntry] at h1
      obtain ⟨_, hlen, hcell⟩ := World.cells?_some h1
      obtain ⟨y, rfl, hs, hg⟩ := opEntry h2
      refine ⟨y, ⟨hs, hg⟩, fun q hq => ?_⟩
      have := hcell q hq
      rwa [Deep.add_add] at this
    obtain ⟨f, hfy⟩ := Deep.choose_lt each
    refine ⟨_, (List.range len).map f, rfl, ?_, by simp; omega, fun y hy => ?_⟩
    · rw [List.length_map, List.length_range]
      refine ⟨by rw [rEntry_len, List.length_map, List.length_range], some a, cap, rfl, fun j hj => ?_⟩
      have hjn : j / 2 < len := Nat.div_lt_of_lt_mul (by rw [Nat.mul_comm]; exact hj)
      have hq : j % 2 < 2 := Nat.mod_lt _ (by decide)
      have hje : j / 2 * 2 + j % 2 = j := by rw [Nat.mul_comm]; exact Nat.div_add_mod j 2
      have hc := (hfy (j / 2) hjn).2 (j % 2) hq
      have hr : (rEntry ((List.range len).map f))[j]? = (cEntry (f (j / 2)))[j % 2]? := by
        have := flat_at cEntry 2 cEntry_len ((List.range len).map f) (j / 2) (j % 2) (by simpa using hjn) hq
        rw [hje] at this
        unfold rEntry
        simpa using this
      rw [hje] at hc
      obtain ⟨b, off, spot⟩ := a
      obtain ⟨u, hu⟩ : ∃ u, (cEntry (f (j / 2)))[j % 2]? = some u := ⟨_, List.getElem?_eq_getElem (by rw [cEntry_len]; exact hq)⟩
      have hc0 := (hfy 0 (by omega)).2 0 (by decide)
      obtain ⟨u0, hu0⟩ : ∃ u, (cEntry (f 0))[0]? = some u := ⟨_, List.getElem?_eq_getElem (by rw [cEntry_len]; decide)⟩
      have hspot : spot = none := by
        rw [hu0] at hc0
        simpa [Addr.add] using World.cell?_spot hc0
      subst hspot
      have hplain : (⟨b, off, none⟩ : Addr).add j = ⟨b, off + j, none⟩ := by unfold Addr.add; split <;> simp_all
      rw [hplain] at hc
      exact ⟨b, off, rfl, World.block_lt_of_cell? W _ (hc.trans hu), by rw [hc, hr]⟩
    · obtain ⟨i, hi, rfl⟩ := List.mem_map.1 hy
      exact (hfy i (by simpa using hi)).1

/-- Its numbers are in range. -/
def gWal (x : S_Wal) : Prop := (Lit.int .i64 x.f0).wf = true ∧ (Lit.int .i64 x.f1).wf = true ∧ (Lit.int .i64 x.f2).wf = true ∧ (Lit.int .i64 x.f3).wf = true ∧ (∀ y ∈ x.f4, gEntry y)

theorem cellsWal : Tryz.prog.cellsOf 55 = 5 := by kernel_rfl

theorem cellsEntryR : Tryz.prog.cellsOf 53 = 1 := by kernel_rfl

set_option maxRecDepth 20000 in
theorem opWal {H : Type} {enc : TypeId × Value → H} {W : World} {base b0 : Nat} {sp : Nat → Bool} {held : Bool} {r : Reach} {v : Value} {d : DataW H} {p : List MemPlace}
    (hv : Value.okWide Tryz.prog W r b0 55 v) (h : DataW.Trod enc Tryz.prog W base sp held 55 v d p) :
    ∃ (x : S_Wal) (v4 : Value), v = .agg #[.int .i64 x.f0, .int .i64 x.f1, .int .i64 x.f2, .int .i64 x.f3, v4] ∧ RdWal W x v4 ∧ SmWal x ∧ gWal x := by
  obtain ⟨cs, rfl, hsz⟩ := okWide_struct Tryz.underlying55 hv
  rw [cellsWal] at hsz
  obtain ⟨fuel, hf0⟩ := h
  obtain ⟨xs, m, _, _, hl, hlen, hf⟩ := DataW.trod_struct Tryz.underlying55 hf0
  obtain ⟨l⟩ := cs
  match l, hsz with
  | [v0, v1, v2, v3, v4], _ =>
    have h0 : DataW.trod enc Tryz.prog W base sp held m 3 (([v0, v1, v2, v3, v4].drop 0).take (Tryz.prog.cellsOf 3)) = xs[0]? := hf 0 _ rfl
    obtain ⟨y0, hy0⟩ : ∃ y, xs[0]? = some y := ⟨_, List.getElem?_eq_getElem (by rw [hlen]; decide)⟩
    rw [cells_intC, hy0] at h0
    have h1 : DataW.trod enc Tryz.prog W base sp held m 3 (([v0, v1, v2, v3, v4].drop 1).take (Tryz.prog.cellsOf 3)) = xs[1]? := hf 1 _ rfl
    obtain ⟨y1, hy1⟩ : ∃ y, xs[1]? = some y := ⟨_, List.getElem?_eq_getElem (by rw [hlen]; decide)⟩
    rw [cells_intC, hy1] at h1
    have h2 : DataW.trod enc Tryz.prog W base sp held m 3 (([v0, v1, v2, v3, v4].drop 2).take (Tryz.prog.cellsOf 3)) = xs[2]? := hf 2 _ rfl
    obtain ⟨y2, hy2⟩ : ∃ y, xs[2]? = some y := ⟨_, List.getElem?_eq_getElem (by rw [hlen]; decide)⟩
    rw [cells_intC, hy2] at h2
    have h3 : DataW.trod enc Tryz.prog W base sp held m 3 (([v0, v1, v2, v3, v4].drop 3).take (Tryz.prog.cellsOf 3)) = xs[3]? := hf 3 _ rfl
    obtain ⟨y3, hy3⟩ : ∃ y, xs[3]? = some y := ⟨_, List.getElem?_eq_getElem (by rw [hlen]; decide)⟩
    rw [cells_intC, hy3] at h3
    have h4 : DataW.trod enc Tryz.prog W base sp held m 53 (([v0, v1, v2, v3, v4].drop 4).take (Tryz.prog.cellsOf 53)) = xs[4]? := hf 4 _ rfl
    obtain ⟨y4, hy4⟩ : ∃ y, xs[4]? = some y := ⟨_, List.getElem?_eq_getElem (by rw [hlen]; decide)⟩
    rw [cellsEntryR, hy4] at h4
    obtain ⟨a0, e0, _, w0⟩ := DataW.trod_int (cs := [v0]) Tryz.underlying3 h0
    simp only [List.cons.injEq, and_true] at e0
    subst e0
    obtain ⟨a1, e1, _, w1⟩ := DataW.trod_int (cs := [v1]) Tryz.underlying3 h1
    simp only [List.cons.injEq, and_true] at e1
    subst e1
    obtain ⟨a2, e2, _, w2⟩ := DataW.trod_int (cs := [v2]) Tryz.underlying3 h2
    simp only [List.cons.injEq, and_true] at e2
    subst e2
    obtain ⟨a3, e3, _, w3⟩ := DataW.trod_int (cs := [v3]) Tryz.underlying3 h3
    simp only [List.cons.injEq, and_true] at e3
    subst e3
    obtain ⟨a4, L4, e4, r4, n4, s4⟩ := opEntryS (cs := [v4]) h4
    simp only [List.cons.injEq, and_true] at e4
    subst e4
    exact ⟨⟨a0, a1, a2, a3, L4⟩, _, rfl, r4, ⟨n4, fun y hy => (s4 y hy).1⟩, ⟨w0, w1, w2, w3, fun y hy => (s4 y hy).2⟩⟩

end Go.Proofs.YtoecakjjondeeaaGreat
