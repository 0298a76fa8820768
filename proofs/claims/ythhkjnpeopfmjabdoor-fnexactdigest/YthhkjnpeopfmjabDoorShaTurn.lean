/- The walks of the two that turn a word to the right. -/
import Derived.Test.YthhkjnpeopfmjabDoorRows
import Derived.Test.YthhkjnpeopfmjabDoorShaMath
import Derived.WalkKit
import Derived.WalkSpells
import Derived.WalkLawsBesides
namespace Go.Proofs.YthhkjnpeopfmjabDoor
open Go.RowKit
set_option linter.unusedVariables false

theorem turn_any (x m : Int) (n : Nat) (w : World) (hm : m = n) (h0 : 0 ≤ x) (h1 : x ≤ 4294967295) (hn1 : 1 ≤ n) (hn2 : n ≤ 31) :
    Calls Tryd.prog 34 #[.int .u32 x, .int .i64 m] w fun e w' => e = .returned (.int .u32 (rt x n)) ∧ w' = w := by
  subst hm
  go_enter Tryd.func34, Tryd.ntmps34
  go_wp2
  go_ret
  exact ⟨rfl, rfl⟩

theorem and_31 (n : Nat) (hn1 : 1 ≤ n) (hn2 : n ≤ 31) : bits .and .u64 (IntKind.u64.wrap (-(n : Int))) 31 = 32 - (n : Int) := by
  have e : IntKind.u64.wrap (-(n : Int)) = 18446744073709551616 - (n : Int) := by rw [IntKind.wrap_u64]; omega
  rw [e, u64_and _ _ (by omega) (by omega) (by omega) (by omega)]
  have h := Nat.and_two_pow_sub_one_eq_mod (18446744073709551616 - (n : Int)).toNat 5
  have e2 : (2 : Nat) ^ 5 - 1 = (31 : Int).toNat := by decide
  rw [e2] at h
  rw [h]
  have e3 : (2 : Nat) ^ 5 = 32 := by decide
  omega

theorem rot_any (x m : Int) (n : Nat) (w : World) (hm : m = -(n : Int)) (h0 : 0 ≤ x) (h1 : x ≤ 4294967295) (hn1 : 1 ≤ n) (hn2 : n ≤ 31) :
    Calls Tryd.prog 43 #[.int .u32 x, .int .i64 m] w fun e w' => e = .returned (.int .u32 (rt x n)) ∧ w' = w := by
  subst hm
  have h31 := and_31 n hn1 hn2
  have HO : Hid (bits .or .u32 (x * 2 ^ (32 - n) % 4294967296) (x / 2 ^ (32 - (32 - n))) = rt x n) := by
    show bits .or .u32 (x * 2 ^ (32 - n) % 4294967296) (x / 2 ^ (32 - (32 - n))) = rt x n
    rw [show 32 - (32 - n) = n by omega]; exact or_comm32 _ _
  go_enter Tryd.func43, Tryd.ntmps43
  go_wp2
  go_ret
  refine ⟨?_, rfl⟩
  rw [← HO.out]
  rfl

end Go.Proofs.YthhkjnpeopfmjabDoor
