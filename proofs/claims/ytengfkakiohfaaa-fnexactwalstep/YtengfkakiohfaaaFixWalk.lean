/- The walks of the two that tell a number in so many bytes, the highest first. -/
import Derived.Test.YtengfkakiohfaaaOwnLaws
import Derived.Test.YtengfkakiohfaaaFixMath
import Derived.OpenShut
namespace Go.Proofs.Ytengfkakiohfaaa
open Go.RowKit
set_option linter.unusedVariables false

theorem add_be (n : Int) (k : Nat) (hk : k ≤ 7) : ∀ w, (Op.stringOp .add (strOfNums [fq n k % 256]) (strOfNums (beL n k))).run Try.prog w = .ok (.string (strOfNums (beL n (k + 1)))) w := fun w =>
  run_add_nums [fq n k % 256] (beL n k) (by rw [beL_length]; simp; omega) w

theorem be_cell (n : Int) (W k : Nat) (h : k < W) : ((List.replicate (W - k) 0 ++ beL n k).map (Value.int .u8))[W - 1 - k]? = some (.int .u8 0) := by
  rw [List.map_append, List.getElem?_append_left (by simp; omega), List.map_replicate, List.getElem?_replicate_of_lt (by omega)]

end Go.Proofs.Ytengfkakiohfaaa
