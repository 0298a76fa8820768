/- The walks of the two that tell a frame, and of the law over them. -/
import Derived.Test.YtengfkakiohfaaaCrcWalk
import Derived.Test.YtengfkakiohfaaaFixWalk
import Derived.Test.YtengfkakiohfaaaFrMath
namespace Go.Proofs.Ytengfkakiohfaaa
open Go.RowKit
set_option linter.unusedVariables false

theorem add_sm (a b : ByteArray) (h : a.size + b.size ≤ 9223372036854775807) : ∀ w, (Op.stringOp .add a b).run Try.prog w = .ok (.string (a ++ b)) w := fun w => run_string_add_sum w a b h

/-! ### Frame -/

end Go.Proofs.Ytengfkakiohfaaa
