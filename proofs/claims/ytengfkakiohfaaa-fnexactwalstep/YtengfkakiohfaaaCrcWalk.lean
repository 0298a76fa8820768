/- The walks of the two that tell whether a text was turned, and of the law over them. -/
import Derived.Test.YtengfkakiohfaaaRows
import Derived.Test.YtengfkakiohfaaaCrcMath
import Derived.WalkKit
import Derived.WalkSpells
import Derived.WalkLawsBesides
import Derived.Below
namespace Go.Proofs.Ytengfkakiohfaaa
open Go.RowKit
set_option linter.unusedVariables false

theorem crc_ret {k : IntKind} {a b : Int} (h : a = b) : Ending.returned (.int k a) = .returned (.int k b) := by rw [h]

end Go.Proofs.Ytengfkakiohfaaa
