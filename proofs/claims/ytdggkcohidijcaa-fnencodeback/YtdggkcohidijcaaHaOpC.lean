/- What scalars take. -/
import Derived.Test.YtdggkcohidijcaaRows
import Derived.ProofKit
import Derived.OpenShut
import Derived.Deep.Slices
namespace Go.Proofs.Ytdggkcohidijcaa
open Go.RowKit Go.ChangeShapes Go.WideShapes
set_option linter.unusedVariables false

theorem cells_int : Try.prog.cellsOf 3 = 1 := by kernel_rfl

theorem cells_string : Try.prog.cellsOf 9 = 1 := by kernel_rfl

end Go.Proofs.Ytdggkcohidijcaa
