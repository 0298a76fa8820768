/- What scalars take. -/
import Derived.Test.YthhkjnpeopfmjabDoorRows
import Derived.ProofKit
import Derived.OpenShut
import Derived.Deep.Slices
namespace Go.Proofs.YthhkjnpeopfmjabDoor
open Go.RowKit Go.ChangeShapes Go.WideShapes
set_option linter.unusedVariables false

theorem cells_int : Tryd.prog.cellsOf 3 = 1 := by kernel_rfl

theorem cells_string : Tryd.prog.cellsOf 9 = 1 := by kernel_rfl

end Go.Proofs.YthhkjnpeopfmjabDoor
