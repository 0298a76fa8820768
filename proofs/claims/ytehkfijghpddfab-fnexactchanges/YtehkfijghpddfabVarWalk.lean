/- The walks of the two that tell a number by seven bits a byte. -/
import Derived.Test.YtehkfijghpddfabOwnLaws
import Derived.Test.YtehkfijghpddfabVarMath
namespace Go.Proofs.Ytehkfijghpddfab
open Go.RowKit
set_option linter.unusedVariables false

end Go.Proofs.Ytehkfijghpddfab
