/- What is right, of the specification; its Decode. -/
import Derived.Test.YtdggkcohidijcaaVcOk
import Derived.Test.YtdggkcohidijcaaHaInts
import Derived.Test.YtdggkcohidijcaaT8Math
namespace Go.Proofs.Ytdggkcohidijcaa
open Go.RowKit
set_option linter.unusedVariables false
set_option linter.unusedSimpArgs false

end Go.Proofs.Ytdggkcohidijcaa
