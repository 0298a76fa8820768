/- The walk of the law on the two sums, where the table of the rounds lies in its place. -/
import Derived.Test.YthhkjnpeopfmjabDoorShaImpl
import Derived.Test.YthhkjnpeopfmjabDoorShaSpec
import Derived.Test.YthhkjnpeopfmjabDoorShaBlock
namespace Go.Proofs.YthhkjnpeopfmjabDoor
open Go.RowKit
set_option linter.unusedVariables false

theorem blockSays : BlockSays := fun w hb hcap kb kcap st ks b h1 h2 h3 h4 h5 h6 h7 h8 => block_any w hb hcap kb kcap st ks b h1 h2 h3 h4 h5 h6 h7 h8

/-- What both answer. -/
def shaOut (s : ByteArray) : ByteArray := strOfNums (outL (shaN kL H0 (padL (nums s)) ((padL (nums s)).length / 64)).l 8)

theorem specSha2 (s : ByteArray) (w : World) (hs : s.size ≤ 1048576) :
    Calls Tryd.prog 11 #[.string s] w fun e w' => e = .returned (.string (shaOut s)) ∧ Below w.heap.size w w' := specSha blockSays s w hs

theorem implSha2 (s : ByteArray) (w : World) (hs : s.size ≤ 1048576) (hB0 : 0 < w.heap.size) (hT : Tab w kL) :
    Calls Tryd.prog 15 #[.string s] w fun e w' => e = .returned (.string (shaOut s)) ∧ Below w.heap.size w w' := implSha s w kL hs hB0 hT kL_range

end Go.Proofs.YthhkjnpeopfmjabDoor
