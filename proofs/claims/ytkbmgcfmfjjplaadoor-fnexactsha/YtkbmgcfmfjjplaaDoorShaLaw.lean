/- The walk of the law on the two sums, where the table of the rounds lies in its place. -/
import Derived.Test.YtkbmgcfmfjjplaaDoorShaImpl
import Derived.Test.YtkbmgcfmfjjplaaDoorShaSpec
import Derived.Test.YtkbmgcfmfjjplaaDoorShaBlock
namespace Go.Proofs.YtkbmgcfmfjjplaaDoor
open Go.RowKit
set_option linter.unusedVariables false

theorem blockSays : BlockSays := fun w hb hcap kb kcap st ks b h1 h2 h3 h4 h5 h6 h7 h8 => block_any w hb hcap kb kcap st ks b h1 h2 h3 h4 h5 h6 h7 h8

/-- What both answer. -/
def shaOut (s : ByteArray) : ByteArray := strOfNums (outL (shaN kL H0 (padL (nums s)) ((padL (nums s)).length / 64)).l 8)

theorem specSha2 (s : ByteArray) (w : World) (hs : s.size ≤ 1048576) :
    Calls Tryd.prog 4 #[.string s] w fun e w' => e = .returned (.string (shaOut s)) ∧ Below w.heap.size w w' := specSha blockSays s w hs

theorem implSha2 (s : ByteArray) (w : World) (hs : s.size ≤ 1048576) (hB0 : 0 < w.heap.size) (hT : Tab w kL) :
    Calls Tryd.prog 5 #[.string s] w fun e w' => e = .returned (.string (shaOut s)) ∧ Below w.heap.size w w' := implSha s w kL hs hB0 hT kL_range

set_option maxHeartbeats 400000 in
theorem lawSha (s : ByteArray) (w : World) (hm : s.size ≤ maxLen) (hB0 : 0 < w.heap.size) (hT : Tab w kL) :
    Calls Tryd.prog 3 #[.string s] w fun e w' => e = .returned (.bool true) ∧ Below w.heap.size w w' := by
  have HT : Hid (Tab w kL) := hT
  unfold maxLen at hm
  clear hT
  by_cases hbig : (1048576 : Int) < (s.size : Int)
  · go_enter Tryd.func3, Tryd.ntmps3
    go_wp2
    go_ret
    exact ⟨rfl, Below.refl _ _⟩
  · have hs : s.size ≤ 1048576 := by omega
    go_enter Tryd.func3, Tryd.ntmps3
    go_wp2_with fail
    refine (specSha2 s _ hs).mono ?_
    rintro e w1 ⟨rfl, b1⟩
    have hz1 := b1.size
    go_wp2_with fail
    refine (implSha2 s _ hs (by omega) (HT.out.below b1 hB0)).mono ?_
    rintro e w2 ⟨rfl, b2⟩
    have b3 := b1.trans (b2.mono b1.size)
    clear b1 b2
    go_wp2
    go_ret
    exact ⟨rfl, b3⟩

end Go.Proofs.YtkbmgcfmfjjplaaDoor
