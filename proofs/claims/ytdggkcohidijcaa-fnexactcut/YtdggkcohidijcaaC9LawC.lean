/- The law of Cut, walked. -/
import Derived.Test.YtdggkcohidijcaaC9Cut
namespace Go.Proofs.Ytdggkcohidijcaa
open Go.RowKit
set_option linter.unusedVariables false
set_option linter.unusedSimpArgs false

set_option maxRecDepth 20000 in
set_option maxHeartbeats 4000000 in
theorem cut_law (s : ByteArray) (w : World) (hm : s.size ≤ maxLen) :
    Calls Try.prog 6 #[.string s] w fun e w' => e = .returned (.bool true) ∧ Below w.heap.size w w' := by
  have hm' := hm
  unfold maxLen at hm'
  have HM : Hid (s.size ≤ maxLen) := hm
  clear hm
  by_cases hbig : (1048576 : Int) < (s.size : Int)
  · go_enter Try.func6, Try.ntmps6
    go_wp2
    go_ret
    exact ⟨rfl, Below.refl _ _⟩
  obtain ⟨L, hL⟩ : ∃ L, cutF s = L := ⟨_, rfl⟩
  have HLL : Hid (L.length ≤ 1048576) := by have h := cutF_len s; rw [hL] at h; show _ ≤ _; omega
  have HSP := specCut_c s
  have HIM := implCut_c s
  rw [hL] at HSP HIM
  have HSP' : Hid (∀ w : World, s.size ≤ maxLen → Calls Try.prog 21 #[.string s] w fun e w' => ∃ v, e = .returned v ∧ OwnS w' w.heap.size v L ∧ Below w.heap.size w w') := HSP
  have HIM' : Hid (∀ w : World, s.size ≤ maxLen → Calls Try.prog 15 #[.string s] w fun e w' => ∃ v, e = .returned v ∧ OwnS w' w.heap.size v L ∧ Below w.heap.size w w') := HIM
  clear hL HSP HIM
  have n0 : (0 : Int) ≤ 1 + (L.length : Int) := by omega
  go_enter Try.func6, Try.ntmps6
  go_wp2_with fail
  refine (HSP'.out w HM.out).mono ?_
  rintro e w1 ⟨v, rfl, ho, b1⟩
  have HO1 : Hid (OwnS w1 w.heap.size v L) := ho
  have HB1 : Hid (Below w.heap.size w w1) := b1
  clear ho b1
  go_wp2_with fail
  refine (HIM'.out _ HM.out).mono ?_
  rintro e w2 ⟨v2, rfl, ho, b2⟩
  have HO2 : Hid (OwnS w2 w1.heap.size v2 L) := ho
  have HC2 : Hid (Below w1.heap.size w1 w2) := b2
  clear ho b2
  go_wp2_with fail
  refine (eqS_c v2 v L _ _ _ HLL.out HO2.out (HO1.out.keep HC2.out)).mono ?_
  rintro e w3 ⟨rfl, b3⟩
  have HO3 : Hid (OwnS w3 w1.heap.size v2 L) := HO2.out.keep b3
  have HC3 : Hid (Below w1.heap.size w1 w3) := HC2.out.trans (b3.mono HC2.out.size)
  clear b3 HO2 HC2
  go_wp2_with fail
  refine (mark_c v2 L w1.heap.size _ HLL.out HO3.out HC3.out.size).mono ?_
  rintro e w4 ⟨rfl, ho4, b4⟩
  have HO4 : Hid (OwnS w4 w1.heap.size v2 (marks 1 L.length)) := ho4
  have HC4 : Hid (Below w1.heap.size w1 w4) := HC3.out.trans b4
  clear ho4 b4 HO3 HC3
  go_wp2_with fail
  refine (held_c v2 L.length _ _ HLL.out HO4.out).mono ?_
  rintro e w5 ⟨rfl, b5⟩
  have HO5 : Hid (OwnS w5 w1.heap.size v2 (marks 1 L.length)) := HO4.out.keep b5
  have HC5 : Hid (Below w1.heap.size w1 w5) := HC4.out.trans (b5.mono HC4.out.size)
  have HB5 : Hid (Below w.heap.size w w5) := HB1.out.trans (HC5.out.mono HB1.out.size)
  clear b5 HO4 HC4
  go_wp2_with fail
  refine (HIM'.out _ HM.out).mono ?_
  rintro e w6 ⟨v3, rfl, ho, b6⟩
  have HO6 : Hid (OwnS w6 w1.heap.size v2 (marks 1 L.length)) := HO5.out.keep b6
  have HC6 : Hid (Below w1.heap.size w1 w6) := HC5.out.trans (b6.mono HC5.out.size)
  have HO3 : Hid (OwnS w6 w5.heap.size v3 L) := ho
  clear ho b6 HO5 HC5
  go_wp2_with fail
  refine (eqS_c v3 v L _ _ _ HLL.out HO3.out (HO1.out.keep HC6.out)).mono ?_
  rintro e w7 ⟨rfl, b7⟩
  have HO7 : Hid (OwnS w7 w1.heap.size v2 (marks 1 L.length)) := HO6.out.keep b7
  have HC7 : Hid (Below w1.heap.size w1 w7) := HC6.out.trans (b7.mono HC6.out.size)
  clear b7 HO6 HC6
  go_wp2_with fail
  refine (held_c v2 L.length _ _ HLL.out HO7.out).mono ?_
  rintro e w8 ⟨rfl, b8⟩
  have HB8 : Hid (Below w.heap.size w w8) := HB1.out.trans ((HC7.out.trans (b8.mono HC7.out.size)).mono HB1.out.size)
  clear b8
  go_wp2
  go_ret
  exact ⟨rfl, HB8.out⟩

end Go.Proofs.Ytdggkcohidijcaa
