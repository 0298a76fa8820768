/- The walk of the law over the two that read all frames. -/
import Derived.Test.YtoeaobeljljdnaaDoorFiWalk
import Derived.Test.YtoeaobeljljdnaaDoorMhWalk
namespace Go.Proofs.YtoeaobeljljdnaaDoor
open Go.RowKit
set_option linter.unusedVariables false

/-- The handle that errors.As reads. -/
def Han (w : World) : Prop := w.cell? ⟨1, 0, none⟩ = some (.iface 86 (.agg #[.pointer (some ⟨3, 44, none⟩)]))

theorem Han.keep {w w' : World} {B : Nat} (h : Han w) (hb : Below B w w') (hB : 1 < B) : Han w' := by
  unfold Han at *
  rw [hb.cell (by exact hB)]; exact h

set_option maxRecDepth 20000 in
set_option maxHeartbeats 2000000 in
theorem lawFs (s : ByteArray) (w : World) (a0 a2 : Addr) (hE : ErrB w a0 a2) (hg : Han w) (hm : s.size ≤ maxLen) :
    Calls Tryd.prog 5 #[.string s] w fun e w' => e = .returned (.bool true) ∧ Below w.heap.size w w' := by
  have HE : Hid (ErrB w a0 a2) := hE
  have HG : Hid (Han w) := hg
  have HL : Hid (2 < w.heap.size) := hE.lt
  clear hE hg
  unfold maxLen at hm
  by_cases hbig : (1048576 : Int) < (s.size : Int)
  · go_enter Tryd.func5, Tryd.ntmps5
    go_wp2
    go_ret
    exact ⟨rfl, Below.refl _ _⟩
  · have HM : Hid (s.size ≤ 1048576) := by show _ ≤ _; omega
    go_enter Tryd.func5, Tryd.ntmps5
    go_wp2_with fail
    refine (specFs s _ HM.out).mono ?_
    rintro e w1 ⟨v, L, k, rfl, hf, ho, b1⟩
    have HF : Hid (Frs s L k) := hf
    have HO1 : Hid (OwnS w1 w.heap.size v L) := ho
    have HB1 : Hid (Below w.heap.size w w1) := b1
    have hLk : L.length ≤ 1048576 := by have := hf.le; have := HM.out; omega
    have hk1 : (k : Int) ≤ 1048576 := by have := hf.le; have := HM.out; omega
    clear hf ho b1
    go_wp2_with fail
    refine (implFs s _ a0 a2 (HE.out.keep HB1.out) (HG.out.keep HB1.out (by have := HL.out; omega)) HM.out).mono ?_
    rintro e w2 ⟨v2, L2, k2, rfl, hf, ho, b2⟩
    obtain ⟨hL2, hk2⟩ := HF.out.unique hf
    subst hL2
    subst hk2
    have HO2 : Hid (OwnS w2 w1.heap.size v2 L) := ho
    have HC2 : Hid (Below w1.heap.size w1 w2) := b2
    clear hf ho b2
    go_wp2_with fail
    refine (eqS_c v2 v L _ _ _ hLk HO2.out (HO1.out.keep HC2.out)).mono ?_
    rintro e w3 ⟨rfl, b3⟩
    have HO3 : Hid (OwnS w3 w1.heap.size v2 L) := HO2.out.keep b3
    have HC3 : Hid (Below w1.heap.size w1 w3) := HC2.out.trans (b3.mono HC2.out.size)
    clear b3 HO2 HC2
    go_wp2_with fail
    refine (mark_c v2 L w1.heap.size _ hLk HO3.out HC3.out.size).mono ?_
    rintro e w4 ⟨rfl, ho4, b4⟩
    have HO4 : Hid (OwnS w4 w1.heap.size v2 (marks 1 L.length)) := ho4
    have HC4 : Hid (Below w1.heap.size w1 w4) := HC3.out.trans b4
    clear ho4 b4 HO3 HC3
    go_wp2_with fail
    refine (held_c v2 L.length _ _ hLk HO4.out).mono ?_
    rintro e w5 ⟨rfl, b5⟩
    have HO5 : Hid (OwnS w5 w1.heap.size v2 (marks 1 L.length)) := HO4.out.keep b5
    have HC5 : Hid (Below w1.heap.size w1 w5) := HC4.out.trans (b5.mono HC4.out.size)
    have HB5 : Hid (Below w.heap.size w w5) := HB1.out.trans (HC5.out.mono HB1.out.size)
    clear b5 HO4 HC4
    have n0 : (0 : Int) ≤ 1 + (L.length : Int) := by omega
    go_wp2_with fail
    refine (implFs s _ a0 a2 (HE.out.keep HB5.out) (HG.out.keep HB5.out (by have := HL.out; omega)) HM.out).mono ?_
    rintro e w6 ⟨v3, L3, k3, rfl, hf, ho, b6⟩
    obtain ⟨hL3, hk3⟩ := HF.out.unique hf
    subst hL3
    subst hk3
    have HO6 : Hid (OwnS w6 w1.heap.size v2 (marks 1 L.length)) := HO5.out.keep b6
    have HC6 : Hid (Below w1.heap.size w1 w6) := HC5.out.trans (b6.mono HC5.out.size)
    have HO3 : Hid (OwnS w6 w5.heap.size v3 L) := ho
    clear hf ho b6 HO5 HC5
    go_wp2_with fail
    refine (eqS_c v3 v L _ _ _ hLk HO3.out (HO1.out.keep HC6.out)).mono ?_
    rintro e w7 ⟨rfl, b7⟩
    have HO7 : Hid (OwnS w7 w1.heap.size v2 (marks 1 L.length)) := HO6.out.keep b7
    have HC7 : Hid (Below w1.heap.size w1 w7) := HC6.out.trans (b7.mono HC6.out.size)
    clear b7 HO6 HC6
    go_wp2_with fail
    refine (held_c v2 L.length _ _ hLk HO7.out).mono ?_
    rintro e w8 ⟨rfl, b8⟩
    have HB8 : Hid (Below w.heap.size w w8) := HB1.out.trans ((HC7.out.trans (b8.mono HC7.out.size)).mono HB1.out.size)
    clear b8
    go_wp2
    go_ret
    exact ⟨rfl, HB8.out⟩

end Go.Proofs.YtoeaobeljljdnaaDoor
