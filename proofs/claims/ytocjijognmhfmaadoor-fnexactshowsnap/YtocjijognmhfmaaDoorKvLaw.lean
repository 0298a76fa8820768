/- The law FnExactShowSnap, where the table of the rounds lies in its place. -/
import Derived.Test.YtocjijognmhfmaaDoorKvImpl
import Derived.Test.YtocjijognmhfmaaDoorHaOpS
namespace Go.Proofs.YtocjijognmhfmaaDoor
open Go.RowKit
set_option linter.unusedVariables false

set_option maxRecDepth 20000 in
set_option maxHeartbeats 1000000 in
theorem showsnap_law (x : S_Snap) (w : World) (hs : sSnap x) (hg : gSnap x) (hG : 2 < w.heap.size) (hT : Tab w kL) : Calls Tryd.prog 4 #[.agg #[.int .i64 x.f0, .int .i64 x.f1, .string x.f2]] w fun e w' => e = .returned (.bool true) ∧ Below w.heap.size w w' := by
  have HS : Hid (sSnap x) := hs
  have HT : Hid (Tab w kL) := hT
  have HG : Hid (2 < w.heap.size) := hG
  clear hs hg hT hG
  obtain ⟨W0, hW0⟩ : ∃ W, W = w.alloc (.cells #[.int .i64 x.f0, .int .i64 x.f1, .string x.f2] 31) := ⟨_, rfl⟩
  have HW0 : Hid (w.alloc (.cells #[.int .i64 x.f0, .int .i64 x.f1, .string x.f2] 31) = W0) := hW0.symm
  have HX0 : Hid (W0.heap[w.heap.size]? = some (.cells #[.int .i64 x.f0, .int .i64 x.f1, .string x.f2] 31)) := by rw [hW0]; exact alloc_lastV _ _
  have HB0 : Hid (Below w.heap.size w W0) := by rw [hW0]; exact (Below.refl _ _).alloc (Nat.le_refl _) _
  clear hW0
  obtain ⟨x0, x1, x2⟩ := box3V HX0.out
  go_enter Tryd.func4, Tryd.ntmps4
  go_wp2_with fail
  rw [HW0.out]
  refine (szSnap_c x 1048576 W0 (by decide) (by decide) HS.out).mono ?_
  rintro e w1 ⟨rfl, b1⟩
  have HX1 : Hid (w1.heap[w.heap.size]? = some (.cells #[.int .i64 x.f0, .int .i64 x.f1, .string x.f2] 31)) := (b1.block _ (lt_of_someV HX0.out)).trans HX0.out
  have HB1 : Hid (Below w.heap.size w w1) := HB0.out.trans (b1.mono HB0.out.size)
  clear b1 x0 x1 x2
  by_cases hb : ((zSnap x : Nat) : Int) ≤ 1048576
  case neg =>
    rw [szF_no _ _ hb]
    clear hb
    go_wp2
    go_ret
    exact ⟨rfl, HB1.out⟩
  rw [szF_yes _ _ hb]
  have hz : x.f2.size ≤ 1048576 := by unfold zSnap at hb; omega
  have h0 : ¬ (1048576 - ((zSnap x : Nat) : Int) < 0) := by omega
  clear hb
  generalize (1048576 - ((zSnap x : Nat) : Int)) = left at h0 ⊢
  obtain ⟨x0, x1, x2⟩ := box3V HX1.out
  go_wp2_with fail
  refine (toSnap_c x w1).mono ?_
  rintro e w2 ⟨rfl, b2⟩
  have HX2 : Hid (w2.heap[w.heap.size]? = some (.cells #[.int .i64 x.f0, .int .i64 x.f1, .string x.f2] 31)) := (b2.block _ (lt_of_someV HX1.out)).trans HX1.out
  have HB2 : Hid (Below w.heap.size w w2) := HB1.out.trans (b2.mono HB1.out.size)
  clear b2 x0 x1 x2
  obtain ⟨x0, x1, x2⟩ := box3V HX2.out
  go_wp2_with fail
  refine (specShowS_c x w2 hz).mono ?_
  rintro e w3 ⟨rfl, b3⟩
  have HX3 : Hid (w3.heap[w.heap.size]? = some (.cells #[.int .i64 x.f0, .int .i64 x.f1, .string x.f2] 31)) := (b3.block _ (lt_of_someV HX2.out)).trans HX2.out
  have HB3 : Hid (Below w.heap.size w w3) := HB2.out.trans (b3.mono HB2.out.size)
  clear b3 x0 x1 x2
  obtain ⟨x0, x1, x2⟩ := box3V HX3.out
  go_wp2_with fail
  refine (toSnap_c x w3).mono ?_
  rintro e w4 ⟨rfl, b4⟩
  have HX4 : Hid (w4.heap[w.heap.size]? = some (.cells #[.int .i64 x.f0, .int .i64 x.f1, .string x.f2] 31)) := (b4.block _ (lt_of_someV HX3.out)).trans HX3.out
  have HB4 : Hid (Below w.heap.size w w4) := HB3.out.trans (b4.mono HB3.out.size)
  clear b4 x0 x1 x2
  obtain ⟨x0, x1, x2⟩ := box3V HX4.out
  go_wp2_with fail
  refine (implShowS_c x w4 hz (Nat.lt_of_lt_of_le HG.out HB4.out.size) (HT.out.below HB4.out HG.out)).mono ?_
  rintro e w5 ⟨rfl, b5⟩
  have HX5 : Hid (w5.heap[w.heap.size]? = some (.cells #[.int .i64 x.f0, .int .i64 x.f1, .string x.f2] 31)) := (b5.block _ (lt_of_someV HX4.out)).trans HX4.out
  have HB5 : Hid (Below w.heap.size w w5) := HB4.out.trans (b5.mono HB4.out.size)
  clear b5 x0 x1 x2
  generalize snT x = D
  go_wp2
  go_ret
  exact ⟨rfl, HB5.out⟩

end Go.Proofs.YtocjijognmhfmaaDoor
