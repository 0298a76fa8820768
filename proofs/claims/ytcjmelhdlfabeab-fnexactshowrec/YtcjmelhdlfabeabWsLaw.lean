/- The law FnExactShowRec. -/
import Derived.Test.YtcjmelhdlfabeabWsWalk
import Derived.Test.YtcjmelhdlfabeabHaOpR
namespace Go.Proofs.Ytcjmelhdlfabeab
open Go.RowKit
set_option linter.unusedVariables false

set_option maxRecDepth 20000 in
set_option maxHeartbeats 1000000 in
theorem showrec_law (x : S_Rec) (w : World) (hs : sRec x) (hg : gRec x) : Calls Try.prog 5 #[.agg #[.int .i64 x.f0, .int .i64 x.f1, .int .i64 x.f2, .int .i64 x.f3, .string x.f4]] w fun e w' => e = .returned (.bool true) ∧ Below w.heap.size w w' := by
  have HS : Hid (sRec x) := hs
  clear hs hg
  obtain ⟨W0, hW0⟩ : ∃ W, W = w.alloc (.cells #[.int .i64 x.f0, .int .i64 x.f1, .int .i64 x.f2, .int .i64 x.f3, .string x.f4] 40) := ⟨_, rfl⟩
  have HW0 : Hid (w.alloc (.cells #[.int .i64 x.f0, .int .i64 x.f1, .int .i64 x.f2, .int .i64 x.f3, .string x.f4] 40) = W0) := hW0.symm
  have HX0 : Hid (W0.heap[w.heap.size]? = some (.cells #[.int .i64 x.f0, .int .i64 x.f1, .int .i64 x.f2, .int .i64 x.f3, .string x.f4] 40)) := by rw [hW0]; exact alloc_last _ _
  have HB0 : Hid (Below w.heap.size w W0) := by rw [hW0]; exact (Below.refl _ _).alloc (Nat.le_refl _) _
  clear hW0
  obtain ⟨x0, x1, x2, x3, x4⟩ := box5 HX0.out
  go_enter Try.func5, Try.ntmps5
  go_wp2_with fail
  rw [HW0.out]
  refine (szRec_c x 1048576 W0 (by decide) (by decide) HS.out).mono ?_
  rintro e w1 ⟨rfl, b1⟩
  have HX1 : Hid (w1.heap[w.heap.size]? = some (.cells #[.int .i64 x.f0, .int .i64 x.f1, .int .i64 x.f2, .int .i64 x.f3, .string x.f4] 40)) := (b1.block _ (lt_of_some HX0.out)).trans HX0.out
  have HB1 : Hid (Below w.heap.size w w1) := HB0.out.trans (b1.mono HB0.out.size)
  clear b1 x0 x1 x2 x3 x4
  by_cases hb : ((zRec x : Nat) : Int) ≤ 1048576
  case neg =>
    rw [szF_no _ _ hb]
    clear hb
    go_wp2
    go_ret
    exact ⟨rfl, HB1.out⟩
  rw [szF_yes _ _ hb]
  have hz : x.f4.size ≤ 1048576 := by unfold zRec at hb; omega
  have h0 : ¬ (1048576 - ((zRec x : Nat) : Int) < 0) := by omega
  clear hb
  generalize (1048576 - ((zRec x : Nat) : Int)) = left at h0 ⊢
  obtain ⟨x0, x1, x2, x3, x4⟩ := box5 HX1.out
  go_wp2_with fail
  refine (toRec_c x w1).mono ?_
  rintro e w2 ⟨rfl, b2⟩
  have HX2 : Hid (w2.heap[w.heap.size]? = some (.cells #[.int .i64 x.f0, .int .i64 x.f1, .int .i64 x.f2, .int .i64 x.f3, .string x.f4] 40)) := (b2.block _ (lt_of_some HX1.out)).trans HX1.out
  have HB2 : Hid (Below w.heap.size w w2) := HB1.out.trans (b2.mono HB1.out.size)
  clear b2 x0 x1 x2 x3 x4
  obtain ⟨x0, x1, x2, x3, x4⟩ := box5 HX2.out
  go_wp2_with fail
  refine (specShow_c x w2 hz).mono ?_
  rintro e w3 ⟨rfl, b3⟩
  have HX3 : Hid (w3.heap[w.heap.size]? = some (.cells #[.int .i64 x.f0, .int .i64 x.f1, .int .i64 x.f2, .int .i64 x.f3, .string x.f4] 40)) := (b3.block _ (lt_of_some HX2.out)).trans HX2.out
  have HB3 : Hid (Below w.heap.size w w3) := HB2.out.trans (b3.mono HB2.out.size)
  clear b3 x0 x1 x2 x3 x4
  obtain ⟨x0, x1, x2, x3, x4⟩ := box5 HX3.out
  go_wp2_with fail
  refine (toRec_c x w3).mono ?_
  rintro e w4 ⟨rfl, b4⟩
  have HX4 : Hid (w4.heap[w.heap.size]? = some (.cells #[.int .i64 x.f0, .int .i64 x.f1, .int .i64 x.f2, .int .i64 x.f3, .string x.f4] 40)) := (b4.block _ (lt_of_some HX3.out)).trans HX3.out
  have HB4 : Hid (Below w.heap.size w w4) := HB3.out.trans (b4.mono HB3.out.size)
  clear b4 x0 x1 x2 x3 x4
  obtain ⟨x0, x1, x2, x3, x4⟩ := box5 HX4.out
  go_wp2_with fail
  refine (implShow_c x w4 hz).mono ?_
  rintro e w5 ⟨rfl, b5⟩
  have HX5 : Hid (w5.heap[w.heap.size]? = some (.cells #[.int .i64 x.f0, .int .i64 x.f1, .int .i64 x.f2, .int .i64 x.f3, .string x.f4] 40)) := (b5.block _ (lt_of_some HX4.out)).trans HX4.out
  have HB5 : Hid (Below w.heap.size w w5) := HB4.out.trans (b5.mono HB4.out.size)
  clear b5 x0 x1 x2 x3 x4
  generalize recT x = D
  go_wp2
  go_ret
  exact ⟨rfl, HB5.out⟩

end Go.Proofs.Ytcjmelhdlfabeab
