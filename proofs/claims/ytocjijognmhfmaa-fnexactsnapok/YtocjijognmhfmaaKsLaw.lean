/- The law FnExactSnapOk. -/
import Derived.Test.YtocjijognmhfmaaKsWalk
import Derived.Test.YtocjijognmhfmaaHaOpS
namespace Go.Proofs.Ytocjijognmhfmaa
open Go.RowKit
set_option linter.unusedVariables false

theorem alloc_lastK (w : World) (o : Obj) : (w.alloc o).heap[w.heap.size]? = some o := (MapKept.heap_alloc w o).1

theorem box3K {w : World} {b : Nat} {a0 a1 a2 : Value} {t : TypeId} (h : w.heap[b]? = some (.cells #[a0, a1, a2] t)) : w.cell? ⟨b, 0, none⟩ = some a0 ∧ w.cell? ⟨b, 1, none⟩ = some a1 ∧ w.cell? ⟨b, 2, none⟩ = some a2 := by
  simp [World.cell?, h]

set_option maxRecDepth 20000 in
set_option maxHeartbeats 1000000 in
theorem snapok_law (x : S_Snap) (w : World) (hs : sSnap x) (hg : gSnap x) : Calls Try.prog 3 #[.agg #[.int .i64 x.f0, .int .i64 x.f1, .string x.f2]] w fun e w' => e = .returned (.bool true) ∧ Below w.heap.size w w' := by
  have HS : Hid (sSnap x) := hs
  clear hs hg
  obtain ⟨W0, hW0⟩ : ∃ W, W = w.alloc (.cells #[.int .i64 x.f0, .int .i64 x.f1, .string x.f2] 23) := ⟨_, rfl⟩
  have HW0 : Hid (w.alloc (.cells #[.int .i64 x.f0, .int .i64 x.f1, .string x.f2] 23) = W0) := hW0.symm
  have HX0 : Hid (W0.heap[w.heap.size]? = some (.cells #[.int .i64 x.f0, .int .i64 x.f1, .string x.f2] 23)) := by rw [hW0]; exact alloc_lastK _ _
  have HB0 : Hid (Below w.heap.size w W0) := by rw [hW0]; exact (Below.refl _ _).alloc (Nat.le_refl _) _
  clear hW0
  obtain ⟨x0, x1, x2⟩ := box3K HX0.out
  go_enter Try.func3, Try.ntmps3
  go_wp2_with fail
  rw [HW0.out]
  refine (szSnap_c x 1048576 W0 (by decide) (by decide) HS.out).mono ?_
  rintro e w1 ⟨rfl, b1⟩
  have HX1 : Hid (w1.heap[w.heap.size]? = some (.cells #[.int .i64 x.f0, .int .i64 x.f1, .string x.f2] 23)) := (b1.block _ (lt_of_some HX0.out)).trans HX0.out
  have HB1 : Hid (Below w.heap.size w w1) := HB0.out.trans (b1.mono HB0.out.size)
  clear b1 x0 x1 x2
  by_cases hb : ((zSnap x : Nat) : Int) ≤ 1048576
  case neg =>
    rw [szF_no _ _ hb]
    clear hb
    go_wp2
    go_ret
    exact ⟨rfl, HB1.out⟩
  rw [szF_yes _ _ hb]
  have hz : x.f2.size ≤ 1048576 := by unfold zSnap at hb; omega
  have h0 : ¬ (1048576 - ((zSnap x : Nat) : Int) < 0) := by omega
  clear hb
  generalize (1048576 - ((zSnap x : Nat) : Int)) = left at h0 ⊢
  obtain ⟨x0, x1, x2⟩ := box3K HX1.out
  go_wp2_with fail
  refine (toSnap_c x w1).mono ?_
  rintro e w2 ⟨rfl, b2⟩
  have HX2 : Hid (w2.heap[w.heap.size]? = some (.cells #[.int .i64 x.f0, .int .i64 x.f1, .string x.f2] 23)) := (b2.block _ (lt_of_some HX1.out)).trans HX1.out
  have HB2 : Hid (Below w.heap.size w w2) := HB1.out.trans (b2.mono HB1.out.size)
  clear b2 x0 x1 x2
  obtain ⟨x0, x1, x2⟩ := box3K HX2.out
  go_wp2_with fail
  refine (specSnapOk_c x w2 HS.out).mono ?_
  rintro e w3 ⟨rfl, b3⟩
  have HX3 : Hid (w3.heap[w.heap.size]? = some (.cells #[.int .i64 x.f0, .int .i64 x.f1, .string x.f2] 23)) := (b3.block _ (lt_of_some HX2.out)).trans HX2.out
  have HB3 : Hid (Below w.heap.size w w3) := HB2.out.trans (b3.mono HB2.out.size)
  clear b3 x0 x1 x2
  obtain ⟨x0, x1, x2⟩ := box3K HX3.out
  go_wp2_with fail
  refine (toSnap_c x w3).mono ?_
  rintro e w4 ⟨rfl, b4⟩
  have HX4 : Hid (w4.heap[w.heap.size]? = some (.cells #[.int .i64 x.f0, .int .i64 x.f1, .string x.f2] 23)) := (b4.block _ (lt_of_some HX3.out)).trans HX3.out
  have HB4 : Hid (Below w.heap.size w w4) := HB3.out.trans (b4.mono HB3.out.size)
  clear b4 x0 x1 x2
  obtain ⟨x0, x1, x2⟩ := box3K HX4.out
  go_wp2_with fail
  refine (implSnapOk_c x w4 HS.out).mono ?_
  rintro e w5 ⟨rfl, b5⟩
  have HX5 : Hid (w5.heap[w.heap.size]? = some (.cells #[.int .i64 x.f0, .int .i64 x.f1, .string x.f2] 23)) := (b5.block _ (lt_of_some HX4.out)).trans HX4.out
  have HB5 : Hid (Below w.heap.size w w5) := HB4.out.trans (b5.mono HB4.out.size)
  clear b5 x0 x1 x2
  generalize decide (okS x) = D
  go_wp2
  go_ret
  exact ⟨rfl, HB5.out⟩

end Go.Proofs.Ytocjijognmhfmaa
