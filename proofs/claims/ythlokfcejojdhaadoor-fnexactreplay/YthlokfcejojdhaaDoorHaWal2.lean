/- The contracts of what makes a Wal out of an argument, and of what marks one. -/
import Derived.Test.YthlokfcejojdhaaDoorHaWal
namespace Go.Proofs.YthlokfcejojdhaaDoor
open Go.RowKit
set_option linter.unusedVariables false

set_option maxRecDepth 20000 in
set_option maxHeartbeats 2000000 in
theorem markWal_c (x : S_Wal) (k0 : Int) (v4 : Value) (base : Nat) (w : World) (hn : LnWal x 1048576) (hk0 : 0 < k0) (hk1 : k0 ≤ 10000000) (hb : base ≤ w.heap.size) (h : OwWal w base x v4) :
    Calls Tryd.prog 14 #[.agg #[.int .i64 x.f0, .int .i64 x.f1, .int .i64 x.f2, .int .i64 x.f3, v4], .int .i64 k0] w fun e w' => e = .returned (.int .i64 (k0 + ((x.f4.length * 2 : Nat) : Int))) ∧ MoWal w' base x k0 v4 ∧ ButL [v4] w w' := by
  have HN : Hid (LnWal x 1048576) := hn
  have b0 : Below w.heap.size w (w.alloc (.cells #[.int .i64 x.f0, .int .i64 x.f1, .int .i64 x.f2, .int .i64 x.f3, v4] 26)) := (Below.refl _ _).alloc (Nat.le_refl _) _
  have HO : Hid (OwWal (w.alloc (.cells #[.int .i64 x.f0, .int .i64 x.f1, .int .i64 x.f2, .int .i64 x.f3, v4] 26)) base x v4) := h.keep b0 (Nat.le_refl _)
  have HB0 : Hid (Below w.heap.size w (w.alloc (.cells #[.int .i64 x.f0, .int .i64 x.f1, .int .i64 x.f2, .int .i64 x.f3, v4] 26))) := b0
  have hbs : base ≤ (w.alloc (.cells #[.int .i64 x.f0, .int .i64 x.f1, .int .i64 x.f2, .int .i64 x.f3, v4] 26)).heap.size := by simp; omega
  clear h b0
  go_enter Tryd.func14, Tryd.ntmps14
  go_wp2_with fail
  refine (markEntryS_c v4 x.f4 k0 base _ HN.out (by omega) (by omega) hbs HO.out).mono ?_
  rintro e w1 ⟨rfl, o2, b1⟩
  have HM : Hid (MoWal w1 base x k0 v4) := o2
  have HB1 : Hid (ButL [v4] w w1) := (ButL.of_bel HB0.out).trans (ButL.of_butV (vs := [v4]) b1 (by simp))
  clear b1 o2
  go_wp2
  go_ret
  exact ⟨rfl, HM.out, HB1.out⟩

end Go.Proofs.YthlokfcejojdhaaDoor
