/- The contracts of what makes a Wal out of an argument, and of what marks one. -/
import Derived.Test.YtefbenojkajnoaaHaWal
namespace Go.Proofs.Ytefbenojkajnoaa
open Go.RowKit
set_option linter.unusedVariables false

set_option maxRecDepth 20000 in
set_option maxHeartbeats 2000000 in
theorem toWal_c (x : S_Wal) (v4 : Value) (w : World) (hn : LnWal x 1048576) (h : RdWal w x v4) :
    Calls Try.prog 6 #[.agg #[.int .i64 x.f0, .int .i64 x.f1, .int .i64 x.f2, .int .i64 x.f3, v4]] w fun e w' => ∃ u4, e = .returned (.agg #[.int .i64 x.f0, .int .i64 x.f1, .int .i64 x.f2, .int .i64 x.f3, u4]) ∧ OwWal w' w.heap.size x u4 ∧ Below w.heap.size w w' := by
  have HN : Hid (LnWal x 1048576) := hn
  have HH : Hid (RdWal w x v4) := h
  obtain ⟨W, hW⟩ : ∃ W, W = (((w.alloc (.cells #[.int .i64 x.f0, .int .i64 x.f1, .int .i64 x.f2, .int .i64 x.f3, v4] 24)).alloc (.cells #[.int .i64 0, .int .i64 0, .int .i64 0, .int .i64 0, .slice none 0 0] 30)).alloc (.cells #[.int .i64 x.f0, .int .i64 x.f1, .int .i64 x.f2, .int .i64 x.f3, .slice none 0 0] 30)) := ⟨_, rfl⟩
  have HW : Hid ((((w.alloc (.cells #[.int .i64 x.f0, .int .i64 x.f1, .int .i64 x.f2, .int .i64 x.f3, v4] 24)).alloc (.cells #[.int .i64 0, .int .i64 0, .int .i64 0, .int .i64 0, .slice none 0 0] 30)).alloc (.cells #[.int .i64 x.f0, .int .i64 x.f1, .int .i64 x.f2, .int .i64 x.f3, .slice none 0 0] 30)) = W) := hW.symm
  have HB0 : Hid (Below w.heap.size w W) := by rw [hW]; exact (((Below.refl _ _).alloc (Nat.le_refl _) _).alloc (by simp) _).alloc (by simp; omega) _
  have hWs : W.heap.size = w.heap.size + 3 := by rw [hW]; simp
  have R0 : Hid (W.ownsRow w.heap.size 30 1 (.slice (some ⟨w.heap.size + 1, 0, none⟩) 5 5) 5 [.int .i64 0, .int .i64 0, .int .i64 0, .int .i64 0, .slice none 0 0]) := by
    rw [hW]
    have := World.ownsRow_lit (base := w.heap.size) (e := 30) (size := 1) (w.alloc (.cells #[.int .i64 x.f0, .int .i64 x.f1, .int .i64 x.f2, .int .i64 x.f3, v4] 24)) #[.int .i64 0, .int .i64 0, .int .i64 0, .int .i64 0, .slice none 0 0] 5 (by simp) (by decide) rfl
    rw [World.size_alloc] at this
    exact this.alloc _
  have O0 : Hid (W.ownsRow w.heap.size 30 1 (.slice (some ⟨w.heap.size + 1 + 1, 0, none⟩) 5 5) 5 [.int .i64 x.f0, .int .i64 x.f1, .int .i64 x.f2, .int .i64 x.f3, .slice none 0 0]) := by
    rw [hW]
    have := World.ownsRow_lit (base := w.heap.size) (e := 30) (size := 1) ((w.alloc (.cells #[.int .i64 x.f0, .int .i64 x.f1, .int .i64 x.f2, .int .i64 x.f3, v4] 24)).alloc (.cells #[.int .i64 0, .int .i64 0, .int .i64 0, .int .i64 0, .slice none 0 0] 30)) #[.int .i64 x.f0, .int .i64 x.f1, .int .i64 x.f2, .int .i64 x.f3, .slice none 0 0] 5 (by simp; omega) (by decide) rfl
    rw [World.size_alloc, World.size_alloc] at this
    exact this
  clear hW h hn
  go_enter Try.func6, Try.ntmps6
  go_wp2_with fail
  rw [HW.out]
  refine (toEntryS_c v4 x.f4 W HN.out (RowR.keep HH.out HB0.out (Nat.le_refl _))).mono ?_
  rintro e w3 ⟨u4, rfl, own4, b3⟩
  obtain ⟨_, p4, k4, hv4, _⟩ := RowR.own own4
  subst hv4
  have R3 : Hid (w3.ownsRow w.heap.size _ 1 _ 5 _) := own_bel R0.out b3 (Nat.le_refl _)
  have O3 : Hid (w3.ownsRow w.heap.size _ 1 _ 5 _) := own_bel O0.out b3 (Nat.le_refl _)
  have U4 : Hid (w3.ownsRow W.heap.size _ 2 (.slice p4 x.f4.length k4) _ _) := own4
  have HB3 : Hid (Below w.heap.size w w3) := HB0.out.trans (b3.mono (by omega))
  have q0 : w3.cell? ⟨w.heap.size + 1 + 1, 0, none⟩ = some (.int .i64 x.f0) := by rw [O3.out.cellAt 0 (by omega)]; rfl
  have q1 : w3.cell? ⟨w.heap.size + 1 + 1, 1, none⟩ = some (.int .i64 x.f1) := by rw [O3.out.cellAt 1 (by omega)]; rfl
  have q2 : w3.cell? ⟨w.heap.size + 1 + 1, 2, none⟩ = some (.int .i64 x.f2) := by rw [O3.out.cellAt 2 (by omega)]; rfl
  have q3 : w3.cell? ⟨w.heap.size + 1 + 1, 3, none⟩ = some (.int .i64 x.f3) := by rw [O3.out.cellAt 3 (by omega)]; rfl
  have q4 : w3.cell? ⟨w.heap.size + 1 + 1, 4, none⟩ = some (.slice none 0 0) := by rw [O3.out.cellAt 4 (by omega)]; rfl
  have y4 := O3.out.frozenAt 4
  have r0 : w3.cell? ⟨w.heap.size + 1, 0, none⟩ = some (.int .i64 0) := by rw [R3.out.cellAt 0 (by omega)]; rfl
  have r1 : w3.cell? ⟨w.heap.size + 1, 1, none⟩ = some (.int .i64 0) := by rw [R3.out.cellAt 1 (by omega)]; rfl
  have r2 : w3.cell? ⟨w.heap.size + 1, 2, none⟩ = some (.int .i64 0) := by rw [R3.out.cellAt 2 (by omega)]; rfl
  have r3 : w3.cell? ⟨w.heap.size + 1, 3, none⟩ = some (.int .i64 0) := by rw [R3.out.cellAt 3 (by omega)]; rfl
  have r4 : w3.cell? ⟨w.heap.size + 1, 4, none⟩ = some (.slice none 0 0) := by rw [R3.out.cellAt 4 (by omega)]; rfl
  have f0 := R3.out.frozenAt 0
  have f1 := R3.out.frozenAt 1
  have f2 := R3.out.frozenAt 2
  have f3 := R3.out.frozenAt 3
  have f4 := R3.out.frozenAt 4
  clear own4 b3 R0 O0
  have hlt1 : w.heap.size + 1 < W.heap.size := by omega
  have hlt2 : w.heap.size + 1 + 1 < W.heap.size := by omega
  have L2 : w.heap.size ≤ w.heap.size + 1 + 1 := by omega
  have L1 : w.heap.size ≤ w.heap.size + 1 := by omega
  have L0 : w.heap.size ≤ W.heap.size := by omega
  go_wp2
  exact bodyPost_ret (v := .agg #[.int .i64 x.f0, .int .i64 x.f1, .int .i64 x.f2, .int .i64 x.f3, .slice p4 x.f4.length k4]) (by simp [results, Try.results6, go_sem, r0, r1, r2, r3, r4]) rfl
    ⟨_, rfl,
       own_low (own_set_lt (own_set_lt (own_set_lt (own_set_lt (own_set_lt (own_set_lt U4.out _ (by exact hlt2)) _ (by exact hlt1)) _ (by exact hlt1)) _ (by exact hlt1)) _ (by exact hlt1)) _ (by exact hlt1)) L0,
      (((((HB3.out.setCell (by exact L2) _).setCell (by exact L1) _).setCell (by exact L1) _).setCell (by exact L1) _).setCell (by exact L1) _).setCell (by exact L1) _⟩

set_option maxRecDepth 20000 in
set_option maxHeartbeats 2000000 in
theorem markWal_c (x : S_Wal) (k0 : Int) (v4 : Value) (base : Nat) (w : World) (hn : LnWal x 1048576) (hk0 : 0 < k0) (hk1 : k0 ≤ 10000000) (hb : base ≤ w.heap.size) (h : OwWal w base x v4) :
    Calls Try.prog 10 #[.agg #[.int .i64 x.f0, .int .i64 x.f1, .int .i64 x.f2, .int .i64 x.f3, v4], .int .i64 k0] w fun e w' => e = .returned (.int .i64 (k0 + ((x.f4.length * 2 : Nat) : Int))) ∧ MoWal w' base x k0 v4 ∧ ButL [v4] w w' := by
  have HN : Hid (LnWal x 1048576) := hn
  have b0 : Below w.heap.size w (w.alloc (.cells #[.int .i64 x.f0, .int .i64 x.f1, .int .i64 x.f2, .int .i64 x.f3, v4] 30)) := (Below.refl _ _).alloc (Nat.le_refl _) _
  have HO : Hid (OwWal (w.alloc (.cells #[.int .i64 x.f0, .int .i64 x.f1, .int .i64 x.f2, .int .i64 x.f3, v4] 30)) base x v4) := h.keep b0 (Nat.le_refl _)
  have HB0 : Hid (Below w.heap.size w (w.alloc (.cells #[.int .i64 x.f0, .int .i64 x.f1, .int .i64 x.f2, .int .i64 x.f3, v4] 30))) := b0
  have hbs : base ≤ (w.alloc (.cells #[.int .i64 x.f0, .int .i64 x.f1, .int .i64 x.f2, .int .i64 x.f3, v4] 30)).heap.size := by simp; omega
  clear h b0
  go_enter Try.func10, Try.ntmps10
  go_wp2_with fail
  refine (markEntryS_c v4 x.f4 k0 base _ HN.out (by omega) (by omega) hbs HO.out).mono ?_
  rintro e w1 ⟨rfl, o2, b1⟩
  have HM : Hid (MoWal w1 base x k0 v4) := o2
  have HB1 : Hid (ButL [v4] w w1) := (ButL.of_bel HB0.out).trans (ButL.of_butV (vs := [v4]) b1 (by simp))
  clear b1 o2
  go_wp2
  go_ret
  exact ⟨rfl, HM.out, HB1.out⟩

end Go.Proofs.Ytefbenojkajnoaa
