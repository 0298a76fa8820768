/- The contracts of what makes a Disk out of an argument, and of what marks one. -/
import Derived.Test.YtmknplpcpmkhiaaGreatHaDisk
namespace Go.Proofs.YtmknplpcpmkhiaaGreat
open Go.RowKit
set_option linter.unusedVariables false

set_option maxRecDepth 20000 in
set_option maxHeartbeats 2000000 in
theorem toDisk_c (x : S_Disk) (v2 v3 v4 : Value) (w : World) (hn : LnDisk x 1048576) (h : RdDisk w x v2 v3 v4) :
    Calls Tryz.prog 26 #[.agg #[.int .i64 x.f0, .int .i64 x.f1, v2, v3, v4]] w fun e w' => ∃ u2 u3 u4, e = .returned (.agg #[.int .i64 x.f0, .int .i64 x.f1, u2, u3, u4]) ∧ OwDisk w' w.heap.size x u2 u3 u4 ∧ Below w.heap.size w w' := by
  have HN : Hid (LnDisk x 1048576) := hn
  have HH : Hid (RdDisk w x v2 v3 v4) := h
  obtain ⟨W, hW⟩ : ∃ W, W = (((w.alloc (.cells #[.int .i64 x.f0, .int .i64 x.f1, v2, v3, v4] 58)).alloc (.cells #[.int .i64 0, .int .i64 0, .slice none 0 0, .slice none 0 0, .slice none 0 0] 28)).alloc (.cells #[.int .i64 x.f0, .int .i64 x.f1, .slice none 0 0, .slice none 0 0, .slice none 0 0] 28)) := ⟨_, rfl⟩
  have HW : Hid ((((w.alloc (.cells #[.int .i64 x.f0, .int .i64 x.f1, v2, v3, v4] 58)).alloc (.cells #[.int .i64 0, .int .i64 0, .slice none 0 0, .slice none 0 0, .slice none 0 0] 28)).alloc (.cells #[.int .i64 x.f0, .int .i64 x.f1, .slice none 0 0, .slice none 0 0, .slice none 0 0] 28)) = W) := hW.symm
  have HB0 : Hid (Below w.heap.size w W) := by rw [hW]; exact (((Below.refl _ _).alloc (Nat.le_refl _) _).alloc (by simp) _).alloc (by simp; omega) _
  have hWs : W.heap.size = w.heap.size + 3 := by rw [hW]; simp
  have X0 : Hid (W.ownsRow w.heap.size 58 1 (.slice (some ⟨w.heap.size, 0, none⟩) 5 5) 5 [.int .i64 x.f0, .int .i64 x.f1, v2, v3, v4]) := by
    rw [hW]; exact ((World.ownsRow_lit w #[.int .i64 x.f0, .int .i64 x.f1, v2, v3, v4] 5 (Nat.le_refl _) (by decide) rfl).alloc _).alloc _
  have R0 : Hid (W.ownsRow w.heap.size 28 1 (.slice (some ⟨w.heap.size + 1, 0, none⟩) 5 5) 5 [.int .i64 0, .int .i64 0, .slice none 0 0, .slice none 0 0, .slice none 0 0]) := by
    rw [hW]
    have := World.ownsRow_lit (base := w.heap.size) (e := 28) (size := 1) (w.alloc (.cells #[.int .i64 x.f0, .int .i64 x.f1, v2, v3, v4] 58)) #[.int .i64 0, .int .i64 0, .slice none 0 0, .slice none 0 0, .slice none 0 0] 5 (by simp) (by decide) rfl
    rw [World.size_alloc] at this
    exact this.alloc _
  have O0 : Hid (W.ownsRow w.heap.size 28 1 (.slice (some ⟨w.heap.size + 1 + 1, 0, none⟩) 5 5) 5 [.int .i64 x.f0, .int .i64 x.f1, .slice none 0 0, .slice none 0 0, .slice none 0 0]) := by
    rw [hW]
    have := World.ownsRow_lit (base := w.heap.size) (e := 28) (size := 1) ((w.alloc (.cells #[.int .i64 x.f0, .int .i64 x.f1, v2, v3, v4] 58)).alloc (.cells #[.int .i64 0, .int .i64 0, .slice none 0 0, .slice none 0 0, .slice none 0 0] 28)) #[.int .i64 x.f0, .int .i64 x.f1, .slice none 0 0, .slice none 0 0, .slice none 0 0] 5 (by simp; omega) (by decide) rfl
    rw [World.size_alloc, World.size_alloc] at this
    exact this
  clear hW h hn
  go_enter Tryz.func26, Tryz.ntmps26
  go_wp2_with fail
  rw [HW.out]
  refine (toInodeS_c v2 x.f2 W HN.out.1 (HH.out.1.keep HB0.out (Nat.le_refl _))).mono ?_
  rintro e w1 ⟨u2, rfl, own2, b1⟩
  obtain ⟨_, p2, k2, hv2, _⟩ := RowR.own own2
  subst hv2
  have X1 : Hid (w1.ownsRow w.heap.size _ 1 _ 5 _) := own_bel X0.out b1 (Nat.le_refl _)
  have R1 : Hid (w1.ownsRow w.heap.size _ 1 _ 5 _) := own_bel R0.out b1 (Nat.le_refl _)
  have O1 : Hid (w1.ownsRow w.heap.size _ 1 _ 5 _) := own_bel O0.out b1 (Nat.le_refl _)
  have U2 : Hid (w1.ownsRow W.heap.size _ 3 (.slice p2 x.f2.length k2) _ _) := own2
  have HB1 : Hid (Below w.heap.size w w1) := HB0.out.trans (b1.mono (by omega))
  have s1 := b1.size
  have c3 : w1.cell? ⟨w.heap.size, 3, none⟩ = some v3 := by rw [X1.out.cellAt 3 (by omega)]; rfl
  have o2 : w1.cell? ⟨w.heap.size + 1 + 1, 2, none⟩ = some (.slice none 0 0) := by rw [O1.out.cellAt 2 (by omega)]; rfl
  have z2 := O1.out.frozenAt 2
  clear own2 b1 X0 R0 O0
  have HB1s : Hid (Below w.heap.size w (w1.setCell ⟨w.heap.size + 1 + 1, 2, none⟩ (.slice p2 x.f2.length k2))) := HB1.out.setCell (by show w.heap.size ≤ w.heap.size + 1 + 1; omega) _
  have O1s : Hid ((w1.setCell ⟨w.heap.size + 1 + 1, 2, none⟩ (.slice p2 x.f2.length k2)).ownsRow w.heap.size 28 1 (.slice (some ⟨w.heap.size + 1 + 1, 0, none⟩) 5 5) 5 [.int .i64 x.f0, .int .i64 x.f1, .slice p2 x.f2.length k2, .slice none 0 0, .slice none 0 0]) := (O1.out.stored 2 _).1
  have X1s : Hid ((w1.setCell ⟨w.heap.size + 1 + 1, 2, none⟩ (.slice p2 x.f2.length k2)).ownsRow w.heap.size _ 1 _ 5 _) := own_set_ne X1.out _ (by show w.heap.size ≠ w.heap.size + 1 + 1; omega)
  have R1s : Hid ((w1.setCell ⟨w.heap.size + 1 + 1, 2, none⟩ (.slice p2 x.f2.length k2)).ownsRow w.heap.size _ 1 _ 5 _) := own_set_ne R1.out _ (by show w.heap.size + 1 ≠ w.heap.size + 1 + 1; omega)
  have U2s : Hid ((w1.setCell ⟨w.heap.size + 1 + 1, 2, none⟩ (.slice p2 x.f2.length k2)).ownsRow W.heap.size _ 3 (.slice p2 x.f2.length k2) _ _) := own_set_lt U2.out _ (by show w.heap.size + 1 + 1 < W.heap.size; omega)
  have s1s : W.heap.size ≤ (w1.setCell ⟨w.heap.size + 1 + 1, 2, none⟩ (.slice p2 x.f2.length k2)).heap.size := by simpa using s1
  clear X1 R1 O1 U2 HB1 s1
  go_wp2_with fail
  refine (toLinkS_c v3 x.f3 _ HN.out.2.1 (HH.out.2.1.keep HB1s.out (Nat.le_refl _))).mono ?_
  rintro e w2 ⟨u3, rfl, own3, b2⟩
  obtain ⟨_, p3, k3, hv3, _⟩ := RowR.own own3
  subst hv3
  have X2 : Hid (w2.ownsRow w.heap.size _ 1 _ 5 _) := own_bel X1s.out b2 (Nat.le_refl _)
  have R2 : Hid (w2.ownsRow w.heap.size _ 1 _ 5 _) := own_bel R1s.out b2 (Nat.le_refl _)
  have O2 : Hid (w2.ownsRow w.heap.size _ 1 _ 5 _) := own_bel O1s.out b2 (Nat.le_refl _)
  have U2 : Hid (w2.ownsRow W.heap.size _ 3 (.slice p2 x.f2.length k2) _ _) := own_bel U2s.out b2 (Nat.le_refl _)
  have U3 : Hid (w2.ownsRow W.heap.size _ 2 (.slice p3 x.f3.length k3) _ _) := own_low own3 s1s
  have HB2 : Hid (Below w.heap.size w w2) := HB1s.out.trans (b2.mono HB1s.out.size)
  have s2 := Nat.le_trans s1s b2.size
  clear c3 o2 z2
  have c4 : w2.cell? ⟨w.heap.size, 4, none⟩ = some v4 := by rw [X2.out.cellAt 4 (by omega)]; rfl
  have o3 : w2.cell? ⟨w.heap.size + 1 + 1, 3, none⟩ = some (.slice none 0 0) := by rw [O2.out.cellAt 3 (by omega)]; rfl
  have z3 := O2.out.frozenAt 3
  clear own3 b2 X1s R1s O1s U2s HB1s s1s
  have HB2s : Hid (Below w.heap.size w (w2.setCell ⟨w.heap.size + 1 + 1, 3, none⟩ (.slice p3 x.f3.length k3))) := HB2.out.setCell (by show w.heap.size ≤ w.heap.size + 1 + 1; omega) _
  have O2s : Hid ((w2.setCell ⟨w.heap.size + 1 + 1, 3, none⟩ (.slice p3 x.f3.length k3)).ownsRow w.heap.size 28 1 (.slice (some ⟨w.heap.size + 1 + 1, 0, none⟩) 5 5) 5 [.int .i64 x.f0, .int .i64 x.f1, .slice p2 x.f2.length k2, .slice p3 x.f3.length k3, .slice none 0 0]) := (O2.out.stored 3 _).1
  have R2s : Hid ((w2.setCell ⟨w.heap.size + 1 + 1, 3, none⟩ (.slice p3 x.f3.length k3)).ownsRow w.heap.size _ 1 _ 5 _) := own_set_ne R2.out _ (by show w.heap.size + 1 ≠ w.heap.size + 1 + 1; omega)
  have U2s : Hid ((w2.setCell ⟨w.heap.size + 1 + 1, 3, none⟩ (.slice p3 x.f3.length k3)).ownsRow W.heap.size _ 3 (.slice p2 x.f2.length k2) _ _) := own_set_lt U2.out _ (by show w.heap.size + 1 + 1 < W.heap.size; omega)
  have U3s : Hid ((w2.setCell ⟨w.heap.size + 1 + 1, 3, none⟩ (.slice p3 x.f3.length k3)).ownsRow W.heap.size _ 2 (.slice p3 x.f3.length k3) _ _) := own_set_lt U3.out _ (by show w.heap.size + 1 + 1 < W.heap.size; omega)
  have s2s : W.heap.size ≤ (w2.setCell ⟨w.heap.size + 1 + 1, 3, none⟩ (.slice p3 x.f3.length k3)).heap.size := by simpa using s2
  clear X2 R2 O2 U2 U3 HB2 s2
  go_wp2_with fail
  refine (toMoveS_c v4 x.f4 _ HN.out.2.2 (HH.out.2.2.keep HB2s.out (Nat.le_refl _))).mono ?_
  rintro e w3 ⟨u4, rfl, own4, b3⟩
  obtain ⟨_, p4, k4, hv4, _⟩ := RowR.own own4
  subst hv4
  have R3 : Hid (w3.ownsRow w.heap.size _ 1 _ 5 _) := own_bel R2s.out b3 (Nat.le_refl _)
  have O3 : Hid (w3.ownsRow w.heap.size _ 1 _ 5 _) := own_bel O2s.out b3 (Nat.le_refl _)
  have U2 : Hid (w3.ownsRow W.heap.size _ 3 (.slice p2 x.f2.length k2) _ _) := own_bel U2s.out b3 (Nat.le_refl _)
  have U3 : Hid (w3.ownsRow W.heap.size _ 2 (.slice p3 x.f3.length k3) _ _) := own_bel U3s.out b3 (Nat.le_refl _)
  have U4 : Hid (w3.ownsRow W.heap.size _ 4 (.slice p4 x.f4.length k4) _ _) := own_low own4 s2s
  have HB3 : Hid (Below w.heap.size w w3) := HB2s.out.trans (b3.mono HB2s.out.size)
  clear c4 o3 z3
  have q0 : w3.cell? ⟨w.heap.size + 1 + 1, 0, none⟩ = some (.int .i64 x.f0) := by rw [O3.out.cellAt 0 (by omega)]; rfl
  have q1 : w3.cell? ⟨w.heap.size + 1 + 1, 1, none⟩ = some (.int .i64 x.f1) := by rw [O3.out.cellAt 1 (by omega)]; rfl
  have q2 : w3.cell? ⟨w.heap.size + 1 + 1, 2, none⟩ = some (.slice p2 x.f2.length k2) := by rw [O3.out.cellAt 2 (by omega)]; rfl
  have q3 : w3.cell? ⟨w.heap.size + 1 + 1, 3, none⟩ = some (.slice p3 x.f3.length k3) := by rw [O3.out.cellAt 3 (by omega)]; rfl
  have q4 : w3.cell? ⟨w.heap.size + 1 + 1, 4, none⟩ = some (.slice none 0 0) := by rw [O3.out.cellAt 4 (by omega)]; rfl
  have y4 := O3.out.frozenAt 4
  have r0 : w3.cell? ⟨w.heap.size + 1, 0, none⟩ = some (.int .i64 0) := by rw [R3.out.cellAt 0 (by omega)]; rfl
  have r1 : w3.cell? ⟨w.heap.size + 1, 1, none⟩ = some (.int .i64 0) := by rw [R3.out.cellAt 1 (by omega)]; rfl
  have r2 : w3.cell? ⟨w.heap.size + 1, 2, none⟩ = some (.slice none 0 0) := by rw [R3.out.cellAt 2 (by omega)]; rfl
  have r3 : w3.cell? ⟨w.heap.size + 1, 3, none⟩ = some (.slice none 0 0) := by rw [R3.out.cellAt 3 (by omega)]; rfl
  have r4 : w3.cell? ⟨w.heap.size + 1, 4, none⟩ = some (.slice none 0 0) := by rw [R3.out.cellAt 4 (by omega)]; rfl
  have f0 := R3.out.frozenAt 0
  have f1 := R3.out.frozenAt 1
  have f2 := R3.out.frozenAt 2
  have f3 := R3.out.frozenAt 3
  have f4 := R3.out.frozenAt 4
  clear own4 b3 R2s O2s U2s U3s HB2s s2s
  have hlt1 : w.heap.size + 1 < W.heap.size := by omega
  have hlt2 : w.heap.size + 1 + 1 < W.heap.size := by omega
  have L2 : w.heap.size ≤ w.heap.size + 1 + 1 := by omega
  have L1 : w.heap.size ≤ w.heap.size + 1 := by omega
  have L0 : w.heap.size ≤ W.heap.size := by omega
  go_wp2
  exact bodyPost_ret (v := .agg #[.int .i64 x.f0, .int .i64 x.f1, .slice p2 x.f2.length k2, .slice p3 x.f3.length k3, .slice p4 x.f4.length k4]) (by simp [results, Tryz.results26, go_sem, r0, r1, r2, r3, r4]) rfl
    ⟨_, _, _, rfl,
      ⟨own_low (own_set_lt (own_set_lt (own_set_lt (own_set_lt (own_set_lt (own_set_lt U2.out _ (by exact hlt2)) _ (by exact hlt1)) _ (by exact hlt1)) _ (by exact hlt1)) _ (by exact hlt1)) _ (by exact hlt1)) L0,
       own_low (own_set_lt (own_set_lt (own_set_lt (own_set_lt (own_set_lt (own_set_lt U3.out _ (by exact hlt2)) _ (by exact hlt1)) _ (by exact hlt1)) _ (by exact hlt1)) _ (by exact hlt1)) _ (by exact hlt1)) L0,
       own_low (own_set_lt (own_set_lt (own_set_lt (own_set_lt (own_set_lt (own_set_lt U4.out _ (by exact hlt2)) _ (by exact hlt1)) _ (by exact hlt1)) _ (by exact hlt1)) _ (by exact hlt1)) _ (by exact hlt1)) L0⟩,
      (((((HB3.out.setCell (by exact L2) _).setCell (by exact L1) _).setCell (by exact L1) _).setCell (by exact L1) _).setCell (by exact L1) _).setCell (by exact L1) _⟩

set_option maxRecDepth 20000 in
set_option maxHeartbeats 2000000 in
theorem markDisk_c (x : S_Disk) (k0 : Int) (v2 v3 v4 : Value) (base : Nat) (w : World) (hn : LnDisk x 1048576) (hk0 : 0 < k0) (hk1 : k0 ≤ 10000000) (hb : base ≤ w.heap.size) (h : OwDisk w base x v2 v3 v4) :
    Calls Tryz.prog 29 #[.agg #[.int .i64 x.f0, .int .i64 x.f1, v2, v3, v4], .int .i64 k0] w fun e w' => e = .returned (.int .i64 (k0 + ((x.f2.length * 3 : Nat) : Int) + ((x.f3.length * 2 : Nat) : Int) + ((x.f4.length * 4 : Nat) : Int))) ∧ MoDisk w' base x k0 v2 v3 v4 ∧ ButL [v2, v3, v4] w w' := by
  have HN : Hid (LnDisk x 1048576) := hn
  have b0 : Below w.heap.size w (w.alloc (.cells #[.int .i64 x.f0, .int .i64 x.f1, v2, v3, v4] 28)) := (Below.refl _ _).alloc (Nat.le_refl _) _
  have HO : Hid (OwDisk (w.alloc (.cells #[.int .i64 x.f0, .int .i64 x.f1, v2, v3, v4] 28)) base x v2 v3 v4) := h.keep b0 (Nat.le_refl _)
  have HB0 : Hid (ButL [v2, v3, v4] w (w.alloc (.cells #[.int .i64 x.f0, .int .i64 x.f1, v2, v3, v4] 28))) := ButL.of_bel b0
  have HV : Hid (∀ W', ButL [v2, v3, v4] (w.alloc (.cells #[.int .i64 x.f0, .int .i64 x.f1, v2, v3, v4] 28)) W' → W'.cell? ⟨w.heap.size, 2, none⟩ = some v2 ∧ W'.cell? ⟨w.heap.size, 3, none⟩ = some v3 ∧ W'.cell? ⟨w.heap.size, 4, none⟩ = some v4) := fun W' hW => by
    have hbl : W'.heap[w.heap.size]? = (w.alloc (.cells #[.int .i64 x.f0, .int .i64 x.f1, v2, v3, v4] 28)).heap[w.heap.size]? := hW.block w.heap.size (by simp) (fun u hu e => by
      simp only [List.mem_cons, List.not_mem_nil, or_false] at hu
      rcases hu with rfl | rfl | rfl
      · have := (h.1.lt _ e).2; omega
      · have := (h.2.1.lt _ e).2; omega
      · have := (h.2.2.lt _ e).2; omega)
    have hc : ∀ j, W'.cell? ⟨w.heap.size, j, none⟩ = (w.alloc (.cells #[.int .i64 x.f0, .int .i64 x.f1, v2, v3, v4] 28)).cell? ⟨w.heap.size, j, none⟩ := fun j => World.cell?_of_block hbl
    exact ⟨by rw [hc]; simp, by rw [hc]; simp, by rw [hc]; simp⟩
  obtain ⟨l2, l3, l4⟩ := hn
  have hbs : base ≤ (w.alloc (.cells #[.int .i64 x.f0, .int .i64 x.f1, v2, v3, v4] 28)).heap.size := by simp; omega
  clear h b0
  go_enter Tryz.func29, Tryz.ntmps29
  go_wp2_with fail
  refine (markInodeS_c v2 x.f2 k0 base _ HN.out.1 (by omega) (by omega) hbs HO.out.1).mono ?_
  rintro e w1 ⟨rfl, o2, b1⟩
  have HB1 : Hid (ButL [v2, v3, v4] _ w1) := ButL.of_butV (vs := [v2, v3, v4]) b1 (by simp)
  have o3 := b1.own HO.out.1 HO.out.2.1 (by decide)
  have o4 := b1.own HO.out.1 HO.out.2.2 (by decide)
  obtain ⟨c2, c3, c4⟩ := HV.out w1 HB1.out
  have hs1 : base ≤ w1.heap.size := Nat.le_trans hbs b1.size
  have M2 : Hid (w1.ownsRow base _ 3 v2 _ _) := o2
  have O3 : Hid (w1.ownsRow base _ 2 v3 _ _) := o3
  have O4 : Hid (w1.ownsRow base _ 4 v4 _ _) := o4
  clear b1 o2 o3 o4
  go_wp2_with fail
  refine (markLinkS_c v3 x.f3 (k0 + ((x.f2.length * 3 : Nat) : Int)) base _ HN.out.2.1 (by omega) (by omega) hs1 O3.out).mono ?_
  rintro e w2 ⟨rfl, o3, b2⟩
  have HB2 : Hid (ButL [v2, v3, v4] _ w2) := HB1.out.trans (ButL.of_butV (vs := [v2, v3, v4]) b2 (by simp))
  have o2 := b2.own O3.out M2.out (by decide)
  have o4 := b2.own O3.out O4.out (by decide)
  clear c2 c3 c4
  obtain ⟨c2, c3, c4⟩ := HV.out w2 HB2.out
  have hs2 : base ≤ w2.heap.size := Nat.le_trans hs1 b2.size
  have N2 : Hid (w2.ownsRow base _ 3 v2 _ _) := o2
  have N3 : Hid (w2.ownsRow base _ 2 v3 _ _) := o3
  have N4 : Hid (w2.ownsRow base _ 4 v4 _ _) := o4
  clear b2 o2 o3 o4 M2 O3 O4
  go_wp2_with fail
  refine (markMoveS_c v4 x.f4 (k0 + ((x.f2.length * 3 : Nat) : Int) + ((x.f3.length * 2 : Nat) : Int)) base _ HN.out.2.2 (by omega) (by omega) hs2 N4.out).mono ?_
  rintro e w3 ⟨rfl, o4, b3⟩
  have HB3 : Hid (ButL [v2, v3, v4] w w3) := (HB0.out.trans HB2.out).trans (ButL.of_butV (vs := [v2, v3, v4]) b3 (by simp))
  have HM : Hid (MoDisk w3 base x k0 v2 v3 v4) := ⟨b3.own N4.out N2.out (by decide), b3.own N4.out N3.out (by decide), o4⟩
  clear b3 o4 N2 N3 N4 c2 c3 c4
  go_wp2
  go_ret
  exact ⟨rfl, HM.out, HB3.out⟩

end Go.Proofs.YtmknplpcpmkhiaaGreat
