/- The specification's Drop and Rename by contracts. -/
import Derived.Test.YtpgicnjhncaaeaaGreatDkSync
import Derived.Test.YtpgicnjhncaaeaaGreatDiChg
namespace Go.Proofs.YtpgicnjhncaaeaaGreat
open Go.RowKit Go.Maps
set_option linter.unusedVariables false

/-- What a move with a code makes of a disk. -/
def mvS (x : S_Disk) (v : S_Move) (code : Int) : S_Disk × Int :=
  if code ≠ 0 then (x, code) else if 20 ≤ x.f4.length then (x, 4) else (⟨x.f0, x.f1, x.f2, x.f3, x.f4 ++ [v]⟩, 0)

def MvR (y : S_Disk × Int) (w : World) (e : Ending) (w' : World) : Prop :=
  ∃ v2 v3 v4, e = .returned (.tuple #[.agg #[.int .i64 y.1.f0, .int .i64 y.1.f1, v2, v3, v4], .int .i64 y.2]) ∧ OwDisk w' w.heap.size y.1 v2 v3 v4 ∧ Below w.heap.size w w'

theorem own_gr {w w' : World} {b1 b2 : Nat} {e1 e2 : TypeId} {s1 s2 n1 n2 : Nat} {v1 v2 : Value} {x1 x2 : List Value} (h1 : w.ownsRow b1 e1 s1 v1 n1 x1) (h2 : w.ownsRow b2 e2 s2 v2 n2 x2) (hne : e1 ≠ e2) (hg : w.grownBy w' v2.ownBlock) : w'.ownsRow b1 e1 s1 v1 n1 x1 := by
  obtain ⟨a, ⟨rfl, b⟩ | ⟨g, cap, cur, rfl, hb, hh, r⟩⟩ := h1
  · exact ⟨a, .inl ⟨rfl, b⟩⟩
  · refine ⟨a, .inr ⟨g, cap, cur, rfl, hb, (hg.block g (lt_of_some hh) (fun e => ?_)).trans hh, r⟩⟩
    obtain ⟨_, ⟨rfl, _⟩ | ⟨g2, cap2, cur2, rfl, _, hh2, _⟩⟩ := h2
    · cases e
    · simp only [Value.ownBlock, Option.some.injEq] at e
      subst e
      rw [hh] at hh2
      simp only [Option.some.injEq, Obj.cells.injEq] at hh2
      exact hne hh2.2.1

set_option maxRecDepth 20000 in
set_option maxHeartbeats 4000000 in
theorem moved_c (x : S_Disk) (v : S_Move) (code : Int) (p2 p3 p4 : Option Addr) (c2 c3 c4 : Nat) (w : World) (hn : LnDisk x 1048576) (hr : RdDisk w x (.slice p2 x.f2.length c2) (.slice p3 x.f3.length c3) (.slice p4 x.f4.length c4)) :
    Calls Tryz.prog 85 #[.agg #[.int .i64 x.f0, .int .i64 x.f1, .slice p2 x.f2.length c2, .slice p3 x.f3.length c3, .slice p4 x.f4.length c4], .agg #[.int .i64 v.f0, .string v.f1, .string v.f2, .int .i64 v.f3], .int .i64 code] w (MvR (mvS x v code) w) := by
  obtain ⟨iM, hiM, hM0, hM1, hM2⟩ := info_parts infoMove
  have HLN : Hid (LnDisk x 1048576) := hn
  have HR0 : Hid (RdDisk w x (.slice p2 x.f2.length c2) (.slice p3 x.f3.length c3) (.slice p4 x.f4.length c4)) := hr
  have hl4 : x.f4.length ≤ 1048576 := hn.2.2
  clear hn hr
  go_enter Tryz.func85, Tryz.ntmps85
  go_upto_region 1 with fail
  refine wp_genD (fun W => Hid (W.heap[w.heap.size]? = some (.cells #[.int .i64 x.f0, .int .i64 x.f1, .slice p2 x.f2.length c2, .slice p3 x.f3.length c3, .slice p4 x.f4.length c4] 28)) ∧ Hid (W.heap[w.heap.size + 1]? = some (.cells #[.int .i64 v.f0, .string v.f1, .string v.f2, .int .i64 v.f3] 51)) ∧ Hid (W.heap[w.heap.size + 2]? = some (.cells #[.int .i64 0, .int .i64 0, .slice none 0 0, .slice none 0 0, .slice none 0 0] 28)) ∧ Hid (Below w.heap.size w W) ∧ Hid (W.heap.size = w.heap.size + 3)) ⟨?_, ?_, ?_, ?_, ?_⟩ ?_
  · show _ = _
    rw [Below.heap_alloc _ _ _ (by simp; omega), Below.heap_alloc _ _ _ (by simp)]
    exact alloc_at _ _
  · show _ = _
    rw [Below.heap_alloc _ _ _ (by simp)]
    have := alloc_at (w.alloc (.cells #[.int .i64 x.f0, .int .i64 x.f1, .slice p2 x.f2.length c2, .slice p3 x.f3.length c3, .slice p4 x.f4.length c4] 28)) (.cells #[.int .i64 v.f0, .string v.f1, .string v.f2, .int .i64 v.f3] 51)
    rw [World.size_alloc] at this
    exact this
  · have := alloc_at ((w.alloc (.cells #[.int .i64 x.f0, .int .i64 x.f1, .slice p2 x.f2.length c2, .slice p3 x.f3.length c3, .slice p4 x.f4.length c4] 28)).alloc (.cells #[.int .i64 v.f0, .string v.f1, .string v.f2, .int .i64 v.f3] 51)) (.cells #[.int .i64 0, .int .i64 0, .slice none 0 0, .slice none 0 0, .slice none 0 0] 28)
    rw [World.size_alloc, World.size_alloc] at this
    exact this
  · exact (((Below.refl _ _).alloc (Nat.le_refl _) _).alloc (by simp) _).alloc (by simp; omega) _
  · show _ = _
    simp
  rintro W1 ⟨HD1, HX1, HR1, HB1, HSZ⟩
  have HRD : Hid (RdDisk W1 x (.slice p2 x.f2.length c2) (.slice p3 x.f3.length c3) (.slice p4 x.f4.length c4)) := HR0.out.keep HB1.out (Nat.le_refl _)
  clear HR0
  obtain ⟨⟨e0, e1, e2, e3, e4⟩, _⟩ := disk_cell HD1.out
  by_cases hc : code = 0
  · subst hc
    by_cases hf : (20 : Int) ≤ (x.f4.length : Int)
    · have HF : Hid (mvS x v 0 = (x, 4)) := by show _ = _; unfold mvS; rw [if_neg (by simp), if_pos (by omega)]
      have hf' : (x.f4.length : Int) ≥ 20 := hf
      go_wp2_with fail
      refine (copy_c x p2 p3 p4 c2 c3 c4 W1 HLN.out HRD.out).mono ?_
      rintro e w3 ⟨g2, g3, g4, d2, d3, d4, rfl, ho, b3⟩
      have HS3 : Hid (W1.heap.size ≤ w3.heap.size) := b3.size
      have HO3 : Hid (OwDisk w3 W1.heap.size x (.slice g2 x.f2.length d2) (.slice g3 x.f3.length d3) (.slice g4 x.f4.length d4)) := ho
      have HC3 : Hid (Below w.heap.size w w3) := HB1.out.trans (b3.mono HB1.out.size)
      have HR3 : Hid (w3.heap[w.heap.size + 2]? = some (.cells #[.int .i64 0, .int .i64 0, .slice none 0 0, .slice none 0 0, .slice none 0 0] 28)) := (b3.block _ (lt_of_some HR1.out)).trans HR1.out
      have HX3 : Hid (w3.heap[w.heap.size + 1]? = some (.cells #[.int .i64 v.f0, .string v.f1, .string v.f2, .int .i64 v.f3] 51)) := (b3.block _ (lt_of_some HX1.out)).trans HX1.out
      have HD3 : Hid (w3.heap[w.heap.size]? = some (.cells #[.int .i64 x.f0, .int .i64 x.f1, .slice p2 x.f2.length c2, .slice p3 x.f3.length c3, .slice p4 x.f4.length c4] 28)) := (b3.block _ (lt_of_some HD1.out)).trans HD1.out
      clear b3 ho e0 e1 e2 e3 e4
      obtain ⟨⟨y0, y1, y2, y3, y4⟩, yf⟩ := disk_cell HD3.out
      have yf0 := yf 0
      have yf1 := yf 1
      have yf2 := yf 2
      have yf3 := yf 3
      have yf4 := yf 4
      clear yf
      go_upto_region 4 with fail
      refine wp_genD (fun W => Hid (W.heap[w.heap.size]? = some (.cells #[.int .i64 x.f0, .int .i64 x.f1, .slice g2 x.f2.length d2, .slice g3 x.f3.length d3, .slice g4 x.f4.length d4] 28)) ∧ Hid (W.heap[w.heap.size + 1]? = some (.cells #[.int .i64 v.f0, .string v.f1, .string v.f2, .int .i64 v.f3] 51)) ∧ Hid (W.heap[w.heap.size + 2]? = some (.cells #[.int .i64 0, .int .i64 0, .slice none 0 0, .slice none 0 0, .slice none 0 0] 28)) ∧ Hid (OwDisk W W1.heap.size x (.slice g2 x.f2.length d2) (.slice g3 x.f3.length d3) (.slice g4 x.f4.length d4)) ∧ Hid (Below w.heap.size w W) ∧ Hid (W1.heap.size ≤ W.heap.size)) ⟨?_, ?_, ?_, ?_, ?_, ?_⟩ ?_
      · exact disk_all HD3.out
      · show _ = _
        rw [heap_set_ne _ _ (by show w.heap.size + 1 ≠ w.heap.size; omega), heap_set_ne _ _ (by show w.heap.size + 1 ≠ w.heap.size; omega), heap_set_ne _ _ (by show w.heap.size + 1 ≠ w.heap.size; omega), heap_set_ne _ _ (by show w.heap.size + 1 ≠ w.heap.size; omega), heap_set_ne _ _ (by show w.heap.size + 1 ≠ w.heap.size; omega)]
        exact HX3.out
      · show _ = _
        rw [heap_set_ne _ _ (by show w.heap.size + 2 ≠ w.heap.size; omega), heap_set_ne _ _ (by show w.heap.size + 2 ≠ w.heap.size; omega), heap_set_ne _ _ (by show w.heap.size + 2 ≠ w.heap.size; omega), heap_set_ne _ _ (by show w.heap.size + 2 ≠ w.heap.size; omega), heap_set_ne _ _ (by show w.heap.size + 2 ≠ w.heap.size; omega)]
        exact HR3.out
      · have h2 := HSZ.out
        have hs : ∀ {e : TypeId} {size n base : Nat} {v : Value} {xs : List Value} {W : World}, W.ownsRow base e size v n xs → w.heap.size < base → ∀ u (o : Nat), (W.setCell ⟨w.heap.size, o, none⟩ u).ownsRow base e size v n xs := fun h hl u o => own_set_lt h u hl
        exact ⟨hs (hs (hs (hs (hs HO3.out.1 (by omega) _ 0) (by omega) _ 1) (by omega) _ 2) (by omega) _ 3) (by omega) _ 4, hs (hs (hs (hs (hs HO3.out.2.1 (by omega) _ 0) (by omega) _ 1) (by omega) _ 2) (by omega) _ 3) (by omega) _ 4, hs (hs (hs (hs (hs HO3.out.2.2 (by omega) _ 0) (by omega) _ 1) (by omega) _ 2) (by omega) _ 3) (by omega) _ 4⟩
      · exact ((((HC3.out.setCell (Nat.le_refl _) _).setCell (Nat.le_refl _) _).setCell (Nat.le_refl _) _).setCell (Nat.le_refl _) _).setCell (Nat.le_refl _) _
      · show _ ≤ _
        simp only [World.setCell, Array.size_modify]
        exact HS3.out
      rintro W4 ⟨HD4, HX4, HR4, HO4, HBF, HS4⟩
      clear y0 y1 y2 y3 y4 yf0 yf1 yf2 yf3 yf4 HO3 HC3 HR3 HX3 HD3
      obtain ⟨⟨y0, y1, y2, y3, y4⟩, yf⟩ := disk_cell HD4.out
      clear yf
      obtain ⟨⟨z0, z1, z2, z3, z4⟩, zf⟩ := disk_cell HR4.out
      have zf0 := zf 0
      have zf1 := zf 1
      have zf2 := zf 2
      have zf3 := zf 3
      have zf4 := zf 4
      clear zf
      have h2 := HSZ.out
      have HO5 : Hid _ := HO4
      go_wp2
      refine bodyPost_ret (v := .tuple #[.agg #[.int .i64 x.f0, .int .i64 x.f1, .slice g2 x.f2.length d2, .slice g3 x.f3.length d3, .slice g4 x.f4.length d4], .int .i64 4]) (by simp [results, Tryz.results85, go_sem, z0, z1, z2, z3, z4]) rfl ⟨_, _, _, by rw [HF.out], ?_, ?_⟩
      · have hs : ∀ {e : TypeId} {size n base : Nat} {v : Value} {xs : List Value} {W : World}, W.ownsRow base e size v n xs → w.heap.size + 2 < base → ∀ u (o : Nat), (W.setCell ⟨w.heap.size + 2, o, none⟩ u).ownsRow base e size v n xs := fun h hl u o => own_set_lt h u hl
        rw [HF.out]
        refine ⟨?_, ?_, ?_⟩
        · exact own_low (hs (hs (hs (hs (hs (HO4.out.1) (by omega) _ 0) (by omega) _ 1) (by omega) _ 2) (by omega) _ 3) (by omega) _ 4) (by omega)
        · exact own_low (hs (hs (hs (hs (hs (HO4.out.2.1) (by omega) _ 0) (by omega) _ 1) (by omega) _ 2) (by omega) _ 3) (by omega) _ 4) (by omega)
        · exact own_low (hs (hs (hs (hs (hs (HO4.out.2.2) (by omega) _ 0) (by omega) _ 1) (by omega) _ 2) (by omega) _ 3) (by omega) _ 4) (by omega)
      · exact ((((HBF.out.setCell (by show w.heap.size ≤ w.heap.size + 2; omega) _).setCell (by show w.heap.size ≤ w.heap.size + 2; omega) _).setCell (by show w.heap.size ≤ w.heap.size + 2; omega) _).setCell (by show w.heap.size ≤ w.heap.size + 2; omega) _).setCell (by show w.heap.size ≤ w.heap.size + 2; omega) _
    have HF : Hid (mvS x v 0 = (⟨x.f0, x.f1, x.f2, x.f3, x.f4 ++ [v]⟩, 0)) := by show _ = _; unfold mvS; rw [if_neg (by simp), if_neg (by omega)]
    have hf' : ¬ (x.f4.length : Int) ≥ 20 := hf
    go_wp2_with fail
    refine (copy_c x p2 p3 p4 c2 c3 c4 W1 HLN.out HRD.out).mono ?_
    rintro e w3 ⟨g2, g3, g4, d2, d3, d4, rfl, ho, b3⟩
    have HS3 : Hid (W1.heap.size ≤ w3.heap.size) := b3.size
    have HO3 : Hid (OwDisk w3 W1.heap.size x (.slice g2 x.f2.length d2) (.slice g3 x.f3.length d3) (.slice g4 x.f4.length d4)) := ho
    have HC3 : Hid (Below w.heap.size w w3) := HB1.out.trans (b3.mono HB1.out.size)
    have HR3 : Hid (w3.heap[w.heap.size + 2]? = some (.cells #[.int .i64 0, .int .i64 0, .slice none 0 0, .slice none 0 0, .slice none 0 0] 28)) := (b3.block _ (lt_of_some HR1.out)).trans HR1.out
    have HX3 : Hid (w3.heap[w.heap.size + 1]? = some (.cells #[.int .i64 v.f0, .string v.f1, .string v.f2, .int .i64 v.f3] 51)) := (b3.block _ (lt_of_some HX1.out)).trans HX1.out
    have HD3 : Hid (w3.heap[w.heap.size]? = some (.cells #[.int .i64 x.f0, .int .i64 x.f1, .slice p2 x.f2.length c2, .slice p3 x.f3.length c3, .slice p4 x.f4.length c4] 28)) := (b3.block _ (lt_of_some HD1.out)).trans HD1.out
    clear b3 ho e0 e1 e2 e3 e4
    obtain ⟨⟨y0, y1, y2, y3, y4⟩, yf⟩ := disk_cell HD3.out
    have yf0 := yf 0
    have yf1 := yf 1
    have yf2 := yf 2
    have yf3 := yf 3
    have yf4 := yf 4
    clear yf
    go_upto_region 4 with fail
    refine wp_genD (fun W => Hid (W.heap[w.heap.size]? = some (.cells #[.int .i64 x.f0, .int .i64 x.f1, .slice g2 x.f2.length d2, .slice g3 x.f3.length d3, .slice g4 x.f4.length d4] 28)) ∧ Hid (W.heap[w.heap.size + 1]? = some (.cells #[.int .i64 v.f0, .string v.f1, .string v.f2, .int .i64 v.f3] 51)) ∧ Hid (W.heap[w.heap.size + 2]? = some (.cells #[.int .i64 0, .int .i64 0, .slice none 0 0, .slice none 0 0, .slice none 0 0] 28)) ∧ Hid (OwDisk W W1.heap.size x (.slice g2 x.f2.length d2) (.slice g3 x.f3.length d3) (.slice g4 x.f4.length d4)) ∧ Hid (Below w.heap.size w W) ∧ Hid (W1.heap.size ≤ W.heap.size)) ⟨?_, ?_, ?_, ?_, ?_, ?_⟩ ?_
    · exact disk_all HD3.out
    · show _ = _
      rw [heap_set_ne _ _ (by show w.heap.size + 1 ≠ w.heap.size; omega), heap_set_ne _ _ (by show w.heap.size + 1 ≠ w.heap.size; omega), heap_set_ne _ _ (by show w.heap.size + 1 ≠ w.heap.size; omega), heap_set_ne _ _ (by show w.heap.size + 1 ≠ w.heap.size; omega), heap_set_ne _ _ (by show w.heap.size + 1 ≠ w.heap.size; omega)]
      exact HX3.out
    · show _ = _
      rw [heap_set_ne _ _ (by show w.heap.size + 2 ≠ w.heap.size; omega), heap_set_ne _ _ (by show w.heap.size + 2 ≠ w.heap.size; omega), heap_set_ne _ _ (by show w.heap.size + 2 ≠ w.heap.size; omega), heap_set_ne _ _ (by show w.heap.size + 2 ≠ w.heap.size; omega), heap_set_ne _ _ (by show w.heap.size + 2 ≠ w.heap.size; omega)]
      exact HR3.out
    · have h2 := HSZ.out
      have hs : ∀ {e : TypeId} {size n base : Nat} {v : Value} {xs : List Value} {W : World}, W.ownsRow base e size v n xs → w.heap.size < base → ∀ u (o : Nat), (W.setCell ⟨w.heap.size, o, none⟩ u).ownsRow base e size v n xs := fun h hl u o => own_set_lt h u hl
      exact ⟨hs (hs (hs (hs (hs HO3.out.1 (by omega) _ 0) (by omega) _ 1) (by omega) _ 2) (by omega) _ 3) (by omega) _ 4, hs (hs (hs (hs (hs HO3.out.2.1 (by omega) _ 0) (by omega) _ 1) (by omega) _ 2) (by omega) _ 3) (by omega) _ 4, hs (hs (hs (hs (hs HO3.out.2.2 (by omega) _ 0) (by omega) _ 1) (by omega) _ 2) (by omega) _ 3) (by omega) _ 4⟩
    · exact ((((HC3.out.setCell (Nat.le_refl _) _).setCell (Nat.le_refl _) _).setCell (Nat.le_refl _) _).setCell (Nat.le_refl _) _).setCell (Nat.le_refl _) _
    · show _ ≤ _
      simp only [World.setCell, Array.size_modify]
      exact HS3.out
    rintro W4 ⟨HD4, HX4, HR4, HO4, HBF, HS4⟩
    clear y0 y1 y2 y3 y4 yf0 yf1 yf2 yf3 yf4 HO3 HC3 HR3 HX3 HD3
    obtain ⟨⟨y0, y1, y2, y3, y4⟩, yf⟩ := disk_cell HD4.out
    have yf4 := yf 4
    clear yf
    obtain ⟨i0, i1, i2, i3, _⟩ := box4 HX4.out
    obtain ⟨WB, hWB⟩ : ∃ W, W = W4.alloc (.cells #[.int .i64 v.f0, .string v.f1, .string v.f2, .int .i64 v.f3] 51) := ⟨_, rfl⟩
    have HWB : Hid (W4.alloc (.cells #[.int .i64 v.f0, .string v.f1, .string v.f2, .int .i64 v.f3] 51) = WB) := hWB.symm
    have HVB : Hid (WB.ownsRow W1.heap.size 51 4 (.slice g4 x.f4.length d4) x.f4.length (rMove x.f4)) := by rw [hWB]; exact HO4.out.2.2.alloc _
    have HQ2 : Hid (WB.ownsRow W1.heap.size 47 3 (.slice g2 x.f2.length d2) x.f2.length (rInode x.f2)) := by rw [hWB]; exact HO4.out.1.alloc _
    have HQ3 : Hid (WB.ownsRow W1.heap.size 49 2 (.slice g3 x.f3.length d3) x.f3.length (rLink x.f3)) := by rw [hWB]; exact HO4.out.2.1.alloc _
    have HBB : Hid (Below w.heap.size w WB) := by rw [hWB]; exact HBF.out.alloc HBF.out.size _
    have HDB : Hid (WB.heap[w.heap.size]? = some (.cells #[.int .i64 x.f0, .int .i64 x.f1, .slice g2 x.f2.length d2, .slice g3 x.f3.length d3, .slice g4 x.f4.length d4] 28)) := by rw [hWB]; exact (Below.heap_alloc _ _ _ (lt_of_some HD4.out)).trans HD4.out
    have HRB : Hid (WB.heap[w.heap.size + 2]? = some (.cells #[.int .i64 0, .int .i64 0, .slice none 0 0, .slice none 0 0, .slice none 0 0] 28)) := by rw [hWB]; exact (Below.heap_alloc _ _ _ (lt_of_some HR4.out)).trans HR4.out
    have hxa : ∀ o, (W4.alloc o).cell? ⟨w.heap.size, 4, none⟩ = some (.slice g4 x.f4.length d4) := fun o => cell_alloc y4
    obtain ⟨v', WC, hrunC, hownC, hgrowC, _⟩ := run_append_own (P := Tryz.prog) WB W1.heap.size 26 26 51 iM (.agg #[.int .i64 0, .string ⟨#[]⟩, .string ⟨#[]⟩, .int .i64 0]) 4 48 Tryz.underlying26 hiM hM0 hM1 hM2 rfl (by decide) _ _ _ HVB.out ⟨W4.heap.size, 0, none⟩ 1 1 [.int .i64 v.f0, .string v.f1, .string v.f2, .int .i64 v.f3] rfl (by rw [hWB]; exact cells_new W4 _ _) (by intro u hu; simp at hu; rcases hu with rfl | rfl | rfl | rfl <;> rfl) (by unfold maxLen; omega) (by omega) (by have h1 := HS4.out; rw [hWB]; simp; omega)
    obtain ⟨pv, cv, hvv, _, _⟩ := own_slice hownC
    subst hvv
    have hne : ∀ k, k < W1.heap.size → some k ≠ (.slice g4 x.f4.length d4 : Value).ownBlock := fun k hk e1 => by have := own_ge HVB.out _ e1.symm; omega
    have HDC : Hid (WC.heap[w.heap.size]? = some (.cells #[.int .i64 x.f0, .int .i64 x.f1, .slice g2 x.f2.length d2, .slice g3 x.f3.length d3, .slice g4 x.f4.length d4] 28)) := (hgrowC.block _ (lt_of_some HDB.out) (hne _ (by rw [HSZ.out]; omega))).trans HDB.out
    have HRC : Hid (WC.heap[w.heap.size + 2]? = some (.cells #[.int .i64 0, .int .i64 0, .slice none 0 0, .slice none 0 0, .slice none 0 0] 28)) := (hgrowC.block _ (lt_of_some HRB.out) (hne _ (by rw [HSZ.out]; omega))).trans HRB.out
    have HC2 : Hid (WC.ownsRow W1.heap.size 47 3 (.slice g2 x.f2.length d2) x.f2.length (rInode x.f2)) := own_gr HQ2.out HVB.out (by decide) hgrowC
    have HC3 : Hid (WC.ownsRow W1.heap.size 49 2 (.slice g3 x.f3.length d3) x.f3.length (rLink x.f3)) := own_gr HQ3.out HVB.out (by decide) hgrowC
    have HC4 : Hid (WC.ownsRow W1.heap.size 51 4 (.slice pv (x.f4.length + 1) cv) (x.f4.length + 1) (rMove (x.f4 ++ [v]))) := by
      have e1 : rMove (x.f4 ++ [v]) = rMove x.f4 ++ [.int .i64 v.f0, .string v.f1, .string v.f2, .int .i64 v.f3] := by unfold rMove; rw [List.flatMap_append]; rfl
      show World.ownsRow _ _ _ _ _ _ _
      rw [e1]
      exact hownC
    have HBC : Hid (Below w.heap.size w WC) := HBB.out.grown hgrowC HBB.out.size (fun k hk => by have := own_ge HVB.out _ hk; have := HSZ.out; omega)
    obtain ⟨⟨_, _, _, _, q4⟩, qf⟩ := disk_cell HDC.out
    have qf4 := qf 4
    rw [← HWB.out] at hrunC
    clear qf HVB HQ2 HQ3 HBB HDB HRB hownC hgrowC hne hWB HWB
    go_upto_region 6 with (at_builtin; refine wpList_append_to rfl _ _ 26 rfl _ _ rfl rfl _ _ hrunC ?_)
    refine wp_genD (fun W => Hid (W.heap[w.heap.size]? = some (.cells #[.int .i64 x.f0, .int .i64 x.f1, .slice g2 x.f2.length d2, .slice g3 x.f3.length d3, .slice pv (x.f4.length + 1) cv] 28)) ∧ Hid (W.heap[w.heap.size + 2]? = some (.cells #[.int .i64 0, .int .i64 0, .slice none 0 0, .slice none 0 0, .slice none 0 0] 28)) ∧ Hid (W.ownsRow W1.heap.size 47 3 (.slice g2 x.f2.length d2) x.f2.length (rInode x.f2)) ∧ Hid (W.ownsRow W1.heap.size 49 2 (.slice g3 x.f3.length d3) x.f3.length (rLink x.f3)) ∧ Hid (W.ownsRow W1.heap.size 51 4 (.slice pv (x.f4.length + 1) cv) (x.f4.length + 1) (rMove (x.f4 ++ [v]))) ∧ Hid (Below w.heap.size w W)) ⟨(disk_set HDC.out).2.2 _, ?_, own_set_lt HC2.out _ ?_, own_set_lt HC3.out _ ?_, own_set_lt HC4.out _ ?_, HBC.out.setCell (Nat.le_refl _) _⟩ ?_
    · show _ = _
      rw [heap_set_ne _ _ (by show w.heap.size + 2 ≠ w.heap.size; omega)]
      exact HRC.out
    · show w.heap.size < _; rw [HSZ.out]; omega
    · show w.heap.size < _; rw [HSZ.out]; omega
    · show w.heap.size < _; rw [HSZ.out]; omega
    rintro W6 ⟨HD6, HR6, HP2, HP3, HP4, HBF⟩
    clear hrunC q4 qf4 yf4 y0 y1 y2 y3 y4 i0 i1 i2 i3 hxa HDC HRC HC2 HC3 HC4 HBC HO4 HD4 HX4 HR4
    obtain ⟨⟨y0, y1, y2, y3, y4⟩, _⟩ := disk_cell HD6.out
    obtain ⟨⟨z0, z1, z2, z3, z4⟩, zf⟩ := disk_cell HR6.out
    have zf0 := zf 0
    have zf1 := zf 1
    have zf2 := zf 2
    have zf3 := zf 3
    have zf4 := zf 4
    clear zf
    have h2 := HSZ.out
    go_wp2
    refine bodyPost_ret (v := .tuple #[.agg #[.int .i64 x.f0, .int .i64 x.f1, .slice g2 x.f2.length d2, .slice g3 x.f3.length d3, .slice pv (x.f4.length + 1) cv], .int .i64 0]) (by simp [results, Tryz.results85, go_sem, z0, z1, z2, z3, z4]) rfl ⟨_, _, _, by rw [HF.out], ?_, ?_⟩
    · have hs : ∀ {e : TypeId} {size n base : Nat} {v : Value} {xs : List Value} {W : World}, W.ownsRow base e size v n xs → w.heap.size + 2 < base → ∀ u (o : Nat), (W.setCell ⟨w.heap.size + 2, o, none⟩ u).ownsRow base e size v n xs := fun h hl u o => own_set_lt h u hl
      rw [HF.out]
      refine ⟨?_, ?_, ?_⟩
      · exact own_low (hs (hs (hs (hs (hs (HP2.out) (by omega) _ 0) (by omega) _ 1) (by omega) _ 2) (by omega) _ 3) (by omega) _ 4) (by omega)
      · exact own_low (hs (hs (hs (hs (hs (HP3.out) (by omega) _ 0) (by omega) _ 1) (by omega) _ 2) (by omega) _ 3) (by omega) _ 4) (by omega)
      · exact own_low (hs (hs (hs (hs (hs ((by simpa using HP4.out)) (by omega) _ 0) (by omega) _ 1) (by omega) _ 2) (by omega) _ 3) (by omega) _ 4) (by omega)
    · exact ((((HBF.out.setCell (by show w.heap.size ≤ w.heap.size + 2; omega) _).setCell (by show w.heap.size ≤ w.heap.size + 2; omega) _).setCell (by show w.heap.size ≤ w.heap.size + 2; omega) _).setCell (by show w.heap.size ≤ w.heap.size + 2; omega) _).setCell (by show w.heap.size ≤ w.heap.size + 2; omega) _
  · have hcb : (code == 0) = false := by simpa using hc
    have HF : Hid (mvS x v code = (x, code)) := by show _ = _; unfold mvS; rw [if_pos hc]
    go_wp2_with fail
    refine (copy_c x p2 p3 p4 c2 c3 c4 W1 HLN.out HRD.out).mono ?_
    rintro e w3 ⟨g2, g3, g4, d2, d3, d4, rfl, ho, b3⟩
    have HS3 : Hid (W1.heap.size ≤ w3.heap.size) := b3.size
    have HO3 : Hid (OwDisk w3 W1.heap.size x (.slice g2 x.f2.length d2) (.slice g3 x.f3.length d3) (.slice g4 x.f4.length d4)) := ho
    have HC3 : Hid (Below w.heap.size w w3) := HB1.out.trans (b3.mono HB1.out.size)
    have HR3 : Hid (w3.heap[w.heap.size + 2]? = some (.cells #[.int .i64 0, .int .i64 0, .slice none 0 0, .slice none 0 0, .slice none 0 0] 28)) := (b3.block _ (lt_of_some HR1.out)).trans HR1.out
    have HX3 : Hid (w3.heap[w.heap.size + 1]? = some (.cells #[.int .i64 v.f0, .string v.f1, .string v.f2, .int .i64 v.f3] 51)) := (b3.block _ (lt_of_some HX1.out)).trans HX1.out
    have HD3 : Hid (w3.heap[w.heap.size]? = some (.cells #[.int .i64 x.f0, .int .i64 x.f1, .slice p2 x.f2.length c2, .slice p3 x.f3.length c3, .slice p4 x.f4.length c4] 28)) := (b3.block _ (lt_of_some HD1.out)).trans HD1.out
    clear b3 ho e0 e1 e2 e3 e4
    obtain ⟨⟨y0, y1, y2, y3, y4⟩, yf⟩ := disk_cell HD3.out
    have yf0 := yf 0
    have yf1 := yf 1
    have yf2 := yf 2
    have yf3 := yf 3
    have yf4 := yf 4
    clear yf
    go_upto_region 4 with fail
    refine wp_genD (fun W => Hid (W.heap[w.heap.size]? = some (.cells #[.int .i64 x.f0, .int .i64 x.f1, .slice g2 x.f2.length d2, .slice g3 x.f3.length d3, .slice g4 x.f4.length d4] 28)) ∧ Hid (W.heap[w.heap.size + 1]? = some (.cells #[.int .i64 v.f0, .string v.f1, .string v.f2, .int .i64 v.f3] 51)) ∧ Hid (W.heap[w.heap.size + 2]? = some (.cells #[.int .i64 0, .int .i64 0, .slice none 0 0, .slice none 0 0, .slice none 0 0] 28)) ∧ Hid (OwDisk W W1.heap.size x (.slice g2 x.f2.length d2) (.slice g3 x.f3.length d3) (.slice g4 x.f4.length d4)) ∧ Hid (Below w.heap.size w W) ∧ Hid (W1.heap.size ≤ W.heap.size)) ⟨?_, ?_, ?_, ?_, ?_, ?_⟩ ?_
    · exact disk_all HD3.out
    · show _ = _
      rw [heap_set_ne _ _ (by show w.heap.size + 1 ≠ w.heap.size; omega), heap_set_ne _ _ (by show w.heap.size + 1 ≠ w.heap.size; omega), heap_set_ne _ _ (by show w.heap.size + 1 ≠ w.heap.size; omega), heap_set_ne _ _ (by show w.heap.size + 1 ≠ w.heap.size; omega), heap_set_ne _ _ (by show w.heap.size + 1 ≠ w.heap.size; omega)]
      exact HX3.out
    · show _ = _
      rw [heap_set_ne _ _ (by show w.heap.size + 2 ≠ w.heap.size; omega), heap_set_ne _ _ (by show w.heap.size + 2 ≠ w.heap.size; omega), heap_set_ne _ _ (by show w.heap.size + 2 ≠ w.heap.size; omega), heap_set_ne _ _ (by show w.heap.size + 2 ≠ w.heap.size; omega), heap_set_ne _ _ (by show w.heap.size + 2 ≠ w.heap.size; omega)]
      exact HR3.out
    · have h2 := HSZ.out
      have hs : ∀ {e : TypeId} {size n base : Nat} {v : Value} {xs : List Value} {W : World}, W.ownsRow base e size v n xs → w.heap.size < base → ∀ u (o : Nat), (W.setCell ⟨w.heap.size, o, none⟩ u).ownsRow base e size v n xs := fun h hl u o => own_set_lt h u hl
      exact ⟨hs (hs (hs (hs (hs HO3.out.1 (by omega) _ 0) (by omega) _ 1) (by omega) _ 2) (by omega) _ 3) (by omega) _ 4, hs (hs (hs (hs (hs HO3.out.2.1 (by omega) _ 0) (by omega) _ 1) (by omega) _ 2) (by omega) _ 3) (by omega) _ 4, hs (hs (hs (hs (hs HO3.out.2.2 (by omega) _ 0) (by omega) _ 1) (by omega) _ 2) (by omega) _ 3) (by omega) _ 4⟩
    · exact ((((HC3.out.setCell (Nat.le_refl _) _).setCell (Nat.le_refl _) _).setCell (Nat.le_refl _) _).setCell (Nat.le_refl _) _).setCell (Nat.le_refl _) _
    · show _ ≤ _
      simp only [World.setCell, Array.size_modify]
      exact HS3.out
    rintro W4 ⟨HD4, HX4, HR4, HO4, HBF, HS4⟩
    clear y0 y1 y2 y3 y4 yf0 yf1 yf2 yf3 yf4 HO3 HC3 HR3 HX3 HD3
    obtain ⟨⟨y0, y1, y2, y3, y4⟩, yf⟩ := disk_cell HD4.out
    clear yf
    obtain ⟨⟨z0, z1, z2, z3, z4⟩, zf⟩ := disk_cell HR4.out
    have zf0 := zf 0
    have zf1 := zf 1
    have zf2 := zf 2
    have zf3 := zf 3
    have zf4 := zf 4
    clear zf
    have h2 := HSZ.out
    have HO5 : Hid _ := HO4
    go_wp2
    refine bodyPost_ret (v := .tuple #[.agg #[.int .i64 x.f0, .int .i64 x.f1, .slice g2 x.f2.length d2, .slice g3 x.f3.length d3, .slice g4 x.f4.length d4], .int .i64 code]) (by simp [results, Tryz.results85, go_sem, z0, z1, z2, z3, z4]) rfl ⟨_, _, _, by rw [HF.out], ?_, ?_⟩
    · have hs : ∀ {e : TypeId} {size n base : Nat} {v : Value} {xs : List Value} {W : World}, W.ownsRow base e size v n xs → w.heap.size + 2 < base → ∀ u (o : Nat), (W.setCell ⟨w.heap.size + 2, o, none⟩ u).ownsRow base e size v n xs := fun h hl u o => own_set_lt h u hl
      rw [HF.out]
      refine ⟨?_, ?_, ?_⟩
      · exact own_low (hs (hs (hs (hs (hs (HO4.out.1) (by omega) _ 0) (by omega) _ 1) (by omega) _ 2) (by omega) _ 3) (by omega) _ 4) (by omega)
      · exact own_low (hs (hs (hs (hs (hs (HO4.out.2.1) (by omega) _ 0) (by omega) _ 1) (by omega) _ 2) (by omega) _ 3) (by omega) _ 4) (by omega)
      · exact own_low (hs (hs (hs (hs (hs (HO4.out.2.2) (by omega) _ 0) (by omega) _ 1) (by omega) _ 2) (by omega) _ 3) (by omega) _ 4) (by omega)
    · exact ((((HBF.out.setCell (by show w.heap.size ≤ w.heap.size + 2; omega) _).setCell (by show w.heap.size ≤ w.heap.size + 2; omega) _).setCell (by show w.heap.size ≤ w.heap.size + 2; omega) _).setCell (by show w.heap.size ≤ w.heap.size + 2; omega) _).setCell (by show w.heap.size ≤ w.heap.size + 2; omega) _

end Go.Proofs.YtpgicnjhncaaeaaGreat
