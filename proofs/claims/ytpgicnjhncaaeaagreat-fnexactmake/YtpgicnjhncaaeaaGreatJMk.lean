/- The specification's Make by its contract. -/
import Derived.Test.YtpgicnjhncaaeaaGreatDkMoved
import Derived.Test.YtpgicnjhncaaeaaGreatDiMake
import Derived.Test.YtpgicnjhncaaeaaGreatDlOn
namespace Go.Proofs.YtpgicnjhncaaeaaGreat
open Go.RowKit Go.Maps
set_option linter.unusedVariables false

set_option maxRecDepth 20000 in
set_option maxHeartbeats 4000000 in
theorem specMake_c (x : S_Disk) (p2 p3 p4 : Option Addr) (c2 c3 c4 : Nat) (s : ByteArray) (w : World) (hb : Bnd x) (hr : RdDisk w x (.slice p2 x.f2.length c2) (.slice p3 x.f3.length c3) (.slice p4 x.f4.length c4)) (hc3 : x.f3.length ≤ c3) (hc4 : x.f4.length ≤ c4) (hs : s.size ≤ 1048576) :
    Calls Tryz.prog 12 #[.agg #[.int .i64 x.f0, .int .i64 x.f1, .slice p2 x.f2.length c2, .slice p3 x.f3.length c3, .slice p4 x.f4.length c4], .string s] w (OnR x (mkF x s) w) := by
  obtain ⟨W0, hW0⟩ : ∃ W, W = w.alloc (.cells #[.int .i64 x.f0, .int .i64 x.f1, .slice p2 x.f2.length c2, .slice p3 x.f3.length c3, .slice p4 x.f4.length c4] 28) := ⟨_, rfl⟩
  have HW0 : Hid (w.alloc (.cells #[.int .i64 x.f0, .int .i64 x.f1, .slice p2 x.f2.length c2, .slice p3 x.f3.length c3, .slice p4 x.f4.length c4] 28) = W0) := hW0.symm
  have HS0 : Hid (W0.heap.size = w.heap.size + 1) := by show _ = _; rw [hW0]; simp
  have HB0 : Hid (Below w.heap.size w W0) := by rw [hW0]; exact (Below.refl _ _).alloc (Nat.le_refl _) _
  have HBX : Hid (∀ W', Below W0.heap.size W0 W' → W'.cell? ⟨w.heap.size, 0, none⟩ = some (.int .i64 x.f0) ∧ W'.cell? ⟨w.heap.size, 1, none⟩ = some (.int .i64 x.f1) ∧ W'.cell? ⟨w.heap.size, 2, none⟩ = some (.slice p2 x.f2.length c2) ∧ W'.cell? ⟨w.heap.size, 3, none⟩ = some (.slice p3 x.f3.length c3) ∧ W'.cell? ⟨w.heap.size, 4, none⟩ = some (.slice p4 x.f4.length c4)) := fun W' hbel => by
    have hk : W'.heap[w.heap.size]? = some (.cells #[.int .i64 x.f0, .int .i64 x.f1, .slice p2 x.f2.length c2, .slice p3 x.f3.length c3, .slice p4 x.f4.length c4] 28) := by rw [hbel.block _ (by rw [HS0.out]; exact Nat.lt_succ_self _), hW0]; exact alloc_at _ _
    exact (disk_cell hk).1
  have HRD : Hid (∀ W', Below W0.heap.size W0 W' → RdDisk W' x (.slice p2 x.f2.length c2) (.slice p3 x.f3.length c3) (.slice p4 x.f4.length c4)) := fun W' hbel => (hr.keep HB0.out (Nat.le_refl _)).keep hbel (Nat.le_refl _)
  have HDN : Hid (∀ W', Below W0.heap.size W0 W' → Below w.heap.size w W') := fun W' hbel => HB0.out.trans (hbel.mono (by rw [HS0.out]; exact Nat.le_succ _))
  have HBN : Hid (Bnd x) := hb
  have HLN : Hid (LnDisk x 1048576) := ⟨hb.len.1, hb.dir, hb.len.2⟩
  clear hW0 hr hb
  have HCP : Hid (x.f3.length ≤ c3 ∧ x.f4.length ≤ c4) := ⟨hc3, hc4⟩
  clear hc3 hc4
  obtain ⟨WB, hWB⟩ : ∃ W, W = W0.alloc (.cells #[.int .i64 0, .int .i64 0, .slice none 0 0, .slice none 0 0, .slice none 0 0] 28) := ⟨_, rfl⟩
  have HWB : Hid (W0.alloc (.cells #[.int .i64 0, .int .i64 0, .slice none 0 0, .slice none 0 0, .slice none 0 0] 28) = WB) := hWB.symm
  have HBB : Hid (Below W0.heap.size W0 WB) := by rw [hWB]; exact (Below.refl _ _).alloc (Nat.le_refl _) _
  have HRB : Hid (WB.heap[w.heap.size + 1]? = some (.cells #[.int .i64 0, .int .i64 0, .slice none 0 0, .slice none 0 0, .slice none 0 0] 28)) := by rw [hWB, ← HS0.out]; exact alloc_at _ _
  have HDB : Hid (WB.heap[w.heap.size]? = some (.cells #[.int .i64 x.f0, .int .i64 x.f1, .slice p2 x.f2.length c2, .slice p3 x.f3.length c3, .slice p4 x.f4.length c4] 28)) := by
    rw [hWB, Below.heap_alloc _ _ _ (by rw [HS0.out]; exact Nat.lt_succ_self _), ← HW0.out]
    exact alloc_at _ _
  clear hWB
  obtain ⟨e0, e1, e2, e3, e4⟩ := HBX.out WB HBB.out
  go_enter Tryz.func12, Tryz.ntmps12
  go_wp2_with fail
  rw [HW0.out, HWB.out]
  refine (specOk_c x p2 p3 p4 c2 c3 c4 WB HBN.out (HRD.out WB HBB.out) HCP.out.1 HCP.out.2).mono ?_
  intro e w1 hdo
  clear e0 e1 e2 e3 e4
  obtain ⟨⟨hok, rfl⟩ | ⟨hno, rfl⟩, b1⟩ := hdo
  case inr =>
    have HE : Hid (¬ okX x) := hno
    have HC1 : Hid (Below W0.heap.size W0 w1) := HBB.out.trans (b1.mono HBB.out.size)
    have HR1 : Hid (w1.heap[w.heap.size + 1]? = some (.cells #[.int .i64 0, .int .i64 0, .slice none 0 0, .slice none 0 0, .slice none 0 0] 28)) := (b1.block _ (lt_of_some HRB.out)).trans HRB.out
    obtain ⟨⟨z0, z1, z2, z3, z4⟩, zf⟩ := disk_cell HR1.out
    have zf0 := zf 0
    have zf1 := zf 1
    have zf2 := zf 2
    have zf3 := zf 3
    have zf4 := zf 4
    clear hno b1 zf
    go_wp2
    refine bodyPost_ret (v := .tuple #[.agg #[.int .i64 0, .int .i64 0, .slice none 0 0, .slice none 0 0, .slice none 0 0], .int .i64 1]) (by simp [results, Tryz.results12, go_sem, z0, z1, z2, z3, z4]) rfl ⟨bare 0 0, 1, _, _, _, rfl, ⟨⟨rfl, .inl ⟨rfl, rfl⟩⟩, ⟨rfl, .inl ⟨rfl, rfl⟩⟩, ⟨rfl, .inl ⟨rfl, rfl⟩⟩⟩, ?_, .inr ⟨HE.out, rfl, rfl⟩⟩
    exact (((((HDN.out _ HC1.out).setCell (Nat.le_succ _) _).setCell (Nat.le_succ _) _).setCell (Nat.le_succ _) _).setCell (Nat.le_succ _) _).setCell (Nat.le_succ _) _
  have HE : Hid (okX x) := hok
  have HC1 : Hid (Below W0.heap.size W0 w1) := HBB.out.trans (b1.mono HBB.out.size)
  have HR1 : Hid (w1.heap[w.heap.size + 1]? = some (.cells #[.int .i64 0, .int .i64 0, .slice none 0 0, .slice none 0 0, .slice none 0 0] 28)) := (b1.block _ (lt_of_some HRB.out)).trans HRB.out
  have HD1 : Hid (w1.heap[w.heap.size]? = some (.cells #[.int .i64 x.f0, .int .i64 x.f1, .slice p2 x.f2.length c2, .slice p3 x.f3.length c3, .slice p4 x.f4.length c4] 28)) := (b1.block _ (lt_of_some HDB.out)).trans HDB.out
  clear hok b1
  obtain ⟨iI, hiI, hI0, hI1, hI2⟩ := info_parts infoInode
  obtain ⟨iM, hiM, hM0, hM1, hM2⟩ := info_parts infoMove
  have hl2 : x.f2.length ≤ 1048576 := HLN.out.1
  have hl4 : x.f4.length ≤ 1048576 := HLN.out.2.2
  obtain ⟨e0, e1, e2, e3, e4⟩ := HBX.out w1 HC1.out
  go_wp2_with fail
  refine (name_c s w1 (by unfold maxLen; omega)).mono ?_
  rintro e w2 ⟨rfl, hw⟩
  replace hw := hw.symm
  subst hw
  cases hN : nameB s
  · have HF : Hid (mkF x s = (x, 1)) := by show _ = _; unfold mkF; rw [if_pos hN]
    have HCc : Hid _ := HC1.out
    have HRc : Hid _ := HR1.out
    clear hN
    go_wp2_with fail
    refine (copy_c x p2 p3 p4 c2 c3 c4 w1 HLN.out (HRD.out w1 HCc.out)).mono ?_
    rintro e w3 ⟨g2, g3, g4, d2, d3, d4, rfl, ho, b3⟩
    have HO4 : Hid (OwDisk w3 w1.heap.size x (.slice g2 x.f2.length d2) (.slice g3 x.f3.length d3) (.slice g4 x.f4.length d4)) := ho
    have HR4 : Hid (w3.heap[w.heap.size + 1]? = some (.cells #[.int .i64 0, .int .i64 0, .slice none 0 0, .slice none 0 0, .slice none 0 0] 28)) := (b3.block _ (lt_of_some HRc.out)).trans HRc.out
    have HL2 : Hid (w.heap.size + 1 < w1.heap.size) := lt_of_some HRc.out
    have HBF : Hid (Below w.heap.size w w3) := (HDN.out _ HCc.out).trans (b3.mono (HDN.out _ HCc.out).size)
    obtain ⟨⟨z0, z1, z2, z3, z4⟩, zf⟩ := disk_cell HR4.out
    have zf0 := zf 0
    have zf1 := zf 1
    have zf2 := zf 2
    have zf3 := zf 3
    have zf4 := zf 4
    clear zf
    clear ho b3 e0 e1 e2 e3 e4
    go_wp2
    refine bodyPost_ret (v := .tuple #[.agg #[.int .i64 x.f0, .int .i64 x.f1, .slice g2 x.f2.length d2, .slice g3 x.f3.length d3, .slice g4 x.f4.length d4], .int .i64 1]) (by simp [results, Tryz.results12, go_sem, z0, z1, z2, z3, z4]) rfl ⟨x, 1, _, _, _, rfl, ?_, ?_, .inl ⟨HE.out, by rw [HF.out]; exact ⟨rfl, rfl⟩⟩⟩
    · have h2 := HL2.out
      have hs : ∀ {e : TypeId} {size n base : Nat} {v : Value} {xs : List Value} {W : World}, W.ownsRow base e size v n xs → w.heap.size + 1 < base → ∀ u (o : Nat), (W.setCell ⟨w.heap.size + 1, o, none⟩ u).ownsRow base e size v n xs := fun h hl u o => own_set_lt h u hl
      refine ⟨?_, ?_, ?_⟩
      · exact own_low (hs (hs (hs (hs (hs (HO4.out.1) h2 _ 0) h2 _ 1) h2 _ 2) h2 _ 3) h2 _ 4) (by omega)
      · exact own_low (hs (hs (hs (hs (hs (HO4.out.2.1) h2 _ 0) h2 _ 1) h2 _ 2) h2 _ 3) h2 _ 4) (by omega)
      · exact own_low (hs (hs (hs (hs (hs (HO4.out.2.2) h2 _ 0) h2 _ 1) h2 _ 2) h2 _ 3) h2 _ 4) (by omega)
    · exact ((((HBF.out.setCell (Nat.le_succ _) _).setCell (Nat.le_succ _) _).setCell (Nat.le_succ _) _).setCell (Nat.le_succ _) _).setCell (Nat.le_succ _) _
  have HN' : Hid (¬ nameB s = false) := by show ¬ _; rw [hN]; decide
  clear hN
  go_wp2_with fail
  refine (find_c x p2 p3 p4 c2 c3 c4 s w1 HLN.out (okX_sum HE.out) HBN.out.sm (by unfold maxLen; omega) (HRD.out w1 HC1.out)).mono ?_
  rintro e w2 ⟨rfl, b2⟩
  have HCc : Hid (Below W0.heap.size W0 w2) := HC1.out.trans (b2.mono HC1.out.size)
  have HRc : Hid (w2.heap[w.heap.size + 1]? = some (.cells #[.int .i64 0, .int .i64 0, .slice none 0 0, .slice none 0 0, .slice none 0 0] 28)) := (b2.block _ (lt_of_some HR1.out)).trans HR1.out
  have HDc : Hid (w2.heap[w.heap.size]? = some (.cells #[.int .i64 x.f0, .int .i64 x.f1, .slice p2 x.f2.length c2, .slice p3 x.f3.length c3, .slice p4 x.f4.length c4] 28)) := (b2.block _ (lt_of_some HD1.out)).trans HD1.out
  clear b2 e0 e1 e2 e3 e4
  obtain ⟨e0, e1, e2, e3, e4⟩ := HBX.out w2 HCc.out
  by_cases hneg : fnd x s < 0
  rotate_left
  · have HF : Hid (mkF x s = (x, 3)) := by show _ = _; unfold mkF; rw [if_neg HN'.out, if_pos hneg]
    have hge : fnd x s ≥ 0 := by omega
    go_wp2_with fail
    refine (copy_c x p2 p3 p4 c2 c3 c4 w2 HLN.out (HRD.out w2 HCc.out)).mono ?_
    rintro e w3 ⟨g2, g3, g4, d2, d3, d4, rfl, ho, b3⟩
    have HO4 : Hid (OwDisk w3 w2.heap.size x (.slice g2 x.f2.length d2) (.slice g3 x.f3.length d3) (.slice g4 x.f4.length d4)) := ho
    have HR4 : Hid (w3.heap[w.heap.size + 1]? = some (.cells #[.int .i64 0, .int .i64 0, .slice none 0 0, .slice none 0 0, .slice none 0 0] 28)) := (b3.block _ (lt_of_some HRc.out)).trans HRc.out
    have HL2 : Hid (w.heap.size + 1 < w2.heap.size) := lt_of_some HRc.out
    have HBF : Hid (Below w.heap.size w w3) := (HDN.out _ HCc.out).trans (b3.mono (HDN.out _ HCc.out).size)
    obtain ⟨⟨z0, z1, z2, z3, z4⟩, zf⟩ := disk_cell HR4.out
    have zf0 := zf 0
    have zf1 := zf 1
    have zf2 := zf 2
    have zf3 := zf 3
    have zf4 := zf 4
    clear zf
    clear ho b3 e0 e1 e2 e3 e4
    go_wp2
    refine bodyPost_ret (v := .tuple #[.agg #[.int .i64 x.f0, .int .i64 x.f1, .slice g2 x.f2.length d2, .slice g3 x.f3.length d3, .slice g4 x.f4.length d4], .int .i64 3]) (by simp [results, Tryz.results12, go_sem, z0, z1, z2, z3, z4]) rfl ⟨x, 3, _, _, _, rfl, ?_, ?_, .inl ⟨HE.out, by rw [HF.out]; exact ⟨rfl, rfl⟩⟩⟩
    · have h2 := HL2.out
      have hs : ∀ {e : TypeId} {size n base : Nat} {v : Value} {xs : List Value} {W : World}, W.ownsRow base e size v n xs → w.heap.size + 1 < base → ∀ u (o : Nat), (W.setCell ⟨w.heap.size + 1, o, none⟩ u).ownsRow base e size v n xs := fun h hl u o => own_set_lt h u hl
      refine ⟨?_, ?_, ?_⟩
      · exact own_low (hs (hs (hs (hs (hs (HO4.out.1) h2 _ 0) h2 _ 1) h2 _ 2) h2 _ 3) h2 _ 4) (by omega)
      · exact own_low (hs (hs (hs (hs (hs (HO4.out.2.1) h2 _ 0) h2 _ 1) h2 _ 2) h2 _ 3) h2 _ 4) (by omega)
      · exact own_low (hs (hs (hs (hs (hs (HO4.out.2.2) h2 _ 0) h2 _ 1) h2 _ 2) h2 _ 3) h2 _ 4) (by omega)
    · exact ((((HBF.out.setCell (Nat.le_succ _) _).setCell (Nat.le_succ _) _).setCell (Nat.le_succ _) _).setCell (Nat.le_succ _) _).setCell (Nat.le_succ _) _
  have HNG : Hid (¬ ¬ fnd x s < 0) := fun h => h hneg
  have hge : ¬ fnd x s ≥ 0 := by omega
  by_cases hfull : 10 ≤ x.f2.length ∨ 20 ≤ x.f4.length ∨ 1000000 ≤ x.f1
  · have HF : Hid (mkF x s = (x, 4)) := by show _ = _; unfold mkF; rw [if_neg HN'.out, if_neg HNG.out, if_pos hfull]
    by_cases hA : (x.f2.length : Int) ≥ 10
    · clear hfull
      go_wp2_with fail
      refine (copy_c x p2 p3 p4 c2 c3 c4 w2 HLN.out (HRD.out w2 HCc.out)).mono ?_
      rintro e w3 ⟨g2, g3, g4, d2, d3, d4, rfl, ho, b3⟩
      have HO4 : Hid (OwDisk w3 w2.heap.size x (.slice g2 x.f2.length d2) (.slice g3 x.f3.length d3) (.slice g4 x.f4.length d4)) := ho
      have HR4 : Hid (w3.heap[w.heap.size + 1]? = some (.cells #[.int .i64 0, .int .i64 0, .slice none 0 0, .slice none 0 0, .slice none 0 0] 28)) := (b3.block _ (lt_of_some HRc.out)).trans HRc.out
      have HL2 : Hid (w.heap.size + 1 < w2.heap.size) := lt_of_some HRc.out
      have HBF : Hid (Below w.heap.size w w3) := (HDN.out _ HCc.out).trans (b3.mono (HDN.out _ HCc.out).size)
      obtain ⟨⟨z0, z1, z2, z3, z4⟩, zf⟩ := disk_cell HR4.out
      have zf0 := zf 0
      have zf1 := zf 1
      have zf2 := zf 2
      have zf3 := zf 3
      have zf4 := zf 4
      clear zf
      clear ho b3 e0 e1 e2 e3 e4
      go_wp2
      refine bodyPost_ret (v := .tuple #[.agg #[.int .i64 x.f0, .int .i64 x.f1, .slice g2 x.f2.length d2, .slice g3 x.f3.length d3, .slice g4 x.f4.length d4], .int .i64 4]) (by simp [results, Tryz.results12, go_sem, z0, z1, z2, z3, z4]) rfl ⟨x, 4, _, _, _, rfl, ?_, ?_, .inl ⟨HE.out, by rw [HF.out]; exact ⟨rfl, rfl⟩⟩⟩
      · have h2 := HL2.out
        have hs : ∀ {e : TypeId} {size n base : Nat} {v : Value} {xs : List Value} {W : World}, W.ownsRow base e size v n xs → w.heap.size + 1 < base → ∀ u (o : Nat), (W.setCell ⟨w.heap.size + 1, o, none⟩ u).ownsRow base e size v n xs := fun h hl u o => own_set_lt h u hl
        refine ⟨?_, ?_, ?_⟩
        · exact own_low (hs (hs (hs (hs (hs (HO4.out.1) h2 _ 0) h2 _ 1) h2 _ 2) h2 _ 3) h2 _ 4) (by omega)
        · exact own_low (hs (hs (hs (hs (hs (HO4.out.2.1) h2 _ 0) h2 _ 1) h2 _ 2) h2 _ 3) h2 _ 4) (by omega)
        · exact own_low (hs (hs (hs (hs (hs (HO4.out.2.2) h2 _ 0) h2 _ 1) h2 _ 2) h2 _ 3) h2 _ 4) (by omega)
      · exact ((((HBF.out.setCell (Nat.le_succ _) _).setCell (Nat.le_succ _) _).setCell (Nat.le_succ _) _).setCell (Nat.le_succ _) _).setCell (Nat.le_succ _) _
    by_cases hB : (x.f4.length : Int) ≥ 20
    · clear hfull
      go_wp2_with fail
      refine (copy_c x p2 p3 p4 c2 c3 c4 w2 HLN.out (HRD.out w2 HCc.out)).mono ?_
      rintro e w3 ⟨g2, g3, g4, d2, d3, d4, rfl, ho, b3⟩
      have HO4 : Hid (OwDisk w3 w2.heap.size x (.slice g2 x.f2.length d2) (.slice g3 x.f3.length d3) (.slice g4 x.f4.length d4)) := ho
      have HR4 : Hid (w3.heap[w.heap.size + 1]? = some (.cells #[.int .i64 0, .int .i64 0, .slice none 0 0, .slice none 0 0, .slice none 0 0] 28)) := (b3.block _ (lt_of_some HRc.out)).trans HRc.out
      have HL2 : Hid (w.heap.size + 1 < w2.heap.size) := lt_of_some HRc.out
      have HBF : Hid (Below w.heap.size w w3) := (HDN.out _ HCc.out).trans (b3.mono (HDN.out _ HCc.out).size)
      obtain ⟨⟨z0, z1, z2, z3, z4⟩, zf⟩ := disk_cell HR4.out
      have zf0 := zf 0
      have zf1 := zf 1
      have zf2 := zf 2
      have zf3 := zf 3
      have zf4 := zf 4
      clear zf
      clear ho b3 e0 e1 e2 e3 e4
      go_wp2
      refine bodyPost_ret (v := .tuple #[.agg #[.int .i64 x.f0, .int .i64 x.f1, .slice g2 x.f2.length d2, .slice g3 x.f3.length d3, .slice g4 x.f4.length d4], .int .i64 4]) (by simp [results, Tryz.results12, go_sem, z0, z1, z2, z3, z4]) rfl ⟨x, 4, _, _, _, rfl, ?_, ?_, .inl ⟨HE.out, by rw [HF.out]; exact ⟨rfl, rfl⟩⟩⟩
      · have h2 := HL2.out
        have hs : ∀ {e : TypeId} {size n base : Nat} {v : Value} {xs : List Value} {W : World}, W.ownsRow base e size v n xs → w.heap.size + 1 < base → ∀ u (o : Nat), (W.setCell ⟨w.heap.size + 1, o, none⟩ u).ownsRow base e size v n xs := fun h hl u o => own_set_lt h u hl
        refine ⟨?_, ?_, ?_⟩
        · exact own_low (hs (hs (hs (hs (hs (HO4.out.1) h2 _ 0) h2 _ 1) h2 _ 2) h2 _ 3) h2 _ 4) (by omega)
        · exact own_low (hs (hs (hs (hs (hs (HO4.out.2.1) h2 _ 0) h2 _ 1) h2 _ 2) h2 _ 3) h2 _ 4) (by omega)
        · exact own_low (hs (hs (hs (hs (hs (HO4.out.2.2) h2 _ 0) h2 _ 1) h2 _ 2) h2 _ 3) h2 _ 4) (by omega)
      · exact ((((HBF.out.setCell (Nat.le_succ _) _).setCell (Nat.le_succ _) _).setCell (Nat.le_succ _) _).setCell (Nat.le_succ _) _).setCell (Nat.le_succ _) _
    have hC : x.f1 ≥ 1000000 := by omega
    clear hfull
    go_wp2_with fail
    refine (copy_c x p2 p3 p4 c2 c3 c4 w2 HLN.out (HRD.out w2 HCc.out)).mono ?_
    rintro e w3 ⟨g2, g3, g4, d2, d3, d4, rfl, ho, b3⟩
    have HO4 : Hid (OwDisk w3 w2.heap.size x (.slice g2 x.f2.length d2) (.slice g3 x.f3.length d3) (.slice g4 x.f4.length d4)) := ho
    have HR4 : Hid (w3.heap[w.heap.size + 1]? = some (.cells #[.int .i64 0, .int .i64 0, .slice none 0 0, .slice none 0 0, .slice none 0 0] 28)) := (b3.block _ (lt_of_some HRc.out)).trans HRc.out
    have HL2 : Hid (w.heap.size + 1 < w2.heap.size) := lt_of_some HRc.out
    have HBF : Hid (Below w.heap.size w w3) := (HDN.out _ HCc.out).trans (b3.mono (HDN.out _ HCc.out).size)
    obtain ⟨⟨z0, z1, z2, z3, z4⟩, zf⟩ := disk_cell HR4.out
    have zf0 := zf 0
    have zf1 := zf 1
    have zf2 := zf 2
    have zf3 := zf 3
    have zf4 := zf 4
    clear zf
    clear ho b3 e0 e1 e2 e3 e4
    go_wp2
    refine bodyPost_ret (v := .tuple #[.agg #[.int .i64 x.f0, .int .i64 x.f1, .slice g2 x.f2.length d2, .slice g3 x.f3.length d3, .slice g4 x.f4.length d4], .int .i64 4]) (by simp [results, Tryz.results12, go_sem, z0, z1, z2, z3, z4]) rfl ⟨x, 4, _, _, _, rfl, ?_, ?_, .inl ⟨HE.out, by rw [HF.out]; exact ⟨rfl, rfl⟩⟩⟩
    · have h2 := HL2.out
      have hs : ∀ {e : TypeId} {size n base : Nat} {v : Value} {xs : List Value} {W : World}, W.ownsRow base e size v n xs → w.heap.size + 1 < base → ∀ u (o : Nat), (W.setCell ⟨w.heap.size + 1, o, none⟩ u).ownsRow base e size v n xs := fun h hl u o => own_set_lt h u hl
      refine ⟨?_, ?_, ?_⟩
      · exact own_low (hs (hs (hs (hs (hs (HO4.out.1) h2 _ 0) h2 _ 1) h2 _ 2) h2 _ 3) h2 _ 4) (by omega)
      · exact own_low (hs (hs (hs (hs (hs (HO4.out.2.1) h2 _ 0) h2 _ 1) h2 _ 2) h2 _ 3) h2 _ 4) (by omega)
      · exact own_low (hs (hs (hs (hs (hs (HO4.out.2.2) h2 _ 0) h2 _ 1) h2 _ 2) h2 _ 3) h2 _ 4) (by omega)
    · exact ((((HBF.out.setCell (Nat.le_succ _) _).setCell (Nat.le_succ _) _).setCell (Nat.le_succ _) _).setCell (Nat.le_succ _) _).setCell (Nat.le_succ _) _
  have HF : Hid (mkF x s = (⟨x.f0, x.f1 + 1, x.f2 ++ [(⟨x.f1, ⟨#[]⟩, 0⟩ : S_Inode)], x.f3, x.f4 ++ [(⟨1, s, ⟨#[]⟩, x.f1⟩ : S_Move)]⟩, 0)) := by show _ = _; unfold mkF; rw [if_neg HN'.out, if_neg HNG.out, if_neg hfull]
  have hA : ¬ (x.f2.length : Int) ≥ 10 := by omega
  have hB : ¬ (x.f4.length : Int) ≥ 20 := by omega
  have hC : ¬ x.f1 ≥ 1000000 := by omega
  go_wp2_with fail
  refine (copy_c x p2 p3 p4 c2 c3 c4 w2 HLN.out (HRD.out w2 HCc.out)).mono ?_
  rintro e w3 ⟨g2, g3, g4, d2, d3, d4, rfl, ho, b3⟩
  have HO3 : Hid (OwDisk w3 w2.heap.size x (.slice g2 x.f2.length d2) (.slice g3 x.f3.length d3) (.slice g4 x.f4.length d4)) := ho
  have HS3 : Hid (w2.heap.size ≤ w3.heap.size) := b3.size
  have HC3 : Hid (Below w.heap.size w w3) := (HDN.out _ HCc.out).trans (b3.mono (HDN.out _ HCc.out).size)
  have HR3 : Hid (w3.heap[w.heap.size + 1]? = some (.cells #[.int .i64 0, .int .i64 0, .slice none 0 0, .slice none 0 0, .slice none 0 0] 28)) := (b3.block _ (lt_of_some HRc.out)).trans HRc.out
  have HD3 : Hid (w3.heap[w.heap.size]? = some (.cells #[.int .i64 x.f0, .int .i64 x.f1, .slice p2 x.f2.length c2, .slice p3 x.f3.length c3, .slice p4 x.f4.length c4] 28)) := (b3.block _ (lt_of_some HDc.out)).trans HDc.out
  have HL2 : Hid (w.heap.size + 1 < w2.heap.size) := lt_of_some HRc.out
  clear b3 ho e0 e1 e2 e3 e4
  obtain ⟨⟨y0, y1, y2, y3, y4⟩, yf⟩ := disk_cell HD3.out
  have yf0 := yf 0
  have yf1 := yf 1
  have yf2 := yf 2
  have yf3 := yf 3
  have yf4 := yf 4
  clear yf
  go_upto_region 10 with fail
  refine wp_genD (fun W => Hid (W.heap[w.heap.size]? = some (.cells #[.int .i64 x.f0, .int .i64 x.f1, .slice g2 x.f2.length d2, .slice g3 x.f3.length d3, .slice g4 x.f4.length d4] 28)) ∧ Hid (W.heap[w.heap.size + 1]? = some (.cells #[.int .i64 0, .int .i64 0, .slice none 0 0, .slice none 0 0, .slice none 0 0] 28)) ∧ Hid (W.ownsRow w2.heap.size 47 3 (.slice g2 x.f2.length d2) (x.f2.length) (rInode x.f2)) ∧ Hid (W.ownsRow w2.heap.size 49 2 (.slice g3 x.f3.length d3) (x.f3.length) (rLink x.f3)) ∧ Hid (W.ownsRow w2.heap.size 51 4 (.slice g4 x.f4.length d4) (x.f4.length) (rMove x.f4)) ∧ Hid (Below w.heap.size w W) ∧ Hid (w2.heap.size ≤ W.heap.size)) ⟨?_, ?_, ?_, ?_, ?_, ?_, ?_⟩ ?_
  · exact disk_all HD3.out
  · show _ = _
    rw [heap_set_ne _ _ (by show w.heap.size + 1 ≠ w.heap.size; omega), heap_set_ne _ _ (by show w.heap.size + 1 ≠ w.heap.size; omega), heap_set_ne _ _ (by show w.heap.size + 1 ≠ w.heap.size; omega), heap_set_ne _ _ (by show w.heap.size + 1 ≠ w.heap.size; omega), heap_set_ne _ _ (by show w.heap.size + 1 ≠ w.heap.size; omega)]
    exact HR3.out
  · have h2 := HL2.out
    have hs : ∀ {e : TypeId} {size n base : Nat} {v : Value} {xs : List Value} {W : World}, W.ownsRow base e size v n xs → w.heap.size < base → ∀ u (o : Nat), (W.setCell ⟨w.heap.size, o, none⟩ u).ownsRow base e size v n xs := fun h hl u o => own_set_lt h u hl
    exact hs (hs (hs (hs (hs HO3.out.1 (by omega) _ 0) (by omega) _ 1) (by omega) _ 2) (by omega) _ 3) (by omega) _ 4
  · have h2 := HL2.out
    have hs : ∀ {e : TypeId} {size n base : Nat} {v : Value} {xs : List Value} {W : World}, W.ownsRow base e size v n xs → w.heap.size < base → ∀ u (o : Nat), (W.setCell ⟨w.heap.size, o, none⟩ u).ownsRow base e size v n xs := fun h hl u o => own_set_lt h u hl
    exact hs (hs (hs (hs (hs HO3.out.2.1 (by omega) _ 0) (by omega) _ 1) (by omega) _ 2) (by omega) _ 3) (by omega) _ 4
  · have h2 := HL2.out
    have hs : ∀ {e : TypeId} {size n base : Nat} {v : Value} {xs : List Value} {W : World}, W.ownsRow base e size v n xs → w.heap.size < base → ∀ u (o : Nat), (W.setCell ⟨w.heap.size, o, none⟩ u).ownsRow base e size v n xs := fun h hl u o => own_set_lt h u hl
    exact hs (hs (hs (hs (hs HO3.out.2.2 (by omega) _ 0) (by omega) _ 1) (by omega) _ 2) (by omega) _ 3) (by omega) _ 4
  · exact ((((HC3.out.setCell (Nat.le_refl _) _).setCell (Nat.le_refl _) _).setCell (Nat.le_refl _) _).setCell (Nat.le_refl _) _).setCell (Nat.le_refl _) _
  · show _ ≤ _
    simp only [World.setCell, Array.size_modify]
    exact HS3.out
  rintro W4 ⟨HD4, HR4, HP2, HP3, HP4, HBF, HS4⟩
  clear y0 y1 y2 y3 y4 yf0 yf1 yf2 yf3 yf4 HO3 HC3 HR3 HD3 HS3
  obtain ⟨⟨y0, y1, y2, y3, y4⟩, yf⟩ := disk_cell HD4.out
  have yf2 := yf 2
  clear yf
  obtain ⟨WB, hWB⟩ : ∃ W, W = W4.alloc (.cells #[.int .i64 x.f1, .string ⟨#[]⟩, .int .i64 0] 47) := ⟨_, rfl⟩
  have HWB : Hid (W4.alloc (.cells #[.int .i64 x.f1, .string ⟨#[]⟩, .int .i64 0] 47) = WB) := hWB.symm
  have HP2B : Hid (WB.ownsRow w2.heap.size 47 3 (.slice g2 x.f2.length d2) (x.f2.length) (rInode x.f2)) := by rw [hWB]; exact HP2.out.alloc _
  have HP3B : Hid (WB.ownsRow w2.heap.size 49 2 (.slice g3 x.f3.length d3) (x.f3.length) (rLink x.f3)) := by rw [hWB]; exact HP3.out.alloc _
  have HP4B : Hid (WB.ownsRow w2.heap.size 51 4 (.slice g4 x.f4.length d4) (x.f4.length) (rMove x.f4)) := by rw [hWB]; exact HP4.out.alloc _
  have HBB : Hid (Below w.heap.size w WB) := by rw [hWB]; exact HBF.out.alloc HBF.out.size _
  have HDB : Hid (WB.heap[w.heap.size]? = some (.cells #[.int .i64 x.f0, .int .i64 x.f1, .slice g2 x.f2.length d2, .slice g3 x.f3.length d3, .slice g4 x.f4.length d4] 28)) := by rw [hWB]; exact (Below.heap_alloc _ _ _ (lt_of_some HD4.out)).trans HD4.out
  have HRB : Hid (WB.heap[w.heap.size + 1]? = some (.cells #[.int .i64 0, .int .i64 0, .slice none 0 0, .slice none 0 0, .slice none 0 0] 28)) := by rw [hWB]; exact (Below.heap_alloc _ _ _ (lt_of_some HR4.out)).trans HR4.out
  have hxa : ∀ o, (W4.alloc o).cell? ⟨w.heap.size, 2, none⟩ = some (.slice g2 x.f2.length d2) := fun o => cell_alloc y2
  obtain ⟨v', WC, hrunC, hownC, hgrowC, _⟩ := run_append_own (P := Tryz.prog) WB w2.heap.size 24 24 47 iI (.agg #[.int .i64 0, .string ⟨#[]⟩, .int .i64 0]) 3 32 Tryz.underlying24 hiI hI0 hI1 hI2 rfl (by decide) _ _ _ HP2B.out ⟨W4.heap.size, 0, none⟩ 1 1 [.int .i64 x.f1, .string ⟨#[]⟩, .int .i64 0] rfl (by rw [hWB]; exact cells_new W4 _ _) (by intro u hu; simp at hu; rcases hu with rfl | rfl | rfl <;> rfl) (by unfold maxLen; omega) (by omega) (by have h1 := HS4.out; rw [hWB]; simp; omega)
  obtain ⟨pv2, cv2, hvv, _, _⟩ := own_slice hownC
  subst hvv
  have hne : ∀ k, k < w2.heap.size → some k ≠ (.slice g2 x.f2.length d2 : Value).ownBlock := fun k hk e1 => by have := own_ge HP2B.out _ e1.symm; omega
  have HDC : Hid (WC.heap[w.heap.size]? = some (.cells #[.int .i64 x.f0, .int .i64 x.f1, .slice g2 x.f2.length d2, .slice g3 x.f3.length d3, .slice g4 x.f4.length d4] 28)) := (hgrowC.block _ (lt_of_some HDB.out) (hne _ (by have := HL2.out; omega))).trans HDB.out
  have HRC : Hid (WC.heap[w.heap.size + 1]? = some (.cells #[.int .i64 0, .int .i64 0, .slice none 0 0, .slice none 0 0, .slice none 0 0] 28)) := (hgrowC.block _ (lt_of_some HRB.out) (hne _ HL2.out)).trans HRB.out
  have HP3C : Hid (WC.ownsRow w2.heap.size 49 2 (.slice g3 x.f3.length d3) (x.f3.length) (rLink x.f3)) := own_gr HP3B.out HP2B.out (by decide) hgrowC
  have HP4C : Hid (WC.ownsRow w2.heap.size 51 4 (.slice g4 x.f4.length d4) (x.f4.length) (rMove x.f4)) := own_gr HP4B.out HP2B.out (by decide) hgrowC
  have HP2C : Hid (WC.ownsRow w2.heap.size 47 3 (.slice pv2 (x.f2.length + 1) cv2) (x.f2.length + 1) (rInode (x.f2 ++ [(⟨x.f1, ⟨#[]⟩, 0⟩ : S_Inode)]))) := by
    have e1 : rInode (x.f2 ++ [(⟨x.f1, ⟨#[]⟩, 0⟩ : S_Inode)]) = rInode x.f2 ++ [.int .i64 x.f1, .string ⟨#[]⟩, .int .i64 0] := by unfold rInode; rw [List.flatMap_append]; rfl
    show World.ownsRow _ _ _ _ _ _ _
    rw [e1]
    exact hownC
  have HBC : Hid (Below w.heap.size w WC) := HBB.out.grown hgrowC HBB.out.size (fun k hk => by have := own_ge HP2B.out _ hk; have := HL2.out; omega)
  have HSC : Hid (w2.heap.size ≤ WC.heap.size) := by have h1 := HS4.out; have h2 := hgrowC.size; rw [hWB] at h2; simp at h2; show _ ≤ _; omega
  obtain ⟨⟨_, _, q2, _, q4⟩, qf⟩ := disk_cell HDC.out
  have qf2 := qf 2
  rw [← HWB.out] at hrunC
  clear qf HP2B HP3B HP4B HBB HDB HRB hownC hgrowC hne hWB HWB
  go_upto_region 11 with (at_builtin; refine wpList_append_to rfl _ _ 24 rfl _ _ rfl rfl _ _ hrunC ?_)
  refine wp_genD (fun W => Hid (W.heap[w.heap.size]? = some (.cells #[.int .i64 x.f0, .int .i64 x.f1, .slice pv2 (x.f2.length + 1) cv2, .slice g3 x.f3.length d3, .slice g4 x.f4.length d4] 28)) ∧ Hid (W.heap[w.heap.size + 1]? = some (.cells #[.int .i64 0, .int .i64 0, .slice none 0 0, .slice none 0 0, .slice none 0 0] 28)) ∧ Hid (W.ownsRow w2.heap.size 47 3 (.slice pv2 (x.f2.length + 1) cv2) (x.f2.length + 1) (rInode (x.f2 ++ [(⟨x.f1, ⟨#[]⟩, 0⟩ : S_Inode)]))) ∧ Hid (W.ownsRow w2.heap.size 49 2 (.slice g3 x.f3.length d3) (x.f3.length) (rLink x.f3)) ∧ Hid (W.ownsRow w2.heap.size 51 4 (.slice g4 x.f4.length d4) (x.f4.length) (rMove x.f4)) ∧ Hid (Below w.heap.size w W) ∧ Hid (w2.heap.size ≤ W.heap.size)) ⟨(disk_set HDC.out).1 _, ?_, own_set_lt HP2C.out _ (by have := HL2.out; show w.heap.size < _; omega), own_set_lt HP3C.out _ (by have := HL2.out; show w.heap.size < _; omega), own_set_lt HP4C.out _ (by have := HL2.out; show w.heap.size < _; omega), HBC.out.setCell (Nat.le_refl _) _, ?_⟩ ?_
  · show _ = _
    rw [heap_set_ne _ _ (by show w.heap.size + 1 ≠ w.heap.size; omega)]
    exact HRC.out
  · show _ ≤ _
    simp only [World.setCell, Array.size_modify]
    exact HSC.out
  rintro W5 ⟨HD41, HR41, HP21, HP31, HP41, HBF1, HS41⟩
  clear hrunC q2 q4 qf2 yf2 y0 y1 y2 y3 y4 hxa HDC HRC HP2C HP3C HP4C HBC HSC HP2 HP3 HP4 HD4 HR4 HS4 HBF
  obtain ⟨⟨y0, y1, y2, y3, y4⟩, yf⟩ := disk_cell HD41.out
  have yf4 := yf 4
  clear yf
  obtain ⟨WB, hWB⟩ : ∃ W, W = W5.alloc (.cells #[.int .i64 1, .string s, .string ⟨#[]⟩, .int .i64 x.f1] 51) := ⟨_, rfl⟩
  have HWB : Hid (W5.alloc (.cells #[.int .i64 1, .string s, .string ⟨#[]⟩, .int .i64 x.f1] 51) = WB) := hWB.symm
  have HP21B : Hid (WB.ownsRow w2.heap.size 47 3 (.slice pv2 (x.f2.length + 1) cv2) (x.f2.length + 1) (rInode (x.f2 ++ [(⟨x.f1, ⟨#[]⟩, 0⟩ : S_Inode)]))) := by rw [hWB]; exact HP21.out.alloc _
  have HP31B : Hid (WB.ownsRow w2.heap.size 49 2 (.slice g3 x.f3.length d3) (x.f3.length) (rLink x.f3)) := by rw [hWB]; exact HP31.out.alloc _
  have HP41B : Hid (WB.ownsRow w2.heap.size 51 4 (.slice g4 x.f4.length d4) (x.f4.length) (rMove x.f4)) := by rw [hWB]; exact HP41.out.alloc _
  have HBB : Hid (Below w.heap.size w WB) := by rw [hWB]; exact HBF1.out.alloc HBF1.out.size _
  have HDB : Hid (WB.heap[w.heap.size]? = some (.cells #[.int .i64 x.f0, .int .i64 x.f1, .slice pv2 (x.f2.length + 1) cv2, .slice g3 x.f3.length d3, .slice g4 x.f4.length d4] 28)) := by rw [hWB]; exact (Below.heap_alloc _ _ _ (lt_of_some HD41.out)).trans HD41.out
  have HRB : Hid (WB.heap[w.heap.size + 1]? = some (.cells #[.int .i64 0, .int .i64 0, .slice none 0 0, .slice none 0 0, .slice none 0 0] 28)) := by rw [hWB]; exact (Below.heap_alloc _ _ _ (lt_of_some HR41.out)).trans HR41.out
  have hxa : ∀ o, (W5.alloc o).cell? ⟨w.heap.size, 4, none⟩ = some (.slice g4 x.f4.length d4) := fun o => cell_alloc y4
  obtain ⟨v', WC, hrunC, hownC, hgrowC, _⟩ := run_append_own (P := Tryz.prog) WB w2.heap.size 26 26 51 iM (.agg #[.int .i64 0, .string ⟨#[]⟩, .string ⟨#[]⟩, .int .i64 0]) 4 48 Tryz.underlying26 hiM hM0 hM1 hM2 rfl (by decide) _ _ _ HP41B.out ⟨W5.heap.size, 0, none⟩ 1 1 [.int .i64 1, .string s, .string ⟨#[]⟩, .int .i64 x.f1] rfl (by rw [hWB]; exact cells_new W5 _ _) (by intro u hu; simp at hu; rcases hu with rfl | rfl | rfl | rfl <;> rfl) (by unfold maxLen; omega) (by omega) (by have h1 := HS41.out; rw [hWB]; simp; omega)
  obtain ⟨pv4, cv4, hvv, _, _⟩ := own_slice hownC
  subst hvv
  have hne : ∀ k, k < w2.heap.size → some k ≠ (.slice g4 x.f4.length d4 : Value).ownBlock := fun k hk e1 => by have := own_ge HP41B.out _ e1.symm; omega
  have HDC : Hid (WC.heap[w.heap.size]? = some (.cells #[.int .i64 x.f0, .int .i64 x.f1, .slice pv2 (x.f2.length + 1) cv2, .slice g3 x.f3.length d3, .slice g4 x.f4.length d4] 28)) := (hgrowC.block _ (lt_of_some HDB.out) (hne _ (by have := HL2.out; omega))).trans HDB.out
  have HRC : Hid (WC.heap[w.heap.size + 1]? = some (.cells #[.int .i64 0, .int .i64 0, .slice none 0 0, .slice none 0 0, .slice none 0 0] 28)) := (hgrowC.block _ (lt_of_some HRB.out) (hne _ HL2.out)).trans HRB.out
  have HP21C : Hid (WC.ownsRow w2.heap.size 47 3 (.slice pv2 (x.f2.length + 1) cv2) (x.f2.length + 1) (rInode (x.f2 ++ [(⟨x.f1, ⟨#[]⟩, 0⟩ : S_Inode)]))) := own_gr HP21B.out HP41B.out (by decide) hgrowC
  have HP31C : Hid (WC.ownsRow w2.heap.size 49 2 (.slice g3 x.f3.length d3) (x.f3.length) (rLink x.f3)) := own_gr HP31B.out HP41B.out (by decide) hgrowC
  have HP41C : Hid (WC.ownsRow w2.heap.size 51 4 (.slice pv4 (x.f4.length + 1) cv4) (x.f4.length + 1) (rMove (x.f4 ++ [(⟨1, s, ⟨#[]⟩, x.f1⟩ : S_Move)]))) := by
    have e1 : rMove (x.f4 ++ [(⟨1, s, ⟨#[]⟩, x.f1⟩ : S_Move)]) = rMove x.f4 ++ [.int .i64 1, .string s, .string ⟨#[]⟩, .int .i64 x.f1] := by unfold rMove; rw [List.flatMap_append]; rfl
    show World.ownsRow _ _ _ _ _ _ _
    rw [e1]
    exact hownC
  have HBC : Hid (Below w.heap.size w WC) := HBB.out.grown hgrowC HBB.out.size (fun k hk => by have := own_ge HP41B.out _ hk; have := HL2.out; omega)
  have HSC : Hid (w2.heap.size ≤ WC.heap.size) := by have h1 := HS41.out; have h2 := hgrowC.size; rw [hWB] at h2; simp at h2; show _ ≤ _; omega
  obtain ⟨⟨_, _, q2, _, q4⟩, qf⟩ := disk_cell HDC.out
  have qf4 := qf 4
  rw [← HWB.out] at hrunC
  clear qf HP21B HP31B HP41B HBB HDB HRB hownC hgrowC hne hWB HWB
  go_upto_region 12 with (at_builtin; refine wpList_append_to rfl _ _ 26 rfl _ _ rfl rfl _ _ hrunC ?_)
  refine wp_genD (fun W => Hid (W.heap[w.heap.size]? = some (.cells #[.int .i64 x.f0, .int .i64 x.f1, .slice pv2 (x.f2.length + 1) cv2, .slice g3 x.f3.length d3, .slice pv4 (x.f4.length + 1) cv4] 28)) ∧ Hid (W.heap[w.heap.size + 1]? = some (.cells #[.int .i64 0, .int .i64 0, .slice none 0 0, .slice none 0 0, .slice none 0 0] 28)) ∧ Hid (W.ownsRow w2.heap.size 47 3 (.slice pv2 (x.f2.length + 1) cv2) (x.f2.length + 1) (rInode (x.f2 ++ [(⟨x.f1, ⟨#[]⟩, 0⟩ : S_Inode)]))) ∧ Hid (W.ownsRow w2.heap.size 49 2 (.slice g3 x.f3.length d3) (x.f3.length) (rLink x.f3)) ∧ Hid (W.ownsRow w2.heap.size 51 4 (.slice pv4 (x.f4.length + 1) cv4) (x.f4.length + 1) (rMove (x.f4 ++ [(⟨1, s, ⟨#[]⟩, x.f1⟩ : S_Move)]))) ∧ Hid (Below w.heap.size w W) ∧ Hid (w2.heap.size ≤ W.heap.size)) ⟨(disk_set HDC.out).2.2 _, ?_, own_set_lt HP21C.out _ (by have := HL2.out; show w.heap.size < _; omega), own_set_lt HP31C.out _ (by have := HL2.out; show w.heap.size < _; omega), own_set_lt HP41C.out _ (by have := HL2.out; show w.heap.size < _; omega), HBC.out.setCell (Nat.le_refl _) _, ?_⟩ ?_
  · show _ = _
    rw [heap_set_ne _ _ (by show w.heap.size + 1 ≠ w.heap.size; omega)]
    exact HRC.out
  · show _ ≤ _
    simp only [World.setCell, Array.size_modify]
    exact HSC.out
  rintro W6 ⟨HD6, HR6, HQ2, HQ3, HQ4, HBF, HS6⟩
  clear hrunC q2 q4 qf4 yf4 y0 y1 y2 y3 y4 hxa HDC HRC HP21C HP31C HP41C HBC HSC HP21 HP31 HP41 HD41 HR41 HS41 HBF1
  obtain ⟨⟨y0, y1, y2, y3, y4⟩, yf⟩ := disk_cell HD6.out
  have yf1 := yf 1
  clear yf
  have hwr : IntKind.i64.wrap (x.f1 + 1) = x.f1 + 1 := IntWalk.i64_in _ (by have := HE.out.1.2.1; omega)
  go_upto_region 13 with fail
  refine wp_genD (fun W => Hid (W.heap[w.heap.size]? = some (.cells #[.int .i64 x.f0, .int .i64 (x.f1 + 1), .slice pv2 (x.f2.length + 1) cv2, .slice g3 x.f3.length d3, .slice pv4 (x.f4.length + 1) cv4] 28)) ∧ Hid (W.heap[w.heap.size + 1]? = some (.cells #[.int .i64 0, .int .i64 0, .slice none 0 0, .slice none 0 0, .slice none 0 0] 28)) ∧ Hid (W.ownsRow w2.heap.size 47 3 (.slice pv2 (x.f2.length + 1) cv2) (x.f2.length + 1) (rInode (x.f2 ++ [(⟨x.f1, ⟨#[]⟩, 0⟩ : S_Inode)]))) ∧ Hid (W.ownsRow w2.heap.size 49 2 (.slice g3 x.f3.length d3) (x.f3.length) (rLink x.f3)) ∧ Hid (W.ownsRow w2.heap.size 51 4 (.slice pv4 (x.f4.length + 1) cv4) (x.f4.length + 1) (rMove (x.f4 ++ [(⟨1, s, ⟨#[]⟩, x.f1⟩ : S_Move)]))) ∧ Hid (Below w.heap.size w W)) ⟨?_, ?_, own_set_lt HQ2.out _ (by have := HL2.out; show w.heap.size < _; omega), own_set_lt HQ3.out _ (by have := HL2.out; show w.heap.size < _; omega), own_set_lt HQ4.out _ (by have := HL2.out; show w.heap.size < _; omega), HBF.out.setCell (Nat.le_refl _) _⟩ ?_
  · show _ = _
    have := HD6.out
    simp [World.setCell, Array.getElem?_modify, this]
  · show _ = _
    rw [heap_set_ne _ _ (by show w.heap.size + 1 ≠ w.heap.size; omega)]
    exact HR6.out
  clear y0 y1 y2 y3 y4 yf1 HD6 HR6 HQ2 HQ3 HQ4 HBF HS6
  rintro W7 ⟨HD7, HR7, HQ2, HQ3, HQ4, HBF⟩
  obtain ⟨⟨y0, y1, y2, y3, y4⟩, _⟩ := disk_cell HD7.out
  obtain ⟨⟨z0, z1, z2, z3, z4⟩, zf⟩ := disk_cell HR7.out
  have zf0 := zf 0
  have zf1 := zf 1
  have zf2 := zf 2
  have zf3 := zf 3
  have zf4 := zf 4
  clear zf
  go_wp2
  refine bodyPost_ret (v := .tuple #[.agg #[.int .i64 x.f0, .int .i64 (x.f1 + 1), .slice pv2 (x.f2.length + 1) cv2, .slice g3 x.f3.length d3, .slice pv4 (x.f4.length + 1) cv4], .int .i64 0]) (by simp [results, Tryz.results12, go_sem, z0, z1, z2, z3, z4]) rfl ⟨⟨x.f0, x.f1 + 1, x.f2 ++ [(⟨x.f1, ⟨#[]⟩, 0⟩ : S_Inode)], x.f3, x.f4 ++ [(⟨1, s, ⟨#[]⟩, x.f1⟩ : S_Move)]⟩, 0, _, _, _, rfl, ?_, ?_, .inl ⟨HE.out, by rw [HF.out]; exact ⟨rfl, rfl⟩⟩⟩
  · have h2 := HL2.out
    have hs : ∀ {e : TypeId} {size n base : Nat} {v : Value} {xs : List Value} {W : World}, W.ownsRow base e size v n xs → w.heap.size + 1 < base → ∀ u (o : Nat), (W.setCell ⟨w.heap.size + 1, o, none⟩ u).ownsRow base e size v n xs := fun h hl u o => own_set_lt h u hl
    refine ⟨?_, ?_, ?_⟩
    · exact own_low (hs (hs (hs (hs (hs ((by simpa using HQ2.out)) h2 _ 0) h2 _ 1) h2 _ 2) h2 _ 3) h2 _ 4) (by omega)
    · exact own_low (hs (hs (hs (hs (hs (HQ3.out) h2 _ 0) h2 _ 1) h2 _ 2) h2 _ 3) h2 _ 4) (by omega)
    · exact own_low (hs (hs (hs (hs (hs ((by simpa using HQ4.out)) h2 _ 0) h2 _ 1) h2 _ 2) h2 _ 3) h2 _ 4) (by omega)
  · exact ((((HBF.out.setCell (Nat.le_succ _) _).setCell (Nat.le_succ _) _).setCell (Nat.le_succ _) _).setCell (Nat.le_succ _) _).setCell (Nat.le_succ _) _

end Go.Proofs.YtpgicnjhncaaeaaGreat

/- Make: the program's own, by its contract. -/
namespace Go.Proofs.YtpgicnjhncaaeaaGreat
open Go.RowKit Go.Maps
set_option linter.unusedVariables false

set_option maxRecDepth 20000 in
set_option maxHeartbeats 1000000 in
theorem makeDo_c (x : S_Disk) (s : ByteArray) (nb : Nat) (B m bf bd bn : Nat) (vm : Value) (bs : List Nat) (w : World) (hx : okX x) (hM : Mnt B w m x bf bd bn vm bs) (hs : s.size ≤ 1048576) (hns : w.cell? ⟨nb, 0, none⟩ = some (.string s)) :
    Calls Tryz.prog 50 #[.pointer (some ⟨m, 0, none⟩), .pointer (some ⟨nb, 0, none⟩)] w (DoF x (mkF x s) B m w) := by
  have HX : Hid (okX x) := hx
  have HM : Hid (Mnt B w m x bf bd bn vm bs) := hM
  clear hx hM
  go_enter Tryz.func50, Tryz.ntmps50
  go_wp2_with fail
  refine (makeFile_c x s B m bf bd bn vm bs w HX.out HM.out hs).mono ?_
  rintro e w1 ⟨rfl, hT, hb⟩
  have HT : Hid (MntT B w1 m (mkF x s).1) := hT
  have HB : Hid (Below B w w1) := hb
  clear hT hb
  generalize mkF x s = f at *
  go_wp2
  go_ret
  exact ⟨rfl, HT.out, HB.out⟩

set_option maxRecDepth 20000 in
set_option maxHeartbeats 2000000 in
theorem onMake_c (x : S_Disk) (f : S_Disk × Int) (p2 p3 p4 : Option Addr) (c2 c3 c4 : Nat) (nb : Nat) (w : World) (hb : Bnd x) (hr : RdDisk w x (.slice p2 x.f2.length c2) (.slice p3 x.f3.length c3) (.slice p4 x.f4.length c4)) (hp : p4 = none → c4 = 0)
    (hdo : ∀ W m bf bd bn vm bs, okX x → Mnt (w.heap.size + 2) W m x bf bd bn vm bs → Below w.heap.size w W → Calls Tryz.prog 50 #[.pointer (some ⟨m, 0, none⟩), .pointer (some ⟨nb, 0, none⟩)] W (DoF x f (w.heap.size + 2) m W)) :
    Calls Tryz.prog 47 #[.agg #[.int .i64 x.f0, .int .i64 x.f1, .slice p2 x.f2.length c2, .slice p3 x.f3.length c3, .slice p4 x.f4.length c4], .func (.func 50) #[] #[.pointer (some ⟨nb, 0, none⟩)]] w (OnR x f w) := by
  obtain ⟨W0, hW0⟩ : ∃ W, W = w.alloc (.cells #[.int .i64 x.f0, .int .i64 x.f1, .slice p2 x.f2.length c2, .slice p3 x.f3.length c3, .slice p4 x.f4.length c4] 28) := ⟨_, rfl⟩
  have HW0 : Hid (w.alloc (.cells #[.int .i64 x.f0, .int .i64 x.f1, .slice p2 x.f2.length c2, .slice p3 x.f3.length c3, .slice p4 x.f4.length c4] 28) = W0) := hW0.symm
  have HS0 : Hid (W0.heap.size = w.heap.size + 1) := by show _ = _; rw [hW0]; simp
  have HB0 : Hid (Below w.heap.size w W0) := by rw [hW0]; exact (Below.refl _ _).alloc (Nat.le_refl _) _
  have HBX : Hid (∀ W', Below W0.heap.size W0 W' → W'.cell? ⟨w.heap.size, 0, none⟩ = some (.int .i64 x.f0) ∧ W'.cell? ⟨w.heap.size, 1, none⟩ = some (.int .i64 x.f1) ∧ W'.cell? ⟨w.heap.size, 2, none⟩ = some (.slice p2 x.f2.length c2) ∧ W'.cell? ⟨w.heap.size, 3, none⟩ = some (.slice p3 x.f3.length c3) ∧ W'.cell? ⟨w.heap.size, 4, none⟩ = some (.slice p4 x.f4.length c4)) := fun W' hbel => by
    have hk : W'.heap[w.heap.size]? = some (.cells #[.int .i64 x.f0, .int .i64 x.f1, .slice p2 x.f2.length c2, .slice p3 x.f3.length c3, .slice p4 x.f4.length c4] 28) := by rw [hbel.block _ (by rw [HS0.out]; exact Nat.lt_succ_self _), hW0]; exact alloc_at _ _
    exact (disk_cell hk).1
  have HRD : Hid (∀ W', Below W0.heap.size W0 W' → RdDisk W' x (.slice p2 x.f2.length c2) (.slice p3 x.f3.length c3) (.slice p4 x.f4.length c4)) := fun W' hbel => (hr.keep HB0.out (Nat.le_refl _)).keep hbel (Nat.le_refl _)
  have HDN : Hid (∀ W', Below W0.heap.size W0 W' → Below w.heap.size w W') := fun W' hbel => HB0.out.trans (hbel.mono (by rw [HS0.out]; exact Nat.le_succ _))
  have HBN : Hid (Bnd x) := hb
  have HLN : Hid (LnDisk x 1048576) := ⟨hb.len.1, hb.dir, hb.len.2⟩
  clear hW0 hr hb
  have HP : Hid (p4 = none → c4 = 0) := hp
  have HDO : Hid (∀ W m bf bd bn vm bs, okX x → Mnt (w.heap.size + 2) W m x bf bd bn vm bs → Below w.heap.size w W → Calls Tryz.prog 50 #[.pointer (some ⟨m, 0, none⟩), .pointer (some ⟨nb, 0, none⟩)] W (DoF x f (w.heap.size + 2) m W)) := hdo
  clear hp hdo
  obtain ⟨WB, hWB⟩ : ∃ W, W = W0.alloc (.cells #[.int .i64 0, .int .i64 0, .slice none 0 0, .slice none 0 0, .slice none 0 0] 28) := ⟨_, rfl⟩
  have HWB : Hid (W0.alloc (.cells #[.int .i64 0, .int .i64 0, .slice none 0 0, .slice none 0 0, .slice none 0 0] 28) = WB) := hWB.symm
  have HBB : Hid (Below W0.heap.size W0 WB) := by rw [hWB]; exact (Below.refl _ _).alloc (Nat.le_refl _) _
  have HRB : Hid (WB.heap[w.heap.size + 1]? = some (.cells #[.int .i64 0, .int .i64 0, .slice none 0 0, .slice none 0 0, .slice none 0 0] 28)) := by rw [hWB, ← HS0.out]; exact alloc_at _ _
  have HZB : Hid (WB.heap.size = w.heap.size + 2) := by show _ = _; rw [hWB]; simp [HS0.out]
  clear hWB
  obtain ⟨e0, e1, e2, e3, e4⟩ := HBX.out WB HBB.out
  go_enter Tryz.func47, Tryz.ntmps47
  go_wp2_with fail
  rw [HW0.out, HWB.out]
  refine (mount_c x p2 p3 p4 c2 c3 c4 WB HBN.out (HRD.out WB HBB.out) HP.out).mono ?_
  rintro e w1 (⟨hok, ⟨m, bf, bd, bn, vm, bs, rfl, hM⟩, b1⟩ | ⟨hno, rfl, b1⟩)
  case inr =>
    have HE : Hid (¬ okX x) := hno
    have HC1 : Hid (Below W0.heap.size W0 w1) := HBB.out.trans (b1.mono HBB.out.size)
    have HR1 : Hid (w1.heap[w.heap.size + 1]? = some (.cells #[.int .i64 0, .int .i64 0, .slice none 0 0, .slice none 0 0, .slice none 0 0] 28)) := (b1.block _ (lt_of_some HRB.out)).trans HRB.out
    obtain ⟨⟨z0, z1, z2, z3, z4⟩, zf⟩ := disk_cell HR1.out
    have zf0 := zf 0
    have zf1 := zf 1
    have zf2 := zf 2
    have zf3 := zf 3
    have zf4 := zf 4
    clear hno b1 e0 e1 e2 e3 e4 zf
    go_wp2
    refine bodyPost_ret (v := .tuple #[.agg #[.int .i64 0, .int .i64 0, .slice none 0 0, .slice none 0 0, .slice none 0 0], .int .i64 1]) (by simp [results, Tryz.results47, go_sem, z0, z1, z2, z3, z4]) rfl ⟨bare 0 0, 1, _, _, _, rfl, ⟨⟨rfl, .inl ⟨rfl, rfl⟩⟩, ⟨rfl, .inl ⟨rfl, rfl⟩⟩, ⟨rfl, .inl ⟨rfl, rfl⟩⟩⟩, ?_, .inr ⟨HE.out, rfl, rfl⟩⟩
    exact (((((HDN.out _ HC1.out).setCell (Nat.le_succ _) _).setCell (Nat.le_succ _) _).setCell (Nat.le_succ _) _).setCell (Nat.le_succ _) _).setCell (Nat.le_succ _) _
  have HE : Hid (okX x) := hok
  have HM : Hid (Mnt (w.heap.size + 2) w1 m x bf bd bn vm bs) := by have := hM; rw [HZB.out] at this; exact this
  have HC1 : Hid (Below W0.heap.size W0 w1) := HBB.out.trans (b1.mono HBB.out.size)
  have HR1 : Hid (w1.heap[w.heap.size + 1]? = some (.cells #[.int .i64 0, .int .i64 0, .slice none 0 0, .slice none 0 0, .slice none 0 0] 28)) := (b1.block _ (lt_of_some HRB.out)).trans HRB.out
  clear hok b1 hM e0 e1 e2 e3 e4
  go_wp2_with fail
  refine (HDO.out w1 m bf bd bn vm bs HE.out HM.out (HDN.out _ HC1.out)).mono ?_
  rintro e w2 ⟨rfl, hT, b2⟩
  have HT : Hid (MntT (w.heap.size + 2) w2 m f.1) := hT
  have HB2 : Hid (Below w.heap.size w w2) := (HDN.out _ HC1.out).trans (b2.mono (by omega))
  have HR2 : Hid (w2.heap[w.heap.size + 1]? = some (.cells #[.int .i64 0, .int .i64 0, .slice none 0 0, .slice none 0 0, .slice none 0 0] 28)) := (b2.block _ (by omega)).trans HR1.out
  clear hT b2
  go_wp2_with fail
  refine (tellT_c (w.heap.size + 2) m f.1 w2 HT.out).mono ?_
  rintro e w3 ⟨v2, v3, v4, rfl, ho, b3⟩
  have HO3 : Hid (OwDisk w3 w2.heap.size f.1 v2 v3 v4) := ho
  have HB3 : Hid (Below w.heap.size w w3) := HB2.out.trans (b3.mono HB2.out.size)
  have HR3 : Hid (w3.heap[w.heap.size + 1]? = some (.cells #[.int .i64 0, .int .i64 0, .slice none 0 0, .slice none 0 0, .slice none 0 0] 28)) := (b3.block _ (lt_of_some HR2.out)).trans HR2.out
  have HL2 : Hid (w.heap.size + 1 < w2.heap.size) := lt_of_some HR2.out
  obtain ⟨q2, d2, hv2, _, _⟩ := own_slice ho.1; subst hv2
  obtain ⟨q3, d3, hv3, _, _⟩ := own_slice ho.2.1; subst hv3
  obtain ⟨q4, d4, hv4, _, _⟩ := own_slice ho.2.2; subst hv4
  obtain ⟨⟨z0, z1, z2, z3, z4⟩, zf⟩ := disk_cell HR3.out
  have zf0 := zf 0
  have zf1 := zf 1
  have zf2 := zf 2
  have zf3 := zf 3
  have zf4 := zf 4
  clear ho b3 zf
  go_wp2
  refine bodyPost_ret (v := .tuple #[.agg #[.int .i64 f.1.f0, .int .i64 f.1.f1, .slice q2 f.1.f2.length d2, .slice q3 f.1.f3.length d3, .slice q4 f.1.f4.length d4], .int .i64 f.2]) (by simp [results, Tryz.results47, go_sem, z0, z1, z2, z3, z4]) rfl ⟨f.1, f.2, _, _, _, rfl, ?_, ?_, .inl ⟨HE.out, rfl, rfl⟩⟩
  · have h2 := HL2.out
    have hs : ∀ {e : TypeId} {size n base : Nat} {v : Value} {xs : List Value} {W : World}, W.ownsRow base e size v n xs → w.heap.size + 1 < base → ∀ u (o : Nat), (W.setCell ⟨w.heap.size + 1, o, none⟩ u).ownsRow base e size v n xs := fun h hl u o => own_set_lt h u hl
    refine ⟨?_, ?_, ?_⟩
    · exact own_low (hs (hs (hs (hs (hs HO3.out.1 h2 _ 0) h2 _ 1) h2 _ 2) h2 _ 3) h2 _ 4) (by omega)
    · exact own_low (hs (hs (hs (hs (hs HO3.out.2.1 h2 _ 0) h2 _ 1) h2 _ 2) h2 _ 3) h2 _ 4) (by omega)
    · exact own_low (hs (hs (hs (hs (hs HO3.out.2.2 h2 _ 0) h2 _ 1) h2 _ 2) h2 _ 3) h2 _ 4) (by omega)
  · exact ((((HB3.out.setCell (Nat.le_succ _) _).setCell (Nat.le_succ _) _).setCell (Nat.le_succ _) _).setCell (Nat.le_succ _) _).setCell (Nat.le_succ _) _

set_option maxRecDepth 20000 in
set_option maxHeartbeats 2000000 in
theorem implMake_c (x : S_Disk) (p2 p3 p4 : Option Addr) (c2 c3 c4 : Nat) (s : ByteArray) (w : World) (hb : Bnd x) (hr : RdDisk w x (.slice p2 x.f2.length c2) (.slice p3 x.f3.length c3) (.slice p4 x.f4.length c4)) (hp : p4 = none → c4 = 0) (hs : s.size ≤ 1048576) :
    Calls Tryz.prog 17 #[.agg #[.int .i64 x.f0, .int .i64 x.f1, .slice p2 x.f2.length c2, .slice p3 x.f3.length c3, .slice p4 x.f4.length c4], .string s] w (OnR x (mkF x s) w) := by
  obtain ⟨W0, hW0⟩ : ∃ W, W = w.alloc (.cells #[.int .i64 x.f0, .int .i64 x.f1, .slice p2 x.f2.length c2, .slice p3 x.f3.length c3, .slice p4 x.f4.length c4] 28) := ⟨_, rfl⟩
  have HW0 : Hid (w.alloc (.cells #[.int .i64 x.f0, .int .i64 x.f1, .slice p2 x.f2.length c2, .slice p3 x.f3.length c3, .slice p4 x.f4.length c4] 28) = W0) := hW0.symm
  have HS0 : Hid (W0.heap.size = w.heap.size + 1) := by show _ = _; rw [hW0]; simp
  have HB0 : Hid (Below w.heap.size w W0) := by rw [hW0]; exact (Below.refl _ _).alloc (Nat.le_refl _) _
  have HBX : Hid (∀ W', Below W0.heap.size W0 W' → W'.cell? ⟨w.heap.size, 0, none⟩ = some (.int .i64 x.f0) ∧ W'.cell? ⟨w.heap.size, 1, none⟩ = some (.int .i64 x.f1) ∧ W'.cell? ⟨w.heap.size, 2, none⟩ = some (.slice p2 x.f2.length c2) ∧ W'.cell? ⟨w.heap.size, 3, none⟩ = some (.slice p3 x.f3.length c3) ∧ W'.cell? ⟨w.heap.size, 4, none⟩ = some (.slice p4 x.f4.length c4)) := fun W' hbel => by
    have hk : W'.heap[w.heap.size]? = some (.cells #[.int .i64 x.f0, .int .i64 x.f1, .slice p2 x.f2.length c2, .slice p3 x.f3.length c3, .slice p4 x.f4.length c4] 28) := by rw [hbel.block _ (by rw [HS0.out]; exact Nat.lt_succ_self _), hW0]; exact alloc_at _ _
    exact (disk_cell hk).1
  have HRD : Hid (∀ W', Below W0.heap.size W0 W' → RdDisk W' x (.slice p2 x.f2.length c2) (.slice p3 x.f3.length c3) (.slice p4 x.f4.length c4)) := fun W' hbel => (hr.keep HB0.out (Nat.le_refl _)).keep hbel (Nat.le_refl _)
  have HDN : Hid (∀ W', Below W0.heap.size W0 W' → Below w.heap.size w W') := fun W' hbel => HB0.out.trans (hbel.mono (by rw [HS0.out]; exact Nat.le_succ _))
  have HBN : Hid (Bnd x) := hb
  have HLN : Hid (LnDisk x 1048576) := ⟨hb.len.1, hb.dir, hb.len.2⟩
  clear hW0 hr hb
  have HP : Hid (p4 = none → c4 = 0) := hp
  clear hp
  obtain ⟨V0, hV0⟩ : ∃ W, W = W0 := ⟨_, rfl⟩
  have HV0 : Hid (Below W0.heap.size W0 V0 ∧ V0.heap.size = w.heap.size + 1) := ⟨by rw [hV0]; exact Below.refl _ _, by rw [hV0]; exact HS0.out⟩
  have HVE0 : Hid (W0 = V0) := hV0.symm
  clear hV0
  obtain ⟨V1, hV1⟩ : ∃ W, W = V0.alloc (.cells #[.string s] 9) := ⟨_, rfl⟩
  have HEV1 : Hid (V0.alloc (.cells #[.string s] 9) = V1) := hV1.symm
  have HV1 : Hid (Below W0.heap.size W0 V1 ∧ V1.heap.size = w.heap.size + 2) := ⟨by rw [hV1]; exact HV0.out.1.alloc HV0.out.1.size _, by rw [hV1]; simp [HV0.out.2]⟩
  have HS1 : Hid (V1.heap[w.heap.size + 1]? = some (.cells #[.string s] 9)) := by rw [hV1, ← HV0.out.2]; exact alloc_at _ _
  clear hV1
  obtain ⟨WB, hWB⟩ : ∃ W, W = V1.alloc (.cells #[.int .i64 0, .int .i64 0, .slice none 0 0, .slice none 0 0, .slice none 0 0] 28) := ⟨_, rfl⟩
  have HWB : Hid (V1.alloc (.cells #[.int .i64 0, .int .i64 0, .slice none 0 0, .slice none 0 0, .slice none 0 0] 28) = WB) := hWB.symm
  have HBB : Hid (Below W0.heap.size W0 WB) := by rw [hWB]; exact HV1.out.1.alloc HV1.out.1.size _
  have HRB : Hid (WB.heap[w.heap.size + 2]? = some (.cells #[.int .i64 0, .int .i64 0, .slice none 0 0, .slice none 0 0, .slice none 0 0] 28)) := by rw [hWB, ← HV1.out.2]; exact alloc_at _ _
  have HN1 : Hid (WB.heap[w.heap.size + 1]? = some (.cells #[.string s] 9)) := by rw [hWB]; exact (Below.heap_alloc _ _ _ (lt_of_some HS1.out)).trans HS1.out
  clear hWB
  obtain ⟨e0, e1, e2, e3, e4⟩ := HBX.out WB HBB.out
  go_enter Tryz.func17, Tryz.ntmps17
  go_wp2_with fail
  rw [HW0.out, HVE0.out, HEV1.out, HWB.out]
  refine (onMake_c x (mkF x s) p2 p3 p4 c2 c3 c4 (w.heap.size + 1) WB HBN.out (HRD.out WB HBB.out) HP.out (fun W m bf bd bn vm bs hx hM hbW => makeDo_c x s (w.heap.size + 1) _ m bf bd bn vm bs W hx hM hs (one_cell ((hbW.block _ (lt_of_some HN1.out)).trans HN1.out)))).mono ?_
  rintro e w1 ⟨y, code, v2, v3, v4, rfl, ho, b1, hf⟩
  have HF : Hid ((okX x ∧ y = (mkF x s).1 ∧ code = (mkF x s).2) ∨ (¬ okX x ∧ y = bare 0 0 ∧ code = 1)) := hf
  have HO1 : Hid (OwDisk w1 WB.heap.size y v2 v3 v4) := ho
  have HC1 : Hid (Below W0.heap.size W0 w1) := HBB.out.trans (b1.mono HBB.out.size)
  have HR1 : Hid (w1.heap[w.heap.size + 2]? = some (.cells #[.int .i64 0, .int .i64 0, .slice none 0 0, .slice none 0 0, .slice none 0 0] 28)) := (b1.block _ (lt_of_some HRB.out)).trans HRB.out
  have HL1 : Hid (w.heap.size + 2 < WB.heap.size) := lt_of_some HRB.out
  obtain ⟨q2, d2, hv2, _, _⟩ := own_slice ho.1; subst hv2
  obtain ⟨q3, d3, hv3, _, _⟩ := own_slice ho.2.1; subst hv3
  obtain ⟨q4, d4, hv4, _, _⟩ := own_slice ho.2.2; subst hv4
  obtain ⟨⟨z0, z1, z2, z3, z4⟩, zf⟩ := disk_cell HR1.out
  have zf0 := zf 0
  have zf1 := zf 1
  have zf2 := zf 2
  have zf3 := zf 3
  have zf4 := zf 4
  clear hf ho b1 zf e0 e1 e2 e3 e4
  go_wp2
  refine bodyPost_ret (v := .tuple #[.agg #[.int .i64 y.f0, .int .i64 y.f1, .slice q2 y.f2.length d2, .slice q3 y.f3.length d3, .slice q4 y.f4.length d4], .int .i64 code]) (by simp [results, Tryz.results17, go_sem, z0, z1, z2, z3, z4]) rfl ⟨y, code, _, _, _, rfl, ?_, ?_, HF.out⟩
  · have h2 := HL1.out
    have hs : ∀ {e : TypeId} {size n base : Nat} {v : Value} {xs : List Value} {W : World}, W.ownsRow base e size v n xs → w.heap.size + 2 < base → ∀ u (o : Nat), (W.setCell ⟨w.heap.size + 2, o, none⟩ u).ownsRow base e size v n xs := fun h hl u o => own_set_lt h u hl
    refine ⟨?_, ?_, ?_⟩
    · exact own_low (hs (hs (hs (hs (hs HO1.out.1 h2 _ 0) h2 _ 1) h2 _ 2) h2 _ 3) h2 _ 4) (by omega)
    · exact own_low (hs (hs (hs (hs (hs HO1.out.2.1 h2 _ 0) h2 _ 1) h2 _ 2) h2 _ 3) h2 _ 4) (by omega)
    · exact own_low (hs (hs (hs (hs (hs HO1.out.2.2 h2 _ 0) h2 _ 1) h2 _ 2) h2 _ 3) h2 _ 4) (by omega)
  · exact (((((HDN.out _ HC1.out).setCell (by show w.heap.size ≤ w.heap.size + 2; omega) _).setCell (by show w.heap.size ≤ w.heap.size + 2; omega) _).setCell (by show w.heap.size ≤ w.heap.size + 2; omega) _).setCell (by show w.heap.size ≤ w.heap.size + 2; omega) _).setCell (by show w.heap.size ≤ w.heap.size + 2; omega) _

end Go.Proofs.YtpgicnjhncaaeaaGreat

/- The exact law of Make, walked. -/
namespace Go.Proofs.YtpgicnjhncaaeaaGreat
open Go.RowKit Go.Maps
set_option linter.unusedVariables false

theorem ln_mk {x : S_Disk} (s : ByteArray) (h : LnDisk x 1048576) (hx : okX x) : LnDisk (mkF x s).1 1048576 := by
  unfold mkF
  split
  · exact h
  · split
    · exact h
    · split
      · exact h
      · have h1 := hx.1.2.2.1
        have h2 := hx.1.2.2.2
        refine ⟨?_, h.2.1, ?_⟩
        · show List.length (x.f2 ++ _) ≤ _
          rw [List.length_append]
          simp
          omega
        · show List.length (x.f4 ++ _) ≤ _
          rw [List.length_append]
          simp
          omega

set_option maxRecDepth 20000 in
set_option maxHeartbeats 8000000 in
theorem make_law (x : S_Disk) (v2 v3 v4 : Value) (s : ByteArray) (w : World) (hs : SmDisk x) (hg : gDisk x) (hzs : s.size ≤ maxLen) (h : RdDisk w x v2 v3 v4) :
    Calls Tryz.prog 5 #[.agg #[.int .i64 x.f0, .int .i64 x.f1, v2, v3, v4], .string s] w fun e w' => e = .returned (.bool true) ∧ Below w.heap.size w w' := by
  obtain ⟨W0, hW0⟩ : ∃ W, W = w.alloc (.cells #[.int .i64 x.f0, .int .i64 x.f1, v2, v3, v4] 58) := ⟨_, rfl⟩
  have HW0 : Hid (w.alloc (.cells #[.int .i64 x.f0, .int .i64 x.f1, v2, v3, v4] 58) = W0) := hW0.symm
  have HS0 : Hid (W0.heap.size = w.heap.size + 1) := by show _ = _; rw [hW0]; simp
  have HB0 : Hid (Below w.heap.size w W0) := by rw [hW0]; exact (Below.refl _ _).alloc (Nat.le_refl _) _
  have HR0 : Hid (RdDisk W0 x v2 v3 v4) := h.keep HB0.out (Nat.le_refl _)
  have HBX : Hid (∀ W', Below W0.heap.size W0 W' → W'.cell? ⟨w.heap.size, 0, none⟩ = some (.int .i64 x.f0) ∧ W'.cell? ⟨w.heap.size, 1, none⟩ = some (.int .i64 x.f1) ∧ W'.cell? ⟨w.heap.size, 2, none⟩ = some (v2) ∧ W'.cell? ⟨w.heap.size, 3, none⟩ = some (v3) ∧ W'.cell? ⟨w.heap.size, 4, none⟩ = some (v4)) := fun W' hbel => by
    have hk : W'.heap[w.heap.size]? = some (.cells #[.int .i64 x.f0, .int .i64 x.f1, v2, v3, v4] 58) := by rw [hbel.block _ (by rw [HS0.out]; exact Nat.lt_succ_self _), hW0]; exact alloc_at _ _
    exact disk_cellL hk
  have HRD : Hid (∀ W', Below W0.heap.size W0 W' → RdDisk W' x v2 v3 v4) := fun W' hbel => HR0.out.keep hbel (Nat.le_refl _)
  have HDN : Hid (∀ W', Below W0.heap.size W0 W' → Below w.heap.size w W') := fun W' hbel => HB0.out.trans (hbel.mono (by rw [HS0.out]; exact Nat.le_succ _))
  have HSM : Hid (SmDisk x) := hs
  have HGD : Hid (gDisk x) := hg
  clear hW0 h hs hg
  unfold maxLen at hzs
  go_enter Tryz.func5, Tryz.ntmps5
  by_cases hlongs : (1048576 : Int) < s.size
  · go_wp2
    rw [HW0.out]
    go_ret
    exact ⟨rfl, HB0.out⟩
  have hs : s.size ≤ 1048576 := by omega
  go_wp2_with fail
  rw [HW0.out]
  refine (szDisk_c x 1048576 v2 v3 v4 _ (by decide) (by decide) HSM.out HR0.out).mono ?_
  rintro e w1 ⟨rfl, b1⟩
  have HC1 : Hid (Below W0.heap.size W0 w1) := b1
  clear b1
  have hzz : szF (zDisk x) 1048576 = szF (zDisk x) 1048576 := rfl
  generalize hz : szF (zDisk x) 1048576 = z at hzz ⊢
  clear hzz
  have HZ : Hid (szF (zDisk x) 1048576 = z) := hz
  clear hz
  by_cases hneg : z < 0
  · go_wp2
    go_ret
    exact ⟨rfl, HDN.out _ HC1.out⟩
  have hsmall : zDisk x ≤ 1048576 := sz_small (by rw [HZ.out]; exact hneg)
  have HLN : Hid (LnDisk x 1048576) := ln_disk hsmall
  have HBN : Hid (Bnd x) := bnd_disk hsmall HSM.out HGD.out
  clear hsmall
  obtain ⟨e0, e1, e2, e3, e4⟩ := HBX.out w1 HC1.out
  go_wp2_with fail
  refine (toDisk_c x v2 v3 v4 _ HLN.out (HRD.out _ HC1.out)).mono ?_
  rintro e w2 ⟨u2, u3, u4, rfl, how, b2⟩
  obtain ⟨p2, cp2, hvp2, hlp2, hnp2⟩ := own_slice how.1; subst hvp2; obtain ⟨p3, cp3, hvp3, hlp3, hnp3⟩ := own_slice how.2.1; subst hvp3; obtain ⟨p4, cp4, hvp4, hlp4, hnp4⟩ := own_slice how.2.2; subst hvp4; 
  have HC2 : Hid (Below W0.heap.size W0 w2) := HC1.out.trans (b2.mono HC1.out.size)
  have HO2 : Hid (OwDisk w2 w1.heap.size x (.slice p2 x.f2.length cp2) (.slice p3 x.f3.length cp3) (.slice p4 x.f4.length cp4)) := how
  have HCP : Hid (x.f3.length ≤ cp3 ∧ x.f4.length ≤ cp4) := ⟨hlp3, hlp4⟩
  clear b2 how hlp2 hlp3 hlp4 hnp2 hnp3 hnp4 e0 e1 e2 e3 e4
  go_wp2_with fail
  refine (specMake_c x p2 p3 p4 cp2 cp3 cp4 s w2 HBN.out HO2.out.rd HCP.out.1 HCP.out.2 hs).mono ?_
  rintro e w3 ⟨y, code, u2, u3, u4, rfl, ho, b3, hf⟩
  obtain ⟨s2, cs2, hvs2, hls2, hns2⟩ := own_slice ho.1; subst hvs2; obtain ⟨s3, cs3, hvs3, hls3, hns3⟩ := own_slice ho.2.1; subst hvs3; obtain ⟨s4, cs4, hvs4, hls4, hns4⟩ := own_slice ho.2.2; subst hvs4; 
  have HF : Hid ((okX x ∧ y = (mkF x s).1 ∧ code = (mkF x s).2) ∨ (¬ okX x ∧ y = bare 0 0 ∧ code = 1)) := hf
  have HLY : Hid (LnDisk y 1048576) := by
    rcases hf with ⟨hok, rfl, _⟩ | ⟨_, rfl, _⟩
    · exact ln_mk s HLN.out hok
    · exact ln_bare 0 0
  have HC3 : Hid (Below W0.heap.size W0 w3) := HC2.out.trans (b3.mono HC2.out.size)
  obtain ⟨WW, hWW⟩ : ∃ W, W = w3.alloc (.cells #[.int .i64 y.f0, .int .i64 y.f1, .slice s2 y.f2.length cs2, .slice s3 y.f3.length cs3, .slice s4 y.f4.length cs4] 28) := ⟨_, rfl⟩
  have HWW : Hid (w3.alloc (.cells #[.int .i64 y.f0, .int .i64 y.f1, .slice s2 y.f2.length cs2, .slice s3 y.f3.length cs3, .slice s4 y.f4.length cs4] 28) = WW) := hWW.symm
  have HSW : Hid (WW.heap.size = w3.heap.size + 1) := by show _ = _; rw [hWW]; simp
  have HB3W : Hid (Below w3.heap.size w3 WW) := by rw [hWW]; exact (Below.refl _ _).alloc (Nat.le_refl _) _
  have HCW : Hid (Below W0.heap.size W0 WW) := HC3.out.trans (HB3W.out.mono HC3.out.size)
  have HYW : Hid (∀ W', Below WW.heap.size WW W' → W'.cell? ⟨w3.heap.size, 0, none⟩ = some (.int .i64 y.f0) ∧ W'.cell? ⟨w3.heap.size, 1, none⟩ = some (.int .i64 y.f1) ∧ W'.cell? ⟨w3.heap.size, 2, none⟩ = some (.slice s2 y.f2.length cs2) ∧ W'.cell? ⟨w3.heap.size, 3, none⟩ = some (.slice s3 y.f3.length cs3) ∧ W'.cell? ⟨w3.heap.size, 4, none⟩ = some (.slice s4 y.f4.length cs4)) := fun W' hbel => by
    have hk : W'.heap[w3.heap.size]? = some (.cells #[.int .i64 y.f0, .int .i64 y.f1, .slice s2 y.f2.length cs2, .slice s3 y.f3.length cs3, .slice s4 y.f4.length cs4] 28) := by rw [hbel.block _ (by rw [HSW.out]; exact Nat.lt_succ_self _), hWW]; exact alloc_at _ _
    exact disk_cellL hk
  have HYR : Hid (∀ W', Below WW.heap.size WW W' → RdDisk W' y (.slice s2 y.f2.length cs2) (.slice s3 y.f3.length cs3) (.slice s4 y.f4.length cs4)) := fun W' hbel => (ho.rd.keep HB3W.out (Nat.le_refl _)).keep hbel (Nat.le_refl _)
  clear ho b3 hf hls2 hls3 hls4 hns2 hns3 hns4 hWW HO2 HCP
  obtain ⟨e0, e1, e2, e3, e4⟩ := HBX.out w3 HC3.out
  have e0' : ∀ o, (w3.alloc o).cell? ⟨w.heap.size, 0, none⟩ = some (.int .i64 x.f0) := fun o => cell_alloc e0
  have e1' : ∀ o, (w3.alloc o).cell? ⟨w.heap.size, 1, none⟩ = some (.int .i64 x.f1) := fun o => cell_alloc e1
  have e2' : ∀ o, (w3.alloc o).cell? ⟨w.heap.size, 2, none⟩ = some (v2) := fun o => cell_alloc e2
  have e3' : ∀ o, (w3.alloc o).cell? ⟨w.heap.size, 3, none⟩ = some (v3) := fun o => cell_alloc e3
  have e4' : ∀ o, (w3.alloc o).cell? ⟨w.heap.size, 4, none⟩ = some (v4) := fun o => cell_alloc e4
  go_wp2_with fail
  rw [HWW.out]
  refine (toDisk_c x v2 v3 v4 _ HLN.out (HRD.out _ HCW.out)).mono ?_
  rintro e w4 ⟨u2, u3, u4, rfl, how, b2⟩
  obtain ⟨q2, cq2, hvq2, hlq2, hnq2⟩ := own_slice how.1; subst hvq2; obtain ⟨q3, cq3, hvq3, hlq3, hnq3⟩ := own_slice how.2.1; subst hvq3; obtain ⟨q4, cq4, hvq4, hlq4, hnq4⟩ := own_slice how.2.2; subst hvq4; 
  have HW4 : Hid (Below WW.heap.size WW w4) := b2
  have HC4 : Hid (Below W0.heap.size W0 w4) := HCW.out.trans (b2.mono HCW.out.size)
  obtain ⟨WX, hWX⟩ : ∃ W, W = w4.alloc (.cells #[.int .i64 x.f0, .int .i64 x.f1, .slice q2 x.f2.length cq2, .slice q3 x.f3.length cq3, .slice q4 x.f4.length cq4] 28) := ⟨_, rfl⟩
  have HWX : Hid (w4.alloc (.cells #[.int .i64 x.f0, .int .i64 x.f1, .slice q2 x.f2.length cq2, .slice q3 x.f3.length cq3, .slice q4 x.f4.length cq4] 28) = WX) := hWX.symm
  have HSX : Hid (WX.heap.size = w4.heap.size + 1) := by show _ = _; rw [hWX]; simp
  have HBb : Hid (Below w4.heap.size w4 WX) := by rw [hWX]; exact (Below.refl _ _).alloc (Nat.le_refl _) _
  have HCX : Hid (Below W0.heap.size W0 WX) := HC4.out.trans (HBb.out.mono HC4.out.size)
  have HWXW : Hid (Below WW.heap.size WW WX) := HW4.out.trans (HBb.out.mono HW4.out.size)
  have HOX : Hid (OwDisk WX WW.heap.size x (.slice q2 x.f2.length cq2) (.slice q3 x.f3.length cq3) (.slice q4 x.f4.length cq4)) := how.keep HBb.out (Nat.le_refl _)
  have HXX : Hid (∀ W', Below WX.heap.size WX W' → W'.cell? ⟨w4.heap.size, 0, none⟩ = some (.int .i64 x.f0) ∧ W'.cell? ⟨w4.heap.size, 1, none⟩ = some (.int .i64 x.f1) ∧ W'.cell? ⟨w4.heap.size, 2, none⟩ = some (.slice q2 x.f2.length cq2) ∧ W'.cell? ⟨w4.heap.size, 3, none⟩ = some (.slice q3 x.f3.length cq3) ∧ W'.cell? ⟨w4.heap.size, 4, none⟩ = some (.slice q4 x.f4.length cq4)) := fun W' hbel => by
    have hk : W'.heap[w4.heap.size]? = some (.cells #[.int .i64 x.f0, .int .i64 x.f1, .slice q2 x.f2.length cq2, .slice q3 x.f3.length cq3, .slice q4 x.f4.length cq4] 28) := by rw [hbel.block _ (by rw [HSX.out]; exact Nat.lt_succ_self _), hWX]; exact alloc_at _ _
    exact disk_cellL hk
  have HQ4 : Hid (q4 = none → cq4 = 0) := hnq4
  obtain ⟨f0, f1, f2, f3, f4⟩ := HXX.out WX (Below.refl _ _)
  clear b2 how hlq2 hlq3 hlq4 hnq2 hnq3 hnq4 e0 e1 e2 e3 e4 e0' e1' e2' e3' e4' hWX
  go_wp2_with fail
  rw [HWX.out]
  refine (implMake_c x q2 q3 q4 cq2 cq3 cq4 s WX HBN.out HOX.out.rd HQ4.out hs).mono ?_
  rintro e w5 ⟨y', code', u2, u3, u4, rfl, ho, b5, hf⟩
  obtain ⟨rfl, rfl⟩ : y = y' ∧ code = code' := on_one HF.out hf
  obtain ⟨g2, cg2, hvg2, hlg2, hng2⟩ := own_slice ho.1; subst hvg2; obtain ⟨g3, cg3, hvg3, hlg3, hng3⟩ := own_slice ho.2.1; subst hvg3; obtain ⟨g4, cg4, hvg4, hlg4, hng4⟩ := own_slice ho.2.2; subst hvg4; 
  obtain ⟨WG, hWG⟩ : ∃ W, W = w5.alloc (.cells #[.int .i64 y.f0, .int .i64 y.f1, .slice g2 y.f2.length cg2, .slice g3 y.f3.length cg3, .slice g4 y.f4.length cg4] 28) := ⟨_, rfl⟩
  have HWG : Hid (w5.alloc (.cells #[.int .i64 y.f0, .int .i64 y.f1, .slice g2 y.f2.length cg2, .slice g3 y.f3.length cg3, .slice g4 y.f4.length cg4] 28) = WG) := hWG.symm
  have HBG : Hid (Below w5.heap.size w5 WG) := by rw [hWG]; exact (Below.refl _ _).alloc (Nat.le_refl _) _
  have HY6 : Hid (Below WX.heap.size WX WG) := b5.trans (HBG.out.mono b5.size)
  have HC6 : Hid (Below W0.heap.size W0 WG) := HCX.out.trans (HY6.out.mono HCX.out.size)
  have HV6 : Hid (Below WW.heap.size WW WG) := HWXW.out.trans (HY6.out.mono HWXW.out.size)
  have HG6 : Hid (OwDisk WG WX.heap.size y (.slice g2 y.f2.length cg2) (.slice g3 y.f3.length cg3) (.slice g4 y.f4.length cg4)) := ho.keep HBG.out (Nat.le_refl _)
  have HN6 : Hid (WG.heap[w5.heap.size]? = some (.cells #[.int .i64 y.f0, .int .i64 y.f1, .slice g2 y.f2.length cg2, .slice g3 y.f3.length cg3, .slice g4 y.f4.length cg4] 28)) := by rw [hWG]; exact alloc_at _ _
  have HGL : Hid (∀ u ∈ ([.slice g2 y.f2.length cg2, .slice g3 y.f3.length cg3, .slice g4 y.f4.length cg4] : List Value), ∀ k, u.ownBlock = some k → WX.heap.size ≤ k ∧ k < w5.heap.size) := own_blocks ho
  have HXL : Hid (WX.heap.size ≤ w5.heap.size) := b5.size
  obtain ⟨t0, t1, t2, t3, t4⟩ := HYW.out w5 (HWXW.out.trans (b5.mono HWXW.out.size))
  have t0' : ∀ o, (w5.alloc o).cell? ⟨w3.heap.size, 0, none⟩ = some (.int .i64 y.f0) := fun o => cell_alloc t0
  have t1' : ∀ o, (w5.alloc o).cell? ⟨w3.heap.size, 1, none⟩ = some (.int .i64 y.f1) := fun o => cell_alloc t1
  have t2' : ∀ o, (w5.alloc o).cell? ⟨w3.heap.size, 2, none⟩ = some (.slice s2 y.f2.length cs2) := fun o => cell_alloc t2
  have t3' : ∀ o, (w5.alloc o).cell? ⟨w3.heap.size, 3, none⟩ = some (.slice s3 y.f3.length cs3) := fun o => cell_alloc t3
  have t4' : ∀ o, (w5.alloc o).cell? ⟨w3.heap.size, 4, none⟩ = some (.slice s4 y.f4.length cs4) := fun o => cell_alloc t4
  clear ho b5 hf hlg2 hlg3 hlg4 hng2 hng3 hng4 hWG f0 f1 f2 f3 f4
  go_wp2_with fail
  rw [HWG.out]
  refine (eqDisk_c y _ _ _ _ _ _ WG HLY.out HG6.out.rd (HYR.out _ HV6.out)).mono ?_
  rintro e w6 ⟨rfl, b6⟩
  have HCk : Hid (Below W0.heap.size W0 w6) := HC6.out.trans (b6.mono HC6.out.size)
  have HVk : Hid (Below WW.heap.size WW w6) := HV6.out.trans (b6.mono HV6.out.size)
  have HGk : Hid (OwDisk w6 WX.heap.size y (.slice g2 y.f2.length cg2) (.slice g3 y.f3.length cg3) (.slice g4 y.f4.length cg4)) := HG6.out.keep b6 (Nat.le_refl _)
  have HNk : Hid (w6.heap[w5.heap.size]? = some (.cells #[.int .i64 y.f0, .int .i64 y.f1, .slice g2 y.f2.length cg2, .slice g3 y.f3.length cg3, .slice g4 y.f4.length cg4] 28)) := (b6.block _ (lt_of_some HN6.out)).trans HN6.out
  have HYk : Hid (Below WX.heap.size WX w6) := HY6.out.trans (b6.mono HY6.out.size)
  clear b6 t0 t1 t2 t3 t4 t0' t1' t2' t3' t4'
  go_upto_region 12 with fail
  refine wp_genD (fun W => Hid (Below WX.heap.size WX W) ∧ Hid (Below W0.heap.size W0 W) ∧ Hid (Below WW.heap.size WW W) ∧ Hid (OwDisk W WX.heap.size y (.slice g2 y.f2.length cg2) (.slice g3 y.f3.length cg3) (.slice g4 y.f4.length cg4)) ∧ Hid (W.heap[w5.heap.size]? = some (.cells #[.int .i64 y.f0, .int .i64 y.f1, .slice g2 y.f2.length cg2, .slice g3 y.f3.length cg3, .slice g4 y.f4.length cg4] 28))) ⟨HYk.out, HCk.out, HVk.out, HGk.out, HNk.out⟩ ?_
  rintro W1 ⟨HY1, HC1', HV1, HG1, HN1⟩
  refine wp_region_held_drew (S := (fun W => (W.cell? ⟨w.heap.size, 0, none⟩ = some (.int .i64 x.f0) ∧ W.cell? ⟨w.heap.size, 1, none⟩ = some (.int .i64 x.f1) ∧ W.cell? ⟨w.heap.size, 2, none⟩ = some (v2) ∧ W.cell? ⟨w.heap.size, 3, none⟩ = some (v3) ∧ W.cell? ⟨w.heap.size, 4, none⟩ = some (v4)) ∧ (W.cell? ⟨w4.heap.size, 0, none⟩ = some (.int .i64 x.f0) ∧ W.cell? ⟨w4.heap.size, 1, none⟩ = some (.int .i64 x.f1) ∧ W.cell? ⟨w4.heap.size, 2, none⟩ = some (.slice q2 x.f2.length cq2) ∧ W.cell? ⟨w4.heap.size, 3, none⟩ = some (.slice q3 x.f3.length cq3) ∧ W.cell? ⟨w4.heap.size, 4, none⟩ = some (.slice q4 x.f4.length cq4)))) (by kernel_rfl) ⟨HBX.out _ HC1'.out.drew, HXX.out _ HY1.out.drew⟩ (fun hHeld => ?_)
  refine wpAnyH_take (i := 0) (v := ?_) rfl (by kernel_rfl) (by kernel_rfl) (by kernel_rfl) (fun _ _ _ h => h) (Or.inl ⟨by rfl, ?_⟩) hHeld ?_
  rotate_left
  · (intro W hSW; obtain ⟨⟨a0, a1, a2, a3, a4⟩, ⟨b0, b1, b2, b3, b4⟩⟩ := hSW; go_simp; try with_reducible rfl)
  simp only [Act.put, List.setIfInBounds_toArray, List.set_cons_zero, List.set_cons_succ, List.getElem_toArray, List.getElem_cons_zero]
  refine wpAnyH_take (i := 1) (v := ?_) rfl (by kernel_rfl) (by kernel_rfl) (by kernel_rfl) (fun _ _ _ h => h) (Or.inl ⟨by rfl, ?_⟩) hHeld ?_
  rotate_left
  · (intro W hSW; obtain ⟨⟨a0, a1, a2, a3, a4⟩, ⟨b0, b1, b2, b3, b4⟩⟩ := hSW; go_simp; try with_reducible rfl)
  simp only [Act.put, List.setIfInBounds_toArray, List.set_cons_zero, List.set_cons_succ, List.getElem_toArray, List.getElem_cons_zero, List.getElem_cons_succ]
  refine wpAnyH_ready (rs := [2]) (by kernel_rfl) (by simp) ?_
  refine AllReadyH.cons rfl (fun K hK => ?_) AllReadyH.nil
  go_simp
  go_at_call 28
  refine (toDisk_c x v2 v3 v4 _ HLN.out ((HRD.out _ HC1'.out).keep (Below.refl W1.heap.size W1).drew (Nat.le_refl _))).mono ?_
  rintro e W2 ⟨u2, u3, u4, rfl, how, b2⟩
  replace b2 := bel_undrew b2
  obtain ⟨r2, cr2, hvr2, hlr2, hnr2⟩ := own_slice how.1; subst hvr2; obtain ⟨r3, cr3, hvr3, hlr3, hnr3⟩ := own_slice how.2.1; subst hvr3; obtain ⟨r4, cr4, hvr4, hlr4, hnr4⟩ := own_slice how.2.2; subst hvr4; 
  have HC2' : Hid (Below W0.heap.size W0 W2) := HC1'.out.trans (b2.mono HC1'.out.size)
  have HY2 : Hid (Below WX.heap.size WX W2) := HY1.out.trans (b2.mono HY1.out.size)
  have HV2 : Hid (Below WW.heap.size WW W2) := HV1.out.trans (b2.mono HV1.out.size)
  have HG2 : Hid (OwDisk W2 WX.heap.size y (.slice g2 y.f2.length cg2) (.slice g3 y.f3.length cg3) (.slice g4 y.f4.length cg4)) := HG1.out.keep b2 (Nat.le_refl _)
  have HN2 : Hid (W2.heap[w5.heap.size]? = some (.cells #[.int .i64 y.f0, .int .i64 y.f1, .slice g2 y.f2.length cg2, .slice g3 y.f3.length cg3, .slice g4 y.f4.length cg4] 28)) := (b2.block _ (lt_of_some HN1.out)).trans HN1.out
  have HO2' : Hid (RdDisk W2 x (.slice r2 x.f2.length cr2) (.slice r3 x.f3.length cr3) (.slice r4 x.f4.length cr4)) := how.rd
  clear b2 how hlr2 hlr3 hlr4 hnr2 hnr3 hnr4
  go_simp
  refine hK.out _ _ ⟨HBX.out _ HC2'.out, HXX.out _ HY2.out⟩ (fun hHeld => ?_)
  clear hK K
  refine wpAnyH_ready (rs := [3]) (by kernel_rfl) (by simp) ?_
  refine AllReadyH.cons rfl (fun K hK => ?_) AllReadyH.nil
  go_simp
  go_at_call 29
  refine (eqDisk_c x _ _ _ _ _ _ W2 HLN.out (HOX.out.rd.keep HY2.out (Nat.le_refl _)) HO2'.out).mono ?_
  rintro e W3 ⟨rfl, b3⟩
  have HC3' : Hid (Below W0.heap.size W0 W3) := HC2'.out.trans (b3.mono HC2'.out.size)
  have HY3 : Hid (Below WX.heap.size WX W3) := HY2.out.trans (b3.mono HY2.out.size)
  have HV3 : Hid (Below WW.heap.size WW W3) := HV2.out.trans (b3.mono HV2.out.size)
  have HG3 : Hid (OwDisk W3 WX.heap.size y (.slice g2 y.f2.length cg2) (.slice g3 y.f3.length cg3) (.slice g4 y.f4.length cg4)) := HG2.out.keep b3 (Nat.le_refl _)
  have HN3 : Hid (W3.heap[w5.heap.size]? = some (.cells #[.int .i64 y.f0, .int .i64 y.f1, .slice g2 y.f2.length cg2, .slice g3 y.f3.length cg3, .slice g4 y.f4.length cg4] 28)) := (b3.block _ (lt_of_some HN2.out)).trans HN2.out
  clear b3
  go_simp
  refine hK.out _ _ ⟨HBX.out _ HC3'.out, HXX.out _ HY3.out⟩ (fun hHeld => ?_)
  clear hK K
  refine wpAnyH_take (i := 4) (v := ?_) rfl (by kernel_rfl) (by kernel_rfl) (by kernel_rfl) (fun _ _ _ h => h) (Or.inl ⟨by rfl, ?_⟩) hHeld ?_
  rotate_left
  · (intro W hSW; obtain ⟨⟨a0, a1, a2, a3, a4⟩, ⟨b0, b1, b2, b3, b4⟩⟩ := hSW; go_simp; try with_reducible rfl)
  simp only [Act.put, List.setIfInBounds_toArray, List.set_cons_zero, List.set_cons_succ, List.getElem_toArray, List.getElem_cons_zero, List.getElem_cons_succ]
  refine wpAnyH_done (by kernel_rfl) ?_ _
  clear hHeld
  obtain ⟨f0, f1, f2, f3, f4⟩ := HXX.out W3 HY3.out
  go_wp2_with fail
  refine (markDisk_c x 1 _ _ _ WW.heap.size W3 HLN.out (by decide) (by decide) HV3.out.size (HOX.out.keep HY3.out (Nat.le_refl _))).mono ?_
  rintro e w7 ⟨rfl, _, hbut⟩
  have hblk := own_blocks HOX.out
  have HC7 : Hid (Below W0.heap.size W0 w7) := HC3'.out.trans (hbut.below (fun u hu k hk => Nat.le_trans HCW.out.size (hblk u hu k hk).1) HC3'.out.size)
  have HV7 : Hid (Below WW.heap.size WW w7) := HV3.out.trans (hbut.below (fun u hu k hk => (hblk u hu k hk).1) HV3.out.size)
  have HG7 : Hid (OwDisk w7 WX.heap.size y (.slice g2 y.f2.length cg2) (.slice g3 y.f3.length cg3) (.slice g4 y.f4.length cg4)) := ⟨hbut.own HG3.out.1 fun u hu k hk => (hblk u hu k hk).2, hbut.own HG3.out.2.1 fun u hu k hk => (hblk u hu k hk).2, hbut.own HG3.out.2.2 fun u hu k hk => (hblk u hu k hk).2⟩
  have HN7 : Hid (w7.heap[w5.heap.size]? = some (.cells #[.int .i64 y.f0, .int .i64 y.f1, .slice g2 y.f2.length cg2, .slice g3 y.f3.length cg3, .slice g4 y.f4.length cg4] 28)) := (hbut.block _ (lt_of_some HN3.out) (fun u hu e => by have h1 := (hblk u hu _ e).2; have h2 := HXL.out; omega)).trans HN3.out
  have hk7 : (0 : Int) ≤ 1 + ((x.f2.length * 3 : Nat) : Int) + ((x.f3.length * 2 : Nat) : Int) + ((x.f4.length * 4 : Nat) : Int) := by omega
  generalize (1 : Int) + ((x.f2.length * 3 : Nat) : Int) + ((x.f3.length * 2 : Nat) : Int) + ((x.f4.length * 4 : Nat) : Int) = K at hk7 ⊢
  have hk8 : ¬ K < 0 := by omega
  clear hbut hblk hk7 f0 f1 f2 f3 f4 HG3 HN3 HV3 HY3 HC3'
  obtain ⟨a0, a1, a2, a3, a4⟩ := disk_cellL HN7.out
  obtain ⟨t0, t1, t2, t3, t4⟩ := HYW.out w7 HV7.out
  go_wp2_with fail
  refine (eqDisk_c y _ _ _ _ _ _ w7 HLY.out HG7.out.rd (HYR.out _ HV7.out)).mono ?_
  rintro e w8 ⟨rfl, b8⟩
  have HC8 : Hid (Below W0.heap.size W0 w8) := HC7.out.trans (b8.mono HC7.out.size)
  have HV8 : Hid (Below WW.heap.size WW w8) := HV7.out.trans (b8.mono HV7.out.size)
  have HG8 : Hid (OwDisk w8 WX.heap.size y (.slice g2 y.f2.length cg2) (.slice g3 y.f3.length cg3) (.slice g4 y.f4.length cg4)) := HG7.out.keep b8 (Nat.le_refl _)
  have HN8 : Hid (w8.heap[w5.heap.size]? = some (.cells #[.int .i64 y.f0, .int .i64 y.f1, .slice g2 y.f2.length cg2, .slice g3 y.f3.length cg3, .slice g4 y.f4.length cg4] 28)) := (b8.block _ (lt_of_some HN7.out)).trans HN7.out
  clear b8 a0 a1 a2 a3 a4 t0 t1 t2 t3 t4
  obtain ⟨a0, a1, a2, a3, a4⟩ := disk_cellL HN8.out
  have HZ8 : Hid (WX.heap.size ≤ w8.heap.size) := Nat.le_of_lt (Nat.lt_of_le_of_lt HXL.out (lt_of_some HN8.out))
  go_wp2_with fail
  refine (markDisk_c y 1 _ _ _ WX.heap.size w8 HLY.out (by decide) (by decide) HZ8.out HG8.out).mono ?_
  rintro e w9 ⟨rfl, hmo, hbut⟩
  obtain ⟨Kc, hKc⟩ : ∃ Kc : Int, 1 + ((y.f2.length * 3 : Nat) : Int) + ((y.f3.length * 2 : Nat) : Int) + ((y.f4.length * 4 : Nat) : Int) = Kc := ⟨_, rfl⟩
  have hkc' : ¬ Kc < 0 := by omega
  have HKc : Hid ((1 + ((y.f2.length * 3 : Nat) : Int) + ((y.f3.length * 2 : Nat) : Int) + ((y.f4.length * 4 : Nat) : Int) : Int) = Kc) := hKc
  rw [hKc]
  clear hKc
  have HC9 : Hid (Below W0.heap.size W0 w9) := HC8.out.trans (hbut.below (fun u hu k hk => Nat.le_trans HCX.out.size (HGL.out u hu k hk).1) HC8.out.size)
  have HV9 : Hid (Below WW.heap.size WW w9) := HV8.out.trans (hbut.below (fun u hu k hk => Nat.le_trans HWXW.out.size (HGL.out u hu k hk).1) HV8.out.size)
  have HM9 : Hid (MoDisk w9 WX.heap.size y 1 (.slice g2 y.f2.length cg2) (.slice g3 y.f3.length cg3) (.slice g4 y.f4.length cg4)) := hmo
  have HN9 : Hid (w9.heap[w5.heap.size]? = some (.cells #[.int .i64 y.f0, .int .i64 y.f1, .slice g2 y.f2.length cg2, .slice g3 y.f3.length cg3, .slice g4 y.f4.length cg4] 28)) := (hbut.block _ (lt_of_some HN8.out) (fun u hu e => by have h1 := (HGL.out u hu _ e).2; omega)).trans HN8.out
  clear hmo hbut a0 a1 a2 a3 a4 HG8 HN8 HV8 HC8
  obtain ⟨a0, a1, a2, a3, a4⟩ := disk_cellL HN9.out
  go_wp2_with fail
  refine (heldDisk_c y 1 _ _ _ w9 HLY.out (by decide) (by decide) HM9.out.rd).mono ?_
  rintro e wa ⟨rfl, ba⟩
  have HCa : Hid (Below W0.heap.size W0 wa) := HC9.out.trans (ba.mono HC9.out.size)
  have HVa : Hid (Below WW.heap.size WW wa) := HV9.out.trans (ba.mono HV9.out.size)
  have HMa : Hid (MoDisk wa WX.heap.size y 1 (.slice g2 y.f2.length cg2) (.slice g3 y.f3.length cg3) (.slice g4 y.f4.length cg4)) := HM9.out.keep ba (Nat.le_refl _)
  have HNa : Hid (wa.heap[w5.heap.size]? = some (.cells #[.int .i64 y.f0, .int .i64 y.f1, .slice g2 y.f2.length cg2, .slice g3 y.f3.length cg3, .slice g4 y.f4.length cg4] 28)) := (ba.block _ (lt_of_some HN9.out)).trans HN9.out
  rw [HKc.out]
  clear ba a0 a1 a2 a3 a4 HM9 HN9 HV9 HC9
  obtain ⟨e0, e1, e2, e3, e4⟩ := HBX.out wa HCa.out
  go_wp2_with fail
  refine (toDisk_c x v2 v3 v4 _ HLN.out (HRD.out _ HCa.out)).mono ?_
  rintro e wb ⟨u2, u3, u4, rfl, how, bb⟩
  obtain ⟨r2, cr2, hvr2, hlr2, hnr2⟩ := own_slice how.1; subst hvr2; obtain ⟨r3, cr3, hvr3, hlr3, hnr3⟩ := own_slice how.2.1; subst hvr3; obtain ⟨r4, cr4, hvr4, hlr4, hnr4⟩ := own_slice how.2.2; subst hvr4; 
  have HCb : Hid (Below W0.heap.size W0 wb) := HCa.out.trans (bb.mono HCa.out.size)
  have HVb : Hid (Below WW.heap.size WW wb) := HVa.out.trans (bb.mono HVa.out.size)
  have HMb : Hid (MoDisk wb WX.heap.size y 1 (.slice g2 y.f2.length cg2) (.slice g3 y.f3.length cg3) (.slice g4 y.f4.length cg4)) := HMa.out.keep bb (Nat.le_refl _)
  have HNb : Hid (wb.heap[w5.heap.size]? = some (.cells #[.int .i64 y.f0, .int .i64 y.f1, .slice g2 y.f2.length cg2, .slice g3 y.f3.length cg3, .slice g4 y.f4.length cg4] 28)) := (bb.block _ (lt_of_some HNa.out)).trans HNa.out
  have HRb : Hid (RdDisk wb x (.slice r2 x.f2.length cr2) (.slice r3 x.f3.length cr3) (.slice r4 x.f4.length cr4)) := how.rd
  have HR4 : Hid (r4 = none → cr4 = 0) := hnr4
  clear bb how hlr2 hlr3 hlr4 hnr2 hnr3 hnr4 e0 e1 e2 e3 e4 HCa HVa HMa HNa
  go_wp2_with fail
  refine (implMake_c x r2 r3 r4 cr2 cr3 cr4 s wb HBN.out HRb.out HR4.out hs).mono ?_
  rintro e wc ⟨y', code', u2, u3, u4, rfl, ho, bc, hf⟩
  obtain ⟨rfl, rfl⟩ : y = y' ∧ code = code' := on_one HF.out hf
  obtain ⟨h2, ch2, hvh2, hlh2, hnh2⟩ := own_slice ho.1; subst hvh2; obtain ⟨h3, ch3, hvh3, hlh3, hnh3⟩ := own_slice ho.2.1; subst hvh3; obtain ⟨h4, ch4, hvh4, hlh4, hnh4⟩ := own_slice ho.2.2; subst hvh4; 
  obtain ⟨WH, hWH⟩ : ∃ W, W = wc.alloc (.cells #[.int .i64 y.f0, .int .i64 y.f1, .slice h2 y.f2.length ch2, .slice h3 y.f3.length ch3, .slice h4 y.f4.length ch4] 28) := ⟨_, rfl⟩
  have HWH : Hid (wc.alloc (.cells #[.int .i64 y.f0, .int .i64 y.f1, .slice h2 y.f2.length ch2, .slice h3 y.f3.length ch3, .slice h4 y.f4.length ch4] 28) = WH) := hWH.symm
  have HBH : Hid (Below wc.heap.size wc WH) := by rw [hWH]; exact (Below.refl _ _).alloc (Nat.le_refl _) _
  have HbH : Hid (Below wb.heap.size wb WH) := bc.trans (HBH.out.mono bc.size)
  have HCd : Hid (Below W0.heap.size W0 WH) := HCb.out.trans (HbH.out.mono HCb.out.size)
  have HVd : Hid (Below WW.heap.size WW WH) := HVb.out.trans (HbH.out.mono HVb.out.size)
  have HMd : Hid (MoDisk WH WX.heap.size y 1 (.slice g2 y.f2.length cg2) (.slice g3 y.f3.length cg3) (.slice g4 y.f4.length cg4)) := HMb.out.keep HbH.out (Nat.le_refl _)
  have HNd : Hid (WH.heap[w5.heap.size]? = some (.cells #[.int .i64 y.f0, .int .i64 y.f1, .slice g2 y.f2.length cg2, .slice g3 y.f3.length cg3, .slice g4 y.f4.length cg4] 28)) := (HbH.out.block _ (lt_of_some HNb.out)).trans HNb.out
  have HHd : Hid (RdDisk WH y (.slice h2 y.f2.length ch2) (.slice h3 y.f3.length ch3) (.slice h4 y.f4.length ch4)) := ho.rd.keep HBH.out (Nat.le_refl _)
  have HPd : Hid (WH.heap[wc.heap.size]? = some (.cells #[.int .i64 y.f0, .int .i64 y.f1, .slice h2 y.f2.length ch2, .slice h3 y.f3.length ch3, .slice h4 y.f4.length ch4] 28)) := by rw [hWH]; exact alloc_at _ _
  obtain ⟨t0, t1, t2, t3, t4⟩ := HYW.out wc (HVb.out.trans (bc.mono HVb.out.size))
  have t0' : ∀ o, (wc.alloc o).cell? ⟨w3.heap.size, 0, none⟩ = some (.int .i64 y.f0) := fun o => cell_alloc t0
  have t1' : ∀ o, (wc.alloc o).cell? ⟨w3.heap.size, 1, none⟩ = some (.int .i64 y.f1) := fun o => cell_alloc t1
  have t2' : ∀ o, (wc.alloc o).cell? ⟨w3.heap.size, 2, none⟩ = some (.slice s2 y.f2.length cs2) := fun o => cell_alloc t2
  have t3' : ∀ o, (wc.alloc o).cell? ⟨w3.heap.size, 3, none⟩ = some (.slice s3 y.f3.length cs3) := fun o => cell_alloc t3
  have t4' : ∀ o, (wc.alloc o).cell? ⟨w3.heap.size, 4, none⟩ = some (.slice s4 y.f4.length cs4) := fun o => cell_alloc t4
  clear ho bc hf hlh2 hlh3 hlh4 hnh2 hnh3 hnh4 hWH HCb HVb HMb HNb
  go_wp2_with fail
  rw [HWH.out]
  refine (eqDisk_c y _ _ _ _ _ _ WH HLY.out HHd.out (HYR.out _ HVd.out)).mono ?_
  rintro e wd ⟨rfl, bd⟩
  have HCe : Hid (Below W0.heap.size W0 wd) := HCd.out.trans (bd.mono HCd.out.size)
  have HMe : Hid (MoDisk wd WX.heap.size y 1 (.slice g2 y.f2.length cg2) (.slice g3 y.f3.length cg3) (.slice g4 y.f4.length cg4)) := HMd.out.keep bd (Nat.le_refl _)
  have HNe : Hid (wd.heap[w5.heap.size]? = some (.cells #[.int .i64 y.f0, .int .i64 y.f1, .slice g2 y.f2.length cg2, .slice g3 y.f3.length cg3, .slice g4 y.f4.length cg4] 28)) := (bd.block _ (lt_of_some HNd.out)).trans HNd.out
  clear bd t0 t1 t2 t3 t4 t0' t1' t2' t3' t4' HCd HVd HMd HNd HHd HPd
  obtain ⟨a0, a1, a2, a3, a4⟩ := disk_cellL HNe.out
  go_wp2_with fail
  refine (heldDisk_c y 1 _ _ _ wd HLY.out (by decide) (by decide) HMe.out.rd).mono ?_
  rintro e we ⟨rfl, be⟩
  rw [HKc.out]
  have HCf : Hid (Below W0.heap.size W0 we) := HCe.out.trans (be.mono HCe.out.size)
  clear be
  go_wp2
  go_ret
  exact ⟨rfl, HDN.out _ HCf.out⟩

end Go.Proofs.YtpgicnjhncaaeaaGreat
