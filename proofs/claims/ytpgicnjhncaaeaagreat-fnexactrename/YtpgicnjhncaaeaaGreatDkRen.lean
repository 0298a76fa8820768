/- The specification's Drop and Rename by its contract. -/
import Derived.Test.YtpgicnjhncaaeaaGreatDkMoved
namespace Go.Proofs.YtpgicnjhncaaeaaGreat
open Go.RowKit Go.Maps
set_option linter.unusedVariables false

theorem rn_eq (x : S_Disk) (s t : ByteArray) : mvS x ⟨2, s, t, 0⟩ (if nameB t = false ∨ s = t then 1 else nmd x s) = rnF x s t := by
  unfold rnF
  by_cases h : nameB t = false ∨ s = t
  · rw [if_pos h, if_pos (.inr h)]
    unfold mvS
    rw [if_pos (by decide)]
  · rw [if_neg h]
    unfold nmd
    by_cases h1 : nameB s = false
    · rw [if_pos h1, if_pos (.inl h1)]
      unfold mvS
      rw [if_pos (by decide)]
    · have hn : ¬ (nameB s = false ∨ nameB t = false ∨ s = t) := fun h2 => h2.elim h1 h
      rw [if_neg h1, if_neg hn]
      unfold chF mvS
      by_cases h3 : fnd x s < 0
      · rw [if_pos h3, if_pos (by decide), if_pos h3]
      · rw [if_neg h3, if_neg (by decide), if_neg h3]

theorem dr_eq (x : S_Disk) (s : ByteArray) : mvS x ⟨3, s, ⟨#[]⟩, 0⟩ (nmd x s) = drF x s := by
  unfold drF nmd
  by_cases h1 : nameB s = false
  · rw [if_pos h1, if_pos h1]
    unfold mvS
    rw [if_pos (by decide)]
  · rw [if_neg h1, if_neg h1]
    unfold chF mvS
    by_cases h3 : fnd x s < 0
    · rw [if_pos h3, if_pos (by decide), if_pos h3]
    · rw [if_neg h3, if_neg (by decide), if_neg h3]

theorem gives_stores {P : Program} {o : Oper} {ρ : Operand → Value} {w : World} {b : Nat} {cs : List Value} {old : Array Value} {t : TypeId} (hv : ∀ w, (execOp ρ o).run P w = ((storeCells ⟨b, 0, none⟩ cs 0) >>= fun _ => pure Next.skip : Sem Next).run P w) (h1 : ∀ v ∈ cs, v.oneCell' = true) (hb : w.heap[b]? = some (.cells old t)) (hl : old.size = cs.length) :
    gives P o ρ w fun u W => u = undef ∧ W = w.setCells b 0 cs :=
  gives_unit _ hv (run_storeCells_cells b 0 cs 0 w (fun j hj => by simp [World.cell?, hb]; omega) (fun j hj => by simp [World.frozen?, hb]) h1)

set_option maxRecDepth 20000 in
set_option maxHeartbeats 4000000 in
theorem specRename_c (x : S_Disk) (p2 p3 p4 : Option Addr) (c2 c3 c4 : Nat) (s t : ByteArray) (w : World) (hb : Bnd x) (hr : RdDisk w x (.slice p2 x.f2.length c2) (.slice p3 x.f3.length c3) (.slice p4 x.f4.length c4)) (hc3 : x.f3.length ≤ c3) (hc4 : x.f4.length ≤ c4) (hs : s.size ≤ 1048576) (ht : t.size ≤ 1048576) :
    Calls Tryz.prog 32 #[.agg #[.int .i64 x.f0, .int .i64 x.f1, .slice p2 x.f2.length c2, .slice p3 x.f3.length c3, .slice p4 x.f4.length c4], .string s, .string t] w (OnR x (rnF x s t) w) := by
  obtain ⟨W0, hW0⟩ : ∃ W, W = w.alloc (.cells #[.int .i64 x.f0, .int .i64 x.f1, .slice p2 x.f2.length c2, .slice p3 x.f3.length c3, .slice p4 x.f4.length c4] 28) := ⟨_, rfl⟩
  have HW0 : Hid (w.alloc (.cells #[.int .i64 x.f0, .int .i64 x.f1, .slice p2 x.f2.length c2, .slice p3 x.f3.length c3, .slice p4 x.f4.length c4] 28) = W0) := hW0.symm
  have HS0 : Hid (W0.heap.size = w.heap.size + 1) := by show _ = _; rw [hW0]; simp
  have HB0 : Hid (Below w.heap.size w W0) := by rw [hW0]; exact (Below.refl _ _).alloc (Nat.le_refl _) _
  have HBX : Hid (∀ W', Below W0.heap.size W0 W' → W'.cell? ⟨w.heap.size, 0, none⟩ = some (.int .i64 x.f0) ∧ W'.cell? ⟨w.heap.size, 1, none⟩ = some (.int .i64 x.f1) ∧ W'.cell? ⟨w.heap.size, 2, none⟩ = some (.slice p2 x.f2.length c2) ∧ W'.cell? ⟨w.heap.size, 3, none⟩ = some (.slice p3 x.f3.length c3) ∧ W'.cell? ⟨w.heap.size, 4, none⟩ = some (.slice p4 x.f4.length c4)) := fun W' hbel => by
    have hk : W'.heap[w.heap.size]? = some (.cells #[.int .i64 x.f0, .int .i64 x.f1, .slice p2 x.f2.length c2, .slice p3 x.f3.length c3, .slice p4 x.f4.length c4] 28) := by rw [hbel.block _ (by rw [HS0.out]; exact Nat.lt_succ_self _), hW0]; exact alloc_at _ _
    exact (disk_cell hk).1
  have HRD : Hid (∀ W', Below W0.heap.size W0 W' → RdDisk W' x (.slice p2 x.f2.length c2) (.slice p3 x.f3.length c3) (.slice p4 x.f4.length c4)) := fun W' hbel => (hr.keep HB0.out (Nat.le_refl _)).keep hbel (Nat.le_refl _)
  have HDN : Hid (∀ W', Below W0.heap.size W0 W' → Below w.heap.size w W') := fun W' hbel => HB0.out.trans (hbel.mono (by rw [HS0.out]; exact Nat.le_succ _))
  have HBN : Hid (Bnd x) := hb
  have HLN : Hid (LnDisk x 1048576) := ⟨hb.len.1, hb.dir, hb.len.2⟩
  clear hW0 hr hb
  have HCP : Hid (x.f3.length ≤ c3 ∧ x.f4.length ≤ c4) := ⟨hc3, hc4⟩
  clear hc3 hc4
  obtain ⟨WB, hWB⟩ : ∃ W, W = W0.alloc (.cells #[.int .i64 0, .int .i64 0, .slice none 0 0, .slice none 0 0, .slice none 0 0] 28) := ⟨_, rfl⟩
  have HWB : Hid (W0.alloc (.cells #[.int .i64 0, .int .i64 0, .slice none 0 0, .slice none 0 0, .slice none 0 0] 28) = WB) := hWB.symm
  have HBB : Hid (Below W0.heap.size W0 WB) := by rw [hWB]; exact (Below.refl _ _).alloc (Nat.le_refl _) _
  have HRB : Hid (WB.heap[w.heap.size + 1]? = some (.cells #[.int .i64 0, .int .i64 0, .slice none 0 0, .slice none 0 0, .slice none 0 0] 28)) := by rw [hWB, ← HS0.out]; exact alloc_at _ _
  have HDB : Hid (WB.heap[w.heap.size]? = some (.cells #[.int .i64 x.f0, .int .i64 x.f1, .slice p2 x.f2.length c2, .slice p3 x.f3.length c3, .slice p4 x.f4.length c4] 28)) := by
    rw [hWB, Below.heap_alloc _ _ _ (by rw [HS0.out]; exact Nat.lt_succ_self _), ← HW0.out]
    exact alloc_at _ _
  clear hWB
  obtain ⟨e0, e1, e2, e3, e4⟩ := HBX.out WB HBB.out
  go_enter Tryz.func32, Tryz.ntmps32
  go_wp2_with fail
  rw [HW0.out, HWB.out]
  refine (specOk_c x p2 p3 p4 c2 c3 c4 WB HBN.out (HRD.out WB HBB.out) HCP.out.1 HCP.out.2).mono ?_
  intro e w1 hdo
  clear e0 e1 e2 e3 e4
  obtain ⟨⟨hok, rfl⟩ | ⟨hno, rfl⟩, b1⟩ := hdo
  case inr =>
    have HE : Hid (¬ okX x) := hno
    have HC1 : Hid (Below W0.heap.size W0 w1) := HBB.out.trans (b1.mono HBB.out.size)
    have HR1 : Hid (w1.heap[w.heap.size + 1]? = some (.cells #[.int .i64 0, .int .i64 0, .slice none 0 0, .slice none 0 0, .slice none 0 0] 28)) := (b1.block _ (lt_of_some HRB.out)).trans HRB.out
    obtain ⟨⟨z0, z1, z2, z3, z4⟩, zf⟩ := disk_cell HR1.out
    have zf0 := zf 0
    have zf1 := zf 1
    have zf2 := zf 2
    have zf3 := zf 3
    have zf4 := zf 4
    clear hno b1 zf
    go_wp2
    refine bodyPost_ret (v := .tuple #[.agg #[.int .i64 0, .int .i64 0, .slice none 0 0, .slice none 0 0, .slice none 0 0], .int .i64 1]) (by simp [results, Tryz.results32, go_sem, z0, z1, z2, z3, z4]) rfl ⟨bare 0 0, 1, _, _, _, rfl, ⟨⟨rfl, .inl ⟨rfl, rfl⟩⟩, ⟨rfl, .inl ⟨rfl, rfl⟩⟩, ⟨rfl, .inl ⟨rfl, rfl⟩⟩⟩, ?_, .inr ⟨HE.out, rfl, rfl⟩⟩
    exact (((((HDN.out _ HC1.out).setCell (Nat.le_succ _) _).setCell (Nat.le_succ _) _).setCell (Nat.le_succ _) _).setCell (Nat.le_succ _) _).setCell (Nat.le_succ _) _
  have HE : Hid (okX x) := hok
  have HC1 : Hid (Below W0.heap.size W0 w1) := HBB.out.trans (b1.mono HBB.out.size)
  have HR1 : Hid (w1.heap[w.heap.size + 1]? = some (.cells #[.int .i64 0, .int .i64 0, .slice none 0 0, .slice none 0 0, .slice none 0 0] 28)) := (b1.block _ (lt_of_some HRB.out)).trans HRB.out
  have HD1 : Hid (w1.heap[w.heap.size]? = some (.cells #[.int .i64 x.f0, .int .i64 x.f1, .slice p2 x.f2.length c2, .slice p3 x.f3.length c3, .slice p4 x.f4.length c4] 28)) := (b1.block _ (lt_of_some HDB.out)).trans HDB.out
  clear hok b1
  obtain ⟨e0, e1, e2, e3, e4⟩ := HBX.out w1 HC1.out
  go_wp2_with fail
  refine (named_c x p2 p3 p4 c2 c3 c4 s w1 HE.out HBN.out (HRD.out w1 HC1.out) hs).mono ?_
  rintro e w2 ⟨rfl, b2⟩
  have HC2 : Hid (Below W0.heap.size W0 w2) := HC1.out.trans (b2.mono HC1.out.size)
  have HR2 : Hid (w2.heap[w.heap.size + 1]? = some (.cells #[.int .i64 0, .int .i64 0, .slice none 0 0, .slice none 0 0, .slice none 0 0] 28)) := (b2.block _ (lt_of_some HR1.out)).trans HR1.out
  clear b2 e0 e1 e2 e3 e4
  go_wp2_with fail
  refine (name_c t w2 (by unfold maxLen; omega)).mono ?_
  rintro e w3 ⟨rfl, hw⟩
  replace hw := hw.symm
  subst hw
  obtain ⟨e0, e1, e2, e3, e4⟩ := HBX.out w2 HC2.out
  obtain ⟨cd, hcd⟩ : ∃ cd : Int, cd = if nameB t = false ∨ s = t then 1 else nmd x s := ⟨_, rfl⟩
  have HMV : Hid (mvS x ⟨2, s, t, 0⟩ cd = rnF x s t) := by show _ = _; rw [hcd]; exact rn_eq x s t
  have HST : Hid ((s.toList == t.toList) = decide (s = t)) := beq_txt s t
  have HFIN : ∀ e w', MvR (mvS x ⟨2, s, t, 0⟩ cd) w2 e w' → ∃ v2 v3 v4, e = .returned (.tuple #[.agg #[.int .i64 (rnF x s t).1.f0, .int .i64 (rnF x s t).1.f1, v2, v3, v4], .int .i64 (rnF x s t).2]) ∧ OwDisk w' w2.heap.size (rnF x s t).1 v2 v3 v4 ∧ Below w2.heap.size w2 w' := fun e w' h => by rw [HMV.out] at h; exact h
  have HFN : Hid (∀ e w', MvR (mvS x ⟨2, s, t, 0⟩ cd) w2 e w' → ∃ v2 v3 v4, e = .returned (.tuple #[.agg #[.int .i64 (rnF x s t).1.f0, .int .i64 (rnF x s t).1.f1, v2, v3, v4], .int .i64 (rnF x s t).2]) ∧ OwDisk w' w2.heap.size (rnF x s t).1 v2 v3 v4 ∧ Below w2.heap.size w2 w') := HFIN
  clear HFIN HMV
  obtain ⟨f, hf⟩ : ∃ f, rnF x s t = f := ⟨_, rfl⟩
  have HFE : Hid (rnF x s t = f) := hf
  rw [hf] at HFN
  clear hf
  obtain ⟨nm, hnm⟩ : ∃ nm, nameB t = nm := ⟨_, rfl⟩
  rw [hnm]
  cases nm
  · have hcd1 : cd = 1 := by rw [hcd, if_pos (.inl hnm)]
    subst hcd1
    clear hcd hnm
    go_wp2_with fail
    refine (moved_c x ⟨2, s, t, 0⟩ 1 p2 p3 p4 c2 c3 c4 w2 HLN.out (HRD.out w2 HC2.out)).mono ?_
    intro e w4 hmv
    obtain ⟨v2, v3, v4, rfl, ho, b4⟩ := HFN.out e w4 hmv
    have HO4 : Hid (OwDisk w4 w2.heap.size f.1 v2 v3 v4) := ho
    obtain ⟨q2, k2, hv2, _, _⟩ := own_slice ho.1; subst hv2
    obtain ⟨q3, k3, hv3, _, _⟩ := own_slice ho.2.1; subst hv3
    obtain ⟨q4, k4, hv4, _, _⟩ := own_slice ho.2.2; subst hv4
    have HR4 : Hid (w4.heap[w.heap.size + 1]? = some (.cells #[.int .i64 0, .int .i64 0, .slice none 0 0, .slice none 0 0, .slice none 0 0] 28)) := (b4.block _ (lt_of_some HR2.out)).trans HR2.out
    have HL2 : Hid (w.heap.size + 1 < w2.heap.size) := lt_of_some HR2.out
    have HBF : Hid (Below w.heap.size w w4) := (HDN.out _ HC2.out).trans (b4.mono (HDN.out _ HC2.out).size)
    obtain ⟨⟨z0, z1, z2, z3, z4⟩, zf⟩ := disk_cell HR4.out
    have zf0 := zf 0
    have zf1 := zf 1
    have zf2 := zf 2
    have zf3 := zf 3
    have zf4 := zf 4
    clear zf hmv ho b4 HFN e0 e1 e2 e3 e4
    go_wp2
    refine bodyPost_ret (v := .tuple #[.agg #[.int .i64 f.1.f0, .int .i64 f.1.f1, .slice q2 f.1.f2.length k2, .slice q3 f.1.f3.length k3, .slice q4 f.1.f4.length k4], .int .i64 f.2]) (by simp [results, Tryz.results32, go_sem, z0, z1, z2, z3, z4]) rfl ⟨f.1, f.2, _, _, _, rfl, ?_, ?_, .inl ⟨HE.out, by rw [HFE.out]; exact ⟨rfl, rfl⟩⟩⟩
    · have h2 := HL2.out
      have hs : ∀ {e : TypeId} {size n base : Nat} {v : Value} {xs : List Value} {W : World}, W.ownsRow base e size v n xs → w.heap.size + 1 < base → ∀ u (o : Nat), (W.setCell ⟨w.heap.size + 1, o, none⟩ u).ownsRow base e size v n xs := fun h hl u o => own_set_lt h u hl
      refine ⟨?_, ?_, ?_⟩
      · exact own_low (hs (hs (hs (hs (hs HO4.out.1 h2 _ 0) h2 _ 1) h2 _ 2) h2 _ 3) h2 _ 4) (by omega)
      · exact own_low (hs (hs (hs (hs (hs HO4.out.2.1 h2 _ 0) h2 _ 1) h2 _ 2) h2 _ 3) h2 _ 4) (by omega)
      · exact own_low (hs (hs (hs (hs (hs HO4.out.2.2 h2 _ 0) h2 _ 1) h2 _ 2) h2 _ 3) h2 _ 4) (by omega)
    · exact ((((HBF.out.setCell (Nat.le_succ _) _).setCell (Nat.le_succ _) _).setCell (Nat.le_succ _) _).setCell (Nat.le_succ _) _).setCell (Nat.le_succ _) _
  · by_cases hst : s = t
    · have hcd1 : cd = 1 := by rw [hcd, if_pos (.inr hst)]
      subst hcd1
      have hb : (s.toList == t.toList) = true := by rw [HST.out, decide_eq_true hst]
      clear hcd hnm hst
      go_wp2_with fail
      refine (moved_c x ⟨2, s, t, 0⟩ 1 p2 p3 p4 c2 c3 c4 w2 HLN.out (HRD.out w2 HC2.out)).mono ?_
      intro e w4 hmv
      obtain ⟨v2, v3, v4, rfl, ho, b4⟩ := HFN.out e w4 hmv
      have HO4 : Hid (OwDisk w4 w2.heap.size f.1 v2 v3 v4) := ho
      obtain ⟨q2, k2, hv2, _, _⟩ := own_slice ho.1; subst hv2
      obtain ⟨q3, k3, hv3, _, _⟩ := own_slice ho.2.1; subst hv3
      obtain ⟨q4, k4, hv4, _, _⟩ := own_slice ho.2.2; subst hv4
      have HR4 : Hid (w4.heap[w.heap.size + 1]? = some (.cells #[.int .i64 0, .int .i64 0, .slice none 0 0, .slice none 0 0, .slice none 0 0] 28)) := (b4.block _ (lt_of_some HR2.out)).trans HR2.out
      have HL2 : Hid (w.heap.size + 1 < w2.heap.size) := lt_of_some HR2.out
      have HBF : Hid (Below w.heap.size w w4) := (HDN.out _ HC2.out).trans (b4.mono (HDN.out _ HC2.out).size)
      obtain ⟨⟨z0, z1, z2, z3, z4⟩, zf⟩ := disk_cell HR4.out
      have zf0 := zf 0
      have zf1 := zf 1
      have zf2 := zf 2
      have zf3 := zf 3
      have zf4 := zf 4
      clear zf hmv ho b4 HFN e0 e1 e2 e3 e4
      go_wp2
      refine bodyPost_ret (v := .tuple #[.agg #[.int .i64 f.1.f0, .int .i64 f.1.f1, .slice q2 f.1.f2.length k2, .slice q3 f.1.f3.length k3, .slice q4 f.1.f4.length k4], .int .i64 f.2]) (by simp [results, Tryz.results32, go_sem, z0, z1, z2, z3, z4]) rfl ⟨f.1, f.2, _, _, _, rfl, ?_, ?_, .inl ⟨HE.out, by rw [HFE.out]; exact ⟨rfl, rfl⟩⟩⟩
      · have h2 := HL2.out
        have hs : ∀ {e : TypeId} {size n base : Nat} {v : Value} {xs : List Value} {W : World}, W.ownsRow base e size v n xs → w.heap.size + 1 < base → ∀ u (o : Nat), (W.setCell ⟨w.heap.size + 1, o, none⟩ u).ownsRow base e size v n xs := fun h hl u o => own_set_lt h u hl
        refine ⟨?_, ?_, ?_⟩
        · exact own_low (hs (hs (hs (hs (hs HO4.out.1 h2 _ 0) h2 _ 1) h2 _ 2) h2 _ 3) h2 _ 4) (by omega)
        · exact own_low (hs (hs (hs (hs (hs HO4.out.2.1 h2 _ 0) h2 _ 1) h2 _ 2) h2 _ 3) h2 _ 4) (by omega)
        · exact own_low (hs (hs (hs (hs (hs HO4.out.2.2 h2 _ 0) h2 _ 1) h2 _ 2) h2 _ 3) h2 _ 4) (by omega)
      · exact ((((HBF.out.setCell (Nat.le_succ _) _).setCell (Nat.le_succ _) _).setCell (Nat.le_succ _) _).setCell (Nat.le_succ _) _).setCell (Nat.le_succ _) _
    · have hcd1 : nmd x s = cd := by rw [hcd, if_neg (fun h => h.elim (fun h => by rw [hnm] at h; cases h) hst)]
      have hb : (s.toList == t.toList) = false := by rw [HST.out, decide_eq_false hst]
      rw [hcd1]
      clear hcd hnm hst hcd1
      go_wp2_with fail
      refine (moved_c x ⟨2, s, t, 0⟩ cd p2 p3 p4 c2 c3 c4 w2 HLN.out (HRD.out w2 HC2.out)).mono ?_
      intro e w4 hmv
      obtain ⟨v2, v3, v4, rfl, ho, b4⟩ := HFN.out e w4 hmv
      have HO4 : Hid (OwDisk w4 w2.heap.size f.1 v2 v3 v4) := ho
      obtain ⟨q2, k2, hv2, _, _⟩ := own_slice ho.1; subst hv2
      obtain ⟨q3, k3, hv3, _, _⟩ := own_slice ho.2.1; subst hv3
      obtain ⟨q4, k4, hv4, _, _⟩ := own_slice ho.2.2; subst hv4
      have HR4 : Hid (w4.heap[w.heap.size + 1]? = some (.cells #[.int .i64 0, .int .i64 0, .slice none 0 0, .slice none 0 0, .slice none 0 0] 28)) := (b4.block _ (lt_of_some HR2.out)).trans HR2.out
      have HL2 : Hid (w.heap.size + 1 < w2.heap.size) := lt_of_some HR2.out
      have HBF : Hid (Below w.heap.size w w4) := (HDN.out _ HC2.out).trans (b4.mono (HDN.out _ HC2.out).size)
      obtain ⟨⟨z0, z1, z2, z3, z4⟩, zf⟩ := disk_cell HR4.out
      have zf0 := zf 0
      have zf1 := zf 1
      have zf2 := zf 2
      have zf3 := zf 3
      have zf4 := zf 4
      clear zf hmv ho b4 HFN e0 e1 e2 e3 e4
      go_wp2
      refine bodyPost_ret (v := .tuple #[.agg #[.int .i64 f.1.f0, .int .i64 f.1.f1, .slice q2 f.1.f2.length k2, .slice q3 f.1.f3.length k3, .slice q4 f.1.f4.length k4], .int .i64 f.2]) (by simp [results, Tryz.results32, go_sem, z0, z1, z2, z3, z4]) rfl ⟨f.1, f.2, _, _, _, rfl, ?_, ?_, .inl ⟨HE.out, by rw [HFE.out]; exact ⟨rfl, rfl⟩⟩⟩
      · have h2 := HL2.out
        have hs : ∀ {e : TypeId} {size n base : Nat} {v : Value} {xs : List Value} {W : World}, W.ownsRow base e size v n xs → w.heap.size + 1 < base → ∀ u (o : Nat), (W.setCell ⟨w.heap.size + 1, o, none⟩ u).ownsRow base e size v n xs := fun h hl u o => own_set_lt h u hl
        refine ⟨?_, ?_, ?_⟩
        · exact own_low (hs (hs (hs (hs (hs HO4.out.1 h2 _ 0) h2 _ 1) h2 _ 2) h2 _ 3) h2 _ 4) (by omega)
        · exact own_low (hs (hs (hs (hs (hs HO4.out.2.1 h2 _ 0) h2 _ 1) h2 _ 2) h2 _ 3) h2 _ 4) (by omega)
        · exact own_low (hs (hs (hs (hs (hs HO4.out.2.2 h2 _ 0) h2 _ 1) h2 _ 2) h2 _ 3) h2 _ 4) (by omega)
      · exact ((((HBF.out.setCell (Nat.le_succ _) _).setCell (Nat.le_succ _) _).setCell (Nat.le_succ _) _).setCell (Nat.le_succ _) _).setCell (Nat.le_succ _) _

set_option maxRecDepth 20000 in
set_option maxHeartbeats 4000000 in
theorem specDrop_c (x : S_Disk) (p2 p3 p4 : Option Addr) (c2 c3 c4 : Nat) (s : ByteArray) (w : World) (hb : Bnd x) (hr : RdDisk w x (.slice p2 x.f2.length c2) (.slice p3 x.f3.length c3) (.slice p4 x.f4.length c4)) (hc3 : x.f3.length ≤ c3) (hc4 : x.f4.length ≤ c4) (hs : s.size ≤ 1048576) :
    Calls Tryz.prog 34 #[.agg #[.int .i64 x.f0, .int .i64 x.f1, .slice p2 x.f2.length c2, .slice p3 x.f3.length c3, .slice p4 x.f4.length c4], .string s] w (OnR x (drF x s) w) := by
  obtain ⟨W0, hW0⟩ : ∃ W, W = w.alloc (.cells #[.int .i64 x.f0, .int .i64 x.f1, .slice p2 x.f2.length c2, .slice p3 x.f3.length c3, .slice p4 x.f4.length c4] 28) := ⟨_, rfl⟩
  have HW0 : Hid (w.alloc (.cells #[.int .i64 x.f0, .int .i64 x.f1, .slice p2 x.f2.length c2, .slice p3 x.f3.length c3, .slice p4 x.f4.length c4] 28) = W0) := hW0.symm
  have HS0 : Hid (W0.heap.size = w.heap.size + 1) := by show _ = _; rw [hW0]; simp
  have HB0 : Hid (Below w.heap.size w W0) := by rw [hW0]; exact (Below.refl _ _).alloc (Nat.le_refl _) _
  have HBX : Hid (∀ W', Below W0.heap.size W0 W' → W'.cell? ⟨w.heap.size, 0, none⟩ = some (.int .i64 x.f0) ∧ W'.cell? ⟨w.heap.size, 1, none⟩ = some (.int .i64 x.f1) ∧ W'.cell? ⟨w.heap.size, 2, none⟩ = some (.slice p2 x.f2.length c2) ∧ W'.cell? ⟨w.heap.size, 3, none⟩ = some (.slice p3 x.f3.length c3) ∧ W'.cell? ⟨w.heap.size, 4, none⟩ = some (.slice p4 x.f4.length c4)) := fun W' hbel => by
    have hk : W'.heap[w.heap.size]? = some (.cells #[.int .i64 x.f0, .int .i64 x.f1, .slice p2 x.f2.length c2, .slice p3 x.f3.length c3, .slice p4 x.f4.length c4] 28) := by rw [hbel.block _ (by rw [HS0.out]; exact Nat.lt_succ_self _), hW0]; exact alloc_at _ _
    exact (disk_cell hk).1
  have HRD : Hid (∀ W', Below W0.heap.size W0 W' → RdDisk W' x (.slice p2 x.f2.length c2) (.slice p3 x.f3.length c3) (.slice p4 x.f4.length c4)) := fun W' hbel => (hr.keep HB0.out (Nat.le_refl _)).keep hbel (Nat.le_refl _)
  have HDN : Hid (∀ W', Below W0.heap.size W0 W' → Below w.heap.size w W') := fun W' hbel => HB0.out.trans (hbel.mono (by rw [HS0.out]; exact Nat.le_succ _))
  have HBN : Hid (Bnd x) := hb
  have HLN : Hid (LnDisk x 1048576) := ⟨hb.len.1, hb.dir, hb.len.2⟩
  clear hW0 hr hb
  have HCP : Hid (x.f3.length ≤ c3 ∧ x.f4.length ≤ c4) := ⟨hc3, hc4⟩
  clear hc3 hc4
  obtain ⟨WB, hWB⟩ : ∃ W, W = W0.alloc (.cells #[.int .i64 0, .int .i64 0, .slice none 0 0, .slice none 0 0, .slice none 0 0] 28) := ⟨_, rfl⟩
  have HWB : Hid (W0.alloc (.cells #[.int .i64 0, .int .i64 0, .slice none 0 0, .slice none 0 0, .slice none 0 0] 28) = WB) := hWB.symm
  have HBB : Hid (Below W0.heap.size W0 WB) := by rw [hWB]; exact (Below.refl _ _).alloc (Nat.le_refl _) _
  have HRB : Hid (WB.heap[w.heap.size + 1]? = some (.cells #[.int .i64 0, .int .i64 0, .slice none 0 0, .slice none 0 0, .slice none 0 0] 28)) := by rw [hWB, ← HS0.out]; exact alloc_at _ _
  have HDB : Hid (WB.heap[w.heap.size]? = some (.cells #[.int .i64 x.f0, .int .i64 x.f1, .slice p2 x.f2.length c2, .slice p3 x.f3.length c3, .slice p4 x.f4.length c4] 28)) := by
    rw [hWB, Below.heap_alloc _ _ _ (by rw [HS0.out]; exact Nat.lt_succ_self _), ← HW0.out]
    exact alloc_at _ _
  clear hWB
  obtain ⟨e0, e1, e2, e3, e4⟩ := HBX.out WB HBB.out
  go_enter Tryz.func34, Tryz.ntmps34
  go_wp2_with fail
  rw [HW0.out, HWB.out]
  refine (specOk_c x p2 p3 p4 c2 c3 c4 WB HBN.out (HRD.out WB HBB.out) HCP.out.1 HCP.out.2).mono ?_
  intro e w1 hdo
  clear e0 e1 e2 e3 e4
  obtain ⟨⟨hok, rfl⟩ | ⟨hno, rfl⟩, b1⟩ := hdo
  case inr =>
    have HE : Hid (¬ okX x) := hno
    have HC1 : Hid (Below W0.heap.size W0 w1) := HBB.out.trans (b1.mono HBB.out.size)
    have HR1 : Hid (w1.heap[w.heap.size + 1]? = some (.cells #[.int .i64 0, .int .i64 0, .slice none 0 0, .slice none 0 0, .slice none 0 0] 28)) := (b1.block _ (lt_of_some HRB.out)).trans HRB.out
    obtain ⟨⟨z0, z1, z2, z3, z4⟩, zf⟩ := disk_cell HR1.out
    have zf0 := zf 0
    have zf1 := zf 1
    have zf2 := zf 2
    have zf3 := zf 3
    have zf4 := zf 4
    clear hno b1 zf
    go_wp2
    refine bodyPost_ret (v := .tuple #[.agg #[.int .i64 0, .int .i64 0, .slice none 0 0, .slice none 0 0, .slice none 0 0], .int .i64 1]) (by simp [results, Tryz.results34, go_sem, z0, z1, z2, z3, z4]) rfl ⟨bare 0 0, 1, _, _, _, rfl, ⟨⟨rfl, .inl ⟨rfl, rfl⟩⟩, ⟨rfl, .inl ⟨rfl, rfl⟩⟩, ⟨rfl, .inl ⟨rfl, rfl⟩⟩⟩, ?_, .inr ⟨HE.out, rfl, rfl⟩⟩
    exact (((((HDN.out _ HC1.out).setCell (Nat.le_succ _) _).setCell (Nat.le_succ _) _).setCell (Nat.le_succ _) _).setCell (Nat.le_succ _) _).setCell (Nat.le_succ _) _
  have HE : Hid (okX x) := hok
  have HC1 : Hid (Below W0.heap.size W0 w1) := HBB.out.trans (b1.mono HBB.out.size)
  have HR1 : Hid (w1.heap[w.heap.size + 1]? = some (.cells #[.int .i64 0, .int .i64 0, .slice none 0 0, .slice none 0 0, .slice none 0 0] 28)) := (b1.block _ (lt_of_some HRB.out)).trans HRB.out
  have HD1 : Hid (w1.heap[w.heap.size]? = some (.cells #[.int .i64 x.f0, .int .i64 x.f1, .slice p2 x.f2.length c2, .slice p3 x.f3.length c3, .slice p4 x.f4.length c4] 28)) := (b1.block _ (lt_of_some HDB.out)).trans HDB.out
  clear hok b1
  obtain ⟨e0, e1, e2, e3, e4⟩ := HBX.out w1.drew HC1.out.drew
  obtain ⟨f, hf⟩ : ∃ f, drF x s = f := ⟨_, rfl⟩
  have HFE : Hid (drF x s = f) := hf
  have HMV : Hid (mvS x ⟨3, s, ⟨#[]⟩, 0⟩ (nmd x s) = f) := by show _ = _; rw [← hf]; exact dr_eq x s
  clear hf
  go_upto_region 3 with fail
  refine wp_region_L [⟨6, fun W => ∀ j u, ([.int .i64 x.f0, .int .i64 x.f1, .slice p2 x.f2.length c2, .slice p3 x.f3.length c3, .slice p4 x.f4.length c4] : List Value)[j]? = some u → W.cell? ((⟨w.heap.size, 0, none⟩ : Addr).add j) = some u⟩, ⟨5, fun W => ∀ j u, ([.int .i64 x.f0, .int .i64 x.f1, .slice p2 x.f2.length c2, .slice p3 x.f3.length c3, .slice p4 x.f4.length c4] : List Value)[j]? = some u → W.cell? ((⟨w.heap.size, 0, none⟩ : Addr).add j) = some u⟩] (by kernel_rfl) (fun f hf => by
      simp only [List.mem_cons, List.not_mem_nil, or_false] at hf
      rcases hf with rfl | rfl
      · exact cells5 e0 e1 e2 e3 e4
      · exact cells5 e0 e1 e2 e3 e4
      ) ?_
  refine At.take 0 (some 10) (.agg #[.int .i64 x.f0, .int .i64 x.f1, .slice p2 x.f2.length c2, .slice p3 x.f3.length c3, .slice p4 x.f4.length c4]) rfl rfl (by kernel_rfl) (by kernel_rfl) (by kernel_rfl) (by kernel_rfl) (fun _ _ _ h => h) (yl_loads 6 ⟨w.heap.size, 0, none⟩ [.int .i64 x.f0, .int .i64 x.f1, .slice p2 x.f2.length c2, .slice p3 x.f3.length c3, .slice p4 x.f4.length c4] (List.mem_cons_self) [6] (by kernel_rfl) rfl (by kernel_rfl) (fun _ => by kernel_rfl)) ?_
  refine At.take 1 (some 11) (.string s) rfl rfl (by kernel_rfl) (by kernel_rfl) (by kernel_rfl) (by kernel_rfl) (fun _ _ _ h => h) (yl_pure (by kernel_rfl) (fun _ => by kernel_rfl)) ?_
  refine At.take 2 (some 12) (.agg #[.int .i64 3, .string s, .string ⟨#[]⟩, .int .i64 0]) rfl rfl (by kernel_rfl) (by kernel_rfl) (by kernel_rfl) (by kernel_rfl) (fun _ _ _ h => h) (yl_pure (by kernel_rfl) (fun _ => by kernel_rfl)) ?_
  refine At.take 3 (some 13) (.agg #[.int .i64 x.f0, .int .i64 x.f1, .slice p2 x.f2.length c2, .slice p3 x.f3.length c3, .slice p4 x.f4.length c4]) rfl rfl (by kernel_rfl) (by kernel_rfl) (by kernel_rfl) (by kernel_rfl) (fun _ _ _ h => h) (yl_loads 5 ⟨w.heap.size, 0, none⟩ [.int .i64 x.f0, .int .i64 x.f1, .slice p2 x.f2.length c2, .slice p3 x.f3.length c3, .slice p4 x.f4.length c4] (List.mem_cons_of_mem _ (List.mem_cons_self)) [5] (by kernel_rfl) rfl (by kernel_rfl) (fun _ => by kernel_rfl)) ?_
  refine At.take 4 (some 14) (.string s) rfl rfl (by kernel_rfl) (by kernel_rfl) (by kernel_rfl) (by kernel_rfl) (fun _ _ _ h => h) (yl_pure (by kernel_rfl) (fun _ => by kernel_rfl)) ?_
  refine At.step 5 (some 15) rfl rfl (by kernel_rfl) (by kernel_rfl) (fun u W => u = .int .i64 (nmd x s) ∧ Below w1.drew.heap.size w1.drew W) (gives_call (by kernel_rfl) ((named_c x p2 p3 p4 c2 c3 c4 s w1.drew HE.out HBN.out (HRD.out w1.drew HC1.out.drew) hs).mono fun e w' ⟨he, hb⟩ => ⟨_, he, rfl, hb⟩)) ?_
  rintro u w2 ⟨rfl, b2⟩
  refine ⟨held_cons (.inr ((fun j u h => atB b2 ((cells5 e0 e1 e2 e3 e4) j u h)))) (held_cons (.inl (by kernel_rfl)) (held_nil)), ?_⟩
  have HC2 : Hid (Below W0.heap.size W0 w2) := (HC1.out.drew).trans (b2.mono HC1.out.size)
  have HR2 : Hid (w2.heap[w.heap.size + 1]? = some (.cells #[.int .i64 0, .int .i64 0, .slice none 0 0, .slice none 0 0, .slice none 0 0] 28)) := (b2.block _ (lt_of_some HR1.out)).trans HR1.out
  refine At.step 6 (some 16) rfl rfl (by kernel_rfl) (by kernel_rfl) (fun u W => ∃ e, e = .returned u ∧ MvR (mvS x ⟨3, s, ⟨#[]⟩, 0⟩ (nmd x s)) w2 e W) (gives_call (by kernel_rfl) ((moved_c x ⟨3, s, ⟨#[]⟩, 0⟩ (nmd x s) p2 p3 p4 c2 c3 c4 w2 HLN.out (HRD.out w2 HC2.out)).mono fun e w' h => by obtain ⟨v2, v3, v4, he, hr⟩ := h; exact ⟨_, he, _, rfl, v2, v3, v4, rfl, hr⟩)) ?_
  rintro u w4 ⟨e, he, hmv⟩
  rw [HMV.out] at hmv
  obtain ⟨v2, v3, v4, he2, ho, b4⟩ := hmv
  rw [he2] at he
  simp only [Ending.returned.injEq] at he
  subst he
  have HO4 : Hid (OwDisk w4 w2.heap.size f.1 v2 v3 v4) := ho
  obtain ⟨q2, k2, hv2, _, _⟩ := own_slice ho.1; subst hv2
  obtain ⟨q3, k3, hv3, _, _⟩ := own_slice ho.2.1; subst hv3
  obtain ⟨q4, k4, hv4, _, _⟩ := own_slice ho.2.2; subst hv4
  have HR4 : Hid (w4.heap[w.heap.size + 1]? = some (.cells #[.int .i64 0, .int .i64 0, .slice none 0 0, .slice none 0 0, .slice none 0 0] 28)) := (b4.block _ (lt_of_some HR2.out)).trans HR2.out
  have HL2 : Hid (w.heap.size + 1 < w2.heap.size) := lt_of_some HR2.out
  have HBF : Hid (Below w.heap.size w w4) := (HDN.out _ HC2.out).trans (b4.mono (HDN.out _ HC2.out).size)
  clear he2 ho b4 b2
  refine ⟨held_cons (.inl (by kernel_rfl)) (held_cons (.inl (by kernel_rfl)) (held_nil)), ?_⟩
  refine At.take 7 (some 17) (.agg #[.int .i64 f.1.f0, .int .i64 f.1.f1, .slice q2 f.1.f2.length k2, .slice q3 f.1.f3.length k3, .slice q4 f.1.f4.length k4]) rfl rfl (by kernel_rfl) (by kernel_rfl) (by kernel_rfl) (by kernel_rfl) (fun _ _ _ h => h) (yl_pure (by kernel_rfl) (fun _ => by kernel_rfl)) ?_
  refine At.take 8 (some 18) (.int .i64 f.2) rfl rfl (by kernel_rfl) (by kernel_rfl) (by kernel_rfl) (by kernel_rfl) (fun _ _ _ h => h) (yl_pure (by kernel_rfl) (fun _ => by kernel_rfl)) ?_
  refine At.step 9 none rfl rfl (by kernel_rfl) (by kernel_rfl) (fun u W => u = undef ∧ W = w4.setCells (w.heap.size + 1) 0 [.int .i64 f.1.f0, .int .i64 f.1.f1, .slice q2 f.1.f2.length k2, .slice q3 f.1.f3.length k3, .slice q4 f.1.f4.length k4]) (gives_stores (b := w.heap.size + 1) (cs := [.int .i64 f.1.f0, .int .i64 f.1.f1, .slice q2 f.1.f2.length k2, .slice q3 f.1.f3.length k3, .slice q4 f.1.f4.length k4]) (fun _ => by kernel_rfl) (by intro v hv; simp only [List.mem_cons, List.not_mem_nil, or_false] at hv; rcases hv with rfl | rfl | rfl | rfl | rfl <;> rfl) HR4.out rfl) ?_
  rintro u WE ⟨rfl, hWE⟩
  refine ⟨held_cons (.inl (by kernel_rfl)) (held_cons (.inl (by kernel_rfl)) (held_nil)), ?_⟩
  refine At.take 10 (some 5) (.int .i64 f.2) rfl rfl (by kernel_rfl) (by kernel_rfl) (by kernel_rfl) (by kernel_rfl) (fun _ _ _ h => h) (yl_pure (by kernel_rfl) (fun _ => by kernel_rfl)) ?_
  refine At.done (by kernel_rfl) ?_
  have HWE : Hid (((((w4.setCell ⟨w.heap.size + 1, 0, none⟩ (.int .i64 f.1.f0)).setCell ⟨w.heap.size + 1, 1, none⟩ (.int .i64 f.1.f1)).setCell ⟨w.heap.size + 1, 2, none⟩ (.slice q2 f.1.f2.length k2)).setCell ⟨w.heap.size + 1, 3, none⟩ (.slice q3 f.1.f3.length k3)).setCell ⟨w.heap.size + 1, 4, none⟩ (.slice q4 f.1.f4.length k4) = WE) := hWE.symm
  have HRE : Hid (WE.heap[w.heap.size + 1]? = some (.cells #[.int .i64 f.1.f0, .int .i64 f.1.f1, .slice q2 f.1.f2.length k2, .slice q3 f.1.f3.length k3, .slice q4 f.1.f4.length k4] 28)) := by rw [← HWE.out]; exact disk_all HR4.out
  obtain ⟨⟨z0, z1, z2, z3, z4⟩, _⟩ := disk_cell HRE.out
  simp only [Act.put, List.setIfInBounds_toArray, List.set_cons_zero, List.set_cons_succ]
  clear hWE e0 e1 e2 e3 e4
  go_wp2
  refine bodyPost_ret (v := .tuple #[.agg #[.int .i64 f.1.f0, .int .i64 f.1.f1, .slice q2 f.1.f2.length k2, .slice q3 f.1.f3.length k3, .slice q4 f.1.f4.length k4], .int .i64 f.2]) (by simp [results, Tryz.results34, go_sem, z0, z1, z2, z3, z4]) rfl ⟨f.1, f.2, _, _, _, rfl, ?_, ?_, .inl ⟨HE.out, by rw [HFE.out]; exact ⟨rfl, rfl⟩⟩⟩
  · have h2 := HL2.out
    have hs : ∀ {e : TypeId} {size n base : Nat} {v : Value} {xs : List Value} {W : World}, W.ownsRow base e size v n xs → w.heap.size + 1 < base → ∀ u (o : Nat), (W.setCell ⟨w.heap.size + 1, o, none⟩ u).ownsRow base e size v n xs := fun h hl u o => own_set_lt h u hl
    rw [← HWE.out]
    refine ⟨?_, ?_, ?_⟩
    · exact own_low (hs (hs (hs (hs (hs HO4.out.1 h2 _ 0) h2 _ 1) h2 _ 2) h2 _ 3) h2 _ 4) (by omega)
    · exact own_low (hs (hs (hs (hs (hs HO4.out.2.1 h2 _ 0) h2 _ 1) h2 _ 2) h2 _ 3) h2 _ 4) (by omega)
    · exact own_low (hs (hs (hs (hs (hs HO4.out.2.2 h2 _ 0) h2 _ 1) h2 _ 2) h2 _ 3) h2 _ 4) (by omega)
  · rw [← HWE.out]
    exact ((((HBF.out.setCell (Nat.le_succ _) _).setCell (Nat.le_succ _) _).setCell (Nat.le_succ _) _).setCell (Nat.le_succ _) _).setCell (Nat.le_succ _) _

end Go.Proofs.YtpgicnjhncaaeaaGreat
