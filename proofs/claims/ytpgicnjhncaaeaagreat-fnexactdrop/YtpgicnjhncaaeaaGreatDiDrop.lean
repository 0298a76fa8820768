/- Drop: the program's own, by its contract. -/
import Derived.Test.YtpgicnjhncaaeaaGreatDiChg
namespace Go.Proofs.YtpgicnjhncaaeaaGreat
open Go.RowKit Go.Maps
set_option linter.unusedVariables false

set_option maxRecDepth 20000 in
set_option maxHeartbeats 1000000 in
theorem dropDo_c (x : S_Disk) (s : ByteArray) (nb : Nat) (B m bf bd bn : Nat) (vm : Value) (bs : List Nat) (w : World) (hx : okX x) (hM : Mnt B w m x bf bd bn vm bs) (hs : s.size ≤ 1048576) (hns : w.cell? ⟨nb, 0, none⟩ = some (.string s)) :
    Calls Tryz.prog 88 #[.pointer (some ⟨m, 0, none⟩), .pointer (some ⟨nb, 0, none⟩)] w (DoF x (drF x s) B m w) := by
  have HX : Hid (okX x) := hx
  have HM : Hid (Mnt B w m x bf bd bn vm bs) := hM
  clear hx hM
  go_enter Tryz.func88, Tryz.ntmps88
  go_wp2_with fail
  refine (dropName_c x s B m bf bd bn vm bs w HX.out HM.out hs).mono ?_
  rintro e w1 ⟨rfl, hT, hb⟩
  have HT : Hid (MntT B w1 m (drF x s).1) := hT
  have HB : Hid (Below B w w1) := hb
  clear hT hb
  generalize drF x s = f at *
  go_wp2
  go_ret
  exact ⟨rfl, HT.out, HB.out⟩

set_option maxRecDepth 20000 in
set_option maxHeartbeats 2000000 in
theorem onDrop_c (x : S_Disk) (f : S_Disk × Int) (p2 p3 p4 : Option Addr) (c2 c3 c4 : Nat) (nb : Nat) (w : World) (hb : Bnd x) (hr : RdDisk w x (.slice p2 x.f2.length c2) (.slice p3 x.f3.length c3) (.slice p4 x.f4.length c4)) (hp : p4 = none → c4 = 0)
    (hdo : ∀ W m bf bd bn vm bs, okX x → Mnt (w.heap.size + 2) W m x bf bd bn vm bs → Below w.heap.size w W → Calls Tryz.prog 88 #[.pointer (some ⟨m, 0, none⟩), .pointer (some ⟨nb, 0, none⟩)] W (DoF x f (w.heap.size + 2) m W)) :
    Calls Tryz.prog 47 #[.agg #[.int .i64 x.f0, .int .i64 x.f1, .slice p2 x.f2.length c2, .slice p3 x.f3.length c3, .slice p4 x.f4.length c4], .func (.func 88) #[] #[.pointer (some ⟨nb, 0, none⟩)]] w (OnR x f w) := by
  obtain ⟨W0, hW0⟩ : ∃ W, W = w.alloc (.cells #[.int .i64 x.f0, .int .i64 x.f1, .slice p2 x.f2.length c2, .slice p3 x.f3.length c3, .slice p4 x.f4.length c4] 28) := ⟨_, rfl⟩
  have HW0 : Hid (w.alloc (.cells #[.int .i64 x.f0, .int .i64 x.f1, .slice p2 x.f2.length c2, .slice p3 x.f3.length c3, .slice p4 x.f4.length c4] 28) = W0) := hW0.symm
  have HS0 : Hid (W0.heap.size = w.heap.size + 1) := by show _ = _; rw [hW0]; simp
  have HB0 : Hid (Below w.heap.size w W0) := by rw [hW0]; exact (Below.refl _ _).alloc (Nat.le_refl _) _
  have HBX : Hid (∀ W', Below W0.heap.size W0 W' → W'.cell? ⟨w.heap.size, 0, none⟩ = some (.int .i64 x.f0) ∧ W'.cell? ⟨w.heap.size, 1, none⟩ = some (.int .i64 x.f1) ∧ W'.cell? ⟨w.heap.size, 2, none⟩ = some (.slice p2 x.f2.length c2) ∧ W'.cell? ⟨w.heap.size, 3, none⟩ = some (.slice p3 x.f3.length c3) ∧ W'.cell? ⟨w.heap.size, 4, none⟩ = some (.slice p4 x.f4.length c4)) := fun W' hbel => by
    have hk : W'.heap[w.heap.size]? = some (.cells #[.int .i64 x.f0, .int .i64 x.f1, .slice p2 x.f2.length c2, .slice p3 x.f3.length c3, .slice p4 x.f4.length c4] 28) := by rw [hbel.block _ (by rw [HS0.out]; exact Nat.lt_succ_self _), hW0]; exact alloc_at _ _
    exact (disk_cell hk).1
  have HRD : Hid (∀ W', Below W0.heap.size W0 W' → RdDisk W' x (.slice p2 x.f2.length c2) (.slice p3 x.f3.length c3) (.slice p4 x.f4.length c4)) := fun W' hbel => (hr.keep HB0.out (Nat.le_refl _)).keep hbel (Nat.le_refl _)
  have HDN : Hid (∀ W', Below W0.heap.size W0 W' → Below w.heap.size w W') := fun W' hbel => HB0.out.trans (hbel.mono (by rw [HS0.out]; exact Nat.le_succ _))
  have HBN : Hid (Bnd x) := hb
  have HLN : Hid (LnDisk x 1048576) := ⟨hb.len.1, hb.dir, hb.len.2⟩
  clear hW0 hr hb
  have HP : Hid (p4 = none → c4 = 0) := hp
  have HDO : Hid (∀ W m bf bd bn vm bs, okX x → Mnt (w.heap.size + 2) W m x bf bd bn vm bs → Below w.heap.size w W → Calls Tryz.prog 88 #[.pointer (some ⟨m, 0, none⟩), .pointer (some ⟨nb, 0, none⟩)] W (DoF x f (w.heap.size + 2) m W)) := hdo
  clear hp hdo
  obtain ⟨WB, hWB⟩ : ∃ W, W = W0.alloc (.cells #[.int .i64 0, .int .i64 0, .slice none 0 0, .slice none 0 0, .slice none 0 0] 28) := ⟨_, rfl⟩
  have HWB : Hid (W0.alloc (.cells #[.int .i64 0, .int .i64 0, .slice none 0 0, .slice none 0 0, .slice none 0 0] 28) = WB) := hWB.symm
  have HBB : Hid (Below W0.heap.size W0 WB) := by rw [hWB]; exact (Below.refl _ _).alloc (Nat.le_refl _) _
  have HRB : Hid (WB.heap[w.heap.size + 1]? = some (.cells #[.int .i64 0, .int .i64 0, .slice none 0 0, .slice none 0 0, .slice none 0 0] 28)) := by rw [hWB, ← HS0.out]; exact alloc_at _ _
  have HZB : Hid (WB.heap.size = w.heap.size + 2) := by show _ = _; rw [hWB]; simp [HS0.out]
  clear hWB
  obtain ⟨e0, e1, e2, e3, e4⟩ := HBX.out WB HBB.out
  go_enter Tryz.func47, Tryz.ntmps47
  go_wp2_with fail
  rw [HW0.out, HWB.out]
  refine (mount_c x p2 p3 p4 c2 c3 c4 WB HBN.out (HRD.out WB HBB.out) HP.out).mono ?_
  rintro e w1 (⟨hok, ⟨m, bf, bd, bn, vm, bs, rfl, hM⟩, b1⟩ | ⟨hno, rfl, b1⟩)
  case inr =>
    have HE : Hid (¬ okX x) := hno
    have HC1 : Hid (Below W0.heap.size W0 w1) := HBB.out.trans (b1.mono HBB.out.size)
    have HR1 : Hid (w1.heap[w.heap.size + 1]? = some (.cells #[.int .i64 0, .int .i64 0, .slice none 0 0, .slice none 0 0, .slice none 0 0] 28)) := (b1.block _ (lt_of_some HRB.out)).trans HRB.out
    obtain ⟨⟨z0, z1, z2, z3, z4⟩, zf⟩ := disk_cell HR1.out
    have zf0 := zf 0
    have zf1 := zf 1
    have zf2 := zf 2
    have zf3 := zf 3
    have zf4 := zf 4
    clear hno b1 e0 e1 e2 e3 e4 zf
    go_wp2
    refine bodyPost_ret (v := .tuple #[.agg #[.int .i64 0, .int .i64 0, .slice none 0 0, .slice none 0 0, .slice none 0 0], .int .i64 1]) (by simp [results, Tryz.results47, go_sem, z0, z1, z2, z3, z4]) rfl ⟨bare 0 0, 1, _, _, _, rfl, ⟨⟨rfl, .inl ⟨rfl, rfl⟩⟩, ⟨rfl, .inl ⟨rfl, rfl⟩⟩, ⟨rfl, .inl ⟨rfl, rfl⟩⟩⟩, ?_, .inr ⟨HE.out, rfl, rfl⟩⟩
    exact (((((HDN.out _ HC1.out).setCell (Nat.le_succ _) _).setCell (Nat.le_succ _) _).setCell (Nat.le_succ _) _).setCell (Nat.le_succ _) _).setCell (Nat.le_succ _) _
  have HE : Hid (okX x) := hok
  have HM : Hid (Mnt (w.heap.size + 2) w1 m x bf bd bn vm bs) := by have := hM; rw [HZB.out] at this; exact this
  have HC1 : Hid (Below W0.heap.size W0 w1) := HBB.out.trans (b1.mono HBB.out.size)
  have HR1 : Hid (w1.heap[w.heap.size + 1]? = some (.cells #[.int .i64 0, .int .i64 0, .slice none 0 0, .slice none 0 0, .slice none 0 0] 28)) := (b1.block _ (lt_of_some HRB.out)).trans HRB.out
  clear hok b1 hM e0 e1 e2 e3 e4
  go_wp2_with fail
  refine (HDO.out w1 m bf bd bn vm bs HE.out HM.out (HDN.out _ HC1.out)).mono ?_
  rintro e w2 ⟨rfl, hT, b2⟩
  have HT : Hid (MntT (w.heap.size + 2) w2 m f.1) := hT
  have HB2 : Hid (Below w.heap.size w w2) := (HDN.out _ HC1.out).trans (b2.mono (by omega))
  have HR2 : Hid (w2.heap[w.heap.size + 1]? = some (.cells #[.int .i64 0, .int .i64 0, .slice none 0 0, .slice none 0 0, .slice none 0 0] 28)) := (b2.block _ (by omega)).trans HR1.out
  clear hT b2
  go_wp2_with fail
  refine (tellT_c (w.heap.size + 2) m f.1 w2 HT.out).mono ?_
  rintro e w3 ⟨v2, v3, v4, rfl, ho, b3⟩
  have HO3 : Hid (OwDisk w3 w2.heap.size f.1 v2 v3 v4) := ho
  have HB3 : Hid (Below w.heap.size w w3) := HB2.out.trans (b3.mono HB2.out.size)
  have HR3 : Hid (w3.heap[w.heap.size + 1]? = some (.cells #[.int .i64 0, .int .i64 0, .slice none 0 0, .slice none 0 0, .slice none 0 0] 28)) := (b3.block _ (lt_of_some HR2.out)).trans HR2.out
  have HL2 : Hid (w.heap.size + 1 < w2.heap.size) := lt_of_some HR2.out
  obtain ⟨q2, d2, hv2, _, _⟩ := own_slice ho.1; subst hv2
  obtain ⟨q3, d3, hv3, _, _⟩ := own_slice ho.2.1; subst hv3
  obtain ⟨q4, d4, hv4, _, _⟩ := own_slice ho.2.2; subst hv4
  obtain ⟨⟨z0, z1, z2, z3, z4⟩, zf⟩ := disk_cell HR3.out
  have zf0 := zf 0
  have zf1 := zf 1
  have zf2 := zf 2
  have zf3 := zf 3
  have zf4 := zf 4
  clear ho b3 zf
  go_wp2
  refine bodyPost_ret (v := .tuple #[.agg #[.int .i64 f.1.f0, .int .i64 f.1.f1, .slice q2 f.1.f2.length d2, .slice q3 f.1.f3.length d3, .slice q4 f.1.f4.length d4], .int .i64 f.2]) (by simp [results, Tryz.results47, go_sem, z0, z1, z2, z3, z4]) rfl ⟨f.1, f.2, _, _, _, rfl, ?_, ?_, .inl ⟨HE.out, rfl, rfl⟩⟩
  · have h2 := HL2.out
    have hs : ∀ {e : TypeId} {size n base : Nat} {v : Value} {xs : List Value} {W : World}, W.ownsRow base e size v n xs → w.heap.size + 1 < base → ∀ u (o : Nat), (W.setCell ⟨w.heap.size + 1, o, none⟩ u).ownsRow base e size v n xs := fun h hl u o => own_set_lt h u hl
    refine ⟨?_, ?_, ?_⟩
    · exact own_low (hs (hs (hs (hs (hs HO3.out.1 h2 _ 0) h2 _ 1) h2 _ 2) h2 _ 3) h2 _ 4) (by omega)
    · exact own_low (hs (hs (hs (hs (hs HO3.out.2.1 h2 _ 0) h2 _ 1) h2 _ 2) h2 _ 3) h2 _ 4) (by omega)
    · exact own_low (hs (hs (hs (hs (hs HO3.out.2.2 h2 _ 0) h2 _ 1) h2 _ 2) h2 _ 3) h2 _ 4) (by omega)
  · exact ((((HB3.out.setCell (Nat.le_succ _) _).setCell (Nat.le_succ _) _).setCell (Nat.le_succ _) _).setCell (Nat.le_succ _) _).setCell (Nat.le_succ _) _

set_option maxRecDepth 20000 in
set_option maxHeartbeats 2000000 in
theorem implDrop_c (x : S_Disk) (p2 p3 p4 : Option Addr) (c2 c3 c4 : Nat) (s : ByteArray) (w : World) (hb : Bnd x) (hr : RdDisk w x (.slice p2 x.f2.length c2) (.slice p3 x.f3.length c3) (.slice p4 x.f4.length c4)) (hp : p4 = none → c4 = 0) (hs : s.size ≤ 1048576) :
    Calls Tryz.prog 35 #[.agg #[.int .i64 x.f0, .int .i64 x.f1, .slice p2 x.f2.length c2, .slice p3 x.f3.length c3, .slice p4 x.f4.length c4], .string s] w (OnR x (drF x s) w) := by
  obtain ⟨W0, hW0⟩ : ∃ W, W = w.alloc (.cells #[.int .i64 x.f0, .int .i64 x.f1, .slice p2 x.f2.length c2, .slice p3 x.f3.length c3, .slice p4 x.f4.length c4] 28) := ⟨_, rfl⟩
  have HW0 : Hid (w.alloc (.cells #[.int .i64 x.f0, .int .i64 x.f1, .slice p2 x.f2.length c2, .slice p3 x.f3.length c3, .slice p4 x.f4.length c4] 28) = W0) := hW0.symm
  have HS0 : Hid (W0.heap.size = w.heap.size + 1) := by show _ = _; rw [hW0]; simp
  have HB0 : Hid (Below w.heap.size w W0) := by rw [hW0]; exact (Below.refl _ _).alloc (Nat.le_refl _) _
  have HBX : Hid (∀ W', Below W0.heap.size W0 W' → W'.cell? ⟨w.heap.size, 0, none⟩ = some (.int .i64 x.f0) ∧ W'.cell? ⟨w.heap.size, 1, none⟩ = some (.int .i64 x.f1) ∧ W'.cell? ⟨w.heap.size, 2, none⟩ = some (.slice p2 x.f2.length c2) ∧ W'.cell? ⟨w.heap.size, 3, none⟩ = some (.slice p3 x.f3.length c3) ∧ W'.cell? ⟨w.heap.size, 4, none⟩ = some (.slice p4 x.f4.length c4)) := fun W' hbel => by
    have hk : W'.heap[w.heap.size]? = some (.cells #[.int .i64 x.f0, .int .i64 x.f1, .slice p2 x.f2.length c2, .slice p3 x.f3.length c3, .slice p4 x.f4.length c4] 28) := by rw [hbel.block _ (by rw [HS0.out]; exact Nat.lt_succ_self _), hW0]; exact alloc_at _ _
    exact (disk_cell hk).1
  have HRD : Hid (∀ W', Below W0.heap.size W0 W' → RdDisk W' x (.slice p2 x.f2.length c2) (.slice p3 x.f3.length c3) (.slice p4 x.f4.length c4)) := fun W' hbel => (hr.keep HB0.out (Nat.le_refl _)).keep hbel (Nat.le_refl _)
  have HDN : Hid (∀ W', Below W0.heap.size W0 W' → Below w.heap.size w W') := fun W' hbel => HB0.out.trans (hbel.mono (by rw [HS0.out]; exact Nat.le_succ _))
  have HBN : Hid (Bnd x) := hb
  have HLN : Hid (LnDisk x 1048576) := ⟨hb.len.1, hb.dir, hb.len.2⟩
  clear hW0 hr hb
  have HP : Hid (p4 = none → c4 = 0) := hp
  clear hp
  obtain ⟨V0, hV0⟩ : ∃ W, W = W0 := ⟨_, rfl⟩
  have HV0 : Hid (Below W0.heap.size W0 V0 ∧ V0.heap.size = w.heap.size + 1) := ⟨by rw [hV0]; exact Below.refl _ _, by rw [hV0]; exact HS0.out⟩
  have HVE0 : Hid (W0 = V0) := hV0.symm
  clear hV0
  obtain ⟨V1, hV1⟩ : ∃ W, W = V0.alloc (.cells #[.string s] 9) := ⟨_, rfl⟩
  have HEV1 : Hid (V0.alloc (.cells #[.string s] 9) = V1) := hV1.symm
  have HV1 : Hid (Below W0.heap.size W0 V1 ∧ V1.heap.size = w.heap.size + 2) := ⟨by rw [hV1]; exact HV0.out.1.alloc HV0.out.1.size _, by rw [hV1]; simp [HV0.out.2]⟩
  have HS1 : Hid (V1.heap[w.heap.size + 1]? = some (.cells #[.string s] 9)) := by rw [hV1, ← HV0.out.2]; exact alloc_at _ _
  clear hV1
  obtain ⟨WB, hWB⟩ : ∃ W, W = V1.alloc (.cells #[.int .i64 0, .int .i64 0, .slice none 0 0, .slice none 0 0, .slice none 0 0] 28) := ⟨_, rfl⟩
  have HWB : Hid (V1.alloc (.cells #[.int .i64 0, .int .i64 0, .slice none 0 0, .slice none 0 0, .slice none 0 0] 28) = WB) := hWB.symm
  have HBB : Hid (Below W0.heap.size W0 WB) := by rw [hWB]; exact HV1.out.1.alloc HV1.out.1.size _
  have HRB : Hid (WB.heap[w.heap.size + 2]? = some (.cells #[.int .i64 0, .int .i64 0, .slice none 0 0, .slice none 0 0, .slice none 0 0] 28)) := by rw [hWB, ← HV1.out.2]; exact alloc_at _ _
  have HN1 : Hid (WB.heap[w.heap.size + 1]? = some (.cells #[.string s] 9)) := by rw [hWB]; exact (Below.heap_alloc _ _ _ (lt_of_some HS1.out)).trans HS1.out
  clear hWB
  obtain ⟨e0, e1, e2, e3, e4⟩ := HBX.out WB HBB.out
  go_enter Tryz.func35, Tryz.ntmps35
  go_wp2_with fail
  rw [HW0.out, HVE0.out, HEV1.out, HWB.out]
  refine (onDrop_c x (drF x s) p2 p3 p4 c2 c3 c4 (w.heap.size + 1) WB HBN.out (HRD.out WB HBB.out) HP.out (fun W m bf bd bn vm bs hx hM hbW => dropDo_c x s (w.heap.size + 1) _ m bf bd bn vm bs W hx hM hs (one_cell ((hbW.block _ (lt_of_some HN1.out)).trans HN1.out)))).mono ?_
  rintro e w1 ⟨y, code, v2, v3, v4, rfl, ho, b1, hf⟩
  have HF : Hid ((okX x ∧ y = (drF x s).1 ∧ code = (drF x s).2) ∨ (¬ okX x ∧ y = bare 0 0 ∧ code = 1)) := hf
  have HO1 : Hid (OwDisk w1 WB.heap.size y v2 v3 v4) := ho
  have HC1 : Hid (Below W0.heap.size W0 w1) := HBB.out.trans (b1.mono HBB.out.size)
  have HR1 : Hid (w1.heap[w.heap.size + 2]? = some (.cells #[.int .i64 0, .int .i64 0, .slice none 0 0, .slice none 0 0, .slice none 0 0] 28)) := (b1.block _ (lt_of_some HRB.out)).trans HRB.out
  have HL1 : Hid (w.heap.size + 2 < WB.heap.size) := lt_of_some HRB.out
  obtain ⟨q2, d2, hv2, _, _⟩ := own_slice ho.1; subst hv2
  obtain ⟨q3, d3, hv3, _, _⟩ := own_slice ho.2.1; subst hv3
  obtain ⟨q4, d4, hv4, _, _⟩ := own_slice ho.2.2; subst hv4
  obtain ⟨⟨z0, z1, z2, z3, z4⟩, zf⟩ := disk_cell HR1.out
  have zf0 := zf 0
  have zf1 := zf 1
  have zf2 := zf 2
  have zf3 := zf 3
  have zf4 := zf 4
  clear hf ho b1 zf e0 e1 e2 e3 e4
  go_wp2
  refine bodyPost_ret (v := .tuple #[.agg #[.int .i64 y.f0, .int .i64 y.f1, .slice q2 y.f2.length d2, .slice q3 y.f3.length d3, .slice q4 y.f4.length d4], .int .i64 code]) (by simp [results, Tryz.results35, go_sem, z0, z1, z2, z3, z4]) rfl ⟨y, code, _, _, _, rfl, ?_, ?_, HF.out⟩
  · have h2 := HL1.out
    have hs : ∀ {e : TypeId} {size n base : Nat} {v : Value} {xs : List Value} {W : World}, W.ownsRow base e size v n xs → w.heap.size + 2 < base → ∀ u (o : Nat), (W.setCell ⟨w.heap.size + 2, o, none⟩ u).ownsRow base e size v n xs := fun h hl u o => own_set_lt h u hl
    refine ⟨?_, ?_, ?_⟩
    · exact own_low (hs (hs (hs (hs (hs HO1.out.1 h2 _ 0) h2 _ 1) h2 _ 2) h2 _ 3) h2 _ 4) (by omega)
    · exact own_low (hs (hs (hs (hs (hs HO1.out.2.1 h2 _ 0) h2 _ 1) h2 _ 2) h2 _ 3) h2 _ 4) (by omega)
    · exact own_low (hs (hs (hs (hs (hs HO1.out.2.2 h2 _ 0) h2 _ 1) h2 _ 2) h2 _ 3) h2 _ 4) (by omega)
  · exact (((((HDN.out _ HC1.out).setCell (by show w.heap.size ≤ w.heap.size + 2; omega) _).setCell (by show w.heap.size ≤ w.heap.size + 2; omega) _).setCell (by show w.heap.size ≤ w.heap.size + 2; omega) _).setCell (by show w.heap.size ≤ w.heap.size + 2; omega) _).setCell (by show w.heap.size ≤ w.heap.size + 2; omega) _

end Go.Proofs.YtpgicnjhncaaeaaGreat
