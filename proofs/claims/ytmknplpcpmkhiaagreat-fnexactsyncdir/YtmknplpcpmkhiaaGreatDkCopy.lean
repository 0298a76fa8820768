/- The specification's copy of a disk, and the code of a name, by contracts. -/
import Derived.Test.YtmknplpcpmkhiaaGreatDiOn
import Derived.Test.YtmknplpcpmkhiaaGreatDiLoad
namespace Go.Proofs.YtmknplpcpmkhiaaGreat
open Go.RowKit Go.Maps
set_option linter.unusedVariables false

theorem run_nilInode (w : World) (g c : Nat) : (Builtin.append_ #[24, 24] 24 #[.slice (some ⟨g, 0, none⟩) 0 0, .slice none 0 c]).run Tryz.prog w = .ok (.slice (some ⟨g, 0, none⟩) 0 0) w := by kernel_rfl

theorem run_empInode (w : World) (g c : Nat) (a : Addr) : (Builtin.append_ #[24, 24] 24 #[.slice (some ⟨g, 0, none⟩) 0 0, .slice (some a) 0 c]).run Tryz.prog w = .ok (.slice (some ⟨g, 0, none⟩) 0 0) w := by kernel_rfl

theorem cpInode (p : Option Addr) (L : List S_Inode) (cap : Nat) (w : World) (hn : L.length ≤ 1048576) (hr : RowR w (.slice p L.length cap) L.length 3 (rInode L)) :
    ∃ v' w', (Builtin.append_ #[24, 24] 24 #[.slice (some ⟨w.heap.size, 0, none⟩) 0 0, .slice p L.length cap]).run Tryz.prog (w.alloc (.cells #[] 47)) = .ok v' w' ∧ w'.ownsRow w.heap.size 47 3 v' L.length (rInode L) ∧ Below w.heap.size w w' := by
  have hb0 : Below w.heap.size w (w.alloc (.cells #[] 47)) := (Below.refl _ _).alloc (Nat.le_refl _) _
  have HO0 := World.ownsRow_made (base := w.heap.size) (e := 47) (size := 3) w #[] 0 (by simp) (by decide) (by simp)
  rcases Nat.eq_zero_or_pos L.length with h0 | h0
  · have e : L = [] := List.eq_nil_of_length_eq_zero h0
    subst e
    refine ⟨.slice (some ⟨w.heap.size, 0, none⟩) 0 0, _, ?_, HO0, hb0⟩
    cases p with
    | none => exact run_nilInode _ _ _
    | some a => exact run_empInode _ _ _ a
  · obtain ⟨i0, hi, hz0, hz1, hz2⟩ := info_parts infoInode
    obtain ⟨b, off, cap', hv, hb, hc⟩ := hr.some h0 (by decide)
    simp only [Value.slice.injEq, true_and] at hv
    obtain ⟨rfl, rfl⟩ := hv
    obtain ⟨v', w', hrun, r1, r2, _⟩ := run_append_own (P := Tryz.prog) (w.alloc (.cells #[] 47)) w.heap.size 24 24 47 i0 (.agg #[.int .i64 0, .string ⟨#[]⟩, .int .i64 0]) 3 32 Tryz.underlying24 hi hz0 hz1 hz2 rfl (by decide) _ _ _ HO0 ⟨b, off, none⟩ L.length cap (rInode L) (rInode_len _) (fun j u hj => by
        have hjl : j < L.length * 3 := by
          rcases Nat.lt_or_ge j (L.length * 3) with h | h
          · exact h
          · rw [List.getElem?_eq_none (by rw [rInode_len]; exact h)] at hj; simp at hj
        rw [Addr.add_mid, World.cell?_alloc_lt _ _ ⟨b, off + j, none⟩ hb, hc j hjl]
        exact hj) (fun u hu => by
        unfold rInode at hu
        obtain ⟨y, _, hy⟩ := List.mem_flatMap.1 hu
        simp [cInode] at hy
        rcases hy with rfl | rfl | rfl <;> rfl) (by unfold maxLen; omega) (by omega) (by simp)
    exact ⟨v', w', hrun, by simpa using r1, hb0.grown r2 (by simp) (fun k hk => by simp only [Value.ownBlock, Option.some.injEq] at hk; omega)⟩

theorem run_nilLink (w : World) (g c : Nat) : (Builtin.append_ #[25, 25] 25 #[.slice (some ⟨g, 0, none⟩) 0 0, .slice none 0 c]).run Tryz.prog w = .ok (.slice (some ⟨g, 0, none⟩) 0 0) w := by kernel_rfl

theorem run_empLink (w : World) (g c : Nat) (a : Addr) : (Builtin.append_ #[25, 25] 25 #[.slice (some ⟨g, 0, none⟩) 0 0, .slice (some a) 0 c]).run Tryz.prog w = .ok (.slice (some ⟨g, 0, none⟩) 0 0) w := by kernel_rfl

theorem cpLink (p : Option Addr) (L : List S_Link) (cap : Nat) (w : World) (hn : L.length ≤ 1048576) (hr : RowR w (.slice p L.length cap) L.length 2 (rLink L)) :
    ∃ v' w', (Builtin.append_ #[25, 25] 25 #[.slice (some ⟨w.heap.size, 0, none⟩) 0 0, .slice p L.length cap]).run Tryz.prog (w.alloc (.cells #[] 49)) = .ok v' w' ∧ w'.ownsRow w.heap.size 49 2 v' L.length (rLink L) ∧ Below w.heap.size w w' := by
  have hb0 : Below w.heap.size w (w.alloc (.cells #[] 49)) := (Below.refl _ _).alloc (Nat.le_refl _) _
  have HO0 := World.ownsRow_made (base := w.heap.size) (e := 49) (size := 2) w #[] 0 (by simp) (by decide) (by simp)
  rcases Nat.eq_zero_or_pos L.length with h0 | h0
  · have e : L = [] := List.eq_nil_of_length_eq_zero h0
    subst e
    refine ⟨.slice (some ⟨w.heap.size, 0, none⟩) 0 0, _, ?_, HO0, hb0⟩
    cases p with
    | none => exact run_nilLink _ _ _
    | some a => exact run_empLink _ _ _ a
  · obtain ⟨i0, hi, hz0, hz1, hz2⟩ := info_parts infoLink
    obtain ⟨b, off, cap', hv, hb, hc⟩ := hr.some h0 (by decide)
    simp only [Value.slice.injEq, true_and] at hv
    obtain ⟨rfl, rfl⟩ := hv
    obtain ⟨v', w', hrun, r1, r2, _⟩ := run_append_own (P := Tryz.prog) (w.alloc (.cells #[] 49)) w.heap.size 25 25 49 i0 (.agg #[.string ⟨#[]⟩, .int .i64 0]) 2 24 Tryz.underlying25 hi hz0 hz1 hz2 rfl (by decide) _ _ _ HO0 ⟨b, off, none⟩ L.length cap (rLink L) (rLink_len _) (fun j u hj => by
        have hjl : j < L.length * 2 := by
          rcases Nat.lt_or_ge j (L.length * 2) with h | h
          · exact h
          · rw [List.getElem?_eq_none (by rw [rLink_len]; exact h)] at hj; simp at hj
        rw [Addr.add_mid, World.cell?_alloc_lt _ _ ⟨b, off + j, none⟩ hb, hc j hjl]
        exact hj) (fun u hu => by
        unfold rLink at hu
        obtain ⟨y, _, hy⟩ := List.mem_flatMap.1 hu
        simp [cLink] at hy
        rcases hy with rfl | rfl <;> rfl) (by unfold maxLen; omega) (by omega) (by simp)
    exact ⟨v', w', hrun, by simpa using r1, hb0.grown r2 (by simp) (fun k hk => by simp only [Value.ownBlock, Option.some.injEq] at hk; omega)⟩

theorem run_nilMove (w : World) (g c : Nat) : (Builtin.append_ #[26, 26] 26 #[.slice (some ⟨g, 0, none⟩) 0 0, .slice none 0 c]).run Tryz.prog w = .ok (.slice (some ⟨g, 0, none⟩) 0 0) w := by kernel_rfl

theorem run_empMove (w : World) (g c : Nat) (a : Addr) : (Builtin.append_ #[26, 26] 26 #[.slice (some ⟨g, 0, none⟩) 0 0, .slice (some a) 0 c]).run Tryz.prog w = .ok (.slice (some ⟨g, 0, none⟩) 0 0) w := by kernel_rfl

theorem cpMove (p : Option Addr) (L : List S_Move) (cap : Nat) (w : World) (hn : L.length ≤ 1048576) (hr : RowR w (.slice p L.length cap) L.length 4 (rMove L)) :
    ∃ v' w', (Builtin.append_ #[26, 26] 26 #[.slice (some ⟨w.heap.size, 0, none⟩) 0 0, .slice p L.length cap]).run Tryz.prog (w.alloc (.cells #[] 51)) = .ok v' w' ∧ w'.ownsRow w.heap.size 51 4 v' L.length (rMove L) ∧ Below w.heap.size w w' := by
  have hb0 : Below w.heap.size w (w.alloc (.cells #[] 51)) := (Below.refl _ _).alloc (Nat.le_refl _) _
  have HO0 := World.ownsRow_made (base := w.heap.size) (e := 51) (size := 4) w #[] 0 (by simp) (by decide) (by simp)
  rcases Nat.eq_zero_or_pos L.length with h0 | h0
  · have e : L = [] := List.eq_nil_of_length_eq_zero h0
    subst e
    refine ⟨.slice (some ⟨w.heap.size, 0, none⟩) 0 0, _, ?_, HO0, hb0⟩
    cases p with
    | none => exact run_nilMove _ _ _
    | some a => exact run_empMove _ _ _ a
  · obtain ⟨i0, hi, hz0, hz1, hz2⟩ := info_parts infoMove
    obtain ⟨b, off, cap', hv, hb, hc⟩ := hr.some h0 (by decide)
    simp only [Value.slice.injEq, true_and] at hv
    obtain ⟨rfl, rfl⟩ := hv
    obtain ⟨v', w', hrun, r1, r2, _⟩ := run_append_own (P := Tryz.prog) (w.alloc (.cells #[] 51)) w.heap.size 26 26 51 i0 (.agg #[.int .i64 0, .string ⟨#[]⟩, .string ⟨#[]⟩, .int .i64 0]) 4 48 Tryz.underlying26 hi hz0 hz1 hz2 rfl (by decide) _ _ _ HO0 ⟨b, off, none⟩ L.length cap (rMove L) (rMove_len _) (fun j u hj => by
        have hjl : j < L.length * 4 := by
          rcases Nat.lt_or_ge j (L.length * 4) with h | h
          · exact h
          · rw [List.getElem?_eq_none (by rw [rMove_len]; exact h)] at hj; simp at hj
        rw [Addr.add_mid, World.cell?_alloc_lt _ _ ⟨b, off + j, none⟩ hb, hc j hjl]
        exact hj) (fun u hu => by
        unfold rMove at hu
        obtain ⟨y, _, hy⟩ := List.mem_flatMap.1 hu
        simp [cMove] at hy
        rcases hy with rfl | rfl | rfl | rfl <;> rfl) (by unfold maxLen; omega) (by omega) (by simp)
    exact ⟨v', w', hrun, by simpa using r1, hb0.grown r2 (by simp) (fun k hk => by simp only [Value.ownBlock, Option.some.injEq] at hk; omega)⟩

/-- The code of a call that needs a name that is there now. -/
def nmd (x : S_Disk) (s : ByteArray) : Int := if nameB s = false then 1 else if fnd x s < 0 then 2 else 0

set_option maxRecDepth 20000 in
set_option maxHeartbeats 2000000 in
theorem named_c (x : S_Disk) (p2 p3 p4 : Option Addr) (c2 c3 c4 : Nat) (s : ByteArray) (w : World) (hx : okX x) (hb : Bnd x) (hr : RdDisk w x (.slice p2 x.f2.length c2) (.slice p3 x.f3.length c3) (.slice p4 x.f4.length c4)) (hsz : s.size ≤ 1048576) :
    Calls Tryz.prog 40 #[.agg #[.int .i64 x.f0, .int .i64 x.f1, .slice p2 x.f2.length c2, .slice p3 x.f3.length c3, .slice p4 x.f4.length c4], .string s] w fun e w' => e = .returned (.int .i64 (nmd x s)) ∧ Below w.heap.size w w' := by
  obtain ⟨W0, hW0⟩ : ∃ W, W = w.alloc (.cells #[.int .i64 x.f0, .int .i64 x.f1, .slice p2 x.f2.length c2, .slice p3 x.f3.length c3, .slice p4 x.f4.length c4] 28) := ⟨_, rfl⟩
  have HW0 : Hid (w.alloc (.cells #[.int .i64 x.f0, .int .i64 x.f1, .slice p2 x.f2.length c2, .slice p3 x.f3.length c3, .slice p4 x.f4.length c4] 28) = W0) := hW0.symm
  have HS0 : Hid (W0.heap.size = w.heap.size + 1) := by show _ = _; rw [hW0]; simp
  have HB0 : Hid (Below w.heap.size w W0) := by rw [hW0]; exact (Below.refl _ _).alloc (Nat.le_refl _) _
  have HBX : Hid (∀ W', Below W0.heap.size W0 W' → W'.cell? ⟨w.heap.size, 0, none⟩ = some (.int .i64 x.f0) ∧ W'.cell? ⟨w.heap.size, 1, none⟩ = some (.int .i64 x.f1) ∧ W'.cell? ⟨w.heap.size, 2, none⟩ = some (.slice p2 x.f2.length c2) ∧ W'.cell? ⟨w.heap.size, 3, none⟩ = some (.slice p3 x.f3.length c3) ∧ W'.cell? ⟨w.heap.size, 4, none⟩ = some (.slice p4 x.f4.length c4)) := fun W' hbel => by
    have hk : W'.heap[w.heap.size]? = some (.cells #[.int .i64 x.f0, .int .i64 x.f1, .slice p2 x.f2.length c2, .slice p3 x.f3.length c3, .slice p4 x.f4.length c4] 28) := by rw [hbel.block _ (by rw [HS0.out]; exact Nat.lt_succ_self _), hW0]; exact alloc_at _ _
    exact (disk_cell hk).1
  have HRD : Hid (∀ W', Below W0.heap.size W0 W' → RdDisk W' x (.slice p2 x.f2.length c2) (.slice p3 x.f3.length c3) (.slice p4 x.f4.length c4)) := fun W' hbel => (hr.keep HB0.out (Nat.le_refl _)).keep hbel (Nat.le_refl _)
  have HDN : Hid (∀ W', Below W0.heap.size W0 W' → Below w.heap.size w W') := fun W' hbel => HB0.out.trans (hbel.mono (by rw [HS0.out]; exact Nat.le_succ _))
  have HBN : Hid (Bnd x) := hb
  have HLN : Hid (LnDisk x 1048576) := ⟨hb.len.1, hb.dir, hb.len.2⟩
  clear hW0 hr hb
  have HE : Hid (okX x) := hx
  clear hx
  go_enter Tryz.func40, Tryz.ntmps40
  obtain ⟨e0, e1, e2, e3, e4⟩ := HBX.out W0 (Below.refl _ _)
  go_wp2_with fail
  rw [HW0.out]
  refine (name_c s W0 (by unfold maxLen; omega)).mono ?_
  rintro e w1 ⟨rfl, hw⟩
  replace hw := hw.symm
  subst hw
  cases hN : nameB s
  · have HF : Hid (nmd x s = 1) := by show _ = _; unfold nmd; rw [if_pos hN]
    clear hN
    go_wp2
    go_ret
    exact ⟨by rw [HF.out]; rfl, HB0.out⟩
  have HN : Hid (nameB s = true) := hN
  clear hN
  go_wp2_with fail
  refine (find_c x p2 p3 p4 c2 c3 c4 s W0 HLN.out (okX_sum HE.out) HBN.out.sm (by unfold maxLen; omega) (HRD.out W0 (Below.refl _ _))).mono ?_
  rintro e w2 ⟨rfl, b2⟩
  have HC2 : Hid (Below W0.heap.size W0 w2) := b2
  clear b2
  by_cases hneg : fnd x s < 0
  · have HF : Hid (nmd x s = 2) := by show _ = _; unfold nmd; rw [if_neg (by rw [HN.out]; simp), if_pos hneg]
    go_wp2
    go_ret
    exact ⟨by rw [HF.out]; rfl, HDN.out _ HC2.out⟩
  · have HF : Hid (nmd x s = 0) := by show _ = _; unfold nmd; rw [if_neg (by rw [HN.out]; simp), if_neg hneg]
    go_wp2
    go_ret
    exact ⟨by rw [HF.out]; rfl, HDN.out _ HC2.out⟩

set_option maxRecDepth 20000 in
set_option maxHeartbeats 4000000 in
theorem copy_c (x : S_Disk) (p2 p3 p4 : Option Addr) (c2 c3 c4 : Nat) (w : World) (hn : LnDisk x 1048576) (hr : RdDisk w x (.slice p2 x.f2.length c2) (.slice p3 x.f3.length c3) (.slice p4 x.f4.length c4)) :
    Calls Tryz.prog 38 #[.agg #[.int .i64 x.f0, .int .i64 x.f1, .slice p2 x.f2.length c2, .slice p3 x.f3.length c3, .slice p4 x.f4.length c4]] w fun e w' => ∃ g2 g3 g4 d2 d3 d4, e = .returned (.agg #[.int .i64 x.f0, .int .i64 x.f1, .slice g2 x.f2.length d2, .slice g3 x.f3.length d3, .slice g4 x.f4.length d4]) ∧ OwDisk w' w.heap.size x (.slice g2 x.f2.length d2) (.slice g3 x.f3.length d3) (.slice g4 x.f4.length d4) ∧ Below w.heap.size w w' := by
  have HLN : Hid (LnDisk x 1048576) := hn
  have HR : Hid (RdDisk w x (.slice p2 x.f2.length c2) (.slice p3 x.f3.length c3) (.slice p4 x.f4.length c4)) := hr
  clear hn hr
  go_enter Tryz.func38, Tryz.ntmps38
  go_upto_region 1 with fail
  refine wp_genD (fun W => Hid (W.heap[w.heap.size]? = some (.cells #[.int .i64 x.f0, .int .i64 x.f1, .slice p2 x.f2.length c2, .slice p3 x.f3.length c3, .slice p4 x.f4.length c4] 28)) ∧ Hid (W.heap[w.heap.size + 1]? = some (.cells #[.int .i64 0, .int .i64 0, .slice none 0 0, .slice none 0 0, .slice none 0 0] 28)) ∧ Hid (Below w.heap.size w W) ∧ Hid (W.heap.size = w.heap.size + 2)) ⟨?_, ?_, ?_, ?_⟩ ?_
  · show _ = _
    rw [Below.heap_alloc _ _ _ (by simp)]
    exact alloc_at _ _
  · have := alloc_at (w.alloc (.cells #[.int .i64 x.f0, .int .i64 x.f1, .slice p2 x.f2.length c2, .slice p3 x.f3.length c3, .slice p4 x.f4.length c4] 28)) (.cells #[.int .i64 0, .int .i64 0, .slice none 0 0, .slice none 0 0, .slice none 0 0] 28)
    rw [World.size_alloc] at this
    exact this
  · exact ((Below.refl _ _).alloc (Nat.le_refl _) _).alloc (by simp) _
  · show _ = _
    simp
  rintro A ⟨HDA, HZA, HBA, HSA⟩
  have HRD : Hid (∀ W', Below w.heap.size w W' → RdDisk W' x (.slice p2 x.f2.length c2) (.slice p3 x.f3.length c3) (.slice p4 x.f4.length c4)) := fun W' hb => HR.out.keep hb (Nat.le_refl _)
  clear HR
  have HSZA : Hid (w.heap.size + 2 ≤ A.heap.size) := by rw [HSA.out]; exact Nat.le_refl _
  clear HSA
  obtain ⟨va2, wa2, hrun2, ho2, hb2⟩ := cpInode p2 x.f2 c2 A HLN.out.1 (HRD.out A HBA.out).1
  obtain ⟨g2, d2, hv2, _, _⟩ := own_slice ho2
  subst hv2
  have HO2 : Hid (wa2.ownsRow (w.heap.size + 2) 47 3 (.slice g2 x.f2.length d2) x.f2.length (rInode x.f2)) := own_low ho2 (by have := HSZA.out; omega)
  have HA2 : Hid (wa2.heap[w.heap.size]? = some (.cells #[.int .i64 x.f0, .int .i64 x.f1, .slice p2 x.f2.length c2, .slice p3 x.f3.length c3, .slice p4 x.f4.length c4] 28)) := (hb2.block _ (lt_of_some HDA.out)).trans HDA.out
  have HZ2 : Hid (wa2.heap[w.heap.size + 1]? = some (.cells #[.int .i64 0, .int .i64 0, .slice none 0 0, .slice none 0 0, .slice none 0 0] 28)) := (hb2.block _ (lt_of_some HZA.out)).trans HZA.out
  have HBw2 : Hid (Below w.heap.size w wa2) := HBA.out.trans (hb2.mono HBA.out.size)
  have HSz2 : Hid (w.heap.size + 2 ≤ wa2.heap.size) := by have h1 := hb2.size; have h2 := HSZA.out; show _ ≤ _; omega
  obtain ⟨⟨_, _, x2, x3, x4⟩, _⟩ := disk_cell HDA.out
  have xa : ∀ o, (A.alloc o).cell? ⟨w.heap.size, 2, none⟩ = some (.slice p2 x.f2.length c2) := fun o => cell_alloc x2
  obtain ⟨⟨_, _, y2, y3, y4⟩, yf⟩ := disk_cell HA2.out
  have yfi := yf 2
  clear ho2 hb2 yf
  go_upto_region 2 with (at_builtin; refine wpList_append_to rfl _ _ 24 rfl _ _ rfl rfl _ _ hrun2 ?_)
  refine wp_genD (fun W => Hid (W.heap[w.heap.size]? = some (.cells #[.int .i64 x.f0, .int .i64 x.f1, .slice g2 x.f2.length d2, .slice p3 x.f3.length c3, .slice p4 x.f4.length c4] 28)) ∧ Hid (W.heap[w.heap.size + 1]? = some (.cells #[.int .i64 0, .int .i64 0, .slice none 0 0, .slice none 0 0, .slice none 0 0] 28)) ∧ Hid (Below w.heap.size w W) ∧ Hid (w.heap.size + 2 ≤ W.heap.size) ∧ Hid (W.ownsRow (w.heap.size + 2) 47 3 (.slice g2 x.f2.length d2) x.f2.length (rInode x.f2))) ⟨(disk_set HA2.out).1 _, (heap_set_ne _ _ (by show w.heap.size + 1 ≠ w.heap.size; omega)).trans HZ2.out, HBw2.out.setCell (Nat.le_refl _) _, by show _ ≤ _; simpa using HSz2.out, own_set_lt HO2.out _ (by show w.heap.size < _; omega)⟩ ?_
  rintro C ⟨HDC, HZC, HBC, HSZC, HQ2⟩
  clear HO2 HA2 HZ2 HBw2 HSz2 x2 x3 x4 xa y2 y3 y4 yfi hrun2 HDA HZA HBA HSZA
  obtain ⟨va3, wa3, hrun3, ho3, hb3⟩ := cpLink p3 x.f3 c3 C HLN.out.2.1 (HRD.out C HBC.out).2.1
  obtain ⟨g3, d3, hv3, _, _⟩ := own_slice ho3
  subst hv3
  have HO3 : Hid (wa3.ownsRow (w.heap.size + 2) 49 2 (.slice g3 x.f3.length d3) x.f3.length (rLink x.f3)) := own_low ho3 (by have := HSZC.out; omega)
  have HA3 : Hid (wa3.heap[w.heap.size]? = some (.cells #[.int .i64 x.f0, .int .i64 x.f1, .slice g2 x.f2.length d2, .slice p3 x.f3.length c3, .slice p4 x.f4.length c4] 28)) := (hb3.block _ (lt_of_some HDC.out)).trans HDC.out
  have HZ3 : Hid (wa3.heap[w.heap.size + 1]? = some (.cells #[.int .i64 0, .int .i64 0, .slice none 0 0, .slice none 0 0, .slice none 0 0] 28)) := (hb3.block _ (lt_of_some HZC.out)).trans HZC.out
  have HBw3 : Hid (Below w.heap.size w wa3) := HBC.out.trans (hb3.mono HBC.out.size)
  have HSz3 : Hid (w.heap.size + 2 ≤ wa3.heap.size) := by have h1 := hb3.size; have h2 := HSZC.out; show _ ≤ _; omega
  have HP32 : Hid (wa3.ownsRow (w.heap.size + 2) 47 3 (.slice g2 x.f2.length d2) x.f2.length (rInode x.f2)) := own_bel HQ2.out hb3 (Nat.le_refl _)
  obtain ⟨⟨_, _, x2, x3, x4⟩, _⟩ := disk_cell HDC.out
  have xa : ∀ o, (C.alloc o).cell? ⟨w.heap.size, 3, none⟩ = some (.slice p3 x.f3.length c3) := fun o => cell_alloc x3
  obtain ⟨⟨_, _, y2, y3, y4⟩, yf⟩ := disk_cell HA3.out
  have yfi := yf 3
  clear ho3 hb3 yf
  go_upto_region 3 with (at_builtin; refine wpList_append_to rfl _ _ 25 rfl _ _ rfl rfl _ _ hrun3 ?_)
  refine wp_genD (fun W => Hid (W.heap[w.heap.size]? = some (.cells #[.int .i64 x.f0, .int .i64 x.f1, .slice g2 x.f2.length d2, .slice g3 x.f3.length d3, .slice p4 x.f4.length c4] 28)) ∧ Hid (W.heap[w.heap.size + 1]? = some (.cells #[.int .i64 0, .int .i64 0, .slice none 0 0, .slice none 0 0, .slice none 0 0] 28)) ∧ Hid (Below w.heap.size w W) ∧ Hid (w.heap.size + 2 ≤ W.heap.size) ∧ Hid (W.ownsRow (w.heap.size + 2) 49 2 (.slice g3 x.f3.length d3) x.f3.length (rLink x.f3)) ∧ Hid (W.ownsRow (w.heap.size + 2) 47 3 (.slice g2 x.f2.length d2) x.f2.length (rInode x.f2))) ⟨(disk_set HA3.out).2.1 _, (heap_set_ne _ _ (by show w.heap.size + 1 ≠ w.heap.size; omega)).trans HZ3.out, HBw3.out.setCell (Nat.le_refl _) _, by show _ ≤ _; simpa using HSz3.out, own_set_lt HO3.out _ (by show w.heap.size < _; omega), own_set_lt HP32.out _ (by show w.heap.size < _; omega)⟩ ?_
  rintro E ⟨HDE, HZE, HBE, HSZE, HQ3, HQ2⟩
  clear HO3 HA3 HZ3 HBw3 HSz3 x2 x3 x4 xa y2 y3 y4 yfi hrun3 HDC HZC HBC HSZC
  obtain ⟨va4, wa4, hrun4, ho4, hb4⟩ := cpMove p4 x.f4 c4 E HLN.out.2.2 (HRD.out E HBE.out).2.2
  obtain ⟨g4, d4, hv4, _, _⟩ := own_slice ho4
  subst hv4
  have HO4 : Hid (wa4.ownsRow (w.heap.size + 2) 51 4 (.slice g4 x.f4.length d4) x.f4.length (rMove x.f4)) := own_low ho4 (by have := HSZE.out; omega)
  have HA4 : Hid (wa4.heap[w.heap.size]? = some (.cells #[.int .i64 x.f0, .int .i64 x.f1, .slice g2 x.f2.length d2, .slice g3 x.f3.length d3, .slice p4 x.f4.length c4] 28)) := (hb4.block _ (lt_of_some HDE.out)).trans HDE.out
  have HZ4 : Hid (wa4.heap[w.heap.size + 1]? = some (.cells #[.int .i64 0, .int .i64 0, .slice none 0 0, .slice none 0 0, .slice none 0 0] 28)) := (hb4.block _ (lt_of_some HZE.out)).trans HZE.out
  have HBw4 : Hid (Below w.heap.size w wa4) := HBE.out.trans (hb4.mono HBE.out.size)
  have HSz4 : Hid (w.heap.size + 2 ≤ wa4.heap.size) := by have h1 := hb4.size; have h2 := HSZE.out; show _ ≤ _; omega
  have HP43 : Hid (wa4.ownsRow (w.heap.size + 2) 49 2 (.slice g3 x.f3.length d3) x.f3.length (rLink x.f3)) := own_bel HQ3.out hb4 (Nat.le_refl _)
  have HP42 : Hid (wa4.ownsRow (w.heap.size + 2) 47 3 (.slice g2 x.f2.length d2) x.f2.length (rInode x.f2)) := own_bel HQ2.out hb4 (Nat.le_refl _)
  obtain ⟨⟨_, _, x2, x3, x4⟩, _⟩ := disk_cell HDE.out
  have xa : ∀ o, (E.alloc o).cell? ⟨w.heap.size, 4, none⟩ = some (.slice p4 x.f4.length c4) := fun o => cell_alloc x4
  obtain ⟨⟨_, _, y2, y3, y4⟩, yf⟩ := disk_cell HA4.out
  have yfi := yf 4
  clear ho4 hb4 yf
  go_upto_region 4 with (at_builtin; refine wpList_append_to rfl _ _ 26 rfl _ _ rfl rfl _ _ hrun4 ?_)
  refine wp_genD (fun W => Hid (W.heap[w.heap.size]? = some (.cells #[.int .i64 x.f0, .int .i64 x.f1, .slice g2 x.f2.length d2, .slice g3 x.f3.length d3, .slice g4 x.f4.length d4] 28)) ∧ Hid (W.heap[w.heap.size + 1]? = some (.cells #[.int .i64 0, .int .i64 0, .slice none 0 0, .slice none 0 0, .slice none 0 0] 28)) ∧ Hid (Below w.heap.size w W) ∧ Hid (w.heap.size + 2 ≤ W.heap.size) ∧ Hid (W.ownsRow (w.heap.size + 2) 51 4 (.slice g4 x.f4.length d4) x.f4.length (rMove x.f4)) ∧ Hid (W.ownsRow (w.heap.size + 2) 49 2 (.slice g3 x.f3.length d3) x.f3.length (rLink x.f3)) ∧ Hid (W.ownsRow (w.heap.size + 2) 47 3 (.slice g2 x.f2.length d2) x.f2.length (rInode x.f2))) ⟨(disk_set HA4.out).2.2 _, (heap_set_ne _ _ (by show w.heap.size + 1 ≠ w.heap.size; omega)).trans HZ4.out, HBw4.out.setCell (Nat.le_refl _) _, by show _ ≤ _; simpa using HSz4.out, own_set_lt HO4.out _ (by show w.heap.size < _; omega), own_set_lt HP43.out _ (by show w.heap.size < _; omega), own_set_lt HP42.out _ (by show w.heap.size < _; omega)⟩ ?_
  rintro G ⟨HDG, HZG, HBG, HSZG, HQ4, HQ3, HQ2⟩
  clear HO4 HA4 HZ4 HBw4 HSz4 x2 x3 x4 xa y2 y3 y4 yfi hrun4 HDE HZE HBE HSZE
  obtain ⟨⟨y0, y1, y2, y3, y4⟩, _⟩ := disk_cell HDG.out
  obtain ⟨⟨z0, z1, z2, z3, z4⟩, zf⟩ := disk_cell HZG.out
  have zf0 := zf 0
  have zf1 := zf 1
  have zf2 := zf 2
  have zf3 := zf 3
  have zf4 := zf 4
  clear zf
  go_wp2
  refine bodyPost_ret (v := .agg #[.int .i64 x.f0, .int .i64 x.f1, .slice g2 x.f2.length d2, .slice g3 x.f3.length d3, .slice g4 x.f4.length d4]) (by simp [results, Tryz.results38, go_sem, z0, z1, z2, z3, z4]) rfl ⟨g2, g3, g4, d2, d3, d4, rfl, ?_, ?_⟩
  · have hs : ∀ {e : TypeId} {size n base : Nat} {v : Value} {xs : List Value} {W : World}, W.ownsRow base e size v n xs → w.heap.size + 1 < base → ∀ u (o : Nat), (W.setCell ⟨w.heap.size + 1, o, none⟩ u).ownsRow base e size v n xs := fun h hl u o => own_set_lt h u hl
    refine ⟨?_, ?_, ?_⟩
    · exact own_low (hs (hs (hs (hs (hs HQ2.out (by omega) _ 0) (by omega) _ 1) (by omega) _ 2) (by omega) _ 3) (by omega) _ 4) (by omega)
    · exact own_low (hs (hs (hs (hs (hs HQ3.out (by omega) _ 0) (by omega) _ 1) (by omega) _ 2) (by omega) _ 3) (by omega) _ 4) (by omega)
    · exact own_low (hs (hs (hs (hs (hs HQ4.out (by omega) _ 0) (by omega) _ 1) (by omega) _ 2) (by omega) _ 3) (by omega) _ 4) (by omega)
  · exact ((((HBG.out.setCell (Nat.le_succ _) _).setCell (Nat.le_succ _) _).setCell (Nat.le_succ _) _).setCell (Nat.le_succ _) _).setCell (Nat.le_succ _) _

end Go.Proofs.YtmknplpcpmkhiaaGreat
