/- Changes of names: the program's own, by contracts. -/
import Derived.Test.YtpgicnjhncaaeaaGreatDiMv
import Derived.Test.YtpgicnjhncaaeaaGreatDiFind
namespace Go.Proofs.YtpgicnjhncaaeaaGreat
open Go.RowKit Go.Maps
set_option linter.unusedVariables false

/-- What a Move of a name that must be there makes of a right disk. -/
def chF (x : S_Disk) (v : S_Move) : S_Disk × Int :=
  if fnd x v.f1 < 0 then (x, 2) else if 20 ≤ x.f4.length then (x, 4) else (⟨x.f0, x.f1, x.f2, x.f3, x.f4 ++ [v]⟩, 0)

set_option maxRecDepth 20000 in
set_option maxHeartbeats 2000000 in
theorem changeName_c (x : S_Disk) (v : S_Move) (B m bf bd bn : Nat) (vm : Value) (bs : List Nat) (w : World) (hx : okX x) (hM : Mnt B w m x bf bd bn vm bs) (hnv : nameB v.f1 = true) (hsv : sMove v) (hgv : gMove v) (hsz : v.f1.size ≤ 1048576 ∧ v.f2.size ≤ 1048576) :
    Calls Tryz.prog 128 #[.pointer (some ⟨m, 0, none⟩), .agg #[.int .i64 v.f0, .string v.f1, .string v.f2, .int .i64 v.f3]] w (DoF x (chF x v) B m w) := by
  have HX : Hid (okX x) := hx
  have hBs := mnt_size hM
  obtain ⟨pm, cm, hvm, _, _⟩ := own_slice hM.2.2.2.2.2.1
  subst hvm
  have HM : Hid (Mnt B w m x bf bd bn (.slice pm x.f4.length cm) bs) := hM
  have HNV : Hid (nameB v.f1 = true) := hnv
  have HSV : Hid (sMove v) := hsv
  have HGV : Hid (gMove v) := hgv
  have HSZ : Hid (v.f1.size ≤ 1048576 ∧ v.f2.size ≤ 1048576) := hsz
  clear hx hM hnv hsv hgv hsz
  go_enter Tryz.func128, Tryz.ntmps128
  go_upto_region 1 with fail
  refine wp_genD (fun W => Hid (Mnt B W m x bf bd bn (.slice pm x.f4.length cm) bs) ∧ Hid (W.heap[w.heap.size]? = some (.cells #[.int .i64 v.f0, .string v.f1, .string v.f2, .int .i64 v.f3] 51)) ∧ Hid (Below w.heap.size w W)) ⟨mnt_bel HM.out ((Below.refl _ _).alloc (Nat.le_refl _) _), alloc_at _ _, (Below.refl _ _).alloc (Nat.le_refl _) _⟩ ?_
  rintro W1 ⟨HM1, HX1, HB1⟩
  obtain ⟨i0, i1, i2, i3, _⟩ := box4 HX1.out
  obtain ⟨_, _, _, _, m4, m5⟩ := mount_cell HM1.out.2.2.2.2.1
  have HMD : Hid (Mnt B W1.drew m x bf bd bn (.slice pm x.f4.length cm) bs) := mnt_drew HM1.out
  have HBD : Hid (Below B w W1.drew) := (HB1.out.mono hBs).drew
  obtain ⟨u, ps, hrun, _⟩ := World.ownsMap.look_ok (w := W1.drew) HMD.out.2.2.2.1 kStr Tryz.underlying93 (zeroInt _) (plainElem_int Tryz.underlying3 (by decide)) (Go.WideMaps.keyOf_string_mk Tryz.underlying9 HSV.out.1)
  rw [has_encL] at hrun
  have j0 : W1.drew.cell? ⟨w.heap.size, 0, none⟩ = some (.int .i64 v.f0) := i0
  have j1 : W1.drew.cell? ⟨w.heap.size, 1, none⟩ = some (.string v.f1) := i1
  have j2 : W1.drew.cell? ⟨w.heap.size, 2, none⟩ = some (.string v.f2) := i2
  have j3 : W1.drew.cell? ⟨w.heap.size, 3, none⟩ = some (.int .i64 v.f3) := i3
  have n5 : W1.drew.cell? ⟨m, 5, none⟩ = some (.slice pm x.f4.length cm) := m5
  by_cases hneg : fnd x v.f1 < 0
  · rw [decide_eq_true ((fnd_at HX.out _).1 hneg)] at hrun
    have HF : Hid (chF x v = (x, 2)) := by show _ = _; unfold chF; rw [if_pos hneg]
    refine wp_region_told (fun W => W = W1.drew) (by kernel_rfl) (by kernel_rfl) rfl ?_
    refine told_pure (some 8) (.pointer (some ⟨m, 0, none⟩)) rfl (by kernel_rfl) (fun _ => by kernel_rfl) ?_
    refine told_pure (some 9) (.pointer (some ⟨m, 0, none⟩)) rfl (by kernel_rfl) (fun _ => by kernel_rfl) ?_
    refine told_pure (some 10) (.pointer (some ⟨m, 4, none⟩)) rfl (by kernel_rfl) (fun _ => by kernel_rfl) ?_
    refine told_load (some 11) ⟨m, 4, none⟩ (.map (some bn)) rfl (by kernel_rfl) (fun _ => by kernel_rfl) (fun _ hS => (by subst hS; exact m4)) ?_
    refine told_pure (some 12) (.pointer (some ⟨w.heap.size, 1, none⟩)) rfl (by kernel_rfl) (fun _ => by kernel_rfl) ?_
    refine told_load (some 13) ⟨w.heap.size, 1, none⟩ (.string v.f1) rfl (by kernel_rfl) (fun _ => by kernel_rfl) (fun _ hS => (by subst hS; exact i1)) ?_
    refine told_run (some 14) (.tuple #[u, .bool false]) (Instr.lookup 93 (.map (some bn)) (.string v.f1) true) rfl (by kernel_rfl) (fun _ => by kernel_rfl) (fun W hS => by subst hS; exact hrun) ?_
    refine told_pure (some 7) (.tuple #[u, .bool false]) rfl (by kernel_rfl) (fun _ => by kernel_rfl) ?_
    refine told_pure (some 15) (u) rfl (by kernel_rfl) (fun _ => by kernel_rfl) ?_
    refine told_pure (some 16) (.bool false) rfl (by kernel_rfl) (fun _ => by kernel_rfl) ?_
    refine told_pure (some 5) (u) rfl (by kernel_rfl) (fun _ => by kernel_rfl) ?_
    refine told_pure (some 6) (.bool false) rfl (by kernel_rfl) (fun _ => by kernel_rfl) ?_
    refine told_nil ?_
    intro w9 hS9
    subst hS9
    simp only [Act.put, List.setIfInBounds_toArray, List.set_cons_zero, List.set_cons_succ]
    clear hrun
    go_wp2
    go_ret
    exact ⟨by rw [HF.out]; rfl, by rw [HF.out]; exact mnt_T HX.out HMD.out, HBD.out⟩
  · rw [decide_eq_false (fun h => hneg ((fnd_at HX.out _).2 h))] at hrun
    refine wp_region_told (fun W => W = W1.drew) (by kernel_rfl) (by kernel_rfl) rfl ?_
    refine told_pure (some 8) (.pointer (some ⟨m, 0, none⟩)) rfl (by kernel_rfl) (fun _ => by kernel_rfl) ?_
    refine told_pure (some 9) (.pointer (some ⟨m, 0, none⟩)) rfl (by kernel_rfl) (fun _ => by kernel_rfl) ?_
    refine told_pure (some 10) (.pointer (some ⟨m, 4, none⟩)) rfl (by kernel_rfl) (fun _ => by kernel_rfl) ?_
    refine told_load (some 11) ⟨m, 4, none⟩ (.map (some bn)) rfl (by kernel_rfl) (fun _ => by kernel_rfl) (fun _ hS => (by subst hS; exact m4)) ?_
    refine told_pure (some 12) (.pointer (some ⟨w.heap.size, 1, none⟩)) rfl (by kernel_rfl) (fun _ => by kernel_rfl) ?_
    refine told_load (some 13) ⟨w.heap.size, 1, none⟩ (.string v.f1) rfl (by kernel_rfl) (fun _ => by kernel_rfl) (fun _ hS => (by subst hS; exact i1)) ?_
    refine told_run (some 14) (.tuple #[u, .bool true]) (Instr.lookup 93 (.map (some bn)) (.string v.f1) true) rfl (by kernel_rfl) (fun _ => by kernel_rfl) (fun W hS => by subst hS; exact hrun) ?_
    refine told_pure (some 7) (.tuple #[u, .bool true]) rfl (by kernel_rfl) (fun _ => by kernel_rfl) ?_
    refine told_pure (some 15) (u) rfl (by kernel_rfl) (fun _ => by kernel_rfl) ?_
    refine told_pure (some 16) (.bool true) rfl (by kernel_rfl) (fun _ => by kernel_rfl) ?_
    refine told_pure (some 5) (u) rfl (by kernel_rfl) (fun _ => by kernel_rfl) ?_
    refine told_pure (some 6) (.bool true) rfl (by kernel_rfl) (fun _ => by kernel_rfl) ?_
    refine told_nil ?_
    intro w9 hS9
    subst hS9
    simp only [Act.put, List.setIfInBounds_toArray, List.set_cons_zero, List.set_cons_succ]
    clear hrun
    by_cases hf : (20 : Int) ≤ (x.f4.length : Int)
    · have HF : Hid (chF x v = (x, 4)) := by show _ = _; unfold chF; rw [if_neg hneg, if_pos (by omega)]
      have hf' : (x.f4.length : Int) ≥ 20 := hf
      go_wp2
      go_ret
      exact ⟨by rw [HF.out]; rfl, by rw [HF.out]; exact mnt_T HX.out HMD.out, HBD.out⟩
    · have HF : Hid (chF x v = (⟨x.f0, x.f1, x.f2, x.f3, x.f4 ++ [v]⟩, 0)) := by show _ = _; unfold chF; rw [if_neg hneg, if_neg (by omega)]
      have hf' : ¬ (x.f4.length : Int) ≥ 20 := hf
      go_wp2_with fail
      refine (move_c x v B m bf bd bn (.slice pm x.f4.length cm) bs W1.drew HX.out HMD.out HNV.out HSV.out HGV.out HSZ.out).mono ?_
      rintro e w4 ⟨⟨r, rfl⟩, hT, b4⟩
      have HT : Hid (MntT B w4 m ⟨x.f0, x.f1, x.f2, x.f3, x.f4 ++ [v]⟩) := hT
      have HB4 : Hid (Below B w w4) := HBD.out.trans b4
      clear hT b4
      go_wp2
      go_ret
      exact ⟨by rw [HF.out]; rfl, by rw [HF.out]; exact HT.out, HB4.out⟩

/-- What Drop makes of a right disk. -/
def drF (x : S_Disk) (s : ByteArray) : S_Disk × Int := if nameB s = false then (x, 1) else chF x ⟨3, s, ⟨#[]⟩, 0⟩

/-- What Rename makes of a right disk. -/
def rnF (x : S_Disk) (s t : ByteArray) : S_Disk × Int := if nameB s = false ∨ nameB t = false ∨ s = t then (x, 1) else chF x ⟨2, s, t, 0⟩

set_option maxRecDepth 20000 in
set_option maxHeartbeats 1000000 in
theorem dropName_c (x : S_Disk) (s : ByteArray) (B m bf bd bn : Nat) (vm : Value) (bs : List Nat) (w : World) (hx : okX x) (hM : Mnt B w m x bf bd bn vm bs) (hs : s.size ≤ 1048576) :
    Calls Tryz.prog 89 #[.pointer (some ⟨m, 0, none⟩), .string s] w (DoF x (drF x s) B m w) := by
  have HX : Hid (okX x) := hx
  have HM : Hid (Mnt B w m x bf bd bn vm bs) := hM
  clear hx hM
  go_enter Tryz.func89, Tryz.ntmps89
  go_wp2_with fail
  refine (isName_c s w (by unfold maxLen; omega)).mono ?_
  rintro e w1 ⟨rfl, hw⟩
  replace hw := hw.symm
  subst hw
  cases hN : nameB s
  · have HF : Hid (drF x s = (x, 1)) := by show _ = _; unfold drF; rw [if_pos hN]
    clear hN
    go_wp2
    go_ret
    exact ⟨by rw [HF.out]; rfl, by rw [HF.out]; exact mnt_T HX.out HM.out, Below.refl _ _⟩
  have HN : Hid (nameB s = true) := hN
  have HF : Hid (drF x s = chF x ⟨3, s, ⟨#[]⟩, 0⟩) := by show _ = _; unfold drF; rw [if_neg (by rw [hN]; decide)]
  clear hN
  go_wp2_with fail
  refine (changeName_c x ⟨3, s, ⟨#[]⟩, 0⟩ B m bf bd bn vm bs w HX.out HM.out HN.out ⟨by unfold maxLen; show s.size ≤ _; omega, Nat.zero_le _⟩ ⟨by show (Lit.int .i64 3).wf = true; decide, by show (Lit.int .i64 0).wf = true; decide⟩ ⟨hs, Nat.zero_le _⟩).mono ?_
  rintro e w1 ⟨rfl, hT, hb⟩
  have HT : Hid (MntT B w1 m (chF x ⟨3, s, ⟨#[]⟩, 0⟩).1) := hT
  have HB : Hid (Below B w w1) := hb
  clear hT hb
  generalize chF x ⟨3, s, ⟨#[]⟩, 0⟩ = f at *
  go_wp2
  go_ret
  exact ⟨by rw [HF.out]; rfl, by rw [HF.out]; exact HT.out, HB.out⟩

set_option maxRecDepth 20000 in
set_option maxHeartbeats 1000000 in
theorem renameFile_c (x : S_Disk) (s t : ByteArray) (B m bf bd bn : Nat) (vm : Value) (bs : List Nat) (w : World) (hx : okX x) (hM : Mnt B w m x bf bd bn vm bs) (hs : s.size ≤ 1048576) (ht : t.size ≤ 1048576) :
    Calls Tryz.prog 87 #[.pointer (some ⟨m, 0, none⟩), .string s, .string t] w (DoF x (rnF x s t) B m w) := by
  have HX : Hid (okX x) := hx
  have HM : Hid (Mnt B w m x bf bd bn vm bs) := hM
  clear hx hM
  go_enter Tryz.func87, Tryz.ntmps87
  go_wp2_with fail
  refine (isName_c s w (by unfold maxLen; omega)).mono ?_
  rintro e w1 ⟨rfl, hw⟩
  replace hw := hw.symm
  subst hw
  cases hN : nameB s
  · have HF : Hid (rnF x s t = (x, 1)) := by show _ = _; unfold rnF; rw [if_pos (.inl hN)]
    clear hN
    go_wp2
    go_ret
    exact ⟨by rw [HF.out]; rfl, by rw [HF.out]; exact mnt_T HX.out HM.out, Below.refl _ _⟩
  have HN : Hid (nameB s = true) := hN
  clear hN
  go_wp2_with fail
  refine (isName_c t w (by unfold maxLen; omega)).mono ?_
  rintro e w1 ⟨rfl, hw⟩
  replace hw := hw.symm
  subst hw
  cases hN : nameB t
  · have HF : Hid (rnF x s t = (x, 1)) := by show _ = _; unfold rnF; rw [if_pos (.inr (.inl hN))]
    clear hN
    go_wp2
    go_ret
    exact ⟨by rw [HF.out]; rfl, by rw [HF.out]; exact mnt_T HX.out HM.out, Below.refl _ _⟩
  by_cases hst : s = t
  · have HF : Hid (rnF x s t = (x, 1)) := by show _ = _; unfold rnF; rw [if_pos (.inr (.inr hst))]
    have hb : (s.toList == t.toList) = true := by rw [beq_txt, decide_eq_true hst]
    clear hN hst
    go_wp2
    go_ret
    exact ⟨by rw [HF.out]; rfl, by rw [HF.out]; exact mnt_T HX.out HM.out, Below.refl _ _⟩
  have hb : (s.toList == t.toList) = false := by rw [beq_txt, decide_eq_false hst]
  have HF : Hid (rnF x s t = chF x ⟨2, s, t, 0⟩) := by show _ = _; unfold rnF; rw [if_neg (fun h => h.elim (fun h => by rw [HN.out] at h; cases h) (fun h => h.elim (fun h => by rw [hN] at h; cases h) hst))]
  clear hN hst
  go_wp2_with fail
  refine (changeName_c x ⟨2, s, t, 0⟩ B m bf bd bn vm bs w HX.out HM.out HN.out ⟨by unfold maxLen; show s.size ≤ _; omega, by unfold maxLen; show t.size ≤ _; omega⟩ ⟨by show (Lit.int .i64 2).wf = true; decide, by show (Lit.int .i64 0).wf = true; decide⟩ ⟨hs, ht⟩).mono ?_
  rintro e w1 ⟨rfl, hT, hb⟩
  have HT : Hid (MntT B w1 m (chF x ⟨2, s, t, 0⟩).1) := hT
  have HB : Hid (Below B w w1) := hb
  clear hT hb
  generalize chF x ⟨2, s, t, 0⟩ = f at *
  go_wp2
  go_ret
  exact ⟨by rw [HF.out]; rfl, by rw [HF.out]; exact HT.out, HB.out⟩

end Go.Proofs.YtpgicnjhncaaeaaGreat
