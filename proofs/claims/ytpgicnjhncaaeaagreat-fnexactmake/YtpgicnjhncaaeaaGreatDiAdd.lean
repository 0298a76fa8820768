/- Add: the program's own, by its contract. -/
import Derived.Test.YtpgicnjhncaaeaaGreatDiSync
import Derived.Laws.Concat
namespace Go.Proofs.YtpgicnjhncaaeaaGreat
open Go.RowKit Go.Maps
set_option linter.unusedVariables false

/-- What Add makes of a right disk. -/
def adF (x : S_Disk) (s t : ByteArray) : S_Disk × Int :=
  if nameB s = false then (x, 1) else if fnd x s < 0 then (x, 2) else if (t.size : Int) > x.f0 - (totI x.f2 : Int) then (x, 4) else (⟨x.f0, x.f1, match x.f2[(fnd x s).toNat]? with | some X => x.f2.set (fnd x s).toNat ⟨X.f0, X.f1 ++ t, X.f2⟩ | none => x.f2, x.f3, x.f4⟩, 0)

theorem fObj_data {w : World} {b : Nat} {x : S_Inode} {h : Bool} (hb : w.heap[b]? = some (fObj x h)) (u : ByteArray) : (w.setCell ⟨b, 0, none⟩ (.string u)).heap[b]? = some (fObj ⟨x.f0, u, x.f2⟩ h) := by
  unfold fObj at *
  simp [World.setCell, Array.getElem?_modify, hb]

theorem mnt_size {B : Nat} {w : World} {m : Nat} {x : S_Disk} {bf bd bn : Nat} {vm : Value} {bs : List Nat} (h : Mnt B w m x bf bd bn vm bs) : B ≤ w.heap.size := by
  have h1 := lt_of_some h.2.2.2.2.1
  have h2 := h.2.2.2.2.2.2.2.1
  omega

theorem mnt_bel {B : Nat} {w w' : World} {m : Nat} {x : S_Disk} {bf bd bn : Nat} {vm : Value} {bs : List Nat} (h : Mnt B w m x bf bd bn vm bs) (hb : Below w.heap.size w w') : Mnt B w' m x bf bd bn vm bs := by
  have f : Fr (fun _ => False) w w' := (Fr.refl _ _).bel hb
  obtain ⟨hl, hF, hd, hn, hm, hv, r⟩ := h
  exact ⟨hl, hF.keep f (fun h => h) (fun _ _ h => h), f.map hd (fun h => h), f.map hn (fun h => h), f.at hm (fun h => h), own_bel hv hb (Nat.le_refl _), r⟩

set_option maxRecDepth 20000 in
set_option maxHeartbeats 2000000 in
theorem addTo_c (x : S_Disk) (s t : ByteArray) (B m bf bd bn : Nat) (vm : Value) (bs : List Nat) (w : World) (hx : okX x) (hM : Mnt B w m x bf bd bn vm bs) (hs : s.size ≤ 1048576) (ht : t.size ≤ 1048576) (hBw : B ≤ w.heap.size) :
    Calls Tryz.prog 49 #[.pointer (some ⟨m, 0, none⟩), .string s, .string t] w (DoF x (adF x s t) B m w) := by
  have HX : Hid (okX x) := hx
  have HM : Hid (Mnt B w m x bf bd bn vm bs) := hM
  have HBw : Hid (B ≤ w.heap.size) := hBw
  clear hx hM hBw
  go_enter Tryz.func49, Tryz.ntmps49
  go_wp2_with fail
  refine (isName_c s w (by unfold maxLen; omega)).mono ?_
  rintro e w1 ⟨rfl, hw⟩
  replace hw := hw.symm
  subst hw
  cases hN : nameB s
  · have HF : Hid (adF x s t = (x, 1)) := by show _ = _; unfold adF; rw [if_pos hN]
    clear hN
    go_wp2
    go_ret
    exact ⟨by rw [HF.out]; rfl, by rw [HF.out]; exact mnt_T HX.out HM.out, Below.refl _ _⟩
  have HN : Hid (nameB s = true) := hN
  clear hN
  go_wp2_with fail
  refine (fileOf_c B m x.f0 x.f1 bf bd bn vm (x.f2.zip bs) _ (nms x.f3 x.f4) s w HM.out.2.2.2.2.1 HM.out.2.1 HM.out.2.2.2.1 (by unfold maxLen; omega)).mono ?_
  rintro e w2 ⟨rfl, hw2⟩
  have HM2 : Hid (Mnt B w2 m x bf bd bn vm bs) := by rw [hw2]; exact mnt_drew HM.out
  have HB2 : Hid (Below B w w2) := by rw [hw2]; exact (Below.refl _ _).drew
  clear hw2 HM
  rcases fptr_zip HX.out s bs HM2.out.1 with ⟨hneg, h1, h2⟩ | ⟨k, hk, hkb, hkf, h1, h2⟩
  · rw [h1, h2]
    have HF : Hid (adF x s t = (x, 2)) := by show _ = _; unfold adF; rw [if_neg (by rw [HN.out]; simp), if_pos hneg]
    clear h1 h2 hneg
    go_wp2
    go_ret
    exact ⟨by rw [HF.out]; rfl, by rw [HF.out]; exact mnt_T HX.out HM2.out, HB2.out⟩
  rw [h1, h2]
  have htz : totF (x.f2.zip bs) = totI x.f2 := totF_zip x.f2 bs HM2.out.1
  have hti : (totI x.f2 : Int) ≤ x.f0 := HX.out.2.1.2
  have hro := HX.out.1.1
  have HUS : Hid (∀ W, Below w2.heap.size w2 W → Calls Tryz.prog 96 #[.pointer (some ⟨m, 0, none⟩)] W fun e w' => e = .returned (.int .i64 (totF (x.f2.zip bs))) ∧ Below w2.heap.size w2 w') := fun W hS => by
    have hM := mnt_bel HM2.out hS
    exact below_S (used_c B m x.f0 x.f1 bf bd _ vm (x.f2.zip bs) _ W hM.2.2.2.2.1 hM.2.1 (by rw [htz]; omega)) hS
  obtain ⟨m0, _⟩ := mount_cell HM2.out.2.2.2.2.1
  have hwr : IntKind.i64.wrap (x.f0 - (totF (x.f2.zip bs) : Int)) = x.f0 - (totF (x.f2.zip bs) : Int) := by rw [IntWalk.i64_left]; exact IntWalk.wrap64_in _ (by rw [htz]; omega)
  by_cases hbig : (t.size : Int) > x.f0 - (totF (x.f2.zip bs) : Int)
  · have HBG : Hid ((t.size : Int) > x.f0 - (totF (x.f2.zip bs) : Int)) := hbig
    have HF : Hid (adF x s t = (x, 4)) := by show _ = _; unfold adF; rw [if_neg (by rw [HN.out]; simp), if_neg (by omega), if_pos (by rw [← htz]; exact hbig)]
    clear h1 h2 hkf
    go_upto_region 6 with fail
    refine wp_region_told (fun W => Below w2.heap.size w2 W) (by kernel_rfl) (by kernel_rfl) ((Below.refl w2.heap.size w2).drew) ?_
    refine told_pure (some 20) (.string t) rfl (by kernel_rfl) (fun _ => by kernel_rfl) ?_
    refine told_pure (some 21) (.int .i64 t.size) rfl (by kernel_rfl) (fun _ => by kernel_rfl) ?_
    refine told_pure (some 22) (.pointer (some ⟨m, 0, none⟩)) rfl (by kernel_rfl) (fun _ => by kernel_rfl) ?_
    refine told_pure (some 23) (.pointer (some ⟨m, 0, none⟩)) rfl (by kernel_rfl) (fun _ => by kernel_rfl) ?_
    refine told_pure (some 24) (.pointer (some ⟨m, 0, none⟩)) rfl (by kernel_rfl) (fun _ => by kernel_rfl) ?_
    refine told_load (some 25) ⟨m, 0, none⟩ (.int .i64 x.f0) rfl (by kernel_rfl) (fun _ => by kernel_rfl) (fun _ hS => atB hS m0) ?_
    refine told_pure (some 26) (.pointer (some ⟨m, 0, none⟩)) rfl (by kernel_rfl) (fun _ => by kernel_rfl) ?_
    refine told_call (some 27) (.int .i64 (totF (x.f2.zip bs))) 96 #[.pointer (some ⟨m, 0, none⟩)] rfl (by kernel_rfl) (fun _ => by kernel_rfl) (fun W hS => HUS.out W hS) ?_
    refine told_is (some 28) (.int .i64 (IntKind.i64.wrap (x.f0 - (totF (x.f2.zip bs) : Int)))) (.int .i64 (x.f0 - (totF (x.f2.zip bs) : Int))) (by rw [hwr]) rfl (by kernel_rfl) (fun _ => by kernel_rfl) ?_
    refine told_is (some 29) (.bool (decide ((t.size : Int) > x.f0 - (totF (x.f2.zip bs) : Int)))) (.bool true) (by rw [decide_eq_true HBG.out]) rfl (by kernel_rfl) (fun _ => by kernel_rfl) ?_
    refine told_nil ?_
    intro w3 hS3
    have HM3 : Hid (Mnt B w3 m x bf bd bn vm bs) := mnt_bel HM2.out hS3
    have HB3 : Hid (Below B w w3) := HB2.out.trans (Below.mono hS3 (Nat.le_trans HBw.out HB2.out.size))
    simp only [Act.put, List.setIfInBounds_toArray, List.set_cons_zero, List.set_cons_succ]
    clear hS3 m0 hwr
    go_wp2
    go_ret
    exact ⟨by rw [HF.out]; rfl, by rw [HF.out]; exact mnt_T HX.out HM3.out, HB3.out⟩
  · have HBG : Hid (¬ (t.size : Int) > x.f0 - (totF (x.f2.zip bs) : Int)) := hbig
    have HF : Hid (adF x s t = (⟨x.f0, x.f1, x.f2.set k ⟨x.f2[k].f0, x.f2[k].f1 ++ t, x.f2[k].f2⟩, x.f3, x.f4⟩, 0)) := by
      show _ = _
      unfold adF
      rw [if_neg (by rw [HN.out]; simp), if_neg (by omega), if_neg (by rw [← htz]; exact hbig), hkf, Int.toNat_natCast, List.getElem?_eq_getElem hk]
    have hle : x.f2[k].f1.size ≤ totI x.f2 := totI_mem (List.getElem_mem hk)
    have HSZ : Hid (x.f2[k].f1.size + t.size ≤ 1048576) := by show _ ≤ _; rw [htz] at hbig; omega
    clear h1 h2 hkf
    go_upto_region 6 with fail
    refine wp_region_told (fun W => Below w2.heap.size w2 W) (by kernel_rfl) (by kernel_rfl) ((Below.refl w2.heap.size w2).drew) ?_
    refine told_pure (some 20) (.string t) rfl (by kernel_rfl) (fun _ => by kernel_rfl) ?_
    refine told_pure (some 21) (.int .i64 t.size) rfl (by kernel_rfl) (fun _ => by kernel_rfl) ?_
    refine told_pure (some 22) (.pointer (some ⟨m, 0, none⟩)) rfl (by kernel_rfl) (fun _ => by kernel_rfl) ?_
    refine told_pure (some 23) (.pointer (some ⟨m, 0, none⟩)) rfl (by kernel_rfl) (fun _ => by kernel_rfl) ?_
    refine told_pure (some 24) (.pointer (some ⟨m, 0, none⟩)) rfl (by kernel_rfl) (fun _ => by kernel_rfl) ?_
    refine told_load (some 25) ⟨m, 0, none⟩ (.int .i64 x.f0) rfl (by kernel_rfl) (fun _ => by kernel_rfl) (fun _ hS => atB hS m0) ?_
    refine told_pure (some 26) (.pointer (some ⟨m, 0, none⟩)) rfl (by kernel_rfl) (fun _ => by kernel_rfl) ?_
    refine told_call (some 27) (.int .i64 (totF (x.f2.zip bs))) 96 #[.pointer (some ⟨m, 0, none⟩)] rfl (by kernel_rfl) (fun _ => by kernel_rfl) (fun W hS => HUS.out W hS) ?_
    refine told_is (some 28) (.int .i64 (IntKind.i64.wrap (x.f0 - (totF (x.f2.zip bs) : Int)))) (.int .i64 (x.f0 - (totF (x.f2.zip bs) : Int))) (by rw [hwr]) rfl (by kernel_rfl) (fun _ => by kernel_rfl) ?_
    refine told_is (some 29) (.bool (decide ((t.size : Int) > x.f0 - (totF (x.f2.zip bs) : Int)))) (.bool false) (by rw [decide_eq_false (by have := HBG.out; omega)]) rfl (by kernel_rfl) (fun _ => by kernel_rfl) ?_
    refine told_nil ?_
    intro w3 hS3
    have HM3 : Hid (Mnt B w3 m x bf bd bn vm bs) := mnt_bel HM2.out hS3
    have HB3 : Hid (Below B w w3) := HB2.out.trans (Below.mono hS3 (Nat.le_trans HBw.out HB2.out.size))
    have hkz : k < (x.f2.zip bs).length := by rw [List.length_zip]; omega
    have hz : (x.f2.zip bs)[k] = (x.f2[k], bs[k]) := List.getElem_zip
    have hFl := HM3.out.2.1
    have hblk := hFl.blk _ (List.getElem_mem hkz)
    have hlow := hFl.low.2 _ (List.getElem_mem hkz)
    have hwf := hFl.wf _ (List.getElem_mem hkz)
    rw [hz] at hblk hlow hwf
    obtain ⟨d0, d1, _⟩ := file_cell hblk
    have df := file_frozen hblk 0
    have HBL : Hid (w3.heap[bs[k]]? = some (fObj x.f2[k] ((fun i => lnk x.f3 i || mad x.f4 i) x.f2[k].f0))) := hblk
    have HLO : Hid (B ≤ bs[k]) := hlow
    have HWF : Hid ((Lit.int .i64 x.f2[k].f2).wf = true) := hwf.2.1
    have had : ∀ W, (Op.stringOp .add x.f2[k].f1 t).run Tryz.prog W = .ok (.string (x.f2[k].f1 ++ t)) W := fun W => run_string_add_sum _ _ _ (by have := HSZ.out; omega)
    simp only [Act.put, List.setIfInBounds_toArray, List.set_cons_zero, List.set_cons_succ]
    clear hS3 m0 hwr hFl hblk hlow hwf hbig hle hti hro htz
    go_wp2
    go_ret
    refine ⟨by rw [HF.out]; rfl, ?_, HB3.out.setCell HLO.out _⟩
    rw [HF.out]
    obtain ⟨hl, hFl, hd, hn, hm, hv, ⟨a1, a2, a3⟩, hBm, hBd, hBn⟩ := HM3.out
    have hT := mnt_T HX.out HM3.out
    obtain ⟨_, _, _, _, _, _, _, _, _, _, _, _, ⟨t2, t3, t4⟩, s3, s4⟩ := hT
    obtain ⟨p, c, hvv, _, _⟩ := own_slice hv
    subst hvv
    have hfr : Fr (fun i => i = (x.f2.zip bs)[k].2) w3 (w3.setCell ⟨bs[k], 0, none⟩ (.string (x.f2[k].f1 ++ t))) := (Fr.refl _ _).setCell _ (.inl (by rw [hz]))
    have hnm : ¬ m = (x.f2.zip bs)[k].2 := fun e => by
      have e' : m = bs[k] := by rw [hz] at e; exact e
      have h1 := HBL.out
      rw [← e', hm] at h1
      simp [mObj, fObj] at h1
    have hnd : ¬ bd = (x.f2.zip bs)[k].2 := fun e => map_ne hd HBL.out (by rw [e, hz])
    refine ⟨bf, bd, _, p, c, (x.f2.zip bs).set k (⟨x.f2[k].f0, x.f2[k].f1 ++ t, x.f2[k].f2⟩, (x.f2.zip bs)[k].2), (fun i => lnk x.f3 i || mad x.f4 i), ?_, hfr.at hm hnm, ?_, hfr.map hd hnd, ?_, ⟨by simpa using t2, t3, t4⟩, s3, s4⟩
    · rw [List.map_set, List.map_fst_zip (by omega)]
    · refine Fls.upd hFl k hkz _ (by rw [hz]) hfr ?_ ⟨HWF.out, by have := HSZ.out; show (x.f2[k].f1 ++ t).size ≤ 1048576; rw [ByteArray.size_append]; exact this⟩
      rw [hz]
      exact fObj_data HBL.out _
    · refine RowR.own (own_set_blk hv fun j hj => ?_)
      have h1 := HBL.out
      obtain ⟨_, ⟨h2, _⟩ | ⟨g, cap, cur, h2, _, hh, _⟩⟩ := hv
      · rw [h2] at hj; cases hj
      · rw [h2] at hj
        simp only [Value.ownBlock, Option.some.injEq] at hj
        subst hj
        intro e
        have e' : g = bs[k] := e
        rw [e', h1] at hh
        simp [fObj] at hh

set_option maxRecDepth 20000 in
set_option maxHeartbeats 1000000 in
theorem addDo_c (x : S_Disk) (s t : ByteArray) (nb nc B m bf bd bn : Nat) (vm : Value) (bs : List Nat) (w : World) (hx : okX x) (hM : Mnt B w m x bf bd bn vm bs) (hs : s.size ≤ 1048576) (ht : t.size ≤ 1048576) (hBw : B ≤ w.heap.size) (hn : w.cell? ⟨nb, 0, none⟩ = some (.string s)) (hc : w.cell? ⟨nc, 0, none⟩ = some (.string t)) :
    Calls Tryz.prog 48 #[.pointer (some ⟨m, 0, none⟩), .pointer (some ⟨nb, 0, none⟩), .pointer (some ⟨nc, 0, none⟩)] w (DoF x (adF x s t) B m w) := by
  have HX : Hid (okX x) := hx
  have HM : Hid (Mnt B w m x bf bd bn vm bs) := hM
  have HBw : Hid (B ≤ w.heap.size) := hBw
  clear hx hM hBw
  go_enter Tryz.func48, Tryz.ntmps48
  go_wp2_with fail
  refine (addTo_c x s t B m bf bd bn vm bs w HX.out HM.out hs ht HBw.out).mono ?_
  rintro e w1 ⟨rfl, hT, hb⟩
  have HT : Hid (MntT B w1 m (adF x s t).1) := hT
  have HB : Hid (Below B w w1) := hb
  clear hT hb
  go_wp2
  go_ret
  exact ⟨rfl, HT.out, HB.out⟩

set_option maxRecDepth 20000 in
set_option maxHeartbeats 2000000 in
theorem onAdd_c (x : S_Disk) (f : S_Disk × Int) (p2 p3 p4 : Option Addr) (c2 c3 c4 : Nat) (nb nc : Nat) (w : World) (hb : Bnd x) (hr : RdDisk w x (.slice p2 x.f2.length c2) (.slice p3 x.f3.length c3) (.slice p4 x.f4.length c4)) (hp : p4 = none → c4 = 0)
    (hdo : ∀ W m bf bd bn vm bs, okX x → Mnt (w.heap.size + 2) W m x bf bd bn vm bs → Below w.heap.size w W → Calls Tryz.prog 48 #[.pointer (some ⟨m, 0, none⟩), .pointer (some ⟨nb, 0, none⟩), .pointer (some ⟨nc, 0, none⟩)] W (DoF x f (w.heap.size + 2) m W)) :
    Calls Tryz.prog 47 #[.agg #[.int .i64 x.f0, .int .i64 x.f1, .slice p2 x.f2.length c2, .slice p3 x.f3.length c3, .slice p4 x.f4.length c4], .func (.func 48) #[] #[.pointer (some ⟨nb, 0, none⟩), .pointer (some ⟨nc, 0, none⟩)]] w (OnR x f w) := by
  obtain ⟨W0, hW0⟩ : ∃ W, W = w.alloc (.cells #[.int .i64 x.f0, .int .i64 x.f1, .slice p2 x.f2.length c2, .slice p3 x.f3.length c3, .slice p4 x.f4.length c4] 28) := ⟨_, rfl⟩
  have HW0 : Hid (w.alloc (.cells #[.int .i64 x.f0, .int .i64 x.f1, .slice p2 x.f2.length c2, .slice p3 x.f3.length c3, .slice p4 x.f4.length c4] 28) = W0) := hW0.symm
  have HS0 : Hid (W0.heap.size = w.heap.size + 1) := by show _ = _; rw [hW0]; simp
  have HB0 : Hid (Below w.heap.size w W0) := by rw [hW0]; exact (Below.refl _ _).alloc (Nat.le_refl _) _
  have HBX : Hid (∀ W', Below W0.heap.size W0 W' → W'.cell? ⟨w.heap.size, 0, none⟩ = some (.int .i64 x.f0) ∧ W'.cell? ⟨w.heap.size, 1, none⟩ = some (.int .i64 x.f1) ∧ W'.cell? ⟨w.heap.size, 2, none⟩ = some (.slice p2 x.f2.length c2) ∧ W'.cell? ⟨w.heap.size, 3, none⟩ = some (.slice p3 x.f3.length c3) ∧ W'.cell? ⟨w.heap.size, 4, none⟩ = some (.slice p4 x.f4.length c4)) := fun W' hbel => by
    have hk : W'.heap[w.heap.size]? = some (.cells #[.int .i64 x.f0, .int .i64 x.f1, .slice p2 x.f2.length c2, .slice p3 x.f3.length c3, .slice p4 x.f4.length c4] 28) := by rw [hbel.block _ (by rw [HS0.out]; exact Nat.lt_succ_self _), hW0]; exact alloc_at _ _
    exact (disk_cell hk).1
  have HRD : Hid (∀ W', Below W0.heap.size W0 W' → RdDisk W' x (.slice p2 x.f2.length c2) (.slice p3 x.f3.length c3) (.slice p4 x.f4.length c4)) := fun W' hbel => (hr.keep HB0.out (Nat.le_refl _)).keep hbel (Nat.le_refl _)
  have HDN : Hid (∀ W', Below W0.heap.size W0 W' → Below w.heap.size w W') := fun W' hbel => HB0.out.trans (hbel.mono (by rw [HS0.out]; exact Nat.le_succ _))
  have HBN : Hid (Bnd x) := hb
  have HLN : Hid (LnDisk x 1048576) := ⟨hb.len.1, hb.dir, hb.len.2⟩
  clear hW0 hr hb
  have HP : Hid (p4 = none → c4 = 0) := hp
  have HDO : Hid (∀ W m bf bd bn vm bs, okX x → Mnt (w.heap.size + 2) W m x bf bd bn vm bs → Below w.heap.size w W → Calls Tryz.prog 48 #[.pointer (some ⟨m, 0, none⟩), .pointer (some ⟨nb, 0, none⟩), .pointer (some ⟨nc, 0, none⟩)] W (DoF x f (w.heap.size + 2) m W)) := hdo
  clear hp hdo
  obtain ⟨WB, hWB⟩ : ∃ W, W = W0.alloc (.cells #[.int .i64 0, .int .i64 0, .slice none 0 0, .slice none 0 0, .slice none 0 0] 28) := ⟨_, rfl⟩
  have HWB : Hid (W0.alloc (.cells #[.int .i64 0, .int .i64 0, .slice none 0 0, .slice none 0 0, .slice none 0 0] 28) = WB) := hWB.symm
  have HBB : Hid (Below W0.heap.size W0 WB) := by rw [hWB]; exact (Below.refl _ _).alloc (Nat.le_refl _) _
  have HRB : Hid (WB.heap[w.heap.size + 1]? = some (.cells #[.int .i64 0, .int .i64 0, .slice none 0 0, .slice none 0 0, .slice none 0 0] 28)) := by rw [hWB, ← HS0.out]; exact alloc_at _ _
  have HZB : Hid (WB.heap.size = w.heap.size + 2) := by show _ = _; rw [hWB]; simp [HS0.out]
  clear hWB
  obtain ⟨e0, e1, e2, e3, e4⟩ := HBX.out WB HBB.out
  go_enter Tryz.func47, Tryz.ntmps47
  go_wp2_with fail
  rw [HW0.out, HWB.out]
  refine (mount_c x p2 p3 p4 c2 c3 c4 WB HBN.out (HRD.out WB HBB.out) HP.out).mono ?_
  rintro e w1 (⟨hok, ⟨m, bf, bd, bn, vm, bs, rfl, hM⟩, b1⟩ | ⟨hno, rfl, b1⟩)
  case inr =>
    have HE : Hid (¬ okX x) := hno
    have HC1 : Hid (Below W0.heap.size W0 w1) := HBB.out.trans (b1.mono HBB.out.size)
    have HR1 : Hid (w1.heap[w.heap.size + 1]? = some (.cells #[.int .i64 0, .int .i64 0, .slice none 0 0, .slice none 0 0, .slice none 0 0] 28)) := (b1.block _ (lt_of_some HRB.out)).trans HRB.out
    obtain ⟨⟨z0, z1, z2, z3, z4⟩, zf⟩ := disk_cell HR1.out
    have zf0 := zf 0
    have zf1 := zf 1
    have zf2 := zf 2
    have zf3 := zf 3
    have zf4 := zf 4
    clear hno b1 e0 e1 e2 e3 e4 zf
    go_wp2
    refine bodyPost_ret (v := .tuple #[.agg #[.int .i64 0, .int .i64 0, .slice none 0 0, .slice none 0 0, .slice none 0 0], .int .i64 1]) (by simp [results, Tryz.results47, go_sem, z0, z1, z2, z3, z4]) rfl ⟨bare 0 0, 1, _, _, _, rfl, ⟨⟨rfl, .inl ⟨rfl, rfl⟩⟩, ⟨rfl, .inl ⟨rfl, rfl⟩⟩, ⟨rfl, .inl ⟨rfl, rfl⟩⟩⟩, ?_, .inr ⟨HE.out, rfl, rfl⟩⟩
    exact (((((HDN.out _ HC1.out).setCell (Nat.le_succ _) _).setCell (Nat.le_succ _) _).setCell (Nat.le_succ _) _).setCell (Nat.le_succ _) _).setCell (Nat.le_succ _) _
  have HE : Hid (okX x) := hok
  have HM : Hid (Mnt (w.heap.size + 2) w1 m x bf bd bn vm bs) := by have := hM; rw [HZB.out] at this; exact this
  have HC1 : Hid (Below W0.heap.size W0 w1) := HBB.out.trans (b1.mono HBB.out.size)
  have HR1 : Hid (w1.heap[w.heap.size + 1]? = some (.cells #[.int .i64 0, .int .i64 0, .slice none 0 0, .slice none 0 0, .slice none 0 0] 28)) := (b1.block _ (lt_of_some HRB.out)).trans HRB.out
  clear hok b1 hM e0 e1 e2 e3 e4
  go_wp2_with fail
  refine (HDO.out w1 m bf bd bn vm bs HE.out HM.out (HDN.out _ HC1.out)).mono ?_
  rintro e w2 ⟨rfl, hT, b2⟩
  have HT : Hid (MntT (w.heap.size + 2) w2 m f.1) := hT
  have HB2 : Hid (Below w.heap.size w w2) := (HDN.out _ HC1.out).trans (b2.mono (by omega))
  have HR2 : Hid (w2.heap[w.heap.size + 1]? = some (.cells #[.int .i64 0, .int .i64 0, .slice none 0 0, .slice none 0 0, .slice none 0 0] 28)) := (b2.block _ (by omega)).trans HR1.out
  clear hT b2
  go_wp2_with fail
  refine (tellT_c (w.heap.size + 2) m f.1 w2 HT.out).mono ?_
  rintro e w3 ⟨v2, v3, v4, rfl, ho, b3⟩
  have HO3 : Hid (OwDisk w3 w2.heap.size f.1 v2 v3 v4) := ho
  have HB3 : Hid (Below w.heap.size w w3) := HB2.out.trans (b3.mono HB2.out.size)
  have HR3 : Hid (w3.heap[w.heap.size + 1]? = some (.cells #[.int .i64 0, .int .i64 0, .slice none 0 0, .slice none 0 0, .slice none 0 0] 28)) := (b3.block _ (lt_of_some HR2.out)).trans HR2.out
  have HL2 : Hid (w.heap.size + 1 < w2.heap.size) := lt_of_some HR2.out
  obtain ⟨q2, d2, hv2, _, _⟩ := own_slice ho.1; subst hv2
  obtain ⟨q3, d3, hv3, _, _⟩ := own_slice ho.2.1; subst hv3
  obtain ⟨q4, d4, hv4, _, _⟩ := own_slice ho.2.2; subst hv4
  obtain ⟨⟨z0, z1, z2, z3, z4⟩, zf⟩ := disk_cell HR3.out
  have zf0 := zf 0
  have zf1 := zf 1
  have zf2 := zf 2
  have zf3 := zf 3
  have zf4 := zf 4
  clear ho b3 zf
  go_wp2
  refine bodyPost_ret (v := .tuple #[.agg #[.int .i64 f.1.f0, .int .i64 f.1.f1, .slice q2 f.1.f2.length d2, .slice q3 f.1.f3.length d3, .slice q4 f.1.f4.length d4], .int .i64 f.2]) (by simp [results, Tryz.results47, go_sem, z0, z1, z2, z3, z4]) rfl ⟨f.1, f.2, _, _, _, rfl, ?_, ?_, .inl ⟨HE.out, rfl, rfl⟩⟩
  · have h2 := HL2.out
    have hs : ∀ {e : TypeId} {size n base : Nat} {v : Value} {xs : List Value} {W : World}, W.ownsRow base e size v n xs → w.heap.size + 1 < base → ∀ u (o : Nat), (W.setCell ⟨w.heap.size + 1, o, none⟩ u).ownsRow base e size v n xs := fun h hl u o => own_set_lt h u hl
    refine ⟨?_, ?_, ?_⟩
    · exact own_low (hs (hs (hs (hs (hs HO3.out.1 h2 _ 0) h2 _ 1) h2 _ 2) h2 _ 3) h2 _ 4) (by omega)
    · exact own_low (hs (hs (hs (hs (hs HO3.out.2.1 h2 _ 0) h2 _ 1) h2 _ 2) h2 _ 3) h2 _ 4) (by omega)
    · exact own_low (hs (hs (hs (hs (hs HO3.out.2.2 h2 _ 0) h2 _ 1) h2 _ 2) h2 _ 3) h2 _ 4) (by omega)
  · exact ((((HB3.out.setCell (Nat.le_succ _) _).setCell (Nat.le_succ _) _).setCell (Nat.le_succ _) _).setCell (Nat.le_succ _) _).setCell (Nat.le_succ _) _

set_option maxRecDepth 20000 in
set_option maxHeartbeats 2000000 in
theorem implAdd_c (x : S_Disk) (p2 p3 p4 : Option Addr) (c2 c3 c4 : Nat) (s : ByteArray) (t : ByteArray) (w : World) (hb : Bnd x) (hr : RdDisk w x (.slice p2 x.f2.length c2) (.slice p3 x.f3.length c3) (.slice p4 x.f4.length c4)) (hp : p4 = none → c4 = 0) (hs : s.size ≤ 1048576) (ht : t.size ≤ 1048576) :
    Calls Tryz.prog 16 #[.agg #[.int .i64 x.f0, .int .i64 x.f1, .slice p2 x.f2.length c2, .slice p3 x.f3.length c3, .slice p4 x.f4.length c4], .string s, .string t] w (OnR x (adF x s t) w) := by
  obtain ⟨W0, hW0⟩ : ∃ W, W = w.alloc (.cells #[.int .i64 x.f0, .int .i64 x.f1, .slice p2 x.f2.length c2, .slice p3 x.f3.length c3, .slice p4 x.f4.length c4] 28) := ⟨_, rfl⟩
  have HW0 : Hid (w.alloc (.cells #[.int .i64 x.f0, .int .i64 x.f1, .slice p2 x.f2.length c2, .slice p3 x.f3.length c3, .slice p4 x.f4.length c4] 28) = W0) := hW0.symm
  have HS0 : Hid (W0.heap.size = w.heap.size + 1) := by show _ = _; rw [hW0]; simp
  have HB0 : Hid (Below w.heap.size w W0) := by rw [hW0]; exact (Below.refl _ _).alloc (Nat.le_refl _) _
  have HBX : Hid (∀ W', Below W0.heap.size W0 W' → W'.cell? ⟨w.heap.size, 0, none⟩ = some (.int .i64 x.f0) ∧ W'.cell? ⟨w.heap.size, 1, none⟩ = some (.int .i64 x.f1) ∧ W'.cell? ⟨w.heap.size, 2, none⟩ = some (.slice p2 x.f2.length c2) ∧ W'.cell? ⟨w.heap.size, 3, none⟩ = some (.slice p3 x.f3.length c3) ∧ W'.cell? ⟨w.heap.size, 4, none⟩ = some (.slice p4 x.f4.length c4)) := fun W' hbel => by
    have hk : W'.heap[w.heap.size]? = some (.cells #[.int .i64 x.f0, .int .i64 x.f1, .slice p2 x.f2.length c2, .slice p3 x.f3.length c3, .slice p4 x.f4.length c4] 28) := by rw [hbel.block _ (by rw [HS0.out]; exact Nat.lt_succ_self _), hW0]; exact alloc_at _ _
    exact (disk_cell hk).1
  have HRD : Hid (∀ W', Below W0.heap.size W0 W' → RdDisk W' x (.slice p2 x.f2.length c2) (.slice p3 x.f3.length c3) (.slice p4 x.f4.length c4)) := fun W' hbel => (hr.keep HB0.out (Nat.le_refl _)).keep hbel (Nat.le_refl _)
  have HDN : Hid (∀ W', Below W0.heap.size W0 W' → Below w.heap.size w W') := fun W' hbel => HB0.out.trans (hbel.mono (by rw [HS0.out]; exact Nat.le_succ _))
  have HBN : Hid (Bnd x) := hb
  have HLN : Hid (LnDisk x 1048576) := ⟨hb.len.1, hb.dir, hb.len.2⟩
  clear hW0 hr hb
  have HP : Hid (p4 = none → c4 = 0) := hp
  clear hp
  obtain ⟨V0, hV0⟩ : ∃ W, W = W0 := ⟨_, rfl⟩
  have HV0 : Hid (Below W0.heap.size W0 V0 ∧ V0.heap.size = w.heap.size + 1) := ⟨by rw [hV0]; exact Below.refl _ _, by rw [hV0]; exact HS0.out⟩
  have HVE0 : Hid (W0 = V0) := hV0.symm
  clear hV0
  obtain ⟨V1, hV1⟩ : ∃ W, W = V0.alloc (.cells #[.string s] 9) := ⟨_, rfl⟩
  have HEV1 : Hid (V0.alloc (.cells #[.string s] 9) = V1) := hV1.symm
  have HV1 : Hid (Below W0.heap.size W0 V1 ∧ V1.heap.size = w.heap.size + 2) := ⟨by rw [hV1]; exact HV0.out.1.alloc HV0.out.1.size _, by rw [hV1]; simp [HV0.out.2]⟩
  have HS1 : Hid (V1.heap[w.heap.size + 1]? = some (.cells #[.string s] 9)) := by rw [hV1, ← HV0.out.2]; exact alloc_at _ _
  clear hV1
  obtain ⟨V2, hV2⟩ : ∃ W, W = V1.alloc (.cells #[.string t] 9) := ⟨_, rfl⟩
  have HEV2 : Hid (V1.alloc (.cells #[.string t] 9) = V2) := hV2.symm
  have HV2 : Hid (Below W0.heap.size W0 V2 ∧ V2.heap.size = w.heap.size + 3) := ⟨by rw [hV2]; exact HV1.out.1.alloc HV1.out.1.size _, by rw [hV2]; simp [HV1.out.2]⟩
  have HS2 : Hid (V2.heap[w.heap.size + 2]? = some (.cells #[.string t] 9)) := by rw [hV2, ← HV1.out.2]; exact alloc_at _ _
  clear hV2
  obtain ⟨WB, hWB⟩ : ∃ W, W = V2.alloc (.cells #[.int .i64 0, .int .i64 0, .slice none 0 0, .slice none 0 0, .slice none 0 0] 28) := ⟨_, rfl⟩
  have HWB : Hid (V2.alloc (.cells #[.int .i64 0, .int .i64 0, .slice none 0 0, .slice none 0 0, .slice none 0 0] 28) = WB) := hWB.symm
  have HBB : Hid (Below W0.heap.size W0 WB) := by rw [hWB]; exact HV2.out.1.alloc HV2.out.1.size _
  have HRB : Hid (WB.heap[w.heap.size + 3]? = some (.cells #[.int .i64 0, .int .i64 0, .slice none 0 0, .slice none 0 0, .slice none 0 0] 28)) := by rw [hWB, ← HV2.out.2]; exact alloc_at _ _
  have HN1 : Hid (WB.heap[w.heap.size + 1]? = some (.cells #[.string s] 9)) := by rw [hWB]; exact (Below.heap_alloc _ _ _ (lt_of_some ((by rw [← HEV2.out]; exact (Below.heap_alloc _ _ _ (lt_of_some HS1.out)).trans HS1.out) : V2.heap[w.heap.size + 1]? = some (.cells #[.string s] 9)))).trans ((by rw [← HEV2.out]; exact (Below.heap_alloc _ _ _ (lt_of_some HS1.out)).trans HS1.out) : V2.heap[w.heap.size + 1]? = some (.cells #[.string s] 9))
  have HN2 : Hid (WB.heap[w.heap.size + 2]? = some (.cells #[.string t] 9)) := by rw [hWB]; exact (Below.heap_alloc _ _ _ (lt_of_some HS2.out)).trans HS2.out
  clear hWB
  obtain ⟨e0, e1, e2, e3, e4⟩ := HBX.out WB HBB.out
  go_enter Tryz.func16, Tryz.ntmps16
  go_wp2_with fail
  rw [HW0.out, HVE0.out, HEV1.out, HEV2.out, HWB.out]
  refine (onAdd_c x (adF x s t) p2 p3 p4 c2 c3 c4 (w.heap.size + 1) (w.heap.size + 2) WB HBN.out (HRD.out WB HBB.out) HP.out (fun W m bf bd bn vm bs hx hM hbW => addDo_c x s t (w.heap.size + 1) (w.heap.size + 2) _ m bf bd bn vm bs W hx hM hs ht (mnt_size hM) (one_cell ((hbW.block _ (lt_of_some HN1.out)).trans HN1.out)) (one_cell ((hbW.block _ (lt_of_some HN2.out)).trans HN2.out)))).mono ?_
  rintro e w1 ⟨y, code, v2, v3, v4, rfl, ho, b1, hf⟩
  have HF : Hid ((okX x ∧ y = (adF x s t).1 ∧ code = (adF x s t).2) ∨ (¬ okX x ∧ y = bare 0 0 ∧ code = 1)) := hf
  have HO1 : Hid (OwDisk w1 WB.heap.size y v2 v3 v4) := ho
  have HC1 : Hid (Below W0.heap.size W0 w1) := HBB.out.trans (b1.mono HBB.out.size)
  have HR1 : Hid (w1.heap[w.heap.size + 3]? = some (.cells #[.int .i64 0, .int .i64 0, .slice none 0 0, .slice none 0 0, .slice none 0 0] 28)) := (b1.block _ (lt_of_some HRB.out)).trans HRB.out
  have HL1 : Hid (w.heap.size + 3 < WB.heap.size) := lt_of_some HRB.out
  obtain ⟨q2, d2, hv2, _, _⟩ := own_slice ho.1; subst hv2
  obtain ⟨q3, d3, hv3, _, _⟩ := own_slice ho.2.1; subst hv3
  obtain ⟨q4, d4, hv4, _, _⟩ := own_slice ho.2.2; subst hv4
  obtain ⟨⟨z0, z1, z2, z3, z4⟩, zf⟩ := disk_cell HR1.out
  have zf0 := zf 0
  have zf1 := zf 1
  have zf2 := zf 2
  have zf3 := zf 3
  have zf4 := zf 4
  clear hf ho b1 zf e0 e1 e2 e3 e4
  go_wp2
  refine bodyPost_ret (v := .tuple #[.agg #[.int .i64 y.f0, .int .i64 y.f1, .slice q2 y.f2.length d2, .slice q3 y.f3.length d3, .slice q4 y.f4.length d4], .int .i64 code]) (by simp [results, Tryz.results16, go_sem, z0, z1, z2, z3, z4]) rfl ⟨y, code, _, _, _, rfl, ?_, ?_, HF.out⟩
  · have h2 := HL1.out
    have hs : ∀ {e : TypeId} {size n base : Nat} {v : Value} {xs : List Value} {W : World}, W.ownsRow base e size v n xs → w.heap.size + 3 < base → ∀ u (o : Nat), (W.setCell ⟨w.heap.size + 3, o, none⟩ u).ownsRow base e size v n xs := fun h hl u o => own_set_lt h u hl
    refine ⟨?_, ?_, ?_⟩
    · exact own_low (hs (hs (hs (hs (hs HO1.out.1 h2 _ 0) h2 _ 1) h2 _ 2) h2 _ 3) h2 _ 4) (by omega)
    · exact own_low (hs (hs (hs (hs (hs HO1.out.2.1 h2 _ 0) h2 _ 1) h2 _ 2) h2 _ 3) h2 _ 4) (by omega)
    · exact own_low (hs (hs (hs (hs (hs HO1.out.2.2 h2 _ 0) h2 _ 1) h2 _ 2) h2 _ 3) h2 _ 4) (by omega)
  · exact (((((HDN.out _ HC1.out).setCell (by show w.heap.size ≤ w.heap.size + 3; omega) _).setCell (by show w.heap.size ≤ w.heap.size + 3; omega) _).setCell (by show w.heap.size ≤ w.heap.size + 3; omega) _).setCell (by show w.heap.size ≤ w.heap.size + 3; omega) _).setCell (by show w.heap.size ≤ w.heap.size + 3; omega) _

end Go.Proofs.YtpgicnjhncaaeaaGreat
