/- Sync: the program's own, by its contract. -/
import Derived.Test.YtiogjmchbpmdpabGreatDiOn
import Derived.Test.YtiogjmchbpmdpabGreatDiLoad
namespace Go.Proofs.YtiogjmchbpmdpabGreat
open Go.RowKit Go.Maps
set_option linter.unusedVariables false

theorem wf_small (a : Int) (h : -9223372036854775808 ≤ a ∧ a ≤ 9223372036854775807) : (Lit.int .i64 a).wf = true := by
  simp only [Lit.wf, IntKind.min, IntKind.max, IntKind.bits, IntKind.signed]
  simp
  omega

/-- One file's bytes or mark changed. -/
theorem Fls.upd {B : Nat} {w w' : World} {bf : Nat} {fs : List (S_Inode × Nat)} {h : Int → Bool} (F : Fls B w bf fs h) (k : Nat) (hk : k < fs.length) (Y : S_Inode) (hid : Y.f0 = fs[k].1.f0) (hfr : Fr (fun i => i = fs[k].2) w w') (hb : w'.heap[fs[k].2]? = some (fObj Y (h Y.f0)))
    (hwf : (Lit.int .i64 Y.f2).wf = true ∧ Y.f1.size ≤ 1048576) : Fls B w' bf (fs.set k (Y, fs[k].2)) h := by
  have hset : ∀ {β : Type} (g : S_Inode × Nat → β), g (Y, fs[k].2) = g fs[k] → (fs.set k (Y, fs[k].2)).map g = fs.map g := fun g hg => by
    rw [List.map_set, hg]
    apply List.ext_getElem?
    intro j
    rw [List.getElem?_set]
    split
    · rename_i e
      subst e
      rw [List.length_map, if_pos hk, List.getElem?_map, List.getElem?_eq_getElem hk]
      rfl
    · rfl
  have hmem := List.getElem_mem hk
  have hidx : ∀ p ∈ fs.set k (Y, fs[k].2), p = (Y, fs[k].2) ∨ (p ∈ fs ∧ p.2 ≠ fs[k].2) := fun p hp => by
    obtain ⟨j, hj, rfl⟩ := List.getElem_of_mem hp
    have hj' : j < fs.length := by simpa using hj
    rw [List.getElem_set]
    split
    · exact .inl rfl
    · rename_i e
      refine .inr ⟨List.getElem_mem hj', fun e2 => e ?_⟩
      have h1 := List.pairwise_iff_getElem.1 F.apart
      rcases Nat.lt_trichotomy j k with h | h | h
      · exact absurd (by rw [List.getElem_map, List.getElem_map]; exact e2) (h1 j k (by simpa using hj') (by simpa using hk) h)
      · exact h.symm
      · exact absurd (by rw [List.getElem_map, List.getElem_map]; exact e2.symm) (h1 k j (by simpa using hk) (by simpa using hj') h)
  refine ⟨?_, fun p hp => ?_, ⟨F.low.1, fun p hp => ?_⟩, ?_, ?_, fun p hp => ?_⟩
  · have e : encF (fs.set k (Y, fs[k].2)) = encF fs := by
      unfold encF
      rw [hset _ (by simp only [hid])]
    rw [e, List.length_set]
    exact hfr.map F.own (fun e2 => map_ne F.own (F.blk _ hmem) e2.symm)
  · rcases hidx p hp with rfl | ⟨h1, h2⟩
    · exact hb
    · exact hfr.at (F.blk p h1) h2
  · rcases hidx p hp with rfl | ⟨h1, h2⟩
    · exact F.low.2 fs[k] hmem
    · exact F.low.2 p h1
  · rw [hset (·.2) rfl]
    exact F.apart
  · have h1 := F.ris
    have h2 : ∀ L : List (S_Inode × Nat), L.Pairwise (fun p q => p.1.f0 < q.1.f0) ↔ (L.map (·.1.f0)).Pairwise (· < ·) := fun L => by rw [List.pairwise_map]
    rw [h2, hset (·.1.f0) (by simp only [hid]), ← h2]
    exact h1
  · rcases hidx p hp with rfl | ⟨h1, h2⟩
    · exact ⟨by rw [hid]; exact (F.wf _ hmem).1, hwf⟩
    · exact F.wf p h1

theorem mnt_drew {B : Nat} {w : World} {m : Nat} {x : S_Disk} {bf bd bn : Nat} {vm : Value} {bs : List Nat} (h : Mnt B w m x bf bd bn vm bs) : Mnt B w.drew m x bf bd bn vm bs := by
  have f : Fr (fun _ => False) w w.drew := (Fr.refl _ _).drew
  obtain ⟨hl, hF, hd, hn, hm, hv, r⟩ := h
  exact ⟨hl, hF.keep f (fun h => h) (fun _ _ h => h), f.map hd (fun h => h), f.map hn (fun h => h), f.at hm (fun h => h), own_bel hv ((Below.refl w.heap.size w).drew) (Nat.le_refl _), r⟩

/-- What Sync makes of a right disk. -/
def syF (x : S_Disk) (s : ByteArray) : S_Disk × Int :=
  if nameB s = false then (x, 1) else if fnd x s < 0 then (x, 2) else (⟨x.f0, x.f1, match x.f2[(fnd x s).toNat]? with | some X => x.f2.set (fnd x s).toNat ⟨X.f0, X.f1, X.f1.size⟩ | none => x.f2, x.f3, x.f4⟩, 0)

theorem fObj_sure {w : World} {b : Nat} {x : S_Inode} {h : Bool} (hb : w.heap[b]? = some (fObj x h)) (u : Int) : (w.setCell ⟨b, 1, none⟩ (.int .i64 u)).heap[b]? = some (fObj ⟨x.f0, x.f1, u⟩ h) := by
  unfold fObj at *
  simp [World.setCell, Array.getElem?_modify, hb]

set_option maxRecDepth 20000 in
set_option maxHeartbeats 1000000 in
theorem syncFile_c (x : S_Disk) (s : ByteArray) (B m bf bd bn : Nat) (vm : Value) (bs : List Nat) (w : World) (hx : okX x) (hM : Mnt B w m x bf bd bn vm bs) (hs : s.size ≤ 1048576) :
    Calls Tryz.prog 53 #[.pointer (some ⟨m, 0, none⟩), .string s] w (DoF x (syF x s) B m w) := by
  have HX : Hid (okX x) := hx
  have HM : Hid (Mnt B w m x bf bd bn vm bs) := hM
  clear hx hM
  go_enter Tryz.func53, Tryz.ntmps53
  go_wp2_with fail
  refine (isName_c s w (by unfold maxLen; omega)).mono ?_
  rintro e w1 ⟨rfl, hw⟩
  replace hw := hw.symm
  subst hw
  cases hN : nameB s
  · have HF : Hid (syF x s = (x, 1)) := by show _ = _; unfold syF; rw [if_pos hN]
    clear hN
    go_wp2
    go_ret
    exact ⟨by rw [HF.out]; rfl, by rw [HF.out]; exact mnt_T HX.out HM.out, Below.refl _ _⟩
  have HN : Hid (nameB s = true) := hN
  clear hN
  go_wp2_with fail
  refine (fileOf_c B m x.f0 x.f1 bf bd bn vm (x.f2.zip bs) _ (nms x.f3 x.f4) s w HM.out.2.2.2.2.1 HM.out.2.1 HM.out.2.2.2.1 (by unfold maxLen; omega)).mono ?_
  rintro e w2 ⟨rfl, hw2⟩
  have HM2 : Hid (Mnt B w2 m x bf bd bn vm bs) := by rw [hw2]; exact mnt_drew HM.out
  have HB2 : Hid (Below B w w2) := by rw [hw2]; exact (Below.refl _ _).drew
  clear hw2 HM
  rcases fptr_zip HX.out s bs HM2.out.1 with ⟨hneg, h1, h2⟩ | ⟨k, hk, hkb, hkf, h1, h2⟩
  · rw [h1, h2]
    have HF : Hid (syF x s = (x, 2)) := by show _ = _; unfold syF; rw [if_neg (by rw [HN.out]; simp), if_pos hneg]
    clear h1 h2 hneg
    go_wp2
    go_ret
    exact ⟨by rw [HF.out]; rfl, by rw [HF.out]; exact mnt_T HX.out HM2.out, HB2.out⟩
  · rw [h1, h2]
    have hkz : k < (x.f2.zip bs).length := by rw [List.length_zip]; omega
    have hz : (x.f2.zip bs)[k] = (x.f2[k], bs[k]) := List.getElem_zip
    have hFl := HM2.out.2.1
    have hblk := hFl.blk _ (List.getElem_mem hkz)
    have hlow := hFl.low.2 _ (List.getElem_mem hkz)
    have hwf := hFl.wf _ (List.getElem_mem hkz)
    rw [hz] at hblk hlow hwf
    obtain ⟨d0, d1, _⟩ := file_cell hblk
    have df := file_frozen hblk 1
    have HF : Hid (syF x s = (⟨x.f0, x.f1, x.f2.set k ⟨x.f2[k].f0, x.f2[k].f1, x.f2[k].f1.size⟩, x.f3, x.f4⟩, 0)) := by
      show _ = _
      unfold syF
      rw [if_neg (by rw [HN.out]; simp), if_neg (by omega), hkf, Int.toNat_natCast, List.getElem?_eq_getElem hk]
    have hsz : x.f2[k].f1.size ≤ 1048576 := hwf.2.2
    have HBL : Hid (w2.heap[bs[k]]? = some (fObj x.f2[k] ((fun i => lnk x.f3 i || mad x.f4 i) x.f2[k].f0))) := hblk
    have HLO : Hid (B ≤ bs[k]) := hlow
    clear h1 h2 hkf hFl hwf hblk hlow
    go_wp2
    go_ret
    refine ⟨by rw [HF.out]; rfl, ?_, HB2.out.setCell HLO.out _⟩
    rw [HF.out]
    obtain ⟨hl, hFl, hd, hn, hm, hv, ⟨a1, a2, a3⟩, hBm, hBd, hBn⟩ := HM2.out
    have hT := mnt_T HX.out HM2.out
    obtain ⟨_, _, _, _, _, _, _, _, _, _, _, _, ⟨t2, t3, t4⟩, s3, s4⟩ := hT
    obtain ⟨p, c, hvv, _, _⟩ := own_slice hv
    subst hvv
    have hfr : Fr (fun i => i = (x.f2.zip bs)[k].2) w2 (w2.setCell ⟨bs[k], 1, none⟩ (.int .i64 x.f2[k].f1.size)) := (Fr.refl _ _).setCell _ (.inl (by rw [hz]))
    have hnm : ¬ m = (x.f2.zip bs)[k].2 := fun e => by
      have e' : m = bs[k] := by rw [hz] at e; exact e
      have h1 := HBL.out
      rw [← e', hm] at h1
      simp [mObj, fObj] at h1
    have hnd : ¬ bd = (x.f2.zip bs)[k].2 := fun e => map_ne hd HBL.out (by rw [e, hz])
    refine ⟨bf, bd, _, p, c, (x.f2.zip bs).set k (⟨x.f2[k].f0, x.f2[k].f1, x.f2[k].f1.size⟩, (x.f2.zip bs)[k].2), (fun i => lnk x.f3 i || mad x.f4 i), ?_, hfr.at hm hnm, ?_, hfr.map hd hnd, ?_, ⟨by simpa using t2, t3, t4⟩, s3, s4⟩
    · rw [List.map_set, List.map_fst_zip (by omega)]
    · refine Fls.upd hFl k hkz _ (by rw [hz]) hfr ?_ ⟨wf_small (x.f2[k].f1.size : Int) (by omega), hsz⟩
      rw [hz]
      exact fObj_sure HBL.out _
    · refine RowR.own (own_set_blk hv fun j hj => ?_)
      have h1 := HBL.out
      obtain ⟨_, ⟨h2, _⟩ | ⟨g, cap, cur, h2, _, hh, _⟩⟩ := hv
      · rw [h2] at hj; cases hj
      · rw [h2] at hj
        simp only [Value.ownBlock, Option.some.injEq] at hj
        subst hj
        intro e
        have e' : g = bs[k] := e
        rw [e', h1] at hh
        simp [fObj] at hh

set_option maxRecDepth 20000 in
set_option maxHeartbeats 1000000 in
theorem syncDo_c (x : S_Disk) (s : ByteArray) (nb B m bf bd bn : Nat) (vm : Value) (bs : List Nat) (w : World) (hx : okX x) (hM : Mnt B w m x bf bd bn vm bs) (hs : s.size ≤ 1048576) (hn : w.cell? ⟨nb, 0, none⟩ = some (.string s)) :
    Calls Tryz.prog 52 #[.pointer (some ⟨m, 0, none⟩), .pointer (some ⟨nb, 0, none⟩)] w (DoF x (syF x s) B m w) := by
  have HX : Hid (okX x) := hx
  have HM : Hid (Mnt B w m x bf bd bn vm bs) := hM
  clear hx hM
  go_enter Tryz.func52, Tryz.ntmps52
  go_wp2_with fail
  refine (syncFile_c x s B m bf bd bn vm bs w HX.out HM.out hs).mono ?_
  rintro e w1 ⟨rfl, hT, hb⟩
  have HT : Hid (MntT B w1 m (syF x s).1) := hT
  have HB : Hid (Below B w w1) := hb
  clear hT hb
  go_wp2
  go_ret
  exact ⟨rfl, HT.out, HB.out⟩

set_option maxRecDepth 20000 in
set_option maxHeartbeats 2000000 in
theorem onSync_c (x : S_Disk) (f : S_Disk × Int) (p2 p3 p4 : Option Addr) (c2 c3 c4 : Nat) (nb : Nat) (w : World) (hb : Bnd x) (hr : RdDisk w x (.slice p2 x.f2.length c2) (.slice p3 x.f3.length c3) (.slice p4 x.f4.length c4)) (hp : p4 = none → c4 = 0)
    (hdo : ∀ W m bf bd bn vm bs, okX x → Mnt (w.heap.size + 2) W m x bf bd bn vm bs → Below w.heap.size w W → Calls Tryz.prog 52 #[.pointer (some ⟨m, 0, none⟩), .pointer (some ⟨nb, 0, none⟩)] W (DoF x f (w.heap.size + 2) m W)) :
    Calls Tryz.prog 36 #[.agg #[.int .i64 x.f0, .int .i64 x.f1, .slice p2 x.f2.length c2, .slice p3 x.f3.length c3, .slice p4 x.f4.length c4], .func (.func 52) #[] #[.pointer (some ⟨nb, 0, none⟩)]] w (OnR x f w) := by
  obtain ⟨W0, hW0⟩ : ∃ W, W = w.alloc (.cells #[.int .i64 x.f0, .int .i64 x.f1, .slice p2 x.f2.length c2, .slice p3 x.f3.length c3, .slice p4 x.f4.length c4] 32) := ⟨_, rfl⟩
  have HW0 : Hid (w.alloc (.cells #[.int .i64 x.f0, .int .i64 x.f1, .slice p2 x.f2.length c2, .slice p3 x.f3.length c3, .slice p4 x.f4.length c4] 32) = W0) := hW0.symm
  have HS0 : Hid (W0.heap.size = w.heap.size + 1) := by show _ = _; rw [hW0]; simp
  have HB0 : Hid (Below w.heap.size w W0) := by rw [hW0]; exact (Below.refl _ _).alloc (Nat.le_refl _) _
  have HBX : Hid (∀ W', Below W0.heap.size W0 W' → W'.cell? ⟨w.heap.size, 0, none⟩ = some (.int .i64 x.f0) ∧ W'.cell? ⟨w.heap.size, 1, none⟩ = some (.int .i64 x.f1) ∧ W'.cell? ⟨w.heap.size, 2, none⟩ = some (.slice p2 x.f2.length c2) ∧ W'.cell? ⟨w.heap.size, 3, none⟩ = some (.slice p3 x.f3.length c3) ∧ W'.cell? ⟨w.heap.size, 4, none⟩ = some (.slice p4 x.f4.length c4)) := fun W' hbel => by
    have hk : W'.heap[w.heap.size]? = some (.cells #[.int .i64 x.f0, .int .i64 x.f1, .slice p2 x.f2.length c2, .slice p3 x.f3.length c3, .slice p4 x.f4.length c4] 32) := by rw [hbel.block _ (by rw [HS0.out]; exact Nat.lt_succ_self _), hW0]; exact alloc_at _ _
    exact (disk_cell hk).1
  have HRD : Hid (∀ W', Below W0.heap.size W0 W' → RdDisk W' x (.slice p2 x.f2.length c2) (.slice p3 x.f3.length c3) (.slice p4 x.f4.length c4)) := fun W' hbel => (hr.keep HB0.out (Nat.le_refl _)).keep hbel (Nat.le_refl _)
  have HDN : Hid (∀ W', Below W0.heap.size W0 W' → Below w.heap.size w W') := fun W' hbel => HB0.out.trans (hbel.mono (by rw [HS0.out]; exact Nat.le_succ _))
  have HBN : Hid (Bnd x) := hb
  have HLN : Hid (LnDisk x 1048576) := ⟨hb.len.1, hb.dir, hb.len.2⟩
  clear hW0 hr hb
  have HP : Hid (p4 = none → c4 = 0) := hp
  have HDO : Hid (∀ W m bf bd bn vm bs, okX x → Mnt (w.heap.size + 2) W m x bf bd bn vm bs → Below w.heap.size w W → Calls Tryz.prog 52 #[.pointer (some ⟨m, 0, none⟩), .pointer (some ⟨nb, 0, none⟩)] W (DoF x f (w.heap.size + 2) m W)) := hdo
  clear hp hdo
  obtain ⟨WB, hWB⟩ : ∃ W, W = W0.alloc (.cells #[.int .i64 0, .int .i64 0, .slice none 0 0, .slice none 0 0, .slice none 0 0] 32) := ⟨_, rfl⟩
  have HWB : Hid (W0.alloc (.cells #[.int .i64 0, .int .i64 0, .slice none 0 0, .slice none 0 0, .slice none 0 0] 32) = WB) := hWB.symm
  have HBB : Hid (Below W0.heap.size W0 WB) := by rw [hWB]; exact (Below.refl _ _).alloc (Nat.le_refl _) _
  have HRB : Hid (WB.heap[w.heap.size + 1]? = some (.cells #[.int .i64 0, .int .i64 0, .slice none 0 0, .slice none 0 0, .slice none 0 0] 32)) := by rw [hWB, ← HS0.out]; exact alloc_at _ _
  have HZB : Hid (WB.heap.size = w.heap.size + 2) := by show _ = _; rw [hWB]; simp [HS0.out]
  clear hWB
  obtain ⟨e0, e1, e2, e3, e4⟩ := HBX.out WB HBB.out
  go_enter Tryz.func36, Tryz.ntmps36
  go_wp2_with fail
  rw [HW0.out, HWB.out]
  refine (mount_c x p2 p3 p4 c2 c3 c4 WB HBN.out (HRD.out WB HBB.out) HP.out).mono ?_
  rintro e w1 (⟨hok, ⟨m, bf, bd, bn, vm, bs, rfl, hM⟩, b1⟩ | ⟨hno, rfl, b1⟩)
  case inr =>
    have HE : Hid (¬ okX x) := hno
    have HC1 : Hid (Below W0.heap.size W0 w1) := HBB.out.trans (b1.mono HBB.out.size)
    have HR1 : Hid (w1.heap[w.heap.size + 1]? = some (.cells #[.int .i64 0, .int .i64 0, .slice none 0 0, .slice none 0 0, .slice none 0 0] 32)) := (b1.block _ (lt_of_some HRB.out)).trans HRB.out
    obtain ⟨⟨z0, z1, z2, z3, z4⟩, zf⟩ := disk_cell HR1.out
    have zf0 := zf 0
    have zf1 := zf 1
    have zf2 := zf 2
    have zf3 := zf 3
    have zf4 := zf 4
    clear hno b1 e0 e1 e2 e3 e4 zf
    go_wp2
    refine bodyPost_ret (v := .tuple #[.agg #[.int .i64 0, .int .i64 0, .slice none 0 0, .slice none 0 0, .slice none 0 0], .int .i64 1]) (by simp [results, Tryz.results36, go_sem, z0, z1, z2, z3, z4]) rfl ⟨bare 0 0, 1, _, _, _, rfl, ⟨⟨rfl, .inl ⟨rfl, rfl⟩⟩, ⟨rfl, .inl ⟨rfl, rfl⟩⟩, ⟨rfl, .inl ⟨rfl, rfl⟩⟩⟩, ?_, .inr ⟨HE.out, rfl, rfl⟩⟩
    exact (((((HDN.out _ HC1.out).setCell (Nat.le_succ _) _).setCell (Nat.le_succ _) _).setCell (Nat.le_succ _) _).setCell (Nat.le_succ _) _).setCell (Nat.le_succ _) _
  have HE : Hid (okX x) := hok
  have HM : Hid (Mnt (w.heap.size + 2) w1 m x bf bd bn vm bs) := by have := hM; rw [HZB.out] at this; exact this
  have HC1 : Hid (Below W0.heap.size W0 w1) := HBB.out.trans (b1.mono HBB.out.size)
  have HR1 : Hid (w1.heap[w.heap.size + 1]? = some (.cells #[.int .i64 0, .int .i64 0, .slice none 0 0, .slice none 0 0, .slice none 0 0] 32)) := (b1.block _ (lt_of_some HRB.out)).trans HRB.out
  clear hok b1 hM e0 e1 e2 e3 e4
  go_wp2_with fail
  refine (HDO.out w1 m bf bd bn vm bs HE.out HM.out (HDN.out _ HC1.out)).mono ?_
  rintro e w2 ⟨rfl, hT, b2⟩
  have HT : Hid (MntT (w.heap.size + 2) w2 m f.1) := hT
  have HB2 : Hid (Below w.heap.size w w2) := (HDN.out _ HC1.out).trans (b2.mono (by omega))
  have HR2 : Hid (w2.heap[w.heap.size + 1]? = some (.cells #[.int .i64 0, .int .i64 0, .slice none 0 0, .slice none 0 0, .slice none 0 0] 32)) := (b2.block _ (by omega)).trans HR1.out
  clear hT b2
  go_wp2_with fail
  refine (tellT_c (w.heap.size + 2) m f.1 w2 HT.out).mono ?_
  rintro e w3 ⟨v2, v3, v4, rfl, ho, b3⟩
  have HO3 : Hid (OwDisk w3 w2.heap.size f.1 v2 v3 v4) := ho
  have HB3 : Hid (Below w.heap.size w w3) := HB2.out.trans (b3.mono HB2.out.size)
  have HR3 : Hid (w3.heap[w.heap.size + 1]? = some (.cells #[.int .i64 0, .int .i64 0, .slice none 0 0, .slice none 0 0, .slice none 0 0] 32)) := (b3.block _ (lt_of_some HR2.out)).trans HR2.out
  have HL2 : Hid (w.heap.size + 1 < w2.heap.size) := lt_of_some HR2.out
  obtain ⟨q2, d2, hv2, _, _⟩ := own_slice ho.1; subst hv2
  obtain ⟨q3, d3, hv3, _, _⟩ := own_slice ho.2.1; subst hv3
  obtain ⟨q4, d4, hv4, _, _⟩ := own_slice ho.2.2; subst hv4
  obtain ⟨⟨z0, z1, z2, z3, z4⟩, zf⟩ := disk_cell HR3.out
  have zf0 := zf 0
  have zf1 := zf 1
  have zf2 := zf 2
  have zf3 := zf 3
  have zf4 := zf 4
  clear ho b3 zf
  go_wp2
  refine bodyPost_ret (v := .tuple #[.agg #[.int .i64 f.1.f0, .int .i64 f.1.f1, .slice q2 f.1.f2.length d2, .slice q3 f.1.f3.length d3, .slice q4 f.1.f4.length d4], .int .i64 f.2]) (by simp [results, Tryz.results36, go_sem, z0, z1, z2, z3, z4]) rfl ⟨f.1, f.2, _, _, _, rfl, ?_, ?_, .inl ⟨HE.out, rfl, rfl⟩⟩
  · have h2 := HL2.out
    have hs : ∀ {e : TypeId} {size n base : Nat} {v : Value} {xs : List Value} {W : World}, W.ownsRow base e size v n xs → w.heap.size + 1 < base → ∀ u (o : Nat), (W.setCell ⟨w.heap.size + 1, o, none⟩ u).ownsRow base e size v n xs := fun h hl u o => own_set_lt h u hl
    refine ⟨?_, ?_, ?_⟩
    · exact own_low (hs (hs (hs (hs (hs HO3.out.1 h2 _ 0) h2 _ 1) h2 _ 2) h2 _ 3) h2 _ 4) (by omega)
    · exact own_low (hs (hs (hs (hs (hs HO3.out.2.1 h2 _ 0) h2 _ 1) h2 _ 2) h2 _ 3) h2 _ 4) (by omega)
    · exact own_low (hs (hs (hs (hs (hs HO3.out.2.2 h2 _ 0) h2 _ 1) h2 _ 2) h2 _ 3) h2 _ 4) (by omega)
  · exact ((((HB3.out.setCell (Nat.le_succ _) _).setCell (Nat.le_succ _) _).setCell (Nat.le_succ _) _).setCell (Nat.le_succ _) _).setCell (Nat.le_succ _) _

theorem one_cell {w : World} {b : Nat} {a : Value} {t : TypeId} (h : w.heap[b]? = some (.cells #[a] t)) : w.cell? ⟨b, 0, none⟩ = some a := by
  simp [World.cell?, h]

set_option maxRecDepth 20000 in
set_option maxHeartbeats 2000000 in
theorem implSync_c (x : S_Disk) (p2 p3 p4 : Option Addr) (c2 c3 c4 : Nat) (s : ByteArray) (w : World) (hb : Bnd x) (hr : RdDisk w x (.slice p2 x.f2.length c2) (.slice p3 x.f3.length c3) (.slice p4 x.f4.length c4)) (hp : p4 = none → c4 = 0) (hs : s.size ≤ 1048576) :
    Calls Tryz.prog 19 #[.agg #[.int .i64 x.f0, .int .i64 x.f1, .slice p2 x.f2.length c2, .slice p3 x.f3.length c3, .slice p4 x.f4.length c4], .string s] w (OnR x (syF x s) w) := by
  obtain ⟨W0, hW0⟩ : ∃ W, W = w.alloc (.cells #[.int .i64 x.f0, .int .i64 x.f1, .slice p2 x.f2.length c2, .slice p3 x.f3.length c3, .slice p4 x.f4.length c4] 32) := ⟨_, rfl⟩
  have HW0 : Hid (w.alloc (.cells #[.int .i64 x.f0, .int .i64 x.f1, .slice p2 x.f2.length c2, .slice p3 x.f3.length c3, .slice p4 x.f4.length c4] 32) = W0) := hW0.symm
  have HS0 : Hid (W0.heap.size = w.heap.size + 1) := by show _ = _; rw [hW0]; simp
  have HB0 : Hid (Below w.heap.size w W0) := by rw [hW0]; exact (Below.refl _ _).alloc (Nat.le_refl _) _
  have HBX : Hid (∀ W', Below W0.heap.size W0 W' → W'.cell? ⟨w.heap.size, 0, none⟩ = some (.int .i64 x.f0) ∧ W'.cell? ⟨w.heap.size, 1, none⟩ = some (.int .i64 x.f1) ∧ W'.cell? ⟨w.heap.size, 2, none⟩ = some (.slice p2 x.f2.length c2) ∧ W'.cell? ⟨w.heap.size, 3, none⟩ = some (.slice p3 x.f3.length c3) ∧ W'.cell? ⟨w.heap.size, 4, none⟩ = some (.slice p4 x.f4.length c4)) := fun W' hbel => by
    have hk : W'.heap[w.heap.size]? = some (.cells #[.int .i64 x.f0, .int .i64 x.f1, .slice p2 x.f2.length c2, .slice p3 x.f3.length c3, .slice p4 x.f4.length c4] 32) := by rw [hbel.block _ (by rw [HS0.out]; exact Nat.lt_succ_self _), hW0]; exact alloc_at _ _
    exact (disk_cell hk).1
  have HRD : Hid (∀ W', Below W0.heap.size W0 W' → RdDisk W' x (.slice p2 x.f2.length c2) (.slice p3 x.f3.length c3) (.slice p4 x.f4.length c4)) := fun W' hbel => (hr.keep HB0.out (Nat.le_refl _)).keep hbel (Nat.le_refl _)
  have HDN : Hid (∀ W', Below W0.heap.size W0 W' → Below w.heap.size w W') := fun W' hbel => HB0.out.trans (hbel.mono (by rw [HS0.out]; exact Nat.le_succ _))
  have HBN : Hid (Bnd x) := hb
  have HLN : Hid (LnDisk x 1048576) := ⟨hb.len.1, hb.dir, hb.len.2⟩
  clear hW0 hr hb
  have HP : Hid (p4 = none → c4 = 0) := hp
  clear hp
  obtain ⟨V0, hV0⟩ : ∃ W, W = W0 := ⟨_, rfl⟩
  have HV0 : Hid (Below W0.heap.size W0 V0 ∧ V0.heap.size = w.heap.size + 1) := ⟨by rw [hV0]; exact Below.refl _ _, by rw [hV0]; exact HS0.out⟩
  have HVE0 : Hid (W0 = V0) := hV0.symm
  clear hV0
  obtain ⟨V1, hV1⟩ : ∃ W, W = V0.alloc (.cells #[.string s] 9) := ⟨_, rfl⟩
  have HEV1 : Hid (V0.alloc (.cells #[.string s] 9) = V1) := hV1.symm
  have HV1 : Hid (Below W0.heap.size W0 V1 ∧ V1.heap.size = w.heap.size + 2) := ⟨by rw [hV1]; exact HV0.out.1.alloc HV0.out.1.size _, by rw [hV1]; simp [HV0.out.2]⟩
  have HS1 : Hid (V1.heap[w.heap.size + 1]? = some (.cells #[.string s] 9)) := by rw [hV1, ← HV0.out.2]; exact alloc_at _ _
  clear hV1
  obtain ⟨WB, hWB⟩ : ∃ W, W = V1.alloc (.cells #[.int .i64 0, .int .i64 0, .slice none 0 0, .slice none 0 0, .slice none 0 0] 32) := ⟨_, rfl⟩
  have HWB : Hid (V1.alloc (.cells #[.int .i64 0, .int .i64 0, .slice none 0 0, .slice none 0 0, .slice none 0 0] 32) = WB) := hWB.symm
  have HBB : Hid (Below W0.heap.size W0 WB) := by rw [hWB]; exact HV1.out.1.alloc HV1.out.1.size _
  have HRB : Hid (WB.heap[w.heap.size + 2]? = some (.cells #[.int .i64 0, .int .i64 0, .slice none 0 0, .slice none 0 0, .slice none 0 0] 32)) := by rw [hWB, ← HV1.out.2]; exact alloc_at _ _
  have HN1 : Hid (WB.heap[w.heap.size + 1]? = some (.cells #[.string s] 9)) := by rw [hWB]; exact (Below.heap_alloc _ _ _ (lt_of_some HS1.out)).trans HS1.out
  clear hWB
  obtain ⟨e0, e1, e2, e3, e4⟩ := HBX.out WB HBB.out
  go_enter Tryz.func19, Tryz.ntmps19
  go_wp2_with fail
  rw [HW0.out, HVE0.out, HEV1.out, HWB.out]
  refine (onSync_c x (syF x s) p2 p3 p4 c2 c3 c4 (w.heap.size + 1) WB HBN.out (HRD.out WB HBB.out) HP.out (fun W m bf bd bn vm bs hx hM hbW => syncDo_c x s (w.heap.size + 1) _ m bf bd bn vm bs W hx hM hs (one_cell ((hbW.block _ (lt_of_some HN1.out)).trans HN1.out)))).mono ?_
  rintro e w1 ⟨y, code, v2, v3, v4, rfl, ho, b1, hf⟩
  have HF : Hid ((okX x ∧ y = (syF x s).1 ∧ code = (syF x s).2) ∨ (¬ okX x ∧ y = bare 0 0 ∧ code = 1)) := hf
  have HO1 : Hid (OwDisk w1 WB.heap.size y v2 v3 v4) := ho
  have HC1 : Hid (Below W0.heap.size W0 w1) := HBB.out.trans (b1.mono HBB.out.size)
  have HR1 : Hid (w1.heap[w.heap.size + 2]? = some (.cells #[.int .i64 0, .int .i64 0, .slice none 0 0, .slice none 0 0, .slice none 0 0] 32)) := (b1.block _ (lt_of_some HRB.out)).trans HRB.out
  have HL1 : Hid (w.heap.size + 2 < WB.heap.size) := lt_of_some HRB.out
  obtain ⟨q2, d2, hv2, _, _⟩ := own_slice ho.1; subst hv2
  obtain ⟨q3, d3, hv3, _, _⟩ := own_slice ho.2.1; subst hv3
  obtain ⟨q4, d4, hv4, _, _⟩ := own_slice ho.2.2; subst hv4
  obtain ⟨⟨z0, z1, z2, z3, z4⟩, zf⟩ := disk_cell HR1.out
  have zf0 := zf 0
  have zf1 := zf 1
  have zf2 := zf 2
  have zf3 := zf 3
  have zf4 := zf 4
  clear hf ho b1 zf e0 e1 e2 e3 e4
  go_wp2
  refine bodyPost_ret (v := .tuple #[.agg #[.int .i64 y.f0, .int .i64 y.f1, .slice q2 y.f2.length d2, .slice q3 y.f3.length d3, .slice q4 y.f4.length d4], .int .i64 code]) (by simp [results, Tryz.results19, go_sem, z0, z1, z2, z3, z4]) rfl ⟨y, code, _, _, _, rfl, ?_, ?_, HF.out⟩
  · have h2 := HL1.out
    have hs : ∀ {e : TypeId} {size n base : Nat} {v : Value} {xs : List Value} {W : World}, W.ownsRow base e size v n xs → w.heap.size + 2 < base → ∀ u (o : Nat), (W.setCell ⟨w.heap.size + 2, o, none⟩ u).ownsRow base e size v n xs := fun h hl u o => own_set_lt h u hl
    refine ⟨?_, ?_, ?_⟩
    · exact own_low (hs (hs (hs (hs (hs HO1.out.1 h2 _ 0) h2 _ 1) h2 _ 2) h2 _ 3) h2 _ 4) (by omega)
    · exact own_low (hs (hs (hs (hs (hs HO1.out.2.1 h2 _ 0) h2 _ 1) h2 _ 2) h2 _ 3) h2 _ 4) (by omega)
    · exact own_low (hs (hs (hs (hs (hs HO1.out.2.2 h2 _ 0) h2 _ 1) h2 _ 2) h2 _ 3) h2 _ 4) (by omega)
  · exact (((((HDN.out _ HC1.out).setCell (by show w.heap.size ≤ w.heap.size + 2; omega) _).setCell (by show w.heap.size ≤ w.heap.size + 2; omega) _).setCell (by show w.heap.size ≤ w.heap.size + 2; omega) _).setCell (by show w.heap.size ≤ w.heap.size + 2; omega) _).setCell (by show w.heap.size ≤ w.heap.size + 2; omega) _

end Go.Proofs.YtiogjmchbpmdpabGreat
