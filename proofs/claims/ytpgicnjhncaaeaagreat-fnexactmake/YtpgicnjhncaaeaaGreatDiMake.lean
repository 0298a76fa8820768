/- Make: the program's own, by its contract. -/
import Derived.Test.YtpgicnjhncaaeaaGreatDiMvG
import Derived.Test.YtpgicnjhncaaeaaGreatDiFind
namespace Go.Proofs.YtpgicnjhncaaeaaGreat
open Go.RowKit Go.Maps
set_option linter.unusedVariables false

/-- What Make makes of a right disk. -/
def mkF (x : S_Disk) (s : ByteArray) : S_Disk × Int :=
  if nameB s = false then (x, 1) else if ¬ fnd x s < 0 then (x, 3) else if 10 ≤ x.f2.length ∨ 20 ≤ x.f4.length ∨ 1000000 ≤ x.f1 then (x, 4) else (⟨x.f0, x.f1 + 1, x.f2 ++ [⟨x.f1, ⟨#[]⟩, 0⟩], x.f3, x.f4 ++ [⟨1, s, ⟨#[]⟩, x.f1⟩]⟩, 0)

theorem Fls.congr {B : Nat} {w : World} {bf : Nat} {fs : List (S_Inode × Nat)} {h h' : Int → Bool} (F : Fls B w bf fs h) (hh : ∀ p ∈ fs, h' p.1.f0 = h p.1.f0) : Fls B w bf fs h' :=
  ⟨F.own, fun p hp => by rw [hh p hp]; exact F.blk p hp, F.low, F.apart, F.ris, F.wf⟩

theorem own_frk {S : Nat → Prop} {a b : World} {base : Nat} {e : TypeId} {size n : Nat} {v : Value} {xs : List Value} (f : Fr S a b) (h : a.ownsRow base e size v n xs) (hS : ∀ k, v.ownBlock = some k → ¬ S k) : b.ownsRow base e size v n xs := by
  obtain ⟨h1, ⟨rfl, h2⟩ | ⟨g, cap, cur, rfl, hg, hh, r⟩⟩ := h
  · exact ⟨h1, .inl ⟨rfl, h2⟩⟩
  · exact ⟨h1, .inr ⟨g, cap, cur, rfl, hg, (f.block g (lt_of_some hh) (hS g rfl)).trans hh, r⟩⟩

theorem mObj_next {w : World} {m : Nat} {room next n : Int} {bf bd : Nat} {vn vm : Value} (h : w.heap[m]? = some (mObj room next bf bd vn vm)) : (w.setCell ⟨m, 1, none⟩ (.int .i64 n)).heap[m]? = some (mObj room n bf bd vn vm) := by
  unfold mObj at *
  simp [World.setCell, Array.getElem?_modify, h]

theorem MntO.next {B : Nat} {w : World} {m : Nat} {y : S_Disk} (h : MntO B w m y) (n : Int) : MntT B (w.setCell ⟨m, 1, none⟩ (.int .i64 n)) m ⟨y.f0, n, y.f2, y.f3, y.f4⟩ := by
  obtain ⟨bf, bd, vn, pm, cm, fs, hq, hf, hm, hF, hd, hM, r⟩ := h
  have hfr : Fr (fun i => i = m) w (w.setCell ⟨m, 1, none⟩ (.int .i64 n)) := (Fr.refl _ _).setCell _ (.inl rfl)
  refine ⟨bf, bd, vn, pm, cm, fs, hq, hf, mObj_next hm, hF.keep hfr (fun e => map_ne hF.own hm e.symm) (fun p hp e => ?_), hfr.map hd (fun e => map_ne hd hm e.symm), RowR.own (own_set_blk hM fun j hj e => own_obj hM hm (by rw [hj]; exact congrArg some e)), r⟩
  have h1 := hF.blk p hp
  rw [e, hm] at h1
  simp [mObj, fObj] at h1

theorem MntO.cell {B : Nat} {w : World} {m : Nat} {y : S_Disk} (h : MntO B w m y) : w.cell? ⟨m, 1, none⟩ = some (.int .i64 y.f1) ∧ ∀ j, w.frozen? ⟨m, j, none⟩ = false := by
  obtain ⟨bf, bd, vn, pm, cm, fs, hq, hf, hm, _⟩ := h
  exact ⟨(mount_cell hm).2.1, mount_frozen hm⟩

set_option maxRecDepth 20000 in
set_option maxHeartbeats 2000000 in
theorem makeFile_c (x : S_Disk) (s : ByteArray) (B m bf bd bn : Nat) (vm : Value) (bs : List Nat) (w : World) (hx : okX x) (hM : Mnt B w m x bf bd bn vm bs) (hs : s.size ≤ 1048576) :
    Calls Tryz.prog 51 #[.pointer (some ⟨m, 0, none⟩), .string s] w (DoF x (mkF x s) B m w) := by
  have HX : Hid (okX x) := hx
  have hBs := mnt_size hM
  obtain ⟨pm, cm, hvm, _, _⟩ := own_slice hM.2.2.2.2.2.1
  subst hvm
  have HM : Hid (Mnt B w m x bf bd bn (.slice pm x.f4.length cm) bs) := hM
  clear hx hM
  go_enter Tryz.func51, Tryz.ntmps51
  go_wp2_with fail
  refine (isName_c s w (by unfold maxLen; omega)).mono ?_
  rintro e w1 ⟨rfl, hw⟩
  replace hw := hw.symm
  subst hw
  cases hN : nameB s
  · have HF : Hid (mkF x s = (x, 1)) := by show _ = _; unfold mkF; rw [if_pos hN]
    clear hN
    go_wp2
    go_ret
    exact ⟨by rw [HF.out]; rfl, by rw [HF.out]; exact mnt_T HX.out HM.out, Below.refl _ _⟩
  have HN : Hid (nameB s = true) := hN
  have hN' : ¬ nameB s = false := by rw [hN]; decide
  have HN' : Hid (¬ nameB s = false) := hN'
  clear hN hN'
  obtain ⟨_, m1, m2, _, m4, m5⟩ := mount_cell HM.out.2.2.2.2.1
  obtain ⟨u, ps, hrun, _⟩ := World.ownsMap.look_ok (w := w) HM.out.2.2.2.1 kStr Tryz.underlying93 (zeroInt _) (plainElem_int Tryz.underlying3 (by decide)) (Go.WideMaps.keyOf_string_mk Tryz.underlying9 (show s.size ≤ maxLen by unfold maxLen; omega))
  rw [has_encL] at hrun
  by_cases hneg : fnd x s < 0
  rotate_left
  · rw [decide_eq_false (fun h => hneg ((fnd_at HX.out _).2 h))] at hrun
    have HF : Hid (mkF x s = (x, 3)) := by show _ = _; unfold mkF; rw [if_neg HN'.out, if_pos hneg]
    clear m5 hneg
    go_wp2
    go_ret
    exact ⟨by rw [HF.out]; rfl, by rw [HF.out]; exact mnt_T HX.out HM.out, Below.refl _ _⟩
  rw [decide_eq_true ((fnd_at HX.out _).1 hneg)] at hrun
  have HNG : Hid (¬ ¬ fnd x s < 0) := fun h => h hneg
  clear hneg
  have HFL : Hid ((x.f2.zip bs).length ≤ 10) := by have h1 := HX.out.1.2.2.1; show _ ≤ _; rw [List.length_zip]; omega
  have hzl : (x.f2.zip bs).length = x.f2.length := by rw [List.length_zip, HM.out.1]; omega
  have hlenR : (Builtin.len_ #[91] 3 #[.map (some bf)]).run Tryz.prog w = .ok (.int .i64 (x.f2.length : Int)) w := by
    have := HM.out.2.1.own.len Tryz.underlying91 3
    rw [size_encF, hzl] at this
    exact this
  by_cases hfull : 10 ≤ x.f2.length ∨ 20 ≤ x.f4.length ∨ 1000000 ≤ x.f1
  · have HF : Hid (mkF x s = (x, 4)) := by show _ = _; unfold mkF; rw [if_neg HN'.out, if_neg HNG.out, if_pos hfull]
    by_cases hA : (x.f2.length : Int) ≥ 10
    · clear hfull
      go_wp2
      go_ret
      exact ⟨by rw [HF.out]; rfl, by rw [HF.out]; exact mnt_T HX.out HM.out, Below.refl _ _⟩
    by_cases hB : (x.f4.length : Int) ≥ 20
    · clear hfull
      go_wp2
      go_ret
      exact ⟨by rw [HF.out]; rfl, by rw [HF.out]; exact mnt_T HX.out HM.out, Below.refl _ _⟩
    have hC : x.f1 ≥ 1000000 := by omega
    clear hfull
    go_wp2
    go_ret
    exact ⟨by rw [HF.out]; rfl, by rw [HF.out]; exact mnt_T HX.out HM.out, Below.refl _ _⟩
  have HF : Hid (mkF x s = (⟨x.f0, x.f1 + 1, x.f2 ++ [⟨x.f1, ⟨#[]⟩, 0⟩], x.f3, x.f4 ++ [⟨1, s, ⟨#[]⟩, x.f1⟩]⟩, 0)) := by show _ = _; unfold mkF; rw [if_neg HN'.out, if_neg HNG.out, if_neg hfull]
  have hA : ¬ (x.f2.length : Int) ≥ 10 := by omega
  have hB : ¬ (x.f4.length : Int) ≥ 20 := by omega
  have hC : ¬ x.f1 ≥ 1000000 := by omega
  have HNX : Hid (1 ≤ x.f1 ∧ x.f1 < 1000000) := ⟨HX.out.1.2.1.1, by omega⟩
  have HWF : Hid ((Lit.int .i64 x.f1).wf = true) := wf_small _ (by have := HNX.out; omega)
  have HMD : Hid (Mnt B w.drew m x bf bd bn (.slice pm x.f4.length cm) bs) := mnt_drew HM.out
  have HZ : Hid ((x.f2.zip bs).map (·.1) = x.f2) := List.map_fst_zip (by have := HM.out.1; omega)
  go_upto_region 8 with fail
  refine wp_region_L [⟨10, fun W => W.cell? ⟨m, 2, none⟩ = some (.map (some bf))⟩, ⟨10, fun W => W.cell? ⟨m, 1, none⟩ = some (.int .i64 x.f1)⟩] (by kernel_rfl) (fun f hf => by
      simp only [List.mem_cons, List.not_mem_nil, or_false] at hf
      rcases hf with rfl | rfl
      · exact m2
      · exact m1
      ) ?_
  refine At.take 0 (some 41) (.pointer (some ⟨m, 0, none⟩)) rfl rfl (by kernel_rfl) (by kernel_rfl) (by kernel_rfl) (by kernel_rfl) (fun _ _ _ h => h) (yl_pure (by kernel_rfl) (fun _ => by kernel_rfl)) ?_
  refine At.take 1 (some 42) (.pointer (some ⟨m, 0, none⟩)) rfl rfl (by kernel_rfl) (by kernel_rfl) (by kernel_rfl) (by kernel_rfl) (fun _ _ _ h => h) (yl_pure (by kernel_rfl) (fun _ => by kernel_rfl)) ?_
  refine At.take 2 (some 43) (.pointer (some ⟨m, 2, none⟩)) rfl rfl (by kernel_rfl) (by kernel_rfl) (by kernel_rfl) (by kernel_rfl) (fun _ _ _ h => h) (yl_pure (by kernel_rfl) (fun _ => by kernel_rfl)) ?_
  refine At.take 3 (some 44) (.map (some bf)) rfl rfl (by kernel_rfl) (by kernel_rfl) (by kernel_rfl) (by kernel_rfl) (fun _ _ _ h => h) (yl_load 10 ⟨m, 2, none⟩ (.map (some bf)) (List.mem_cons_self) [10] (by kernel_rfl) rfl (by kernel_rfl) (fun _ => by kernel_rfl)) ?_
  refine At.take 4 (some 45) (.pointer (some ⟨m, 0, none⟩)) rfl rfl (by kernel_rfl) (by kernel_rfl) (by kernel_rfl) (by kernel_rfl) (fun _ _ _ h => h) (yl_pure (by kernel_rfl) (fun _ => by kernel_rfl)) ?_
  refine At.take 5 (some 46) (.pointer (some ⟨m, 0, none⟩)) rfl rfl (by kernel_rfl) (by kernel_rfl) (by kernel_rfl) (by kernel_rfl) (fun _ _ _ h => h) (yl_pure (by kernel_rfl) (fun _ => by kernel_rfl)) ?_
  refine At.take 6 (some 47) (.pointer (some ⟨m, 1, none⟩)) rfl rfl (by kernel_rfl) (by kernel_rfl) (by kernel_rfl) (by kernel_rfl) (fun _ _ _ h => h) (yl_pure (by kernel_rfl) (fun _ => by kernel_rfl)) ?_
  refine At.take 7 (some 48) (.int .i64 x.f1) rfl rfl (by kernel_rfl) (by kernel_rfl) (by kernel_rfl) (by kernel_rfl) (fun _ _ _ h => h) (yl_load 10 ⟨m, 1, none⟩ (.int .i64 x.f1) (List.mem_cons_of_mem _ (List.mem_cons_self)) [10] (by kernel_rfl) rfl (by kernel_rfl) (fun _ => by kernel_rfl)) ?_
  refine At.take 8 (some 49) (.agg #[.string ⟨#[]⟩, .int .i64 0, .bool true]) rfl rfl (by kernel_rfl) (by kernel_rfl) (by kernel_rfl) (by kernel_rfl) (fun _ _ _ h => h) (yl_pure (by kernel_rfl) (fun _ => by kernel_rfl)) ?_
  refine At.step 9 (some 50) rfl rfl (by kernel_rfl) (by kernel_rfl) (fun u W => u = .pointer (some ⟨w.drew.heap.size, 0, none⟩) ∧ W = w.drew.alloc (fObj ⟨x.f1, ⟨#[]⟩, 0⟩ true)) (gives_run (by kernel_rfl)) ?_
  rintro u W2 ⟨rfl, hW2⟩
  refine ⟨held_cons (.inr (by rw [hW2]; exact cell_alloc (m2))) (held_cons (.inr (by rw [hW2]; exact cell_alloc (m1))) (held_nil)), ?_⟩
  obtain ⟨w3, hrun, hown3, hturn⟩ := World.ownsMap.store (w := w.drew.alloc (fObj ⟨x.f1, ⟨#[]⟩, 0⟩ true)) (World.ownsMap.alloc HMD.out.2.1.own (fObj ⟨x.f1, ⟨#[]⟩, 0⟩ true)) kInt Tryz.underlying91 (by have := HFL.out; unfold maxLen; omega) (keyOf_int_mk Tryz.underlying3 HWF.out) (ptrElem_some w.drew.heap.size)
  refine At.step 10 none rfl rfl (by kernel_rfl) (by kernel_rfl) (fun u W => u = undef ∧ W = w3) (gives_unit (Instr.mapUpdate 91 (.map (some bf)) (.int .i64 x.f1) (.pointer (some ⟨w.drew.heap.size, 0, none⟩))) (fun _ => by kernel_rfl) (by rw [hW2]; exact hrun)) ?_
  rintro u W3 ⟨rfl, hW3⟩
  subst hW3
  refine ⟨held_cons (.inl (by kernel_rfl)) (held_cons (.inl (by kernel_rfl)) (held_nil)), ?_⟩
  refine At.done (by kernel_rfl) ?_
  obtain ⟨h1, hh1, hh2⟩ : ∃ h1 : Int → Bool, h1 x.f1 = true ∧ ∀ i, i ≠ x.f1 → h1 i = (lnk x.f3 i || mad x.f4 i) := ⟨fun i => if i = x.f1 then true else (lnk x.f3 i || mad x.f4 i), if_pos rfl, fun i hi => if_neg hi⟩
  have hids : ∀ q ∈ x.f2.zip bs, q.1.f0 < x.f1 := fun q hq => by
    obtain ⟨i, hi, rfl⟩ := List.getElem_of_mem hq
    rw [List.getElem_zip]
    have h2 := HX.out.2.1.1 i (by rw [List.length_zip] at hi; omega)
    unfold iOk at h2
    show x.f2[i].f0 < x.f1
    omega
  have hF1 : Fls B w.drew bf (x.f2.zip bs) h1 := Fls.congr HMD.out.2.1 fun p hp => hh2 _ (by have := hids p hp; omega)
  have hA2 := Fls.add (x := ⟨x.f1, ⟨#[]⟩, 0⟩) hF1 hids ⟨HWF.out, by show (Lit.int .i64 0).wf = true; decide, Nat.zero_le _⟩ hBs hown3 (by rw [show h1 (S_Inode.f0 ⟨x.f1, ⟨#[]⟩, 0⟩) = true from hh1]; exact hturn)
  have hFr : Fr (fun i => i = bf) w W3 := fr_undrew hA2.2
  obtain ⟨_, hF, hd, hn, hm, hv, ⟨q1, q2, q3⟩, hBm, hBd, hBn⟩ := HM.out
  have hmb : m ≠ bf := fun e => map_ne hF.own hm e
  have HG : Hid (MntG B W3 m x.f0 x.f1 (x.f2.zip bs ++ [(⟨x.f1, ⟨#[]⟩, 0⟩, w.drew.heap.size)]) h1 x.f3 x.f4 bf bd bn (.slice pm x.f4.length cm)) := ⟨hA2.1, hFr.map hd q1, hFr.map hn q3, hFr.at hm hmb, own_frk hFr hv (fun k hk e => by
    obtain ⟨_, ⟨h, _⟩ | ⟨g, cap, cur, h, _, hh, _⟩⟩ := hv
    · rw [h] at hk; cases hk
    · rw [h] at hk
      simp only [Value.ownBlock, Option.some.injEq] at hk
      subst hk
      exact map_ne hF.own hh e), ⟨q1, q2, q3⟩, hBm, hBd, hBn⟩
  have HB3 : Hid (Below B w W3) := hFr.below (fun i e => by rw [e]; exact hF.low.1) hBs
  obtain ⟨_, k1, _⟩ := mount_cell HG.out.2.2.2.1
  have HLN : Hid ((x.f2.zip bs ++ [((⟨x.f1, ⟨#[]⟩, 0⟩ : S_Inode), w.drew.heap.size)]).length ≤ 1000) := by show _ ≤ _; rw [List.length_append]; have := HFL.out; simp; omega
  have HDS : Hid (x.f3.length ≤ 500 ∧ x.f4.length ≤ 500) := ⟨by have := okX_dir HX.out; omega, by have := HX.out.1.2.2.2; omega⟩
  have hT := mnt_T HX.out HM.out
  obtain ⟨_, _, _, _, _, _, _, _, _, _, _, _, _, s3, s4⟩ := hT
  have HS3 : Hid (∀ z ∈ x.f3, z.f0.size ≤ 1048576) := s3
  have HS4 : Hid (∀ z ∈ x.f4, z.f1.size ≤ 1048576 ∧ z.f2.size ≤ 1048576) := s4
  simp only [Act.put, List.setIfInBounds_toArray, List.set_cons_zero, List.set_cons_succ]
  clear hA2 hF1 hFr hids hh1 hh2 hF hd hn hm hv q1 q2 q3 hBm hBd hBn hmb hrun hown3 hturn hlenR m1 m2 m4 m5 hW2 s3 s4
  go_wp2_with fail
  refine (moveG_c x.f0 x.f1 _ h1 x.f3 x.f4 ⟨1, s, ⟨#[]⟩, x.f1⟩ B m bf bd bn _ W3 HG.out ⟨HLN.out, HDS.out.1, HDS.out.2⟩ HS3.out HS4.out HN.out ⟨by unfold maxLen; show s.size ≤ _; omega, Nat.zero_le _⟩ ⟨by show (Lit.int .i64 1).wf = true; decide, HWF.out⟩ ⟨hs, Nat.zero_le _⟩).mono ?_
  rintro e w4 ⟨⟨r, rfl⟩, hO, b4⟩
  have HO : Hid (MntO B w4 m ⟨x.f0, x.f1, x.f2 ++ [⟨x.f1, ⟨#[]⟩, 0⟩], x.f3, x.f4 ++ [⟨1, s, ⟨#[]⟩, x.f1⟩]⟩) := by
    have := hO
    rw [List.map_append, HZ.out] at this
    exact this
  have HB4 : Hid (Below B w w4) := HB3.out.trans b4
  have HBM : Hid (B ≤ m) := HG.out.2.2.2.2.2.2.1
  clear hO b4 k1
  obtain ⟨k1, kf⟩ := HO.out.cell
  have kf1 := kf 1
  have hwr : IntKind.i64.wrap (x.f1 + 1) = x.f1 + 1 := IntWalk.i64_in _ (by have := HNX.out; omega)
  clear kf
  go_wp2
  go_ret
  exact ⟨by rw [HF.out]; rfl, by rw [HF.out]; exact HO.out.next _, HB4.out.setCell HBM.out _⟩

end Go.Proofs.YtpgicnjhncaaeaaGreat
