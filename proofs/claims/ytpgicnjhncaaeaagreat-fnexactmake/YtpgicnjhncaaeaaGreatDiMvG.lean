/- A move on any mount, by its contract. -/
import Derived.Test.YtpgicnjhncaaeaaGreatDiMv
namespace Go.Proofs.YtpgicnjhncaaeaaGreat
open Go.RowKit Go.Maps
set_option linter.unusedVariables false

/-- A mount, whatever its files are. -/
def MntG (B : Nat) (w : World) (m : Nat) (room next : Int) (fs : List (S_Inode × Nat)) (hq : Int → Bool) (D : List S_Link) (M : List S_Move) (bf bd bn : Nat) (vm : Value) : Prop :=
  Fls B w bf fs hq ∧ w.ownsMap Tryz.prog 9 (plainElem Tryz.prog 3) bd D.length (encL D) ∧ w.ownsMap Tryz.prog 9 (plainElem Tryz.prog 3) bn (nms D M).length (encL (nms D M)) ∧
    w.heap[m]? = some (mObj room next bf bd (.map (some bn)) vm) ∧ w.ownsRow B 51 4 vm M.length (rMove M) ∧ (bd ≠ bf ∧ bn ≠ bd ∧ bn ≠ bf) ∧ B ≤ m ∧ B ≤ bd ∧ B ≤ bn

/-- A mount that can be told, and whose moves are its own. -/
def MntO (B : Nat) (w : World) (m : Nat) (y : S_Disk) : Prop :=
  ∃ bf bd vn pm cm fs h, fs.map (·.1) = y.f2 ∧ w.heap[m]? = some (mObj y.f0 y.f1 bf bd vn (.slice pm y.f4.length cm)) ∧ Fls B w bf fs h ∧ w.ownsMap Tryz.prog 9 (plainElem Tryz.prog 3) bd y.f3.length (encL y.f3) ∧ w.ownsRow B 51 4 (.slice pm y.f4.length cm) y.f4.length (rMove y.f4) ∧
    (y.f2.length ≤ 1000 ∧ y.f3.length ≤ 1000 ∧ y.f4.length ≤ 1000) ∧ (∀ z ∈ y.f3, z.f0.size ≤ 1048576) ∧ (∀ z ∈ y.f4, z.f1.size ≤ 1048576 ∧ z.f2.size ≤ 1048576)

theorem mntG_size {B : Nat} {w : World} {m : Nat} {room next : Int} {fs : List (S_Inode × Nat)} {hq : Int → Bool} {D : List S_Link} {M : List S_Move} {bf bd bn : Nat} {vm : Value} (h : MntG B w m room next fs hq D M bf bd bn vm) : B ≤ w.heap.size := by
  have h1 := lt_of_some h.2.2.2.1
  have h2 := h.2.2.2.2.2.2.1
  omega

theorem mntG_bel {B : Nat} {w w' : World} {m : Nat} {room next : Int} {fs : List (S_Inode × Nat)} {hq : Int → Bool} {D : List S_Link} {M : List S_Move} {bf bd bn : Nat} {vm : Value} (h : MntG B w m room next fs hq D M bf bd bn vm) (hb : Below w.heap.size w w') : MntG B w' m room next fs hq D M bf bd bn vm := by
  have f : Fr (fun _ => False) w w' := (Fr.refl _ _).bel hb
  obtain ⟨hF, hd, hn, hm, hv, r⟩ := h
  exact ⟨hF.keep f (fun h => h) (fun _ _ h => h), f.map hd (fun h => h), f.map hn (fun h => h), f.at hm (fun h => h), own_bel hv hb (Nat.le_refl _), r⟩

theorem mntG_drew {B : Nat} {w : World} {m : Nat} {room next : Int} {fs : List (S_Inode × Nat)} {hq : Int → Bool} {D : List S_Link} {M : List S_Move} {bf bd bn : Nat} {vm : Value} (h : MntG B w m room next fs hq D M bf bd bn vm) : MntG B w.drew m room next fs hq D M bf bd bn vm := mntG_bel h (Below.refl _ _).drew

set_option maxRecDepth 20000 in
set_option maxHeartbeats 2000000 in
theorem moveG_c (room next : Int) (fs : List (S_Inode × Nat)) (hq : Int → Bool) (D : List S_Link) (M : List S_Move) (v : S_Move) (B m bf bd bn : Nat) (vm : Value) (w : World) (hM : MntG B w m room next fs hq D M bf bd bn vm)
    (hlen : fs.length ≤ 1000 ∧ D.length ≤ 500 ∧ M.length ≤ 500) (hsD : ∀ z ∈ D, z.f0.size ≤ 1048576) (hsM : ∀ z ∈ M, z.f1.size ≤ 1048576 ∧ z.f2.size ≤ 1048576) (hnv : nameB v.f1 = true) (hsv : sMove v) (hgv : gMove v) (hsz : v.f1.size ≤ 1048576 ∧ v.f2.size ≤ 1048576) :
    Calls Tryz.prog 97 #[.pointer (some ⟨m, 0, none⟩), .agg #[.int .i64 v.f0, .string v.f1, .string v.f2, .int .i64 v.f3]] w fun e w' => (∃ u, e = .returned u) ∧ MntO B w' m ⟨room, next, fs.map (·.1), D, M ++ [v]⟩ ∧ Below B w w' := by
  obtain ⟨iM, hiM, hM0, hM1, hM2⟩ := info_parts infoMove
  have HSD : Hid (∀ z ∈ D, z.f0.size ≤ 1048576) := hsD
  have HSM : Hid (∀ z ∈ M, z.f1.size ≤ 1048576 ∧ z.f2.size ≤ 1048576) := hsM
  have hBs := mntG_size hM
  obtain ⟨pm, cm, hvm, _, _⟩ := own_slice hM.2.2.2.2.1
  subst hvm
  have HM : Hid (MntG B w m room next fs hq D M bf bd bn (.slice pm M.length cm)) := hM
  have HNV : Hid (nameB v.f1 = true) := hnv
  have HSV : Hid (sMove v) := hsv
  have HGV : Hid (gMove v) := hgv
  have HSZ : Hid (v.f1.size ≤ 1048576 ∧ v.f2.size ≤ 1048576) := hsz
  have HLN : Hid ((nms D M).length ≤ 1048576) := by have h1 := nms_len D M; show _ ≤ _; omega
  have hl4 : M.length ≤ 500 := hlen.2.2
  clear hsD hsM hM hnv hsv hgv hsz
  go_enter Tryz.func97, Tryz.ntmps97
  go_upto_region 1 with fail
  refine wp_genD (fun W => Hid (MntG B W m room next fs hq D M bf bd bn (.slice pm M.length cm)) ∧ Hid (W.heap[w.heap.size]? = some (.cells #[.int .i64 v.f0, .string v.f1, .string v.f2, .int .i64 v.f3] 51)) ∧ Hid (Below w.heap.size w W)) ⟨mntG_bel HM.out ((Below.refl _ _).alloc (Nat.le_refl _) _), alloc_at _ _, (Below.refl _ _).alloc (Nat.le_refl _) _⟩ ?_
  rintro W1 ⟨HM1, HX1, HB1⟩
  obtain ⟨i0, i1, i2, i3, _⟩ := box4 HX1.out
  obtain ⟨_, _, _, _, m4, _⟩ := mount_cell HM1.out.2.2.2.1
  have HNW : Hid (W1.drew.ownsMap Tryz.prog 9 (plainElem Tryz.prog 3) bn (nms D M).length (encL (nms D M))) := (mntG_drew HM1.out).2.2.1
  refine wp_region_L [⟨5, fun W => W.cell? ⟨m, 4, none⟩ = some (.map (some bn))⟩, ⟨5, fun W => ∀ j u, ([.int .i64 v.f0, .string v.f1, .string v.f2, .int .i64 v.f3] : List Value)[j]? = some u → W.cell? ((⟨w.heap.size, 0, none⟩ : Addr).add j) = some u⟩] (by kernel_rfl) (fun f hf => by
      simp only [List.mem_cons, List.not_mem_nil, or_false] at hf
      rcases hf with rfl | rfl
      · exact m4
      · exact cells4 i0 i1 i2 i3
      ) ?_
  refine At.take 0 (some 4) (.pointer (some ⟨m, 0, none⟩)) rfl rfl (by kernel_rfl) (by kernel_rfl) (by kernel_rfl) (by kernel_rfl) (fun _ _ _ h => h) (yl_pure (by kernel_rfl) (fun _ => by kernel_rfl)) ?_
  refine At.take 1 (some 5) (.pointer (some ⟨m, 0, none⟩)) rfl rfl (by kernel_rfl) (by kernel_rfl) (by kernel_rfl) (by kernel_rfl) (fun _ _ _ h => h) (yl_pure (by kernel_rfl) (fun _ => by kernel_rfl)) ?_
  refine At.take 2 (some 6) (.pointer (some ⟨m, 4, none⟩)) rfl rfl (by kernel_rfl) (by kernel_rfl) (by kernel_rfl) (by kernel_rfl) (fun _ _ _ h => h) (yl_pure (by kernel_rfl) (fun _ => by kernel_rfl)) ?_
  refine At.take 3 (some 7) (.map (some bn)) rfl rfl (by kernel_rfl) (by kernel_rfl) (by kernel_rfl) (by kernel_rfl) (fun _ _ _ h => h) (yl_load 5 ⟨m, 4, none⟩ (.map (some bn)) (List.mem_cons_self) [5] (by kernel_rfl) rfl (by kernel_rfl) (fun _ => by kernel_rfl)) ?_
  refine At.take 4 (some 8) (.agg #[.int .i64 v.f0, .string v.f1, .string v.f2, .int .i64 v.f3]) rfl rfl (by kernel_rfl) (by kernel_rfl) (by kernel_rfl) (by kernel_rfl) (fun _ _ _ h => h) (yl_loads 5 ⟨w.heap.size, 0, none⟩ [.int .i64 v.f0, .string v.f1, .string v.f2, .int .i64 v.f3] (List.mem_cons_of_mem _ (List.mem_cons_self)) [5] (by kernel_rfl) rfl (by kernel_rfl) (fun _ => by kernel_rfl)) ?_
  refine At.step 5 (some 9) rfl rfl (by kernel_rfl) (by kernel_rfl) (fun u W => W.ownsMap Tryz.prog 9 (plainElem Tryz.prog 3) bn (ap (nms D M) v).1.length (encL (ap (nms D M) v).1) ∧ Fr (fun i => i = bn) W1.drew W) (gives_call (by kernel_rfl) ((am_c bn (nms D M) v W1.drew HNW.out HLN.out HSV.out HGV.out HNV.out).mono fun e w' ⟨he, ho, hf⟩ => ⟨_, he, ho, hf⟩)) ?_
  rintro u W2 ⟨hoN, hfr⟩
  refine ⟨held_cons (.inl (by kernel_rfl)) (held_cons (.inl (by kernel_rfl)) (held_nil)), ?_⟩
  refine At.done (by kernel_rfl) ?_
  have hfr1 : Fr (fun i => i = bn) W1 W2 := ⟨hfr.os, hfr.tape, hfr.output, hfr.size, hfr.block⟩
  obtain ⟨hFl, hd, hn, hm, hv, ⟨q1, q2, q3⟩, hBm, hBd, hBn⟩ := HM1.out
  have HF2 : Hid (Fls B W2 bf (fs) hq) := hFl.keep hfr1 (fun e => q3 e.symm) (fun p hp e => map_ne hn (hFl.blk p hp) e)
  have HD2 : Hid (W2.ownsMap Tryz.prog 9 (plainElem Tryz.prog 3) bd D.length (encL D)) := hfr1.map hd (fun e => q2 e.symm)
  have HM2 : Hid (W2.heap[m]? = some (mObj room next bf bd (.map (some bn)) (.slice pm M.length cm))) := hfr1.at hm (fun e => map_ne hn hm e)
  have HV2 : Hid (W2.ownsRow B 51 4 (.slice pm M.length cm) M.length (rMove M)) := by
    obtain ⟨h1, ⟨h2, h3⟩ | ⟨g, cap, cur, h2, hg, hh, r⟩⟩ := hv
    · exact ⟨h1, .inl ⟨h2, h3⟩⟩
    · exact ⟨h1, .inr ⟨g, cap, cur, h2, hg, hfr1.at hh (fun e => map_ne hn hh e), r⟩⟩
  have HX2 : Hid (W2.heap[w.heap.size]? = some (.cells #[.int .i64 v.f0, .string v.f1, .string v.f2, .int .i64 v.f3] 51)) := hfr1.at HX1.out (fun e => map_ne hn HX1.out e)
  have HB2 : Hid (Below B w W2) := (HB1.out.mono hBs).trans (hfr1.below (fun i e => by rw [e]; exact hBn) (Nat.le_trans hBs HB1.out.size))
  have HZ2 : Hid (B ≤ W2.heap.size) := Nat.le_trans hBs HB2.out.size
  have HBM : Hid (B ≤ m) := hBm
  obtain ⟨j0, j1, j2, j3, _⟩ := box4 HX2.out
  obtain ⟨_, _, _, _, _, n5⟩ := mount_cell HM2.out
  simp only [Act.put, List.setIfInBounds_toArray, List.set_cons_zero, List.set_cons_succ]
  clear hfr hfr1 hoN hFl hd hn hm hv i0 i1 i2 i3 m4 HNW HM1 HX1 HB1 q1 q2 q3 hBm hBd hBn
  go_upto_region 2 with fail
  refine wp_region_L [⟨7, fun W => W.cell? ⟨m, 5, none⟩ = some (.slice pm M.length cm)⟩, ⟨6, fun W => ∀ j u, ([.int .i64 v.f0, .string v.f1, .string v.f2, .int .i64 v.f3] : List Value)[j]? = some u → W.cell? ((⟨w.heap.size, 0, none⟩ : Addr).add j) = some u⟩] (by kernel_rfl) (fun f hf => by
      simp only [List.mem_cons, List.not_mem_nil, or_false] at hf
      rcases hf with rfl | rfl
      · exact n5
      · exact cells4 j0 j1 j2 j3
      ) ?_
  refine At.take 0 (some 10) (.pointer (some ⟨m, 0, none⟩)) rfl rfl (by kernel_rfl) (by kernel_rfl) (by kernel_rfl) (by kernel_rfl) (fun _ _ _ h => h) (yl_pure (by kernel_rfl) (fun _ => by kernel_rfl)) ?_
  refine At.take 1 (some 11) (.pointer (some ⟨m, 0, none⟩)) rfl rfl (by kernel_rfl) (by kernel_rfl) (by kernel_rfl) (by kernel_rfl) (fun _ _ _ h => h) (yl_pure (by kernel_rfl) (fun _ => by kernel_rfl)) ?_
  refine At.take 2 (some 12) (.pointer (some ⟨m, 0, none⟩)) rfl rfl (by kernel_rfl) (by kernel_rfl) (by kernel_rfl) (by kernel_rfl) (fun _ _ _ h => h) (yl_pure (by kernel_rfl) (fun _ => by kernel_rfl)) ?_
  refine At.take 3 (some 13) (.pointer (some ⟨m, 5, none⟩)) rfl rfl (by kernel_rfl) (by kernel_rfl) (by kernel_rfl) (by kernel_rfl) (fun _ _ _ h => h) (yl_pure (by kernel_rfl) (fun _ => by kernel_rfl)) ?_
  refine At.take 4 (some 14) (.slice pm M.length cm) rfl rfl (by kernel_rfl) (by kernel_rfl) (by kernel_rfl) (by kernel_rfl) (fun _ _ _ h => h) (yl_load 7 ⟨m, 5, none⟩ (.slice pm M.length cm) (List.mem_cons_self) [7] (by kernel_rfl) rfl (by kernel_rfl) (fun _ => by kernel_rfl)) ?_
  refine At.take 5 (some 15) (.agg #[.int .i64 v.f0, .string v.f1, .string v.f2, .int .i64 v.f3]) rfl rfl (by kernel_rfl) (by kernel_rfl) (by kernel_rfl) (by kernel_rfl) (fun _ _ _ h => h) (yl_loads 6 ⟨w.heap.size, 0, none⟩ [.int .i64 v.f0, .string v.f1, .string v.f2, .int .i64 v.f3] (List.mem_cons_of_mem _ (List.mem_cons_self)) [6] (by kernel_rfl) rfl (by kernel_rfl) (fun _ => by kernel_rfl)) ?_
  refine At.step 6 (some 16) rfl rfl (by kernel_rfl) (by kernel_rfl) (fun u W => u = .slice (some ⟨W2.drew.heap.size, 0, none⟩) 1 1 ∧ W = W2.drew.alloc (.cells #[.int .i64 v.f0, .string v.f1, .string v.f2, .int .i64 v.f3] 51)) (gives_run (by kernel_rfl)) ?_
  rintro u WB ⟨rfl, hWB⟩
  refine ⟨by subst hWB; exact held_cons (.inr (cell_alloc (n5))) (held_cons (.inl (by kernel_rfl)) (held_nil)), ?_⟩
  have HVB : Hid (WB.ownsRow B 51 4 (.slice pm M.length cm) M.length (rMove M)) := by rw [hWB]; exact World.ownsRow.alloc (w := W2.drew) HV2.out _
  obtain ⟨v', WC, hrunC, hownC, hgrowC, _, _⟩ := run_append_own_at (P := Tryz.prog) WB B 26 26 51 iM (.agg #[.int .i64 0, .string ⟨#[]⟩, .string ⟨#[]⟩, .int .i64 0]) 4 48 Tryz.underlying26 hiM hM0 hM1 hM2 rfl (by decide) _ _ _ HVB.out ⟨W2.drew.heap.size, 0, none⟩ 1 1 [.int .i64 v.f0, .string v.f1, .string v.f2, .int .i64 v.f3] rfl (by rw [hWB]; exact cells_new W2.drew _ _) (by intro u hu; simp at hu; rcases hu with rfl | rfl | rfl | rfl <;> rfl) (by unfold maxLen; omega) (by omega) (by rw [hWB]; have := HZ2.out; simp; omega)
  obtain ⟨pv, cv, hvv, _, _⟩ := own_slice hownC
  subst hvv
  refine At.step 7 (some 17) rfl rfl (by kernel_rfl) (by kernel_rfl) (fun u W => u = .slice pv (M.length + 1) cv ∧ W = WC) (gives_append (fun _ => by kernel_rfl) hrunC) ?_
  rintro u WC' ⟨rfl, hWC⟩
  subst hWC
  refine ⟨held_cons (.inl (by kernel_rfl)) (held_cons (.inl (by kernel_rfl)) (held_nil)), ?_⟩
  have hneM : some m ≠ (Value.slice pm M.length cm).ownBlock := fun e => own_obj HV2.out HM2.out e.symm
  have HMC : Hid (WC'.heap[m]? = some (mObj room next bf bd (.map (some bn)) (.slice pm M.length cm))) := (hgrowC.block _ (by rw [hWB]; have := lt_of_some HM2.out; simp; omega) hneM).trans (by rw [hWB]; exact (Below.heap_alloc _ _ _ (lt_of_some HM2.out)).trans HM2.out)
  obtain ⟨_, _, _, _, _, q5⟩ := mount_cell HMC.out
  have qf := mount_frozen HMC.out 5
  refine At.take 8 (some 18) (.pointer (some ⟨m, 0, none⟩)) rfl rfl (by kernel_rfl) (by kernel_rfl) (by kernel_rfl) (by kernel_rfl) (fun _ _ _ h => h) (yl_pure (by kernel_rfl) (fun _ => by kernel_rfl)) ?_
  refine At.take 9 (some 19) (.pointer (some ⟨m, 5, none⟩)) rfl rfl (by kernel_rfl) (by kernel_rfl) (by kernel_rfl) (by kernel_rfl) (fun _ _ _ h => h) (yl_pure (by kernel_rfl) (fun _ => by kernel_rfl)) ?_
  refine At.step 10 none rfl rfl (by kernel_rfl) (by kernel_rfl) (fun u W => u = undef ∧ W = WC'.setCell ⟨m, 5, none⟩ (.slice pv (M.length + 1) cv)) (gives_store (p := ⟨m, 5, none⟩) (x := .slice pv (M.length + 1) cv) (y := .slice pm M.length cm) (fun _ => by kernel_rfl) (by rfl) q5 qf) ?_
  rintro u WE ⟨rfl, hWE⟩
  refine ⟨held_cons (.inl (by kernel_rfl)) (held_cons (.inl (by kernel_rfl)) (held_nil)), ?_⟩
  refine At.done (by kernel_rfl) ?_
  have hfr2 : Fr (fun i => i = m ∨ (Value.slice pm M.length cm).ownBlock = some i) W2 WE := by
    have f0 : Fr (fun i => i = m ∨ (Value.slice pm M.length cm).ownBlock = some i) W2 WB := by rw [hWB]; exact ((Fr.refl _ _).drew).alloc _
    rw [hWE]
    exact (f0.grown hgrowC (fun j hj => .inl (.inr hj))).setCell _ (.inl (.inl rfl))
  have hbl : ∀ i, (i = m ∨ (Value.slice pm M.length cm).ownBlock = some i) → B ≤ i := fun i h => by
    rcases h with rfl | h
    · exact HBM.out
    · exact own_ge HV2.out i h
  have hno : ∀ {c : Array Value} {t : TypeId} {z : Nat × Nat} {i : Nat}, W2.heap[i]? = some (.cells c t z) → t ≠ 51 → t ≠ 95 → ¬ (i = m ∨ (Value.slice pm M.length cm).ownBlock = some i) := fun hi h1 h2 h => by
    rcases h with rfl | h
    · rw [HM2.out] at hi; simp only [mObj, Option.some.injEq, Obj.cells.injEq] at hi; exact h2 hi.2.1.symm
    · obtain ⟨_, ⟨e, _⟩ | ⟨g, cap, cur, e, _, hh, _⟩⟩ := HV2.out
      · rw [e] at h; cases h
      · rw [e] at h
        simp only [Value.ownBlock, Option.some.injEq] at h
        subst h
        rw [hh] at hi
        simp only [Option.some.injEq, Obj.cells.injEq] at hi
        exact h1 hi.2.1.symm
  have hnm : ∀ {k : TypeId} {R : Value → Option (DataW Unit × List MemPlace)} {b n : Nat} {D : DataW Unit}, W2.ownsMap Tryz.prog k R b n D → ¬ (b = m ∨ (Value.slice pm M.length cm).ownBlock = some b) := fun ho h => by
    rcases h with rfl | h
    · exact map_ne ho HM2.out rfl
    · obtain ⟨_, ⟨e, _⟩ | ⟨g, cap, cur, e, _, hh, _⟩⟩ := HV2.out
      · rw [e] at h; cases h
      · rw [e] at h
        simp only [Value.ownBlock, Option.some.injEq] at h
        subst h
        exact map_ne ho hh rfl
  have HT : Hid (MntO B WE m ⟨room, next, fs.map (·.1), D, M ++ [v]⟩) := by
    have hlen2 : (M ++ [v]).length = M.length + 1 := by simp
    refine ⟨bf, bd, .map (some bn), pv, cv, fs, _, rfl, ?_, HF2.out.keep hfr2 (hnm HF2.out.own) (fun p hp => hno (HF2.out.blk p hp) (by decide) (by decide)), hfr2.map HD2.out (hnm HD2.out), ?_, ⟨by rw [List.length_map]; exact hlen.1, by show D.length ≤ 1000; omega, by show (M ++ [v]).length ≤ 1000; omega⟩, HSD.out, fun z hz => ?_⟩
    · show WE.heap[m]? = some (mObj room next bf bd (.map (some bn)) (.slice pv (M ++ [v]).length cv))
      rw [hlen2, hWE]
      exact mObj_moves HMC.out
    · show WE.ownsRow B 51 4 (.slice pv (M ++ [v]).length cv) (M ++ [v]).length (rMove (M ++ [v]))
      rw [hlen2, hWE]
      have h1 : rMove (M ++ [v]) = rMove M ++ [.int .i64 v.f0, .string v.f1, .string v.f2, .int .i64 v.f3] := by simp [rMove, cMove]
      rw [h1]
      exact own_set_blk hownC fun j hj e => own_obj hownC HMC.out (by rw [hj]; exact congrArg some e)
    · rcases List.mem_append.1 hz with h | h
      · exact HSM.out z h
      · simp only [List.mem_singleton] at h
        rw [h]; exact HSZ.out
  have HBE : Hid (Below B w WE) := HB2.out.trans (hfr2.below hbl HZ2.out)
  simp only [Act.put, List.setIfInBounds_toArray, List.set_cons_zero, List.set_cons_succ]
  clear hWE hfr2 hbl hno hnm hownC hgrowC hrunC hWB n5 q5 qf j0 j1 j2 j3 hneM
  go_wp2
  go_end0
  exact ⟨⟨_, rfl⟩, HT.out, HBE.out⟩

end Go.Proofs.YtpgicnjhncaaeaaGreat
