/- A move done on a mount, by its contract. -/
import Derived.Test.YtpgicnjhncaaeaaGreatDiAdd
namespace Go.Proofs.YtpgicnjhncaaeaaGreat
open Go.RowKit Go.Maps
set_option linter.unusedVariables false

theorem cells4 {w : World} {b : Nat} {a0 a1 a2 a3 : Value} (h0 : w.cell? ⟨b, 0, none⟩ = some a0) (h1 : w.cell? ⟨b, 1, none⟩ = some a1) (h2 : w.cell? ⟨b, 2, none⟩ = some a2) (h3 : w.cell? ⟨b, 3, none⟩ = some a3) :
    ∀ j u, [a0, a1, a2, a3][j]? = some u → w.cell? ((⟨b, 0, none⟩ : Addr).add j) = some u := by
  intro j u h
  rw [Addr.add_mid, Nat.zero_add]
  rcases j with _ | _ | _ | _ | j
  · simp only [List.getElem?_cons_zero, Option.some.injEq] at h; rw [← h]; exact h0
  · simp only [List.getElem?_cons_succ, List.getElem?_cons_zero, Option.some.injEq] at h; rw [← h]; exact h1
  · simp only [List.getElem?_cons_succ, List.getElem?_cons_zero, Option.some.injEq] at h; rw [← h]; exact h2
  · simp only [List.getElem?_cons_succ, List.getElem?_cons_zero, Option.some.injEq] at h; rw [← h]; exact h3
  · simp at h

/-- A row's block is no mount. -/
theorem own_obj {w : World} {base : Nat} {size n m : Nat} {v : Value} {xs : List Value} {room next : Int} {bf bd : Nat} {vn vm : Value} (h : w.ownsRow base 51 size v n xs) (hm : w.heap[m]? = some (mObj room next bf bd vn vm)) : v.ownBlock ≠ some m := by
  intro hv
  obtain ⟨_, ⟨rfl, _⟩ | ⟨g, cap, cur, rfl, _, hh, _⟩⟩ := h
  · cases hv
  · simp only [Value.ownBlock, Option.some.injEq] at hv
    subst hv
    rw [hm] at hh
    simp [mObj] at hh

theorem mObj_moves {w : World} {m : Nat} {room next : Int} {bf bd : Nat} {vn vm u : Value} (h : w.heap[m]? = some (mObj room next bf bd vn vm)) : (w.setCell ⟨m, 5, none⟩ u).heap[m]? = some (mObj room next bf bd vn u) := by
  unfold mObj at *
  simp [World.setCell, Array.getElem?_modify, h]

set_option maxRecDepth 20000 in
set_option maxHeartbeats 2000000 in
theorem move_c (x : S_Disk) (v : S_Move) (B m bf bd bn : Nat) (vm : Value) (bs : List Nat) (w : World) (hx : okX x) (hM : Mnt B w m x bf bd bn vm bs) (hnv : nameB v.f1 = true) (hsv : sMove v) (hgv : gMove v) (hsz : v.f1.size ≤ 1048576 ∧ v.f2.size ≤ 1048576) :
    Calls Tryz.prog 97 #[.pointer (some ⟨m, 0, none⟩), .agg #[.int .i64 v.f0, .string v.f1, .string v.f2, .int .i64 v.f3]] w fun e w' => (∃ u, e = .returned u) ∧ MntT B w' m ⟨x.f0, x.f1, x.f2, x.f3, x.f4 ++ [v]⟩ ∧ Below B w w' := by
  obtain ⟨iM, hiM, hM0, hM1, hM2⟩ := info_parts infoMove
  have HX : Hid (okX x) := hx
  have hBs := mnt_size hM
  obtain ⟨pm, cm, hvm, _, _⟩ := own_slice hM.2.2.2.2.2.1
  subst hvm
  have HM : Hid (Mnt B w m x bf bd bn (.slice pm x.f4.length cm) bs) := hM
  have HNV : Hid (nameB v.f1 = true) := hnv
  have HSV : Hid (sMove v) := hsv
  have HGV : Hid (gMove v) := hgv
  have HSZ : Hid (v.f1.size ≤ 1048576 ∧ v.f2.size ≤ 1048576) := hsz
  have HLN : Hid ((nms x.f3 x.f4).length ≤ 1048576) := by have h1 := nms_len x.f3 x.f4; have h2 := okX_dir hx; have h3 := hx.1.2.2.2; show _ ≤ _; omega
  have hl4 : x.f4.length ≤ 20 := hx.1.2.2.2
  clear hx hM hnv hsv hgv hsz
  go_enter Tryz.func97, Tryz.ntmps97
  go_upto_region 1 with fail
  refine wp_genD (fun W => Hid (Mnt B W m x bf bd bn (.slice pm x.f4.length cm) bs) ∧ Hid (W.heap[w.heap.size]? = some (.cells #[.int .i64 v.f0, .string v.f1, .string v.f2, .int .i64 v.f3] 51)) ∧ Hid (Below w.heap.size w W)) ⟨mnt_bel HM.out ((Below.refl _ _).alloc (Nat.le_refl _) _), alloc_at _ _, (Below.refl _ _).alloc (Nat.le_refl _) _⟩ ?_
  rintro W1 ⟨HM1, HX1, HB1⟩
  obtain ⟨i0, i1, i2, i3, _⟩ := box4 HX1.out
  obtain ⟨_, _, _, _, m4, _⟩ := mount_cell HM1.out.2.2.2.2.1
  have HNW : Hid (W1.drew.ownsMap Tryz.prog 9 (plainElem Tryz.prog 3) bn (nms x.f3 x.f4).length (encL (nms x.f3 x.f4))) := (mnt_drew HM1.out).2.2.2.1
  refine wp_region_L [⟨5, fun W => W.cell? ⟨m, 4, none⟩ = some (.map (some bn))⟩, ⟨5, fun W => ∀ j u, ([.int .i64 v.f0, .string v.f1, .string v.f2, .int .i64 v.f3] : List Value)[j]? = some u → W.cell? ((⟨w.heap.size, 0, none⟩ : Addr).add j) = some u⟩] (by kernel_rfl) (fun f hf => by
      simp only [List.mem_cons, List.not_mem_nil, or_false] at hf
      rcases hf with rfl | rfl
      · exact m4
      · exact cells4 i0 i1 i2 i3
      ) ?_
  refine At.take 0 (some 4) (.pointer (some ⟨m, 0, none⟩)) rfl rfl (by kernel_rfl) (by kernel_rfl) (by kernel_rfl) (by kernel_rfl) (fun _ _ _ h => h) (yl_pure (by kernel_rfl) (fun _ => by kernel_rfl)) ?_
  refine At.take 1 (some 5) (.pointer (some ⟨m, 0, none⟩)) rfl rfl (by kernel_rfl) (by kernel_rfl) (by kernel_rfl) (by kernel_rfl) (fun _ _ _ h => h) (yl_pure (by kernel_rfl) (fun _ => by kernel_rfl)) ?_
  refine At.take 2 (some 6) (.pointer (some ⟨m, 4, none⟩)) rfl rfl (by kernel_rfl) (by kernel_rfl) (by kernel_rfl) (by kernel_rfl) (fun _ _ _ h => h) (yl_pure (by kernel_rfl) (fun _ => by kernel_rfl)) ?_
  refine At.take 3 (some 7) (.map (some bn)) rfl rfl (by kernel_rfl) (by kernel_rfl) (by kernel_rfl) (by kernel_rfl) (fun _ _ _ h => h) (yl_load 5 ⟨m, 4, none⟩ (.map (some bn)) (List.mem_cons_self) [5] (by kernel_rfl) rfl (by kernel_rfl) (fun _ => by kernel_rfl)) ?_
  refine At.take 4 (some 8) (.agg #[.int .i64 v.f0, .string v.f1, .string v.f2, .int .i64 v.f3]) rfl rfl (by kernel_rfl) (by kernel_rfl) (by kernel_rfl) (by kernel_rfl) (fun _ _ _ h => h) (yl_loads 5 ⟨w.heap.size, 0, none⟩ [.int .i64 v.f0, .string v.f1, .string v.f2, .int .i64 v.f3] (List.mem_cons_of_mem _ (List.mem_cons_self)) [5] (by kernel_rfl) rfl (by kernel_rfl) (fun _ => by kernel_rfl)) ?_
  refine At.step 5 (some 9) rfl rfl (by kernel_rfl) (by kernel_rfl) (fun u W => W.ownsMap Tryz.prog 9 (plainElem Tryz.prog 3) bn (ap (nms x.f3 x.f4) v).1.length (encL (ap (nms x.f3 x.f4) v).1) ∧ Fr (fun i => i = bn) W1.drew W) (gives_call (by kernel_rfl) ((am_c bn (nms x.f3 x.f4) v W1.drew HNW.out HLN.out HSV.out HGV.out HNV.out).mono fun e w' ⟨he, ho, hf⟩ => ⟨_, he, ho, hf⟩)) ?_
  rintro u W2 ⟨hoN, hfr⟩
  refine ⟨held_cons (.inl (by kernel_rfl)) (held_cons (.inl (by kernel_rfl)) (held_nil)), ?_⟩
  refine At.done (by kernel_rfl) ?_
  have hfr1 : Fr (fun i => i = bn) W1 W2 := ⟨hfr.os, hfr.tape, hfr.output, hfr.size, hfr.block⟩
  obtain ⟨hl, hFl, hd, hn, hm, hv, ⟨q1, q2, q3⟩, hBm, hBd, hBn⟩ := HM1.out
  have HF2 : Hid (Fls B W2 bf (x.f2.zip bs) (fun i => lnk x.f3 i || mad x.f4 i)) := hFl.keep hfr1 (fun e => q3 e.symm) (fun p hp e => map_ne hn (hFl.blk p hp) e)
  have HD2 : Hid (W2.ownsMap Tryz.prog 9 (plainElem Tryz.prog 3) bd x.f3.length (encL x.f3)) := hfr1.map hd (fun e => q2 e.symm)
  have HM2 : Hid (W2.heap[m]? = some (mObj x.f0 x.f1 bf bd (.map (some bn)) (.slice pm x.f4.length cm))) := hfr1.at hm (fun e => map_ne hn hm e)
  have HV2 : Hid (W2.ownsRow B 51 4 (.slice pm x.f4.length cm) x.f4.length (rMove x.f4)) := by
    obtain ⟨h1, ⟨h2, h3⟩ | ⟨g, cap, cur, h2, hg, hh, r⟩⟩ := hv
    · exact ⟨h1, .inl ⟨h2, h3⟩⟩
    · exact ⟨h1, .inr ⟨g, cap, cur, h2, hg, hfr1.at hh (fun e => map_ne hn hh e), r⟩⟩
  have HX2 : Hid (W2.heap[w.heap.size]? = some (.cells #[.int .i64 v.f0, .string v.f1, .string v.f2, .int .i64 v.f3] 51)) := hfr1.at HX1.out (fun e => map_ne hn HX1.out e)
  have HB2 : Hid (Below B w W2) := (HB1.out.mono hBs).trans (hfr1.below (fun i e => by rw [e]; exact hBn) (Nat.le_trans hBs HB1.out.size))
  have HZ2 : Hid (B ≤ W2.heap.size) := Nat.le_trans hBs HB2.out.size
  have HBM : Hid (B ≤ m) := hBm
  obtain ⟨j0, j1, j2, j3, _⟩ := box4 HX2.out
  obtain ⟨_, _, _, _, _, n5⟩ := mount_cell HM2.out
  simp only [Act.put, List.setIfInBounds_toArray, List.set_cons_zero, List.set_cons_succ]
  clear hfr hfr1 hoN hFl hd hn hm hv i0 i1 i2 i3 m4 HNW HM1 HX1 HB1 q1 q2 q3 hBm hBd hBn hl
  go_upto_region 2 with fail
  refine wp_region_L [⟨7, fun W => W.cell? ⟨m, 5, none⟩ = some (.slice pm x.f4.length cm)⟩, ⟨6, fun W => ∀ j u, ([.int .i64 v.f0, .string v.f1, .string v.f2, .int .i64 v.f3] : List Value)[j]? = some u → W.cell? ((⟨w.heap.size, 0, none⟩ : Addr).add j) = some u⟩] (by kernel_rfl) (fun f hf => by
      simp only [List.mem_cons, List.not_mem_nil, or_false] at hf
      rcases hf with rfl | rfl
      · exact n5
      · exact cells4 j0 j1 j2 j3
      ) ?_
  refine At.take 0 (some 10) (.pointer (some ⟨m, 0, none⟩)) rfl rfl (by kernel_rfl) (by kernel_rfl) (by kernel_rfl) (by kernel_rfl) (fun _ _ _ h => h) (yl_pure (by kernel_rfl) (fun _ => by kernel_rfl)) ?_
  refine At.take 1 (some 11) (.pointer (some ⟨m, 0, none⟩)) rfl rfl (by kernel_rfl) (by kernel_rfl) (by kernel_rfl) (by kernel_rfl) (fun _ _ _ h => h) (yl_pure (by kernel_rfl) (fun _ => by kernel_rfl)) ?_
  refine At.take 2 (some 12) (.pointer (some ⟨m, 0, none⟩)) rfl rfl (by kernel_rfl) (by kernel_rfl) (by kernel_rfl) (by kernel_rfl) (fun _ _ _ h => h) (yl_pure (by kernel_rfl) (fun _ => by kernel_rfl)) ?_
  refine At.take 3 (some 13) (.pointer (some ⟨m, 5, none⟩)) rfl rfl (by kernel_rfl) (by kernel_rfl) (by kernel_rfl) (by kernel_rfl) (fun _ _ _ h => h) (yl_pure (by kernel_rfl) (fun _ => by kernel_rfl)) ?_
  refine At.take 4 (some 14) (.slice pm x.f4.length cm) rfl rfl (by kernel_rfl) (by kernel_rfl) (by kernel_rfl) (by kernel_rfl) (fun _ _ _ h => h) (yl_load 7 ⟨m, 5, none⟩ (.slice pm x.f4.length cm) (List.mem_cons_self) [7] (by kernel_rfl) rfl (by kernel_rfl) (fun _ => by kernel_rfl)) ?_
  refine At.take 5 (some 15) (.agg #[.int .i64 v.f0, .string v.f1, .string v.f2, .int .i64 v.f3]) rfl rfl (by kernel_rfl) (by kernel_rfl) (by kernel_rfl) (by kernel_rfl) (fun _ _ _ h => h) (yl_loads 6 ⟨w.heap.size, 0, none⟩ [.int .i64 v.f0, .string v.f1, .string v.f2, .int .i64 v.f3] (List.mem_cons_of_mem _ (List.mem_cons_self)) [6] (by kernel_rfl) rfl (by kernel_rfl) (fun _ => by kernel_rfl)) ?_
  refine At.step 6 (some 16) rfl rfl (by kernel_rfl) (by kernel_rfl) (fun u W => u = .slice (some ⟨W2.drew.heap.size, 0, none⟩) 1 1 ∧ W = W2.drew.alloc (.cells #[.int .i64 v.f0, .string v.f1, .string v.f2, .int .i64 v.f3] 51)) (gives_run (by kernel_rfl)) ?_
  rintro u WB ⟨rfl, hWB⟩
  refine ⟨by subst hWB; exact held_cons (.inr (cell_alloc (n5))) (held_cons (.inl (by kernel_rfl)) (held_nil)), ?_⟩
  have HVB : Hid (WB.ownsRow B 51 4 (.slice pm x.f4.length cm) x.f4.length (rMove x.f4)) := by rw [hWB]; exact World.ownsRow.alloc (w := W2.drew) HV2.out _
  obtain ⟨v', WC, hrunC, hownC, hgrowC, _, _⟩ := run_append_own_at (P := Tryz.prog) WB B 26 26 51 iM (.agg #[.int .i64 0, .string ⟨#[]⟩, .string ⟨#[]⟩, .int .i64 0]) 4 48 Tryz.underlying26 hiM hM0 hM1 hM2 rfl (by decide) _ _ _ HVB.out ⟨W2.drew.heap.size, 0, none⟩ 1 1 [.int .i64 v.f0, .string v.f1, .string v.f2, .int .i64 v.f3] rfl (by rw [hWB]; exact cells_new W2.drew _ _) (by intro u hu; simp at hu; rcases hu with rfl | rfl | rfl | rfl <;> rfl) (by unfold maxLen; omega) (by omega) (by rw [hWB]; have := HZ2.out; simp; omega)
  obtain ⟨pv, cv, hvv, _, _⟩ := own_slice hownC
  subst hvv
  refine At.step 7 (some 17) rfl rfl (by kernel_rfl) (by kernel_rfl) (fun u W => u = .slice pv (x.f4.length + 1) cv ∧ W = WC) (gives_append (fun _ => by kernel_rfl) hrunC) ?_
  rintro u WC' ⟨rfl, hWC⟩
  subst hWC
  refine ⟨held_cons (.inl (by kernel_rfl)) (held_cons (.inl (by kernel_rfl)) (held_nil)), ?_⟩
  have hneM : some m ≠ (Value.slice pm x.f4.length cm).ownBlock := fun e => own_obj HV2.out HM2.out e.symm
  have HMC : Hid (WC'.heap[m]? = some (mObj x.f0 x.f1 bf bd (.map (some bn)) (.slice pm x.f4.length cm))) := (hgrowC.block _ (by rw [hWB]; have := lt_of_some HM2.out; simp; omega) hneM).trans (by rw [hWB]; exact (Below.heap_alloc _ _ _ (lt_of_some HM2.out)).trans HM2.out)
  obtain ⟨_, _, _, _, _, q5⟩ := mount_cell HMC.out
  have qf := mount_frozen HMC.out 5
  refine At.take 8 (some 18) (.pointer (some ⟨m, 0, none⟩)) rfl rfl (by kernel_rfl) (by kernel_rfl) (by kernel_rfl) (by kernel_rfl) (fun _ _ _ h => h) (yl_pure (by kernel_rfl) (fun _ => by kernel_rfl)) ?_
  refine At.take 9 (some 19) (.pointer (some ⟨m, 5, none⟩)) rfl rfl (by kernel_rfl) (by kernel_rfl) (by kernel_rfl) (by kernel_rfl) (fun _ _ _ h => h) (yl_pure (by kernel_rfl) (fun _ => by kernel_rfl)) ?_
  refine At.step 10 none rfl rfl (by kernel_rfl) (by kernel_rfl) (fun u W => u = undef ∧ W = WC'.setCell ⟨m, 5, none⟩ (.slice pv (x.f4.length + 1) cv)) (gives_store (p := ⟨m, 5, none⟩) (x := .slice pv (x.f4.length + 1) cv) (y := .slice pm x.f4.length cm) (fun _ => by kernel_rfl) (by rfl) q5 qf) ?_
  rintro u WE ⟨rfl, hWE⟩
  refine ⟨held_cons (.inl (by kernel_rfl)) (held_cons (.inl (by kernel_rfl)) (held_nil)), ?_⟩
  refine At.done (by kernel_rfl) ?_
  have hfr2 : Fr (fun i => i = m ∨ (Value.slice pm x.f4.length cm).ownBlock = some i) W2 WE := by
    have f0 : Fr (fun i => i = m ∨ (Value.slice pm x.f4.length cm).ownBlock = some i) W2 WB := by rw [hWB]; exact ((Fr.refl _ _).drew).alloc _
    rw [hWE]
    exact (f0.grown hgrowC (fun j hj => .inl (.inr hj))).setCell _ (.inl (.inl rfl))
  have hbl : ∀ i, (i = m ∨ (Value.slice pm x.f4.length cm).ownBlock = some i) → B ≤ i := fun i h => by
    rcases h with rfl | h
    · exact HBM.out
    · exact own_ge HV2.out i h
  have hno : ∀ {c : Array Value} {t : TypeId} {z : Nat × Nat} {i : Nat}, W2.heap[i]? = some (.cells c t z) → t ≠ 51 → t ≠ 95 → ¬ (i = m ∨ (Value.slice pm x.f4.length cm).ownBlock = some i) := fun hi h1 h2 h => by
    rcases h with rfl | h
    · rw [HM2.out] at hi; simp only [mObj, Option.some.injEq, Obj.cells.injEq] at hi; exact h2 hi.2.1.symm
    · obtain ⟨_, ⟨e, _⟩ | ⟨g, cap, cur, e, _, hh, _⟩⟩ := HV2.out
      · rw [e] at h; cases h
      · rw [e] at h
        simp only [Value.ownBlock, Option.some.injEq] at h
        subst h
        rw [hh] at hi
        simp only [Option.some.injEq, Obj.cells.injEq] at hi
        exact h1 hi.2.1.symm
  have hnm : ∀ {k : TypeId} {R : Value → Option (DataW Unit × List MemPlace)} {b n : Nat} {D : DataW Unit}, W2.ownsMap Tryz.prog k R b n D → ¬ (b = m ∨ (Value.slice pm x.f4.length cm).ownBlock = some b) := fun ho h => by
    rcases h with rfl | h
    · exact map_ne ho HM2.out rfl
    · obtain ⟨_, ⟨e, _⟩ | ⟨g, cap, cur, e, _, hh, _⟩⟩ := HV2.out
      · rw [e] at h; cases h
      · rw [e] at h
        simp only [Value.ownBlock, Option.some.injEq] at h
        subst h
        exact map_ne ho hh rfl
  have HT : Hid (MntT B WE m ⟨x.f0, x.f1, x.f2, x.f3, x.f4 ++ [v]⟩) := by
    have hT : MntT B w m x := mnt_T HX.out HM.out
    obtain ⟨_, _, _, _, _, _, _, _, _, _, _, _, ⟨t2, t3, t4⟩, s3, s4⟩ := hT
    have hlen : (x.f4 ++ [v]).length = x.f4.length + 1 := by simp
    refine ⟨bf, bd, .map (some bn), pv, cv, x.f2.zip bs, _, by rw [List.map_fst_zip (by have := HM.out.1; omega)], ?_, HF2.out.keep hfr2 (hnm HF2.out.own) (fun p hp => hno (HF2.out.blk p hp) (by decide) (by decide)), hfr2.map HD2.out (hnm HD2.out), ?_, ⟨t2, t3, by show (x.f4 ++ [v]).length ≤ 1000; omega⟩, s3, fun z hz => ?_⟩
    · show WE.heap[m]? = some (mObj x.f0 x.f1 bf bd (.map (some bn)) (.slice pv (x.f4 ++ [v]).length cv))
      rw [hlen, hWE]
      exact mObj_moves HMC.out
    · show RowR WE (.slice pv (x.f4 ++ [v]).length cv) (x.f4 ++ [v]).length 4 (rMove (x.f4 ++ [v]))
      rw [hlen, hWE]
      have h1 : rMove (x.f4 ++ [v]) = rMove x.f4 ++ [.int .i64 v.f0, .string v.f1, .string v.f2, .int .i64 v.f3] := by simp [rMove, cMove]
      rw [h1]
      refine RowR.own (own_set_blk hownC fun j hj e => own_obj hownC HMC.out (by rw [hj]; exact congrArg some e))
    · rcases List.mem_append.1 hz with h | h
      · exact s4 z h
      · simp only [List.mem_singleton] at h
        rw [h]; exact HSZ.out
  have HBE : Hid (Below B w WE) := HB2.out.trans (hfr2.below hbl HZ2.out)
  simp only [Act.put, List.setIfInBounds_toArray, List.set_cons_zero, List.set_cons_succ]
  clear hWE hfr2 hbl hno hnm hownC hgrowC hrunC hWB n5 q5 qf j0 j1 j2 j3 hneM
  go_wp2
  go_end0
  exact ⟨⟨_, rfl⟩, HT.out, HBE.out⟩

end Go.Proofs.YtpgicnjhncaaeaaGreat
