/- The specification's word on a disk, by its contract. -/
import Derived.Test.YtmknplpcpmkhiaaGreatDiNew
import Derived.Test.YtmknplpcpmkhiaaGreatRgTold
import Derived.Deep.Light
import Derived.Deep.CutRange
namespace Go.Proofs.YtmknplpcpmkhiaaGreat
open Go.RowKit Go.Maps
set_option linter.unusedVariables false

theorem okI_pos {next : Int} {L : List S_Inode} : ∀ k, (∀ j (hj : j < L.length), j < k → iOk next (lastI L j) L[j]) → k ≤ L.length → 0 ≤ lastI L k
  | 0, _, _ => by simp [lastI]
  | k + 1, h, hk => by
    have ih := okI_pos k (fun j hj hjk => h j hj (by omega)) (by omega)
    rw [lastI_succ L k (by omega)]
    have := (h k (by omega) (by omega)).1
    omega

theorem okX_dir {x : S_Disk} (h : okX x) : x.f3.length ≤ 10 := by
  have := okD_len h.2.2.1
  have := h.1.2.2.1
  omega

theorem zsum_cons {α : Type} (f : α → Nat) (a : α) (L : List α) : ∀ k, zsum f (a :: L) (k + 1) = f a + zsum f L k
  | 0 => by simp [zsum]
  | k + 1 => by
    have := zsum_cons f a L k
    rw [show zsum f (a :: L) (k + 1 + 1) = zsum f (a :: L) (k + 1) + (((a :: L)[k + 1]?).map f).getD 0 from rfl, this]
    simp only [List.getElem?_cons_succ]
    show _ = f a + (zsum f L k + _)
    omega

theorem totI_z : ∀ L : List S_Inode, zsum zInode L L.length = totI L
  | [] => rfl
  | y :: L => by
    rw [List.length_cons, zsum_cons, totI_z L]
    rfl

theorem hasF_idx (I : List S_Inode) (i : Int) : hasF (fs0 I) i = !decide (idx (fun y : S_Inode => decide (y.f0 = i)) I < 0) := by
  rw [← idx_any]
  unfold hasF fs0
  rw [List.any_map]
  rfl

theorem RowR.drewN {w : World} {v : Value} {n size : Nat} {xs : List Value} (h : RowR w v n size xs) (k : Nat) : RowR (w.drewN k) v n size xs := h.keep (bel_drewN (Below.refl w.heap.size w) k) (Nat.le_refl _)

theorem rowCut {w : World} {b off cap n size : Nat} {xs : List Value} (h : RowR w (.slice (some ⟨b, off, none⟩) n cap) n size xs) (k : Nat) (hk : k ≤ n) : RowR w (.slice (some ⟨b, off, none⟩) k cap) k size (xs.take (k * size)) := by
  obtain ⟨h1, p, cap', hv, hc⟩ := h
  simp only [Value.slice.injEq, true_and] at hv
  obtain ⟨rfl, rfl⟩ := hv
  have hm : k * size ≤ n * size := Nat.mul_le_mul_right _ hk
  refine ⟨by rw [List.length_take]; omega, _, _, rfl, fun j hj => ?_⟩
  obtain ⟨b', off', e, hb, hcell⟩ := hc j (by omega)
  exact ⟨b', off', e, hb, by rw [hcell, List.getElem?_take_of_lt hj]⟩

theorem rLink_take (L : List S_Link) (k : Nat) (hk : k ≤ L.length) : (rLink L).take (k * 2) = rLink (L.take k) := by
  have e : rLink L = rLink (L.take k) ++ rLink (L.drop k) := by
    unfold rLink
    rw [← List.flatMap_append, List.take_append_drop]
  rw [e, List.take_left' (by rw [rLink_len, List.length_take]; omega)]

theorem rMove_take (L : List S_Move) (k : Nat) (hk : k ≤ L.length) : (rMove L).take (k * 4) = rMove (L.take k) := by
  have e : rMove L = rMove (L.take k) ++ rMove (L.drop k) := by
    unfold rMove
    rw [← List.flatMap_append, List.take_append_drop]
  rw [e, List.take_left' (by rw [rMove_len, List.length_take]; omega)]

/-- One way out, and it is known. -/
def Mid (A : Act) (W : World) : Exit → Act → World → Prop
  | .normal, a, w => a = A ∧ w = W
  | _, _, _ => False

theorem wp_mid {P : Program} {c : Code} {Q : Exit → Act → World → Prop} {a : Act} {w : World} {A : Act} {W : World} (hr : Code.wp P c (Mid A W) a w) (hk : Q .normal A W) : Code.wp P c Q a w :=
  Code.wp_mono (fun e a' w' h => by cases e <;> first | exact False.elim h | (obtain ⟨rfl, rfl⟩ := h; exact hk)) hr

/-- An append that hands something back. -/
theorem wpList_append_to {P : Program} {ops : Array Oper} {rest : List Oper} {op : Oper} {a : Act} {w : World} {Q : Exit → Act → World → Prop} (hgd : op.guard = none) (s y : Operand) (t : TypeId)
    (ho : op.op = .call { callee := .builtin .append, args := #[s, y], argTypes := #[t, t] }) (v u : Value) (hs : a.eval s = v) (hx : a.eval y = u) (v' : Value) (w' : World)
    (hrun : (Builtin.append_ #[t, t] op.type #[v, u]).run P w = .ok v' w') (h : wpList P ops Q rest (a.put op.dst v') w') : wpList P ops Q (op :: rest) a w := by
  refine wpList_plain hgd fun K hK => ?_
  unfold Oper.wp execOp
  simp only [ho, resolve, invoke, builtin, Sem.run_bind, Sem.run_pure, Result.andThen_ok, List.map_toArray, List.map_cons, List.map_nil, hs, hx, hrun]
  exact hK _ _ h

theorem cells5 {w : World} {b : Nat} {a0 a1 a2 a3 a4 : Value} (h0 : w.cell? ⟨b, 0, none⟩ = some a0) (h1 : w.cell? ⟨b, 1, none⟩ = some a1) (h2 : w.cell? ⟨b, 2, none⟩ = some a2) (h3 : w.cell? ⟨b, 3, none⟩ = some a3) (h4 : w.cell? ⟨b, 4, none⟩ = some a4) :
    ∀ j u, [a0, a1, a2, a3, a4][j]? = some u → w.cell? ((⟨b, 0, none⟩ : Addr).add j) = some u := by
  intro j u h
  rw [Addr.add_mid, Nat.zero_add]
  rcases j with _ | _ | _ | _ | _ | j
  · simp only [List.getElem?_cons_zero, Option.some.injEq] at h; rw [← h]; exact h0
  · simp only [List.getElem?_cons_succ, List.getElem?_cons_zero, Option.some.injEq] at h; rw [← h]; exact h1
  · simp only [List.getElem?_cons_succ, List.getElem?_cons_zero, Option.some.injEq] at h; rw [← h]; exact h2
  · simp only [List.getElem?_cons_succ, List.getElem?_cons_zero, Option.some.injEq] at h; rw [← h]; exact h3
  · simp only [List.getElem?_cons_succ, List.getElem?_cons_zero, Option.some.injEq] at h; rw [← h]; exact h4
  · simp at h

theorem app_links (p : Option Addr) (L : List S_Link) (cap : Nat) (w : World) (hn : L.length ≤ 1048576) (hr : RowR w (.slice p L.length cap) L.length 2 (rLink L)) :
    ∃ v' w', (Builtin.append_ #[25, 25] 25 #[.slice (some ⟨w.heap.size, 0, none⟩) 0 0, .slice p L.length cap]).run Tryz.prog (w.alloc (.cells #[] 49)) = .ok v' w' ∧ RowR w' v' L.length 2 (rLink L) ∧ Below w.heap.size w w' := by
  have hb0 : Below w.heap.size w (w.alloc (.cells #[] 49)) := (Below.refl _ _).alloc (Nat.le_refl _) _
  rcases Nat.eq_zero_or_pos L.length with h0 | h0
  · have e : L = [] := List.eq_nil_of_length_eq_zero h0
    subst e
    refine ⟨.slice (some ⟨w.heap.size, 0, none⟩) 0 0, _, ?_, ⟨rfl, _, 0, rfl, fun j hj => by simp at hj⟩, hb0⟩
    cases p with
    | none => exact append_nil_run _ _ _
    | some a => exact append_empty_run _ _ _ a
  · obtain ⟨i0, hi, hz0, hz1, hz2⟩ := info_parts infoLink
    obtain ⟨b, off, cap', hv, hb, hc⟩ := hr.some h0 (by decide)
    simp only [Value.slice.injEq, true_and] at hv
    obtain ⟨rfl, rfl⟩ := hv
    have HO0 := World.ownsRow_made (base := w.heap.size) (e := 49) (size := 2) w #[] 0 (by simp) (by decide) (by simp)
    obtain ⟨v', w', hrun, r1, r2, _⟩ := run_append_own (P := Tryz.prog) (w.alloc (.cells #[] 49)) w.heap.size 25 25 49 i0 (.agg #[.string ⟨#[]⟩, .int .i64 0]) 2 24 Tryz.underlying25 hi hz0 hz1 hz2 rfl (by decide) _ _ _ HO0 ⟨b, off, none⟩ L.length cap (rLink L) (rLink_len _) (fun j u hj => by
        have hjl : j < L.length * 2 := by
          rcases Nat.lt_or_ge j (L.length * 2) with h | h
          · exact h
          · rw [List.getElem?_eq_none (by rw [rLink_len]; exact h)] at hj; simp at hj
        rw [Addr.add_mid, World.cell?_alloc_lt _ _ ⟨b, off + j, none⟩ hb, hc j hjl]
        exact hj) (fun u hu => by
        unfold rLink at hu
        obtain ⟨y, _, hy⟩ := List.mem_flatMap.1 hu
        simp [cLink] at hy
        rcases hy with rfl | rfl <;> rfl) (by unfold maxLen; omega) (by omega) (by simp)
    exact ⟨v', w', hrun, by have := RowR.own r1; simpa using this, hb0.grown r2 (by simp) (fun k hk => by simp only [Value.ownBlock, Option.some.injEq] at hk; omega)⟩

set_option maxRecDepth 20000 in
set_option maxHeartbeats 8000000 in
theorem specOk_c (x : S_Disk) (p2 p3 p4 : Option Addr) (c2 c3 c4 : Nat) (w : World) (hb : Bnd x) (hr : RdDisk w x (.slice p2 x.f2.length c2) (.slice p3 x.f3.length c3) (.slice p4 x.f4.length c4)) (hc3 : x.f3.length ≤ c3) (hc4 : x.f4.length ≤ c4) :
    Calls Tryz.prog 20 #[.agg #[.int .i64 x.f0, .int .i64 x.f1, .slice p2 x.f2.length c2, .slice p3 x.f3.length c3, .slice p4 x.f4.length c4]] w (DoR x w) := by
  obtain ⟨hl2, hl4⟩ := hb.len
  have hl3 : x.f3.length ≤ 1048576 := by have := hb.dir; omega
  have HB : Hid (Bnd x) := hb
  obtain ⟨W0, hW0⟩ : ∃ W, W = w.alloc (.cells #[.int .i64 x.f0, .int .i64 x.f1, .slice p2 x.f2.length c2, .slice p3 x.f3.length c3, .slice p4 x.f4.length c4] 28) := ⟨_, rfl⟩
  have HW0 : Hid (w.alloc (.cells #[.int .i64 x.f0, .int .i64 x.f1, .slice p2 x.f2.length c2, .slice p3 x.f3.length c3, .slice p4 x.f4.length c4] 28) = W0) := hW0.symm
  have HS0 : Hid (W0.heap.size = w.heap.size + 1) := by show _ = _; rw [hW0]; simp
  have HB0 : Hid (Below w.heap.size w W0) := by rw [hW0]; exact (Below.refl _ _).alloc (Nat.le_refl _) _
  have HR0 : Hid (RdDisk W0 x (.slice p2 x.f2.length c2) (.slice p3 x.f3.length c3) (.slice p4 x.f4.length c4)) := hr.keep HB0.out (Nat.le_refl _)
  have HBX : Hid (∀ W', Below (w.heap.size + 1) W0 W' → W'.cell? ⟨w.heap.size, 0, none⟩ = some (.int .i64 x.f0) ∧ W'.cell? ⟨w.heap.size, 1, none⟩ = some (.int .i64 x.f1) ∧ W'.cell? ⟨w.heap.size, 2, none⟩ = some (.slice p2 x.f2.length c2) ∧ W'.cell? ⟨w.heap.size, 3, none⟩ = some (.slice p3 x.f3.length c3) ∧ W'.cell? ⟨w.heap.size, 4, none⟩ = some (.slice p4 x.f4.length c4)) := fun W' hbel => by
    have hk : W'.heap[w.heap.size]? = some (.cells #[.int .i64 x.f0, .int .i64 x.f1, .slice p2 x.f2.length c2, .slice p3 x.f3.length c3, .slice p4 x.f4.length c4] 28) := by rw [hbel.block _ (Nat.lt_succ_self _), hW0]; exact alloc_at _ _
    exact (disk_cell hk).1
  have HRD : Hid (∀ W', Below (w.heap.size + 1) W0 W' → RdDisk W' x (.slice p2 x.f2.length c2) (.slice p3 x.f3.length c3) (.slice p4 x.f4.length c4)) := fun W' hbel => HR0.out.keep hbel (by rw [HS0.out]; exact Nat.le_refl _)
  have HDN : Hid (∀ W', Below (w.heap.size + 1) W0 W' → Below w.heap.size w W') := fun W' hbel => HB0.out.trans (hbel.mono (Nat.le_succ _))
  have HLN : Hid (LnDisk x 1048576) := ⟨hl2, hl3, hl4⟩
  clear hW0 hr hb
  go_enter Tryz.func20, Tryz.ntmps20
  by_cases g1 : 0 ≤ x.f0 ∧ x.f0 ≤ 1048576
  case neg =>
    have HE : Hid (¬ okX x) := fun h => g1 h.1.1
    have HG : Hid (¬ (0 ≤ x.f0 ∧ x.f0 ≤ 1048576)) := g1
    clear g1
    go_wp2_with fail
    rw [HW0.out]
    refine (in_no x.f0 0 1048576 _ (by have := HG.out; omega)).mono ?_
    rintro e w1 ⟨rfl, hw⟩
    replace hw := hw.symm
    subst hw
    go_wp2
    go_ret
    exact ⟨.inr ⟨HE.out, rfl⟩, HB0.out⟩
  go_wp2_with fail
  rw [HW0.out]
  obtain ⟨e0, e1, e2, e3, e4⟩ := HBX.out W0 (Below.refl _ _)
  refine (in_yes x.f0 0 1048576 _ g1.1 g1.2).mono ?_
  rintro e w1 ⟨rfl, hw⟩
  replace hw := hw.symm
  subst hw
  by_cases g2 : 1 ≤ x.f1 ∧ x.f1 ≤ 1000000
  case neg =>
    have HE : Hid (¬ okX x) := fun h => g2 h.1.2.1
    have HG : Hid (¬ (1 ≤ x.f1 ∧ x.f1 ≤ 1000000)) := g2
    clear g2
    go_wp2_with fail
    refine (in_no x.f1 1 1000000 _ (by have := HG.out; omega)).mono ?_
    rintro e w1 ⟨rfl, hw⟩
    replace hw := hw.symm
    subst hw
    go_wp2
    go_ret
    exact ⟨.inr ⟨HE.out, rfl⟩, HB0.out⟩
  go_wp2_with fail
  refine (in_yes x.f1 1 1000000 _ g2.1 g2.2).mono ?_
  rintro e w1 ⟨rfl, hw⟩
  replace hw := hw.symm
  subst hw
  by_cases g3 : (10 : Int) < x.f2.length
  · have HE : Hid (¬ okX x) := fun h => by have := h.1.2.2.1; omega
    go_wp2
    go_ret
    exact ⟨.inr ⟨HE.out, rfl⟩, HB0.out⟩
  by_cases g4 : (20 : Int) < x.f4.length
  · have HE : Hid (¬ okX x) := fun h => by have := h.1.2.2.2; omega
    go_wp2
    go_ret
    exact ⟨.inr ⟨HE.out, rfl⟩, HB0.out⟩
  by_cases g5 : (10 : Int) < x.f3.length
  · have HE : Hid (¬ okX x) := fun h => by have := okX_dir h; omega
    go_wp2
    go_ret
    exact ⟨.inr ⟨HE.out, rfl⟩, HB0.out⟩
  have HX1 : Hid ((0 ≤ x.f0 ∧ x.f0 ≤ 1048576) ∧ (1 ≤ x.f1 ∧ x.f1 ≤ 1000000) ∧ x.f2.length ≤ 10 ∧ x.f4.length ≤ 20) := by show _ ∧ _; omega
  have n2 : x.f2.length ≤ 10 := by omega
  have n3 : x.f3.length ≤ 10 := by omega
  have n4 : x.f4.length ≤ 20 := by omega
  obtain ⟨ga, gb⟩ := g1
  obtain ⟨gc, gd⟩ := g2
  go_wp2
  refine wp_region_held_drew (S := (fun w' => w'.cell? ⟨w.heap.size, 0, none⟩ = some (.int .i64 x.f0) ∧ w'.cell? ⟨w.heap.size, 1, none⟩ = some (.int .i64 x.f1) ∧ w'.cell? ⟨w.heap.size, 2, none⟩ = some (.slice p2 x.f2.length c2) ∧ w'.cell? ⟨w.heap.size, 3, none⟩ = some (.slice p3 x.f3.length c3) ∧ w'.cell? ⟨w.heap.size, 4, none⟩ = some (.slice p4 x.f4.length c4))) (by kernel_rfl) ⟨e0, e1, e2, e3, e4⟩ (fun hHeld => ?_)
  refine wpAnyH_take (i := 0) (v := ?_) rfl (by kernel_rfl) (by kernel_rfl) (by kernel_rfl) (fun _ _ _ h => h) (Or.inl ⟨by rfl, ?_⟩) hHeld ?_
  rotate_left
  · (intro W hSW; obtain ⟨q0, q1, q2, q3, q4⟩ := hSW; go_simp; try with_reducible rfl)
  simp only [Act.put, List.setIfInBounds_toArray, List.set_cons_zero, List.set_cons_succ, List.getElem_toArray, List.getElem_cons_zero]
  refine wpAnyH_take (i := 2) (v := ?_) rfl (by kernel_rfl) (by kernel_rfl) (by kernel_rfl) (fun _ _ _ h => h) (Or.inl ⟨by rfl, ?_⟩) hHeld ?_
  rotate_left
  · (intro W hSW; obtain ⟨q0, q1, q2, q3, q4⟩ := hSW; go_simp; try with_reducible rfl)
  simp only [Act.put, List.setIfInBounds_toArray, List.set_cons_zero, List.set_cons_succ, List.getElem_toArray, List.getElem_cons_zero, List.getElem_cons_succ]
  refine wpAnyH_take (i := 3) (v := ?_) rfl (by kernel_rfl) (by kernel_rfl) (by kernel_rfl) (fun _ _ _ h => h) (Or.inl ⟨by rfl, ?_⟩) hHeld ?_
  rotate_left
  · (intro W hSW; obtain ⟨q0, q1, q2, q3, q4⟩ := hSW; go_simp; try with_reducible rfl)
  simp only [Act.put, List.setIfInBounds_toArray, List.set_cons_zero, List.set_cons_succ, List.getElem_toArray, List.getElem_cons_zero, List.getElem_cons_succ]
  refine wpAnyH_ready (rs := [1]) (by kernel_rfl) (by simp) ?_
  refine AllReadyH.cons rfl (fun K hK => ?_) AllReadyH.nil
  go_simp
  go_at_call 61
  refine (bytes_c x (.slice p2 x.f2.length c2) (.slice p3 x.f3.length c3) (.slice p4 x.f4.length c4) W0.drew HLN.out (by rw [totI_z]; exact Nat.le_trans HB.out.tot (by decide)) (HR0.out.keep ((Below.refl W0.heap.size W0).drew) (Nat.le_refl _))).mono ?_
  rintro e w1 ⟨rfl, b1⟩
  rw [totI_z]
  replace b1 := bel_undrew b1
  have HC1 : Hid (Below (w.heap.size + 1) W0 w1) := b1.mono (by show w.heap.size + 1 ≤ W0.heap.size; rw [HS0.out]; exact Nat.le_refl _)
  go_simp
  refine hK.out _ _ (HBX.out w1 HC1.out) (fun hHeld => ?_)
  clear hK K
  refine wpAnyH_take (i := 4) (v := ?_) rfl (by kernel_rfl) (by kernel_rfl) (by kernel_rfl) (fun _ _ _ h => h) (Or.inl ⟨by rfl, ?_⟩) hHeld ?_
  rotate_left
  · (intro W hSW; obtain ⟨q0, q1, q2, q3, q4⟩ := hSW; go_simp; try with_reducible rfl)
  simp only [Act.put, List.setIfInBounds_toArray, List.set_cons_zero, List.set_cons_succ, List.getElem_toArray, List.getElem_cons_zero, List.getElem_cons_succ]
  refine wpAnyH_done (by kernel_rfl) ?_ _
  clear b1 e0 e1 e2 e3 e4
  have hH := HBX.out w1 HC1.out
  obtain ⟨e0, e1, e2, e3, e4⟩ := hH
  have HTT : Hid (totI x.f2 ≤ 1048576) := HB.out.tot
  by_cases g6 : x.f0 < (totI x.f2 : Int)
  · have HE : Hid (¬ okX x) := fun h => by have := h.2.1.2; omega
    go_wp2
    go_ret
    exact ⟨.inr ⟨HE.out, rfl⟩, HDN.out _ HC1.out⟩
  have HX2 : Hid ((totI x.f2 : Int) ≤ x.f0) := by show _ ≤ _; omega
  clear hHeld
  go_wp2
  go_loopw [3] (fun iv wr => ∃ k : Nat, k ≤ x.f2.length ∧ iv = .int .i64 (k : Int) ∧ Hid (Below (w.heap.size + 1) W0 wr) ∧ Hid (∀ j (hj : j < x.f2.length), j < k → iOk x.f1 (lastI x.f2 j) x.f2[j] ∧ (lnk x.f3 x.f2[j].f0 || mad x.f4 x.f2[j].f0) = true)) (fun iv _ => x.f2.length - (intOf iv).toNat)
  case atStart => exact ⟨0, Nat.zero_le _, rfl, HC1, fun j _ hj => by omega⟩
  clear e0 e1 e2 e3 e4
  case round =>
    obtain ⟨k, hk, rfl, HCk, HOk⟩ := hrel
    obtain ⟨e0, e1, e2, e3, e4⟩ := HBX.out wr HCk.out
    by_cases hlt : k < x.f2.length
    · have hlt' : (k : Int) < x.f2.length := by omega
      obtain ⟨b, off, cap', hv, hbl, hc⟩ := inode_cells (HRD.out wr HCk.out).1 (by omega)
      simp only [Value.slice.injEq, true_and] at hv
      obtain ⟨rfl, rfl⟩ := hv
      obtain ⟨d0, d1, d2⟩ := hc k hlt
      have HPR : Hid (0 < k → wr.cell? ⟨b, off + (k - 1) * 3, none⟩ = some (.int .i64 (lastI x.f2 k))) := fun h0 => by
        obtain ⟨j, rfl⟩ : ∃ j, k = j + 1 := ⟨k - 1, by omega⟩
        rw [lastI_succ x.f2 j (by omega)]
        exact (hc j (by omega)).1
      have HP0 : Hid (0 ≤ lastI x.f2 k) := okI_pos k (fun j hj hjk => (HOk.out j hj hjk).1) hk
      have HZ0 : Hid (k = 0 → lastI x.f2 k = 0) := fun h0 => by rw [h0]; rfl
      have HNO : Hid (okX x → iOk x.f1 (lastI x.f2 k) x.f2[k] ∧ (lnk x.f3 x.f2[k].f0 || mad x.f4 x.f2[k].f0) = true) := fun h => ⟨h.2.1.1 k hlt, h.2.2.2.2 _ (List.getElem_mem hlt)⟩
      have HON : Hid (iOk x.f1 (lastI x.f2 k) x.f2[k] ∧ (lnk x.f3 x.f2[k].f0 || mad x.f4 x.f2[k].f0) = true → ∀ j (hj : j < x.f2.length), j < k + 1 → iOk x.f1 (lastI x.f2 j) x.f2[j] ∧ (lnk x.f3 x.f2[j].f0 || mad x.f4 x.f2[j].f0) = true) := fun h j hj hjk => by
        by_cases e : j = k
        · subst e; exact h
        · exact HOk.out j hj (by omega)
      have HTX : Hid (x.f2[k].f1.size ≤ 1048576) := Nat.le_trans (totI_mem (List.getElem_mem hlt)) HTT.out
      clear hc
      generalize x.f2[k] = X at d0 d1 d2 HNO HON HTX
      generalize lastI x.f2 k = la at HPR HP0 HNO HON HZ0
      go_upto_region 9 with fail
      refine wp_genD (fun W1 => W1.cell? ⟨wr.heap.size, 0, none⟩ = some (.int .i64 X.f0) ∧ W1.cell? ⟨wr.heap.size, 1, none⟩ = some (.string X.f1) ∧ W1.cell? ⟨wr.heap.size, 2, none⟩ = some (.int .i64 X.f2) ∧ (W1.cell? ⟨w.heap.size, 0, none⟩ = some (.int .i64 x.f0) ∧ W1.cell? ⟨w.heap.size, 1, none⟩ = some (.int .i64 x.f1) ∧ W1.cell? ⟨w.heap.size, 2, none⟩ = some (.slice (some ⟨b, off, none⟩) x.f2.length c2) ∧ W1.cell? ⟨w.heap.size, 3, none⟩ = some (.slice p3 x.f3.length c3) ∧ W1.cell? ⟨w.heap.size, 4, none⟩ = some (.slice p4 x.f4.length c4)) ∧ Hid (0 < k → W1.cell? ⟨b, off + (k - 1) * 3, none⟩ = some (.int .i64 la)) ∧ Hid (Below (w.heap.size + 1) W0 W1)) ?_ ?_
      · have hB' : Below (w.heap.size + 1) W0 (wr.alloc (.cells #[.int .i64 X.f0, .string X.f1, .int .i64 X.f2] 47)) := HCk.out.alloc (by have := HCk.out.size; have := HS0.out; omega) _
        exact ⟨box_cell _ _ _ _, box_cell _ _ _ _, box_cell _ _ _ _, HBX.out _ hB', fun h0 => cell_alloc (HPR.out h0), hB'⟩
      intro W1 ⟨i0, i1, i2, ⟨e0, e1, e2, e3, e4⟩, HPW, HC1'⟩
      clear d0 d1 d2
      go_cut [104] from 57 to 104 (fun c wx => ((((iOk x.f1 la X ∧ (lnk x.f3 X.f0 || mad x.f4 X.f0) = true)) ∧ c = .bool false) ∨ (¬ (iOk x.f1 la X ∧ (lnk x.f3 X.f0 || mad x.f4 X.f0) = true) ∧ c = .bool true)) ∧ Hid (Below (w.heap.size + 1) W0 wx))
      case first =>
        rename_i J K' hRJ hMK
        have HJK : Hid (∀ a' w', _ → K' a' w') := fun a' w' h => hMK a' w' (hRJ a' w' h)
        clear hMK hRJ
        go_light
        have HLK : Hid (∀ W, Below W1.heap.size W1 W → ∀ B, lnk x.f3 X.f0 = B → Calls Tryz.prog 62 #[.slice p3 x.f3.length c3, .int .i64 X.f0] W fun e w' => e = .returned (.bool B) ∧ w' = W) := fun W hS B hB => by
          rw [← hB]
          exact linked_c _ x.f3 X.f0 _ hl3 ((HRD.out W1 HC1'.out).2.1.keep hS (Nat.le_refl _))
        have HMD : Hid (∀ W, Below W1.heap.size W1 W → ∀ B, mad x.f4 X.f0 = B → Calls Tryz.prog 63 #[.slice p4 x.f4.length c4, .int .i64 X.f0] W fun e w' => e = .returned (.bool B) ∧ w' = W) := fun W hS B hB => by
          rw [← hB]
          exact made_c _ x.f4 X.f0 _ hl4 ((HRD.out W1 HC1'.out).2.2.keep hS (Nat.le_refl _))
        have hwn : IntKind.i64.wrap (x.f1 - 1) = x.f1 - 1 := by rw [IntWalk.i64_left]; exact IntWalk.wrap64_in _ (by omega)
        have hsz : X.f1.size ≤ 1048576 := HTX.out
        by_cases r1 : 1 ≤ X.f0 ∧ X.f0 ≤ x.f1 - 1
        case neg =>
          have HE : Hid (¬ (iOk x.f1 la X ∧ (lnk x.f3 X.f0 || mad x.f4 X.f0) = true)) := fun h => by
            have h1 := h.1
            have h2 := HP0.out
            unfold iOk at h1
            omega
          have HI1 : Hid (∀ W, Calls Tryz.prog 36 #[.int .i64 X.f0, .int .i64 1, .int .i64 (x.f1 - 1)] W fun e w' => e = .returned (.bool false) ∧ w' = W) := fun W => in_no X.f0 1 (x.f1 - 1) W (by omega)
          clear r1
          refine wp_region_told (fun W => Below W1.heap.size W1 W) (by kernel_rfl) (by kernel_rfl) ((Below.refl W1.heap.size W1).drew) ?_
          refine told_pure (some 57) (.pointer (some ⟨wr.heap.size, 0, none⟩)) rfl (by kernel_rfl) (fun _ => by kernel_rfl) ?_
          refine told_load (some 58) ⟨wr.heap.size, 0, none⟩ (.int .i64 X.f0) rfl (by kernel_rfl) (fun _ => by kernel_rfl) (fun _ hS => atB hS i0) ?_
          refine told_pure (some 59) (.pointer (some ⟨w.heap.size, 1, none⟩)) rfl (by kernel_rfl) (fun _ => by kernel_rfl) ?_
          refine told_load (some 60) ⟨w.heap.size, 1, none⟩ (.int .i64 x.f1) rfl (by kernel_rfl) (fun _ => by kernel_rfl) (fun _ hS => atB hS e1) ?_
          refine told_is (some 61) (.int .i64 (IntKind.i64.wrap (x.f1 - 1))) (.int .i64 (x.f1 - 1)) (by rw [hwn]) rfl (by kernel_rfl) (fun _ => by kernel_rfl) ?_
          refine told_call (some 62) (.bool false) 36 #[.int .i64 X.f0, .int .i64 1, .int .i64 (x.f1 - 1)] rfl (by kernel_rfl) (fun _ => by kernel_rfl) (fun _ hS => same_S (HI1.out _) hS) ?_
          refine told_pure (some 63) (.bool true) rfl (by kernel_rfl) (fun _ => by kernel_rfl) ?_
          refine told_pure (some 64) (.bool true) rfl (by kernel_rfl) (fun _ => by kernel_rfl) ?_
          refine told_skip (some 65) rfl (by kernel_rfl) ?_
          refine told_skip (some 66) rfl (by kernel_rfl) ?_
          refine told_skip (some 67) rfl (by kernel_rfl) ?_
          refine told_skip (some 68) rfl (by kernel_rfl) ?_
          refine told_skip (some 69) rfl (by kernel_rfl) ?_
          refine told_skip (some 70) rfl (by kernel_rfl) ?_
          refine told_skip (some 71) rfl (by kernel_rfl) ?_
          refine told_pure (some 72) (.bool true) rfl (by kernel_rfl) (fun _ => by kernel_rfl) ?_
          refine told_pure (some 73) (.bool true) rfl (by kernel_rfl) (fun _ => by kernel_rfl) ?_
          refine told_skip (some 74) rfl (by kernel_rfl) ?_
          refine told_skip (some 75) rfl (by kernel_rfl) ?_
          refine told_skip (some 76) rfl (by kernel_rfl) ?_
          refine told_skip (some 77) rfl (by kernel_rfl) ?_
          refine told_skip (some 78) rfl (by kernel_rfl) ?_
          refine told_skip (some 79) rfl (by kernel_rfl) ?_
          refine told_skip (some 80) rfl (by kernel_rfl) ?_
          refine told_skip (some 81) rfl (by kernel_rfl) ?_
          refine told_skip (some 82) rfl (by kernel_rfl) ?_
          refine told_skip (some 83) rfl (by kernel_rfl) ?_
          refine told_skip (some 84) rfl (by kernel_rfl) ?_
          refine told_skip (some 85) rfl (by kernel_rfl) ?_
          refine told_skip (some 86) rfl (by kernel_rfl) ?_
          refine told_skip (some 87) rfl (by kernel_rfl) ?_
          refine told_pure (some 88) (.bool true) rfl (by kernel_rfl) (fun _ => by kernel_rfl) ?_
          refine told_pure (some 89) (.bool true) rfl (by kernel_rfl) (fun _ => by kernel_rfl) ?_
          refine told_skip (some 90) rfl (by kernel_rfl) ?_
          refine told_skip (some 91) rfl (by kernel_rfl) ?_
          refine told_skip (some 92) rfl (by kernel_rfl) ?_
          refine told_skip (some 93) rfl (by kernel_rfl) ?_
          refine told_skip (some 94) rfl (by kernel_rfl) ?_
          refine told_skip (some 95) rfl (by kernel_rfl) ?_
          refine told_skip (some 96) rfl (by kernel_rfl) ?_
          refine told_skip (some 97) rfl (by kernel_rfl) ?_
          refine told_skip (some 98) rfl (by kernel_rfl) ?_
          refine told_skip (some 99) rfl (by kernel_rfl) ?_
          refine told_skip (some 100) rfl (by kernel_rfl) ?_
          refine told_skip (some 101) rfl (by kernel_rfl) ?_
          refine told_skip (some 102) rfl (by kernel_rfl) ?_
          refine told_skip (some 103) rfl (by kernel_rfl) ?_
          refine told_pure (some 104) (.bool true) rfl (by kernel_rfl) (fun _ => by kernel_rfl) ?_
          refine told_nil ?_
          intro w9 hS9
          show K' _ _
          exact HJK.out _ _ ⟨.pointer (some ⟨wr.heap.size, 0, none⟩), .int .i64 X.f0, .pointer (some ⟨w.heap.size, 1, none⟩), .int .i64 x.f1, .int .i64 (x.f1 - 1), .bool false, .bool true, .bool true, undef, undef, undef, undef, undef, undef, undef, .bool true, .bool true, undef, undef, undef, undef, undef, undef, undef, undef, undef, undef, undef, undef, undef, undef, .bool true, .bool true, undef, undef, undef, undef, undef, undef, undef, undef, undef, undef, undef, undef, undef, undef, .bool true, ⟨.inr ⟨(HE.out), rfl⟩, HC1'.out.trans (Below.mono hS9 (by have := HC1'.out.size; have := HS0.out; omega))⟩, by kernel_rfl⟩
        have HI1 : Hid (∀ W, Calls Tryz.prog 36 #[.int .i64 X.f0, .int .i64 1, .int .i64 (x.f1 - 1)] W fun e w' => e = .returned (.bool true) ∧ w' = W) := fun W => in_yes X.f0 1 (x.f1 - 1) W r1.1 r1.2
        have HR1 : Hid (1 ≤ X.f0 ∧ X.f0 ≤ x.f1 - 1) := r1
        clear r1
        by_cases r2 : 0 ≤ X.f2 ∧ X.f2 ≤ X.f1.size
        case neg =>
          have HE : Hid (¬ (iOk x.f1 la X ∧ (lnk x.f3 X.f0 || mad x.f4 X.f0) = true)) := fun h => by
            have h1 := h.1
            unfold iOk at h1
            omega
          have HI2 : Hid (∀ W, Calls Tryz.prog 36 #[.int .i64 X.f2, .int .i64 0, .int .i64 X.f1.size] W fun e w' => e = .returned (.bool false) ∧ w' = W) := fun W => in_no X.f2 0 X.f1.size W (by omega)
          clear r2
          refine wp_region_told (fun W => Below W1.heap.size W1 W) (by kernel_rfl) (by kernel_rfl) ((Below.refl W1.heap.size W1).drew) ?_
          refine told_pure (some 57) (.pointer (some ⟨wr.heap.size, 0, none⟩)) rfl (by kernel_rfl) (fun _ => by kernel_rfl) ?_
          refine told_load (some 58) ⟨wr.heap.size, 0, none⟩ (.int .i64 X.f0) rfl (by kernel_rfl) (fun _ => by kernel_rfl) (fun _ hS => atB hS i0) ?_
          refine told_pure (some 59) (.pointer (some ⟨w.heap.size, 1, none⟩)) rfl (by kernel_rfl) (fun _ => by kernel_rfl) ?_
          refine told_load (some 60) ⟨w.heap.size, 1, none⟩ (.int .i64 x.f1) rfl (by kernel_rfl) (fun _ => by kernel_rfl) (fun _ hS => atB hS e1) ?_
          refine told_is (some 61) (.int .i64 (IntKind.i64.wrap (x.f1 - 1))) (.int .i64 (x.f1 - 1)) (by rw [hwn]) rfl (by kernel_rfl) (fun _ => by kernel_rfl) ?_
          refine told_call (some 62) (.bool true) 36 #[.int .i64 X.f0, .int .i64 1, .int .i64 (x.f1 - 1)] rfl (by kernel_rfl) (fun _ => by kernel_rfl) (fun _ hS => same_S (HI1.out _) hS) ?_
          refine told_pure (some 63) (.bool false) rfl (by kernel_rfl) (fun _ => by kernel_rfl) ?_
          refine told_pure (some 64) (.bool false) rfl (by kernel_rfl) (fun _ => by kernel_rfl) ?_
          refine told_pure (some 65) (.pointer (some ⟨wr.heap.size, 2, none⟩)) rfl (by kernel_rfl) (fun _ => by kernel_rfl) ?_
          refine told_load (some 66) ⟨wr.heap.size, 2, none⟩ (.int .i64 X.f2) rfl (by kernel_rfl) (fun _ => by kernel_rfl) (fun _ hS => atB hS i2) ?_
          refine told_pure (some 67) (.pointer (some ⟨wr.heap.size, 1, none⟩)) rfl (by kernel_rfl) (fun _ => by kernel_rfl) ?_
          refine told_load (some 68) ⟨wr.heap.size, 1, none⟩ (.string X.f1) rfl (by kernel_rfl) (fun _ => by kernel_rfl) (fun _ hS => atB hS i1) ?_
          refine told_pure (some 69) (.int .i64 X.f1.size) rfl (by kernel_rfl) (fun _ => by kernel_rfl) ?_
          refine told_call (some 70) (.bool false) 36 #[.int .i64 X.f2, .int .i64 0, .int .i64 X.f1.size] rfl (by kernel_rfl) (fun _ => by kernel_rfl) (fun _ hS => same_S (HI2.out _) hS) ?_
          refine told_pure (some 71) (.bool true) rfl (by kernel_rfl) (fun _ => by kernel_rfl) ?_
          refine told_pure (some 72) (.bool true) rfl (by kernel_rfl) (fun _ => by kernel_rfl) ?_
          refine told_pure (some 73) (.bool true) rfl (by kernel_rfl) (fun _ => by kernel_rfl) ?_
          refine told_skip (some 74) rfl (by kernel_rfl) ?_
          refine told_skip (some 75) rfl (by kernel_rfl) ?_
          refine told_skip (some 76) rfl (by kernel_rfl) ?_
          refine told_skip (some 77) rfl (by kernel_rfl) ?_
          refine told_skip (some 78) rfl (by kernel_rfl) ?_
          refine told_skip (some 79) rfl (by kernel_rfl) ?_
          refine told_skip (some 80) rfl (by kernel_rfl) ?_
          refine told_skip (some 81) rfl (by kernel_rfl) ?_
          refine told_skip (some 82) rfl (by kernel_rfl) ?_
          refine told_skip (some 83) rfl (by kernel_rfl) ?_
          refine told_skip (some 84) rfl (by kernel_rfl) ?_
          refine told_skip (some 85) rfl (by kernel_rfl) ?_
          refine told_skip (some 86) rfl (by kernel_rfl) ?_
          refine told_skip (some 87) rfl (by kernel_rfl) ?_
          refine told_pure (some 88) (.bool true) rfl (by kernel_rfl) (fun _ => by kernel_rfl) ?_
          refine told_pure (some 89) (.bool true) rfl (by kernel_rfl) (fun _ => by kernel_rfl) ?_
          refine told_skip (some 90) rfl (by kernel_rfl) ?_
          refine told_skip (some 91) rfl (by kernel_rfl) ?_
          refine told_skip (some 92) rfl (by kernel_rfl) ?_
          refine told_skip (some 93) rfl (by kernel_rfl) ?_
          refine told_skip (some 94) rfl (by kernel_rfl) ?_
          refine told_skip (some 95) rfl (by kernel_rfl) ?_
          refine told_skip (some 96) rfl (by kernel_rfl) ?_
          refine told_skip (some 97) rfl (by kernel_rfl) ?_
          refine told_skip (some 98) rfl (by kernel_rfl) ?_
          refine told_skip (some 99) rfl (by kernel_rfl) ?_
          refine told_skip (some 100) rfl (by kernel_rfl) ?_
          refine told_skip (some 101) rfl (by kernel_rfl) ?_
          refine told_skip (some 102) rfl (by kernel_rfl) ?_
          refine told_skip (some 103) rfl (by kernel_rfl) ?_
          refine told_pure (some 104) (.bool true) rfl (by kernel_rfl) (fun _ => by kernel_rfl) ?_
          refine told_nil ?_
          intro w9 hS9
          show K' _ _
          exact HJK.out _ _ ⟨.pointer (some ⟨wr.heap.size, 0, none⟩), .int .i64 X.f0, .pointer (some ⟨w.heap.size, 1, none⟩), .int .i64 x.f1, .int .i64 (x.f1 - 1), .bool true, .bool false, .bool false, .pointer (some ⟨wr.heap.size, 2, none⟩), .int .i64 X.f2, .pointer (some ⟨wr.heap.size, 1, none⟩), .string X.f1, .int .i64 X.f1.size, .bool false, .bool true, .bool true, .bool true, undef, undef, undef, undef, undef, undef, undef, undef, undef, undef, undef, undef, undef, undef, .bool true, .bool true, undef, undef, undef, undef, undef, undef, undef, undef, undef, undef, undef, undef, undef, undef, .bool true, ⟨.inr ⟨(HE.out), rfl⟩, HC1'.out.trans (Below.mono hS9 (by have := HC1'.out.size; have := HS0.out; omega))⟩, by kernel_rfl⟩
        have HI2 : Hid (∀ W, Calls Tryz.prog 36 #[.int .i64 X.f2, .int .i64 0, .int .i64 X.f1.size] W fun e w' => e = .returned (.bool true) ∧ w' = W) := fun W => in_yes X.f2 0 X.f1.size W r2.1 r2.2
        have HR2 : Hid (0 ≤ X.f2 ∧ X.f2 ≤ X.f1.size) := r2
        clear r2
        by_cases r3 : 0 < k
        · have hk1 : (0 : Int) < k := by omega
          have hk2 : (1 : Int) ≤ k := by omega
          have hk3 : (k : Int) - 1 < x.f2.length := by omega
          have hwk : IntKind.i64.wrap ((k : Int) - 1) = (k : Int) - 1 := by rw [IntWalk.i64_left]; exact IntWalk.wrap64_in _ (by omega)
          have hkn : ((k : Int) - 1).toNat = k - 1 := by omega
          have pc := HPW.out r3
          by_cases r4 : X.f0 ≤ la
          · have HE : Hid (¬ (iOk x.f1 la X ∧ (lnk x.f3 X.f0 || mad x.f4 X.f0) = true)) := fun h => by
              have h1 := h.1
              unfold iOk at h1
              omega
            refine wp_region_told (fun W => Below W1.heap.size W1 W) (by kernel_rfl) (by kernel_rfl) ((Below.refl W1.heap.size W1).drew) ?_
            refine told_pure (some 57) (.pointer (some ⟨wr.heap.size, 0, none⟩)) rfl (by kernel_rfl) (fun _ => by kernel_rfl) ?_
            refine told_load (some 58) ⟨wr.heap.size, 0, none⟩ (.int .i64 X.f0) rfl (by kernel_rfl) (fun _ => by kernel_rfl) (fun _ hS => atB hS i0) ?_
            refine told_pure (some 59) (.pointer (some ⟨w.heap.size, 1, none⟩)) rfl (by kernel_rfl) (fun _ => by kernel_rfl) ?_
            refine told_load (some 60) ⟨w.heap.size, 1, none⟩ (.int .i64 x.f1) rfl (by kernel_rfl) (fun _ => by kernel_rfl) (fun _ hS => atB hS e1) ?_
            refine told_is (some 61) (.int .i64 (IntKind.i64.wrap (x.f1 - 1))) (.int .i64 (x.f1 - 1)) (by rw [hwn]) rfl (by kernel_rfl) (fun _ => by kernel_rfl) ?_
            refine told_call (some 62) (.bool true) 36 #[.int .i64 X.f0, .int .i64 1, .int .i64 (x.f1 - 1)] rfl (by kernel_rfl) (fun _ => by kernel_rfl) (fun _ hS => same_S (HI1.out _) hS) ?_
            refine told_pure (some 63) (.bool false) rfl (by kernel_rfl) (fun _ => by kernel_rfl) ?_
            refine told_pure (some 64) (.bool false) rfl (by kernel_rfl) (fun _ => by kernel_rfl) ?_
            refine told_pure (some 65) (.pointer (some ⟨wr.heap.size, 2, none⟩)) rfl (by kernel_rfl) (fun _ => by kernel_rfl) ?_
            refine told_load (some 66) ⟨wr.heap.size, 2, none⟩ (.int .i64 X.f2) rfl (by kernel_rfl) (fun _ => by kernel_rfl) (fun _ hS => atB hS i2) ?_
            refine told_pure (some 67) (.pointer (some ⟨wr.heap.size, 1, none⟩)) rfl (by kernel_rfl) (fun _ => by kernel_rfl) ?_
            refine told_load (some 68) ⟨wr.heap.size, 1, none⟩ (.string X.f1) rfl (by kernel_rfl) (fun _ => by kernel_rfl) (fun _ hS => atB hS i1) ?_
            refine told_pure (some 69) (.int .i64 X.f1.size) rfl (by kernel_rfl) (fun _ => by kernel_rfl) ?_
            refine told_call (some 70) (.bool true) 36 #[.int .i64 X.f2, .int .i64 0, .int .i64 X.f1.size] rfl (by kernel_rfl) (fun _ => by kernel_rfl) (fun _ hS => same_S (HI2.out _) hS) ?_
            refine told_pure (some 71) (.bool false) rfl (by kernel_rfl) (fun _ => by kernel_rfl) ?_
            refine told_pure (some 72) (.bool false) rfl (by kernel_rfl) (fun _ => by kernel_rfl) ?_
            refine told_pure (some 73) (.bool false) rfl (by kernel_rfl) (fun _ => by kernel_rfl) ?_
            refine told_pure (some 74) (.int .i64 (k : Int)) rfl (by kernel_rfl) (fun _ => by kernel_rfl) ?_
            refine told_is (some 75) (.bool (decide ((k : Int) > 0))) (.bool true) (by rw [decide_eq_true hk1]) rfl (by kernel_rfl) (fun _ => by kernel_rfl) ?_
            refine told_pure (some 76) (.bool true) rfl (by kernel_rfl) (fun _ => by kernel_rfl) ?_
            refine told_pure (some 77) (.pointer (some ⟨w.heap.size, 2, none⟩)) rfl (by kernel_rfl) (fun _ => by kernel_rfl) ?_
            refine told_load (some 78) ⟨w.heap.size, 2, none⟩ (.slice (some ⟨b, off, none⟩) x.f2.length c2) rfl (by kernel_rfl) (fun _ => by kernel_rfl) (fun _ hS => atB hS e2) ?_
            refine told_pure (some 79) (.int .i64 (k : Int)) rfl (by kernel_rfl) (fun _ => by kernel_rfl) ?_
            refine told_is (some 80) (.int .i64 (IntKind.i64.wrap ((k : Int) - 1))) (.int .i64 ((k : Int) - 1)) (by rw [hwk]) rfl (by kernel_rfl) (fun _ => by kernel_rfl) ?_
            refine told_pure (some 81) (.pointer (some ⟨b, off + (k - 1) * 3, none⟩)) rfl (by kernel_rfl) (fun w => by go_simp) ?_
            refine told_pure (some 82) (.pointer (some ⟨b, off + (k - 1) * 3, none⟩)) rfl (by kernel_rfl) (fun _ => by kernel_rfl) ?_
            refine told_load (some 83) ⟨b, off + (k - 1) * 3, none⟩ (.int .i64 la) rfl (by kernel_rfl) (fun _ => by kernel_rfl) (fun _ hS => atB hS pc) ?_
            refine told_pure (some 84) (.pointer (some ⟨wr.heap.size, 0, none⟩)) rfl (by kernel_rfl) (fun _ => by kernel_rfl) ?_
            refine told_load (some 85) ⟨wr.heap.size, 0, none⟩ (.int .i64 X.f0) rfl (by kernel_rfl) (fun _ => by kernel_rfl) (fun _ hS => atB hS i0) ?_
            refine told_is (some 86) (.bool (decide (la ≥ X.f0))) (.bool true) (by rw [decide_eq_true r4]) rfl (by kernel_rfl) (fun _ => by kernel_rfl) ?_
            refine told_pure (some 87) (.bool true) rfl (by kernel_rfl) (fun _ => by kernel_rfl) ?_
            refine told_pure (some 88) (.bool true) rfl (by kernel_rfl) (fun _ => by kernel_rfl) ?_
            refine told_pure (some 89) (.bool true) rfl (by kernel_rfl) (fun _ => by kernel_rfl) ?_
            refine told_skip (some 90) rfl (by kernel_rfl) ?_
            refine told_skip (some 91) rfl (by kernel_rfl) ?_
            refine told_skip (some 92) rfl (by kernel_rfl) ?_
            refine told_skip (some 93) rfl (by kernel_rfl) ?_
            refine told_skip (some 94) rfl (by kernel_rfl) ?_
            refine told_skip (some 95) rfl (by kernel_rfl) ?_
            refine told_skip (some 96) rfl (by kernel_rfl) ?_
            refine told_skip (some 97) rfl (by kernel_rfl) ?_
            refine told_skip (some 98) rfl (by kernel_rfl) ?_
            refine told_skip (some 99) rfl (by kernel_rfl) ?_
            refine told_skip (some 100) rfl (by kernel_rfl) ?_
            refine told_skip (some 101) rfl (by kernel_rfl) ?_
            refine told_skip (some 102) rfl (by kernel_rfl) ?_
            refine told_skip (some 103) rfl (by kernel_rfl) ?_
            refine told_pure (some 104) (.bool true) rfl (by kernel_rfl) (fun _ => by kernel_rfl) ?_
            refine told_nil ?_
            intro w9 hS9
            show K' _ _
            exact HJK.out _ _ ⟨.pointer (some ⟨wr.heap.size, 0, none⟩), .int .i64 X.f0, .pointer (some ⟨w.heap.size, 1, none⟩), .int .i64 x.f1, .int .i64 (x.f1 - 1), .bool true, .bool false, .bool false, .pointer (some ⟨wr.heap.size, 2, none⟩), .int .i64 X.f2, .pointer (some ⟨wr.heap.size, 1, none⟩), .string X.f1, .int .i64 X.f1.size, .bool true, .bool false, .bool false, .bool false, .int .i64 (k : Int), .bool true, .bool true, .pointer (some ⟨w.heap.size, 2, none⟩), .slice (some ⟨b, off, none⟩) x.f2.length c2, .int .i64 (k : Int), .int .i64 ((k : Int) - 1), .pointer (some ⟨b, off + (k - 1) * 3, none⟩), .pointer (some ⟨b, off + (k - 1) * 3, none⟩), .int .i64 la, .pointer (some ⟨wr.heap.size, 0, none⟩), .int .i64 X.f0, .bool true, .bool true, .bool true, .bool true, undef, undef, undef, undef, undef, undef, undef, undef, undef, undef, undef, undef, undef, undef, .bool true, ⟨.inr ⟨(HE.out), rfl⟩, HC1'.out.trans (Below.mono hS9 (by have := HC1'.out.size; have := HS0.out; omega))⟩, by kernel_rfl⟩
          have HIO : Hid (iOk x.f1 la X) := by
            have h1 := HR1.out
            have h2 := HR2.out
            show iOk _ _ _
            unfold iOk
            omega
          cases hLB : lnk x.f3 X.f0
          case true =>
            have HLB : Hid (lnk x.f3 X.f0 = true) := hLB
            have HGG : Hid (iOk x.f1 la X ∧ (lnk x.f3 X.f0 || mad x.f4 X.f0) = true) := ⟨HIO.out, by rw [hLB]; rfl⟩
            rw [hLB] at HGG
            clear hLB
            refine wp_region_told (fun W => Below W1.heap.size W1 W) (by kernel_rfl) (by kernel_rfl) ((Below.refl W1.heap.size W1).drew) ?_
            refine told_pure (some 57) (.pointer (some ⟨wr.heap.size, 0, none⟩)) rfl (by kernel_rfl) (fun _ => by kernel_rfl) ?_
            refine told_load (some 58) ⟨wr.heap.size, 0, none⟩ (.int .i64 X.f0) rfl (by kernel_rfl) (fun _ => by kernel_rfl) (fun _ hS => atB hS i0) ?_
            refine told_pure (some 59) (.pointer (some ⟨w.heap.size, 1, none⟩)) rfl (by kernel_rfl) (fun _ => by kernel_rfl) ?_
            refine told_load (some 60) ⟨w.heap.size, 1, none⟩ (.int .i64 x.f1) rfl (by kernel_rfl) (fun _ => by kernel_rfl) (fun _ hS => atB hS e1) ?_
            refine told_is (some 61) (.int .i64 (IntKind.i64.wrap (x.f1 - 1))) (.int .i64 (x.f1 - 1)) (by rw [hwn]) rfl (by kernel_rfl) (fun _ => by kernel_rfl) ?_
            refine told_call (some 62) (.bool true) 36 #[.int .i64 X.f0, .int .i64 1, .int .i64 (x.f1 - 1)] rfl (by kernel_rfl) (fun _ => by kernel_rfl) (fun _ hS => same_S (HI1.out _) hS) ?_
            refine told_pure (some 63) (.bool false) rfl (by kernel_rfl) (fun _ => by kernel_rfl) ?_
            refine told_pure (some 64) (.bool false) rfl (by kernel_rfl) (fun _ => by kernel_rfl) ?_
            refine told_pure (some 65) (.pointer (some ⟨wr.heap.size, 2, none⟩)) rfl (by kernel_rfl) (fun _ => by kernel_rfl) ?_
            refine told_load (some 66) ⟨wr.heap.size, 2, none⟩ (.int .i64 X.f2) rfl (by kernel_rfl) (fun _ => by kernel_rfl) (fun _ hS => atB hS i2) ?_
            refine told_pure (some 67) (.pointer (some ⟨wr.heap.size, 1, none⟩)) rfl (by kernel_rfl) (fun _ => by kernel_rfl) ?_
            refine told_load (some 68) ⟨wr.heap.size, 1, none⟩ (.string X.f1) rfl (by kernel_rfl) (fun _ => by kernel_rfl) (fun _ hS => atB hS i1) ?_
            refine told_pure (some 69) (.int .i64 X.f1.size) rfl (by kernel_rfl) (fun _ => by kernel_rfl) ?_
            refine told_call (some 70) (.bool true) 36 #[.int .i64 X.f2, .int .i64 0, .int .i64 X.f1.size] rfl (by kernel_rfl) (fun _ => by kernel_rfl) (fun _ hS => same_S (HI2.out _) hS) ?_
            refine told_pure (some 71) (.bool false) rfl (by kernel_rfl) (fun _ => by kernel_rfl) ?_
            refine told_pure (some 72) (.bool false) rfl (by kernel_rfl) (fun _ => by kernel_rfl) ?_
            refine told_pure (some 73) (.bool false) rfl (by kernel_rfl) (fun _ => by kernel_rfl) ?_
            refine told_pure (some 74) (.int .i64 (k : Int)) rfl (by kernel_rfl) (fun _ => by kernel_rfl) ?_
            refine told_is (some 75) (.bool (decide ((k : Int) > 0))) (.bool true) (by rw [decide_eq_true hk1]) rfl (by kernel_rfl) (fun _ => by kernel_rfl) ?_
            refine told_pure (some 76) (.bool true) rfl (by kernel_rfl) (fun _ => by kernel_rfl) ?_
            refine told_pure (some 77) (.pointer (some ⟨w.heap.size, 2, none⟩)) rfl (by kernel_rfl) (fun _ => by kernel_rfl) ?_
            refine told_load (some 78) ⟨w.heap.size, 2, none⟩ (.slice (some ⟨b, off, none⟩) x.f2.length c2) rfl (by kernel_rfl) (fun _ => by kernel_rfl) (fun _ hS => atB hS e2) ?_
            refine told_pure (some 79) (.int .i64 (k : Int)) rfl (by kernel_rfl) (fun _ => by kernel_rfl) ?_
            refine told_is (some 80) (.int .i64 (IntKind.i64.wrap ((k : Int) - 1))) (.int .i64 ((k : Int) - 1)) (by rw [hwk]) rfl (by kernel_rfl) (fun _ => by kernel_rfl) ?_
            refine told_pure (some 81) (.pointer (some ⟨b, off + (k - 1) * 3, none⟩)) rfl (by kernel_rfl) (fun w => by go_simp) ?_
            refine told_pure (some 82) (.pointer (some ⟨b, off + (k - 1) * 3, none⟩)) rfl (by kernel_rfl) (fun _ => by kernel_rfl) ?_
            refine told_load (some 83) ⟨b, off + (k - 1) * 3, none⟩ (.int .i64 la) rfl (by kernel_rfl) (fun _ => by kernel_rfl) (fun _ hS => atB hS pc) ?_
            refine told_pure (some 84) (.pointer (some ⟨wr.heap.size, 0, none⟩)) rfl (by kernel_rfl) (fun _ => by kernel_rfl) ?_
            refine told_load (some 85) ⟨wr.heap.size, 0, none⟩ (.int .i64 X.f0) rfl (by kernel_rfl) (fun _ => by kernel_rfl) (fun _ hS => atB hS i0) ?_
            refine told_is (some 86) (.bool (decide (la ≥ X.f0))) (.bool false) (by rw [decide_eq_false r4]) rfl (by kernel_rfl) (fun _ => by kernel_rfl) ?_
            refine told_pure (some 87) (.bool false) rfl (by kernel_rfl) (fun _ => by kernel_rfl) ?_
            refine told_pure (some 88) (.bool false) rfl (by kernel_rfl) (fun _ => by kernel_rfl) ?_
            refine told_pure (some 89) (.bool false) rfl (by kernel_rfl) (fun _ => by kernel_rfl) ?_
            refine told_pure (some 90) (.pointer (some ⟨w.heap.size, 3, none⟩)) rfl (by kernel_rfl) (fun _ => by kernel_rfl) ?_
            refine told_load (some 91) ⟨w.heap.size, 3, none⟩ (.slice p3 x.f3.length c3) rfl (by kernel_rfl) (fun _ => by kernel_rfl) (fun _ hS => atB hS e3) ?_
            refine told_pure (some 92) (.pointer (some ⟨wr.heap.size, 0, none⟩)) rfl (by kernel_rfl) (fun _ => by kernel_rfl) ?_
            refine told_load (some 93) ⟨wr.heap.size, 0, none⟩ (.int .i64 X.f0) rfl (by kernel_rfl) (fun _ => by kernel_rfl) (fun _ hS => atB hS i0) ?_
            refine told_call (some 94) (.bool true) 62 #[.slice p3 x.f3.length c3, .int .i64 X.f0] rfl (by kernel_rfl) (fun _ => by kernel_rfl) (fun W hS => same_S (HLK.out W hS _ HLB.out) hS) ?_
            refine told_pure (some 95) (.bool false) rfl (by kernel_rfl) (fun _ => by kernel_rfl) ?_
            refine told_pure (some 96) (.bool false) rfl (by kernel_rfl) (fun _ => by kernel_rfl) ?_
            refine told_skip (some 97) rfl (by kernel_rfl) ?_
            refine told_skip (some 98) rfl (by kernel_rfl) ?_
            refine told_skip (some 99) rfl (by kernel_rfl) ?_
            refine told_skip (some 100) rfl (by kernel_rfl) ?_
            refine told_skip (some 101) rfl (by kernel_rfl) ?_
            refine told_skip (some 102) rfl (by kernel_rfl) ?_
            refine told_pure (some 103) (.bool false) rfl (by kernel_rfl) (fun _ => by kernel_rfl) ?_
            refine told_pure (some 104) (.bool false) rfl (by kernel_rfl) (fun _ => by kernel_rfl) ?_
            refine told_nil ?_
            intro w9 hS9
            show K' _ _
            exact HJK.out _ _ ⟨.pointer (some ⟨wr.heap.size, 0, none⟩), .int .i64 X.f0, .pointer (some ⟨w.heap.size, 1, none⟩), .int .i64 x.f1, .int .i64 (x.f1 - 1), .bool true, .bool false, .bool false, .pointer (some ⟨wr.heap.size, 2, none⟩), .int .i64 X.f2, .pointer (some ⟨wr.heap.size, 1, none⟩), .string X.f1, .int .i64 X.f1.size, .bool true, .bool false, .bool false, .bool false, .int .i64 (k : Int), .bool true, .bool true, .pointer (some ⟨w.heap.size, 2, none⟩), .slice (some ⟨b, off, none⟩) x.f2.length c2, .int .i64 (k : Int), .int .i64 ((k : Int) - 1), .pointer (some ⟨b, off + (k - 1) * 3, none⟩), .pointer (some ⟨b, off + (k - 1) * 3, none⟩), .int .i64 la, .pointer (some ⟨wr.heap.size, 0, none⟩), .int .i64 X.f0, .bool false, .bool false, .bool false, .bool false, .pointer (some ⟨w.heap.size, 3, none⟩), .slice p3 x.f3.length c3, .pointer (some ⟨wr.heap.size, 0, none⟩), .int .i64 X.f0, .bool true, .bool false, .bool false, undef, undef, undef, undef, undef, undef, .bool false, .bool false, ⟨.inl ⟨(by rw [HLB.out]; exact HGG.out), rfl⟩, HC1'.out.trans (Below.mono hS9 (by have := HC1'.out.size; have := HS0.out; omega))⟩, by kernel_rfl⟩
          case false =>
            have HLB : Hid (lnk x.f3 X.f0 = false) := hLB
            cases hMB : mad x.f4 X.f0
            · have HMB : Hid (mad x.f4 X.f0 = false) := hMB
              clear hLB hMB
              refine wp_region_told (fun W => Below W1.heap.size W1 W) (by kernel_rfl) (by kernel_rfl) ((Below.refl W1.heap.size W1).drew) ?_
              refine told_pure (some 57) (.pointer (some ⟨wr.heap.size, 0, none⟩)) rfl (by kernel_rfl) (fun _ => by kernel_rfl) ?_
              refine told_load (some 58) ⟨wr.heap.size, 0, none⟩ (.int .i64 X.f0) rfl (by kernel_rfl) (fun _ => by kernel_rfl) (fun _ hS => atB hS i0) ?_
              refine told_pure (some 59) (.pointer (some ⟨w.heap.size, 1, none⟩)) rfl (by kernel_rfl) (fun _ => by kernel_rfl) ?_
              refine told_load (some 60) ⟨w.heap.size, 1, none⟩ (.int .i64 x.f1) rfl (by kernel_rfl) (fun _ => by kernel_rfl) (fun _ hS => atB hS e1) ?_
              refine told_is (some 61) (.int .i64 (IntKind.i64.wrap (x.f1 - 1))) (.int .i64 (x.f1 - 1)) (by rw [hwn]) rfl (by kernel_rfl) (fun _ => by kernel_rfl) ?_
              refine told_call (some 62) (.bool true) 36 #[.int .i64 X.f0, .int .i64 1, .int .i64 (x.f1 - 1)] rfl (by kernel_rfl) (fun _ => by kernel_rfl) (fun _ hS => same_S (HI1.out _) hS) ?_
              refine told_pure (some 63) (.bool false) rfl (by kernel_rfl) (fun _ => by kernel_rfl) ?_
              refine told_pure (some 64) (.bool false) rfl (by kernel_rfl) (fun _ => by kernel_rfl) ?_
              refine told_pure (some 65) (.pointer (some ⟨wr.heap.size, 2, none⟩)) rfl (by kernel_rfl) (fun _ => by kernel_rfl) ?_
              refine told_load (some 66) ⟨wr.heap.size, 2, none⟩ (.int .i64 X.f2) rfl (by kernel_rfl) (fun _ => by kernel_rfl) (fun _ hS => atB hS i2) ?_
              refine told_pure (some 67) (.pointer (some ⟨wr.heap.size, 1, none⟩)) rfl (by kernel_rfl) (fun _ => by kernel_rfl) ?_
              refine told_load (some 68) ⟨wr.heap.size, 1, none⟩ (.string X.f1) rfl (by kernel_rfl) (fun _ => by kernel_rfl) (fun _ hS => atB hS i1) ?_
              refine told_pure (some 69) (.int .i64 X.f1.size) rfl (by kernel_rfl) (fun _ => by kernel_rfl) ?_
              refine told_call (some 70) (.bool true) 36 #[.int .i64 X.f2, .int .i64 0, .int .i64 X.f1.size] rfl (by kernel_rfl) (fun _ => by kernel_rfl) (fun _ hS => same_S (HI2.out _) hS) ?_
              refine told_pure (some 71) (.bool false) rfl (by kernel_rfl) (fun _ => by kernel_rfl) ?_
              refine told_pure (some 72) (.bool false) rfl (by kernel_rfl) (fun _ => by kernel_rfl) ?_
              refine told_pure (some 73) (.bool false) rfl (by kernel_rfl) (fun _ => by kernel_rfl) ?_
              refine told_pure (some 74) (.int .i64 (k : Int)) rfl (by kernel_rfl) (fun _ => by kernel_rfl) ?_
              refine told_is (some 75) (.bool (decide ((k : Int) > 0))) (.bool true) (by rw [decide_eq_true hk1]) rfl (by kernel_rfl) (fun _ => by kernel_rfl) ?_
              refine told_pure (some 76) (.bool true) rfl (by kernel_rfl) (fun _ => by kernel_rfl) ?_
              refine told_pure (some 77) (.pointer (some ⟨w.heap.size, 2, none⟩)) rfl (by kernel_rfl) (fun _ => by kernel_rfl) ?_
              refine told_load (some 78) ⟨w.heap.size, 2, none⟩ (.slice (some ⟨b, off, none⟩) x.f2.length c2) rfl (by kernel_rfl) (fun _ => by kernel_rfl) (fun _ hS => atB hS e2) ?_
              refine told_pure (some 79) (.int .i64 (k : Int)) rfl (by kernel_rfl) (fun _ => by kernel_rfl) ?_
              refine told_is (some 80) (.int .i64 (IntKind.i64.wrap ((k : Int) - 1))) (.int .i64 ((k : Int) - 1)) (by rw [hwk]) rfl (by kernel_rfl) (fun _ => by kernel_rfl) ?_
              refine told_pure (some 81) (.pointer (some ⟨b, off + (k - 1) * 3, none⟩)) rfl (by kernel_rfl) (fun w => by go_simp) ?_
              refine told_pure (some 82) (.pointer (some ⟨b, off + (k - 1) * 3, none⟩)) rfl (by kernel_rfl) (fun _ => by kernel_rfl) ?_
              refine told_load (some 83) ⟨b, off + (k - 1) * 3, none⟩ (.int .i64 la) rfl (by kernel_rfl) (fun _ => by kernel_rfl) (fun _ hS => atB hS pc) ?_
              refine told_pure (some 84) (.pointer (some ⟨wr.heap.size, 0, none⟩)) rfl (by kernel_rfl) (fun _ => by kernel_rfl) ?_
              refine told_load (some 85) ⟨wr.heap.size, 0, none⟩ (.int .i64 X.f0) rfl (by kernel_rfl) (fun _ => by kernel_rfl) (fun _ hS => atB hS i0) ?_
              refine told_is (some 86) (.bool (decide (la ≥ X.f0))) (.bool false) (by rw [decide_eq_false r4]) rfl (by kernel_rfl) (fun _ => by kernel_rfl) ?_
              refine told_pure (some 87) (.bool false) rfl (by kernel_rfl) (fun _ => by kernel_rfl) ?_
              refine told_pure (some 88) (.bool false) rfl (by kernel_rfl) (fun _ => by kernel_rfl) ?_
              refine told_pure (some 89) (.bool false) rfl (by kernel_rfl) (fun _ => by kernel_rfl) ?_
              refine told_pure (some 90) (.pointer (some ⟨w.heap.size, 3, none⟩)) rfl (by kernel_rfl) (fun _ => by kernel_rfl) ?_
              refine told_load (some 91) ⟨w.heap.size, 3, none⟩ (.slice p3 x.f3.length c3) rfl (by kernel_rfl) (fun _ => by kernel_rfl) (fun _ hS => atB hS e3) ?_
              refine told_pure (some 92) (.pointer (some ⟨wr.heap.size, 0, none⟩)) rfl (by kernel_rfl) (fun _ => by kernel_rfl) ?_
              refine told_load (some 93) ⟨wr.heap.size, 0, none⟩ (.int .i64 X.f0) rfl (by kernel_rfl) (fun _ => by kernel_rfl) (fun _ hS => atB hS i0) ?_
              refine told_call (some 94) (.bool false) 62 #[.slice p3 x.f3.length c3, .int .i64 X.f0] rfl (by kernel_rfl) (fun _ => by kernel_rfl) (fun W hS => same_S (HLK.out W hS _ HLB.out) hS) ?_
              refine told_pure (some 95) (.bool true) rfl (by kernel_rfl) (fun _ => by kernel_rfl) ?_
              refine told_pure (some 96) (.bool true) rfl (by kernel_rfl) (fun _ => by kernel_rfl) ?_
              refine told_pure (some 97) (.pointer (some ⟨w.heap.size, 4, none⟩)) rfl (by kernel_rfl) (fun _ => by kernel_rfl) ?_
              refine told_load (some 98) ⟨w.heap.size, 4, none⟩ (.slice p4 x.f4.length c4) rfl (by kernel_rfl) (fun _ => by kernel_rfl) (fun _ hS => atB hS e4) ?_
              refine told_pure (some 99) (.pointer (some ⟨wr.heap.size, 0, none⟩)) rfl (by kernel_rfl) (fun _ => by kernel_rfl) ?_
              refine told_load (some 100) ⟨wr.heap.size, 0, none⟩ (.int .i64 X.f0) rfl (by kernel_rfl) (fun _ => by kernel_rfl) (fun _ hS => atB hS i0) ?_
              refine told_call (some 101) (.bool false) 63 #[.slice p4 x.f4.length c4, .int .i64 X.f0] rfl (by kernel_rfl) (fun _ => by kernel_rfl) (fun W hS => same_S (HMD.out W hS _ HMB.out) hS) ?_
              refine told_pure (some 102) (.bool true) rfl (by kernel_rfl) (fun _ => by kernel_rfl) ?_
              refine told_pure (some 103) (.bool true) rfl (by kernel_rfl) (fun _ => by kernel_rfl) ?_
              refine told_pure (some 104) (.bool true) rfl (by kernel_rfl) (fun _ => by kernel_rfl) ?_
              refine told_nil ?_
              intro w9 hS9
              show K' _ _
              exact HJK.out _ _ ⟨.pointer (some ⟨wr.heap.size, 0, none⟩), .int .i64 X.f0, .pointer (some ⟨w.heap.size, 1, none⟩), .int .i64 x.f1, .int .i64 (x.f1 - 1), .bool true, .bool false, .bool false, .pointer (some ⟨wr.heap.size, 2, none⟩), .int .i64 X.f2, .pointer (some ⟨wr.heap.size, 1, none⟩), .string X.f1, .int .i64 X.f1.size, .bool true, .bool false, .bool false, .bool false, .int .i64 (k : Int), .bool true, .bool true, .pointer (some ⟨w.heap.size, 2, none⟩), .slice (some ⟨b, off, none⟩) x.f2.length c2, .int .i64 (k : Int), .int .i64 ((k : Int) - 1), .pointer (some ⟨b, off + (k - 1) * 3, none⟩), .pointer (some ⟨b, off + (k - 1) * 3, none⟩), .int .i64 la, .pointer (some ⟨wr.heap.size, 0, none⟩), .int .i64 X.f0, .bool false, .bool false, .bool false, .bool false, .pointer (some ⟨w.heap.size, 3, none⟩), .slice p3 x.f3.length c3, .pointer (some ⟨wr.heap.size, 0, none⟩), .int .i64 X.f0, .bool false, .bool true, .bool true, .pointer (some ⟨w.heap.size, 4, none⟩), .slice p4 x.f4.length c4, .pointer (some ⟨wr.heap.size, 0, none⟩), .int .i64 X.f0, .bool false, .bool true, .bool true, .bool true, ⟨.inr ⟨(fun h => by have h1 := h.2; rw [HLB.out, HMB.out] at h1; cases h1), rfl⟩, HC1'.out.trans (Below.mono hS9 (by have := HC1'.out.size; have := HS0.out; omega))⟩, by kernel_rfl⟩
            · have HMB : Hid (mad x.f4 X.f0 = true) := hMB
              clear hLB hMB
              refine wp_region_told (fun W => Below W1.heap.size W1 W) (by kernel_rfl) (by kernel_rfl) ((Below.refl W1.heap.size W1).drew) ?_
              refine told_pure (some 57) (.pointer (some ⟨wr.heap.size, 0, none⟩)) rfl (by kernel_rfl) (fun _ => by kernel_rfl) ?_
              refine told_load (some 58) ⟨wr.heap.size, 0, none⟩ (.int .i64 X.f0) rfl (by kernel_rfl) (fun _ => by kernel_rfl) (fun _ hS => atB hS i0) ?_
              refine told_pure (some 59) (.pointer (some ⟨w.heap.size, 1, none⟩)) rfl (by kernel_rfl) (fun _ => by kernel_rfl) ?_
              refine told_load (some 60) ⟨w.heap.size, 1, none⟩ (.int .i64 x.f1) rfl (by kernel_rfl) (fun _ => by kernel_rfl) (fun _ hS => atB hS e1) ?_
              refine told_is (some 61) (.int .i64 (IntKind.i64.wrap (x.f1 - 1))) (.int .i64 (x.f1 - 1)) (by rw [hwn]) rfl (by kernel_rfl) (fun _ => by kernel_rfl) ?_
              refine told_call (some 62) (.bool true) 36 #[.int .i64 X.f0, .int .i64 1, .int .i64 (x.f1 - 1)] rfl (by kernel_rfl) (fun _ => by kernel_rfl) (fun _ hS => same_S (HI1.out _) hS) ?_
              refine told_pure (some 63) (.bool false) rfl (by kernel_rfl) (fun _ => by kernel_rfl) ?_
              refine told_pure (some 64) (.bool false) rfl (by kernel_rfl) (fun _ => by kernel_rfl) ?_
              refine told_pure (some 65) (.pointer (some ⟨wr.heap.size, 2, none⟩)) rfl (by kernel_rfl) (fun _ => by kernel_rfl) ?_
              refine told_load (some 66) ⟨wr.heap.size, 2, none⟩ (.int .i64 X.f2) rfl (by kernel_rfl) (fun _ => by kernel_rfl) (fun _ hS => atB hS i2) ?_
              refine told_pure (some 67) (.pointer (some ⟨wr.heap.size, 1, none⟩)) rfl (by kernel_rfl) (fun _ => by kernel_rfl) ?_
              refine told_load (some 68) ⟨wr.heap.size, 1, none⟩ (.string X.f1) rfl (by kernel_rfl) (fun _ => by kernel_rfl) (fun _ hS => atB hS i1) ?_
              refine told_pure (some 69) (.int .i64 X.f1.size) rfl (by kernel_rfl) (fun _ => by kernel_rfl) ?_
              refine told_call (some 70) (.bool true) 36 #[.int .i64 X.f2, .int .i64 0, .int .i64 X.f1.size] rfl (by kernel_rfl) (fun _ => by kernel_rfl) (fun _ hS => same_S (HI2.out _) hS) ?_
              refine told_pure (some 71) (.bool false) rfl (by kernel_rfl) (fun _ => by kernel_rfl) ?_
              refine told_pure (some 72) (.bool false) rfl (by kernel_rfl) (fun _ => by kernel_rfl) ?_
              refine told_pure (some 73) (.bool false) rfl (by kernel_rfl) (fun _ => by kernel_rfl) ?_
              refine told_pure (some 74) (.int .i64 (k : Int)) rfl (by kernel_rfl) (fun _ => by kernel_rfl) ?_
              refine told_is (some 75) (.bool (decide ((k : Int) > 0))) (.bool true) (by rw [decide_eq_true hk1]) rfl (by kernel_rfl) (fun _ => by kernel_rfl) ?_
              refine told_pure (some 76) (.bool true) rfl (by kernel_rfl) (fun _ => by kernel_rfl) ?_
              refine told_pure (some 77) (.pointer (some ⟨w.heap.size, 2, none⟩)) rfl (by kernel_rfl) (fun _ => by kernel_rfl) ?_
              refine told_load (some 78) ⟨w.heap.size, 2, none⟩ (.slice (some ⟨b, off, none⟩) x.f2.length c2) rfl (by kernel_rfl) (fun _ => by kernel_rfl) (fun _ hS => atB hS e2) ?_
              refine told_pure (some 79) (.int .i64 (k : Int)) rfl (by kernel_rfl) (fun _ => by kernel_rfl) ?_
              refine told_is (some 80) (.int .i64 (IntKind.i64.wrap ((k : Int) - 1))) (.int .i64 ((k : Int) - 1)) (by rw [hwk]) rfl (by kernel_rfl) (fun _ => by kernel_rfl) ?_
              refine told_pure (some 81) (.pointer (some ⟨b, off + (k - 1) * 3, none⟩)) rfl (by kernel_rfl) (fun w => by go_simp) ?_
              refine told_pure (some 82) (.pointer (some ⟨b, off + (k - 1) * 3, none⟩)) rfl (by kernel_rfl) (fun _ => by kernel_rfl) ?_
              refine told_load (some 83) ⟨b, off + (k - 1) * 3, none⟩ (.int .i64 la) rfl (by kernel_rfl) (fun _ => by kernel_rfl) (fun _ hS => atB hS pc) ?_
              refine told_pure (some 84) (.pointer (some ⟨wr.heap.size, 0, none⟩)) rfl (by kernel_rfl) (fun _ => by kernel_rfl) ?_
              refine told_load (some 85) ⟨wr.heap.size, 0, none⟩ (.int .i64 X.f0) rfl (by kernel_rfl) (fun _ => by kernel_rfl) (fun _ hS => atB hS i0) ?_
              refine told_is (some 86) (.bool (decide (la ≥ X.f0))) (.bool false) (by rw [decide_eq_false r4]) rfl (by kernel_rfl) (fun _ => by kernel_rfl) ?_
              refine told_pure (some 87) (.bool false) rfl (by kernel_rfl) (fun _ => by kernel_rfl) ?_
              refine told_pure (some 88) (.bool false) rfl (by kernel_rfl) (fun _ => by kernel_rfl) ?_
              refine told_pure (some 89) (.bool false) rfl (by kernel_rfl) (fun _ => by kernel_rfl) ?_
              refine told_pure (some 90) (.pointer (some ⟨w.heap.size, 3, none⟩)) rfl (by kernel_rfl) (fun _ => by kernel_rfl) ?_
              refine told_load (some 91) ⟨w.heap.size, 3, none⟩ (.slice p3 x.f3.length c3) rfl (by kernel_rfl) (fun _ => by kernel_rfl) (fun _ hS => atB hS e3) ?_
              refine told_pure (some 92) (.pointer (some ⟨wr.heap.size, 0, none⟩)) rfl (by kernel_rfl) (fun _ => by kernel_rfl) ?_
              refine told_load (some 93) ⟨wr.heap.size, 0, none⟩ (.int .i64 X.f0) rfl (by kernel_rfl) (fun _ => by kernel_rfl) (fun _ hS => atB hS i0) ?_
              refine told_call (some 94) (.bool false) 62 #[.slice p3 x.f3.length c3, .int .i64 X.f0] rfl (by kernel_rfl) (fun _ => by kernel_rfl) (fun W hS => same_S (HLK.out W hS _ HLB.out) hS) ?_
              refine told_pure (some 95) (.bool true) rfl (by kernel_rfl) (fun _ => by kernel_rfl) ?_
              refine told_pure (some 96) (.bool true) rfl (by kernel_rfl) (fun _ => by kernel_rfl) ?_
              refine told_pure (some 97) (.pointer (some ⟨w.heap.size, 4, none⟩)) rfl (by kernel_rfl) (fun _ => by kernel_rfl) ?_
              refine told_load (some 98) ⟨w.heap.size, 4, none⟩ (.slice p4 x.f4.length c4) rfl (by kernel_rfl) (fun _ => by kernel_rfl) (fun _ hS => atB hS e4) ?_
              refine told_pure (some 99) (.pointer (some ⟨wr.heap.size, 0, none⟩)) rfl (by kernel_rfl) (fun _ => by kernel_rfl) ?_
              refine told_load (some 100) ⟨wr.heap.size, 0, none⟩ (.int .i64 X.f0) rfl (by kernel_rfl) (fun _ => by kernel_rfl) (fun _ hS => atB hS i0) ?_
              refine told_call (some 101) (.bool true) 63 #[.slice p4 x.f4.length c4, .int .i64 X.f0] rfl (by kernel_rfl) (fun _ => by kernel_rfl) (fun W hS => same_S (HMD.out W hS _ HMB.out) hS) ?_
              refine told_pure (some 102) (.bool false) rfl (by kernel_rfl) (fun _ => by kernel_rfl) ?_
              refine told_pure (some 103) (.bool false) rfl (by kernel_rfl) (fun _ => by kernel_rfl) ?_
              refine told_pure (some 104) (.bool false) rfl (by kernel_rfl) (fun _ => by kernel_rfl) ?_
              refine told_nil ?_
              intro w9 hS9
              show K' _ _
              exact HJK.out _ _ ⟨.pointer (some ⟨wr.heap.size, 0, none⟩), .int .i64 X.f0, .pointer (some ⟨w.heap.size, 1, none⟩), .int .i64 x.f1, .int .i64 (x.f1 - 1), .bool true, .bool false, .bool false, .pointer (some ⟨wr.heap.size, 2, none⟩), .int .i64 X.f2, .pointer (some ⟨wr.heap.size, 1, none⟩), .string X.f1, .int .i64 X.f1.size, .bool true, .bool false, .bool false, .bool false, .int .i64 (k : Int), .bool true, .bool true, .pointer (some ⟨w.heap.size, 2, none⟩), .slice (some ⟨b, off, none⟩) x.f2.length c2, .int .i64 (k : Int), .int .i64 ((k : Int) - 1), .pointer (some ⟨b, off + (k - 1) * 3, none⟩), .pointer (some ⟨b, off + (k - 1) * 3, none⟩), .int .i64 la, .pointer (some ⟨wr.heap.size, 0, none⟩), .int .i64 X.f0, .bool false, .bool false, .bool false, .bool false, .pointer (some ⟨w.heap.size, 3, none⟩), .slice p3 x.f3.length c3, .pointer (some ⟨wr.heap.size, 0, none⟩), .int .i64 X.f0, .bool false, .bool true, .bool true, .pointer (some ⟨w.heap.size, 4, none⟩), .slice p4 x.f4.length c4, .pointer (some ⟨wr.heap.size, 0, none⟩), .int .i64 X.f0, .bool true, .bool false, .bool false, .bool false, ⟨.inl ⟨(⟨HIO.out, by rw [HLB.out, HMB.out]; rfl⟩), rfl⟩, HC1'.out.trans (Below.mono hS9 (by have := HC1'.out.size; have := HS0.out; omega))⟩, by kernel_rfl⟩
        · have hk0 : ¬ (0 : Int) < k := by omega
          have HIO : Hid (iOk x.f1 la X) := by
            have h1 := HR1.out
            have h2 := HR2.out
            have h3 := HZ0.out (by omega)
            show iOk _ _ _
            unfold iOk
            omega
          clear r3
          cases hLB : lnk x.f3 X.f0
          case true =>
            have HLB : Hid (lnk x.f3 X.f0 = true) := hLB
            have HGG : Hid (iOk x.f1 la X ∧ (lnk x.f3 X.f0 || mad x.f4 X.f0) = true) := ⟨HIO.out, by rw [hLB]; rfl⟩
            rw [hLB] at HGG
            clear hLB
            refine wp_region_told (fun W => Below W1.heap.size W1 W) (by kernel_rfl) (by kernel_rfl) ((Below.refl W1.heap.size W1).drew) ?_
            refine told_pure (some 57) (.pointer (some ⟨wr.heap.size, 0, none⟩)) rfl (by kernel_rfl) (fun _ => by kernel_rfl) ?_
            refine told_load (some 58) ⟨wr.heap.size, 0, none⟩ (.int .i64 X.f0) rfl (by kernel_rfl) (fun _ => by kernel_rfl) (fun _ hS => atB hS i0) ?_
            refine told_pure (some 59) (.pointer (some ⟨w.heap.size, 1, none⟩)) rfl (by kernel_rfl) (fun _ => by kernel_rfl) ?_
            refine told_load (some 60) ⟨w.heap.size, 1, none⟩ (.int .i64 x.f1) rfl (by kernel_rfl) (fun _ => by kernel_rfl) (fun _ hS => atB hS e1) ?_
            refine told_is (some 61) (.int .i64 (IntKind.i64.wrap (x.f1 - 1))) (.int .i64 (x.f1 - 1)) (by rw [hwn]) rfl (by kernel_rfl) (fun _ => by kernel_rfl) ?_
            refine told_call (some 62) (.bool true) 36 #[.int .i64 X.f0, .int .i64 1, .int .i64 (x.f1 - 1)] rfl (by kernel_rfl) (fun _ => by kernel_rfl) (fun _ hS => same_S (HI1.out _) hS) ?_
            refine told_pure (some 63) (.bool false) rfl (by kernel_rfl) (fun _ => by kernel_rfl) ?_
            refine told_pure (some 64) (.bool false) rfl (by kernel_rfl) (fun _ => by kernel_rfl) ?_
            refine told_pure (some 65) (.pointer (some ⟨wr.heap.size, 2, none⟩)) rfl (by kernel_rfl) (fun _ => by kernel_rfl) ?_
            refine told_load (some 66) ⟨wr.heap.size, 2, none⟩ (.int .i64 X.f2) rfl (by kernel_rfl) (fun _ => by kernel_rfl) (fun _ hS => atB hS i2) ?_
            refine told_pure (some 67) (.pointer (some ⟨wr.heap.size, 1, none⟩)) rfl (by kernel_rfl) (fun _ => by kernel_rfl) ?_
            refine told_load (some 68) ⟨wr.heap.size, 1, none⟩ (.string X.f1) rfl (by kernel_rfl) (fun _ => by kernel_rfl) (fun _ hS => atB hS i1) ?_
            refine told_pure (some 69) (.int .i64 X.f1.size) rfl (by kernel_rfl) (fun _ => by kernel_rfl) ?_
            refine told_call (some 70) (.bool true) 36 #[.int .i64 X.f2, .int .i64 0, .int .i64 X.f1.size] rfl (by kernel_rfl) (fun _ => by kernel_rfl) (fun _ hS => same_S (HI2.out _) hS) ?_
            refine told_pure (some 71) (.bool false) rfl (by kernel_rfl) (fun _ => by kernel_rfl) ?_
            refine told_pure (some 72) (.bool false) rfl (by kernel_rfl) (fun _ => by kernel_rfl) ?_
            refine told_pure (some 73) (.bool false) rfl (by kernel_rfl) (fun _ => by kernel_rfl) ?_
            refine told_pure (some 74) (.int .i64 (k : Int)) rfl (by kernel_rfl) (fun _ => by kernel_rfl) ?_
            refine told_is (some 75) (.bool (decide ((k : Int) > 0))) (.bool false) (by rw [decide_eq_false hk0]) rfl (by kernel_rfl) (fun _ => by kernel_rfl) ?_
            refine told_pure (some 76) (.bool false) rfl (by kernel_rfl) (fun _ => by kernel_rfl) ?_
            refine told_skip (some 77) rfl (by kernel_rfl) ?_
            refine told_skip (some 78) rfl (by kernel_rfl) ?_
            refine told_skip (some 79) rfl (by kernel_rfl) ?_
            refine told_skip (some 80) rfl (by kernel_rfl) ?_
            refine told_skip (some 81) rfl (by kernel_rfl) ?_
            refine told_skip (some 82) rfl (by kernel_rfl) ?_
            refine told_skip (some 83) rfl (by kernel_rfl) ?_
            refine told_skip (some 84) rfl (by kernel_rfl) ?_
            refine told_skip (some 85) rfl (by kernel_rfl) ?_
            refine told_skip (some 86) rfl (by kernel_rfl) ?_
            refine told_pure (some 87) (.bool false) rfl (by kernel_rfl) (fun _ => by kernel_rfl) ?_
            refine told_pure (some 88) (.bool false) rfl (by kernel_rfl) (fun _ => by kernel_rfl) ?_
            refine told_pure (some 89) (.bool false) rfl (by kernel_rfl) (fun _ => by kernel_rfl) ?_
            refine told_pure (some 90) (.pointer (some ⟨w.heap.size, 3, none⟩)) rfl (by kernel_rfl) (fun _ => by kernel_rfl) ?_
            refine told_load (some 91) ⟨w.heap.size, 3, none⟩ (.slice p3 x.f3.length c3) rfl (by kernel_rfl) (fun _ => by kernel_rfl) (fun _ hS => atB hS e3) ?_
            refine told_pure (some 92) (.pointer (some ⟨wr.heap.size, 0, none⟩)) rfl (by kernel_rfl) (fun _ => by kernel_rfl) ?_
            refine told_load (some 93) ⟨wr.heap.size, 0, none⟩ (.int .i64 X.f0) rfl (by kernel_rfl) (fun _ => by kernel_rfl) (fun _ hS => atB hS i0) ?_
            refine told_call (some 94) (.bool true) 62 #[.slice p3 x.f3.length c3, .int .i64 X.f0] rfl (by kernel_rfl) (fun _ => by kernel_rfl) (fun W hS => same_S (HLK.out W hS _ HLB.out) hS) ?_
            refine told_pure (some 95) (.bool false) rfl (by kernel_rfl) (fun _ => by kernel_rfl) ?_
            refine told_pure (some 96) (.bool false) rfl (by kernel_rfl) (fun _ => by kernel_rfl) ?_
            refine told_skip (some 97) rfl (by kernel_rfl) ?_
            refine told_skip (some 98) rfl (by kernel_rfl) ?_
            refine told_skip (some 99) rfl (by kernel_rfl) ?_
            refine told_skip (some 100) rfl (by kernel_rfl) ?_
            refine told_skip (some 101) rfl (by kernel_rfl) ?_
            refine told_skip (some 102) rfl (by kernel_rfl) ?_
            refine told_pure (some 103) (.bool false) rfl (by kernel_rfl) (fun _ => by kernel_rfl) ?_
            refine told_pure (some 104) (.bool false) rfl (by kernel_rfl) (fun _ => by kernel_rfl) ?_
            refine told_nil ?_
            intro w9 hS9
            show K' _ _
            exact HJK.out _ _ ⟨.pointer (some ⟨wr.heap.size, 0, none⟩), .int .i64 X.f0, .pointer (some ⟨w.heap.size, 1, none⟩), .int .i64 x.f1, .int .i64 (x.f1 - 1), .bool true, .bool false, .bool false, .pointer (some ⟨wr.heap.size, 2, none⟩), .int .i64 X.f2, .pointer (some ⟨wr.heap.size, 1, none⟩), .string X.f1, .int .i64 X.f1.size, .bool true, .bool false, .bool false, .bool false, .int .i64 (k : Int), .bool false, .bool false, undef, undef, undef, undef, undef, undef, undef, undef, undef, undef, .bool false, .bool false, .bool false, .pointer (some ⟨w.heap.size, 3, none⟩), .slice p3 x.f3.length c3, .pointer (some ⟨wr.heap.size, 0, none⟩), .int .i64 X.f0, .bool true, .bool false, .bool false, undef, undef, undef, undef, undef, undef, .bool false, .bool false, ⟨.inl ⟨(by rw [HLB.out]; exact HGG.out), rfl⟩, HC1'.out.trans (Below.mono hS9 (by have := HC1'.out.size; have := HS0.out; omega))⟩, by kernel_rfl⟩
          case false =>
            have HLB : Hid (lnk x.f3 X.f0 = false) := hLB
            cases hMB : mad x.f4 X.f0
            · have HMB : Hid (mad x.f4 X.f0 = false) := hMB
              clear hLB hMB
              refine wp_region_told (fun W => Below W1.heap.size W1 W) (by kernel_rfl) (by kernel_rfl) ((Below.refl W1.heap.size W1).drew) ?_
              refine told_pure (some 57) (.pointer (some ⟨wr.heap.size, 0, none⟩)) rfl (by kernel_rfl) (fun _ => by kernel_rfl) ?_
              refine told_load (some 58) ⟨wr.heap.size, 0, none⟩ (.int .i64 X.f0) rfl (by kernel_rfl) (fun _ => by kernel_rfl) (fun _ hS => atB hS i0) ?_
              refine told_pure (some 59) (.pointer (some ⟨w.heap.size, 1, none⟩)) rfl (by kernel_rfl) (fun _ => by kernel_rfl) ?_
              refine told_load (some 60) ⟨w.heap.size, 1, none⟩ (.int .i64 x.f1) rfl (by kernel_rfl) (fun _ => by kernel_rfl) (fun _ hS => atB hS e1) ?_
              refine told_is (some 61) (.int .i64 (IntKind.i64.wrap (x.f1 - 1))) (.int .i64 (x.f1 - 1)) (by rw [hwn]) rfl (by kernel_rfl) (fun _ => by kernel_rfl) ?_
              refine told_call (some 62) (.bool true) 36 #[.int .i64 X.f0, .int .i64 1, .int .i64 (x.f1 - 1)] rfl (by kernel_rfl) (fun _ => by kernel_rfl) (fun _ hS => same_S (HI1.out _) hS) ?_
              refine told_pure (some 63) (.bool false) rfl (by kernel_rfl) (fun _ => by kernel_rfl) ?_
              refine told_pure (some 64) (.bool false) rfl (by kernel_rfl) (fun _ => by kernel_rfl) ?_
              refine told_pure (some 65) (.pointer (some ⟨wr.heap.size, 2, none⟩)) rfl (by kernel_rfl) (fun _ => by kernel_rfl) ?_
              refine told_load (some 66) ⟨wr.heap.size, 2, none⟩ (.int .i64 X.f2) rfl (by kernel_rfl) (fun _ => by kernel_rfl) (fun _ hS => atB hS i2) ?_
              refine told_pure (some 67) (.pointer (some ⟨wr.heap.size, 1, none⟩)) rfl (by kernel_rfl) (fun _ => by kernel_rfl) ?_
              refine told_load (some 68) ⟨wr.heap.size, 1, none⟩ (.string X.f1) rfl (by kernel_rfl) (fun _ => by kernel_rfl) (fun _ hS => atB hS i1) ?_
              refine told_pure (some 69) (.int .i64 X.f1.size) rfl (by kernel_rfl) (fun _ => by kernel_rfl) ?_
              refine told_call (some 70) (.bool true) 36 #[.int .i64 X.f2, .int .i64 0, .int .i64 X.f1.size] rfl (by kernel_rfl) (fun _ => by kernel_rfl) (fun _ hS => same_S (HI2.out _) hS) ?_
              refine told_pure (some 71) (.bool false) rfl (by kernel_rfl) (fun _ => by kernel_rfl) ?_
              refine told_pure (some 72) (.bool false) rfl (by kernel_rfl) (fun _ => by kernel_rfl) ?_
              refine told_pure (some 73) (.bool false) rfl (by kernel_rfl) (fun _ => by kernel_rfl) ?_
              refine told_pure (some 74) (.int .i64 (k : Int)) rfl (by kernel_rfl) (fun _ => by kernel_rfl) ?_
              refine told_is (some 75) (.bool (decide ((k : Int) > 0))) (.bool false) (by rw [decide_eq_false hk0]) rfl (by kernel_rfl) (fun _ => by kernel_rfl) ?_
              refine told_pure (some 76) (.bool false) rfl (by kernel_rfl) (fun _ => by kernel_rfl) ?_
              refine told_skip (some 77) rfl (by kernel_rfl) ?_
              refine told_skip (some 78) rfl (by kernel_rfl) ?_
              refine told_skip (some 79) rfl (by kernel_rfl) ?_
              refine told_skip (some 80) rfl (by kernel_rfl) ?_
              refine told_skip (some 81) rfl (by kernel_rfl) ?_
              refine told_skip (some 82) rfl (by kernel_rfl) ?_
              refine told_skip (some 83) rfl (by kernel_rfl) ?_
              refine told_skip (some 84) rfl (by kernel_rfl) ?_
              refine told_skip (some 85) rfl (by kernel_rfl) ?_
              refine told_skip (some 86) rfl (by kernel_rfl) ?_
              refine told_pure (some 87) (.bool false) rfl (by kernel_rfl) (fun _ => by kernel_rfl) ?_
              refine told_pure (some 88) (.bool false) rfl (by kernel_rfl) (fun _ => by kernel_rfl) ?_
              refine told_pure (some 89) (.bool false) rfl (by kernel_rfl) (fun _ => by kernel_rfl) ?_
              refine told_pure (some 90) (.pointer (some ⟨w.heap.size, 3, none⟩)) rfl (by kernel_rfl) (fun _ => by kernel_rfl) ?_
              refine told_load (some 91) ⟨w.heap.size, 3, none⟩ (.slice p3 x.f3.length c3) rfl (by kernel_rfl) (fun _ => by kernel_rfl) (fun _ hS => atB hS e3) ?_
              refine told_pure (some 92) (.pointer (some ⟨wr.heap.size, 0, none⟩)) rfl (by kernel_rfl) (fun _ => by kernel_rfl) ?_
              refine told_load (some 93) ⟨wr.heap.size, 0, none⟩ (.int .i64 X.f0) rfl (by kernel_rfl) (fun _ => by kernel_rfl) (fun _ hS => atB hS i0) ?_
              refine told_call (some 94) (.bool false) 62 #[.slice p3 x.f3.length c3, .int .i64 X.f0] rfl (by kernel_rfl) (fun _ => by kernel_rfl) (fun W hS => same_S (HLK.out W hS _ HLB.out) hS) ?_
              refine told_pure (some 95) (.bool true) rfl (by kernel_rfl) (fun _ => by kernel_rfl) ?_
              refine told_pure (some 96) (.bool true) rfl (by kernel_rfl) (fun _ => by kernel_rfl) ?_
              refine told_pure (some 97) (.pointer (some ⟨w.heap.size, 4, none⟩)) rfl (by kernel_rfl) (fun _ => by kernel_rfl) ?_
              refine told_load (some 98) ⟨w.heap.size, 4, none⟩ (.slice p4 x.f4.length c4) rfl (by kernel_rfl) (fun _ => by kernel_rfl) (fun _ hS => atB hS e4) ?_
              refine told_pure (some 99) (.pointer (some ⟨wr.heap.size, 0, none⟩)) rfl (by kernel_rfl) (fun _ => by kernel_rfl) ?_
              refine told_load (some 100) ⟨wr.heap.size, 0, none⟩ (.int .i64 X.f0) rfl (by kernel_rfl) (fun _ => by kernel_rfl) (fun _ hS => atB hS i0) ?_
              refine told_call (some 101) (.bool false) 63 #[.slice p4 x.f4.length c4, .int .i64 X.f0] rfl (by kernel_rfl) (fun _ => by kernel_rfl) (fun W hS => same_S (HMD.out W hS _ HMB.out) hS) ?_
              refine told_pure (some 102) (.bool true) rfl (by kernel_rfl) (fun _ => by kernel_rfl) ?_
              refine told_pure (some 103) (.bool true) rfl (by kernel_rfl) (fun _ => by kernel_rfl) ?_
              refine told_pure (some 104) (.bool true) rfl (by kernel_rfl) (fun _ => by kernel_rfl) ?_
              refine told_nil ?_
              intro w9 hS9
              show K' _ _
              exact HJK.out _ _ ⟨.pointer (some ⟨wr.heap.size, 0, none⟩), .int .i64 X.f0, .pointer (some ⟨w.heap.size, 1, none⟩), .int .i64 x.f1, .int .i64 (x.f1 - 1), .bool true, .bool false, .bool false, .pointer (some ⟨wr.heap.size, 2, none⟩), .int .i64 X.f2, .pointer (some ⟨wr.heap.size, 1, none⟩), .string X.f1, .int .i64 X.f1.size, .bool true, .bool false, .bool false, .bool false, .int .i64 (k : Int), .bool false, .bool false, undef, undef, undef, undef, undef, undef, undef, undef, undef, undef, .bool false, .bool false, .bool false, .pointer (some ⟨w.heap.size, 3, none⟩), .slice p3 x.f3.length c3, .pointer (some ⟨wr.heap.size, 0, none⟩), .int .i64 X.f0, .bool false, .bool true, .bool true, .pointer (some ⟨w.heap.size, 4, none⟩), .slice p4 x.f4.length c4, .pointer (some ⟨wr.heap.size, 0, none⟩), .int .i64 X.f0, .bool false, .bool true, .bool true, .bool true, ⟨.inr ⟨(fun h => by have h1 := h.2; rw [HLB.out, HMB.out] at h1; cases h1), rfl⟩, HC1'.out.trans (Below.mono hS9 (by have := HC1'.out.size; have := HS0.out; omega))⟩, by kernel_rfl⟩
            · have HMB : Hid (mad x.f4 X.f0 = true) := hMB
              clear hLB hMB
              refine wp_region_told (fun W => Below W1.heap.size W1 W) (by kernel_rfl) (by kernel_rfl) ((Below.refl W1.heap.size W1).drew) ?_
              refine told_pure (some 57) (.pointer (some ⟨wr.heap.size, 0, none⟩)) rfl (by kernel_rfl) (fun _ => by kernel_rfl) ?_
              refine told_load (some 58) ⟨wr.heap.size, 0, none⟩ (.int .i64 X.f0) rfl (by kernel_rfl) (fun _ => by kernel_rfl) (fun _ hS => atB hS i0) ?_
              refine told_pure (some 59) (.pointer (some ⟨w.heap.size, 1, none⟩)) rfl (by kernel_rfl) (fun _ => by kernel_rfl) ?_
              refine told_load (some 60) ⟨w.heap.size, 1, none⟩ (.int .i64 x.f1) rfl (by kernel_rfl) (fun _ => by kernel_rfl) (fun _ hS => atB hS e1) ?_
              refine told_is (some 61) (.int .i64 (IntKind.i64.wrap (x.f1 - 1))) (.int .i64 (x.f1 - 1)) (by rw [hwn]) rfl (by kernel_rfl) (fun _ => by kernel_rfl) ?_
              refine told_call (some 62) (.bool true) 36 #[.int .i64 X.f0, .int .i64 1, .int .i64 (x.f1 - 1)] rfl (by kernel_rfl) (fun _ => by kernel_rfl) (fun _ hS => same_S (HI1.out _) hS) ?_
              refine told_pure (some 63) (.bool false) rfl (by kernel_rfl) (fun _ => by kernel_rfl) ?_
              refine told_pure (some 64) (.bool false) rfl (by kernel_rfl) (fun _ => by kernel_rfl) ?_
              refine told_pure (some 65) (.pointer (some ⟨wr.heap.size, 2, none⟩)) rfl (by kernel_rfl) (fun _ => by kernel_rfl) ?_
              refine told_load (some 66) ⟨wr.heap.size, 2, none⟩ (.int .i64 X.f2) rfl (by kernel_rfl) (fun _ => by kernel_rfl) (fun _ hS => atB hS i2) ?_
              refine told_pure (some 67) (.pointer (some ⟨wr.heap.size, 1, none⟩)) rfl (by kernel_rfl) (fun _ => by kernel_rfl) ?_
              refine told_load (some 68) ⟨wr.heap.size, 1, none⟩ (.string X.f1) rfl (by kernel_rfl) (fun _ => by kernel_rfl) (fun _ hS => atB hS i1) ?_
              refine told_pure (some 69) (.int .i64 X.f1.size) rfl (by kernel_rfl) (fun _ => by kernel_rfl) ?_
              refine told_call (some 70) (.bool true) 36 #[.int .i64 X.f2, .int .i64 0, .int .i64 X.f1.size] rfl (by kernel_rfl) (fun _ => by kernel_rfl) (fun _ hS => same_S (HI2.out _) hS) ?_
              refine told_pure (some 71) (.bool false) rfl (by kernel_rfl) (fun _ => by kernel_rfl) ?_
              refine told_pure (some 72) (.bool false) rfl (by kernel_rfl) (fun _ => by kernel_rfl) ?_
              refine told_pure (some 73) (.bool false) rfl (by kernel_rfl) (fun _ => by kernel_rfl) ?_
              refine told_pure (some 74) (.int .i64 (k : Int)) rfl (by kernel_rfl) (fun _ => by kernel_rfl) ?_
              refine told_is (some 75) (.bool (decide ((k : Int) > 0))) (.bool false) (by rw [decide_eq_false hk0]) rfl (by kernel_rfl) (fun _ => by kernel_rfl) ?_
              refine told_pure (some 76) (.bool false) rfl (by kernel_rfl) (fun _ => by kernel_rfl) ?_
              refine told_skip (some 77) rfl (by kernel_rfl) ?_
              refine told_skip (some 78) rfl (by kernel_rfl) ?_
              refine told_skip (some 79) rfl (by kernel_rfl) ?_
              refine told_skip (some 80) rfl (by kernel_rfl) ?_
              refine told_skip (some 81) rfl (by kernel_rfl) ?_
              refine told_skip (some 82) rfl (by kernel_rfl) ?_
              refine told_skip (some 83) rfl (by kernel_rfl) ?_
              refine told_skip (some 84) rfl (by kernel_rfl) ?_
              refine told_skip (some 85) rfl (by kernel_rfl) ?_
              refine told_skip (some 86) rfl (by kernel_rfl) ?_
              refine told_pure (some 87) (.bool false) rfl (by kernel_rfl) (fun _ => by kernel_rfl) ?_
              refine told_pure (some 88) (.bool false) rfl (by kernel_rfl) (fun _ => by kernel_rfl) ?_
              refine told_pure (some 89) (.bool false) rfl (by kernel_rfl) (fun _ => by kernel_rfl) ?_
              refine told_pure (some 90) (.pointer (some ⟨w.heap.size, 3, none⟩)) rfl (by kernel_rfl) (fun _ => by kernel_rfl) ?_
              refine told_load (some 91) ⟨w.heap.size, 3, none⟩ (.slice p3 x.f3.length c3) rfl (by kernel_rfl) (fun _ => by kernel_rfl) (fun _ hS => atB hS e3) ?_
              refine told_pure (some 92) (.pointer (some ⟨wr.heap.size, 0, none⟩)) rfl (by kernel_rfl) (fun _ => by kernel_rfl) ?_
              refine told_load (some 93) ⟨wr.heap.size, 0, none⟩ (.int .i64 X.f0) rfl (by kernel_rfl) (fun _ => by kernel_rfl) (fun _ hS => atB hS i0) ?_
              refine told_call (some 94) (.bool false) 62 #[.slice p3 x.f3.length c3, .int .i64 X.f0] rfl (by kernel_rfl) (fun _ => by kernel_rfl) (fun W hS => same_S (HLK.out W hS _ HLB.out) hS) ?_
              refine told_pure (some 95) (.bool true) rfl (by kernel_rfl) (fun _ => by kernel_rfl) ?_
              refine told_pure (some 96) (.bool true) rfl (by kernel_rfl) (fun _ => by kernel_rfl) ?_
              refine told_pure (some 97) (.pointer (some ⟨w.heap.size, 4, none⟩)) rfl (by kernel_rfl) (fun _ => by kernel_rfl) ?_
              refine told_load (some 98) ⟨w.heap.size, 4, none⟩ (.slice p4 x.f4.length c4) rfl (by kernel_rfl) (fun _ => by kernel_rfl) (fun _ hS => atB hS e4) ?_
              refine told_pure (some 99) (.pointer (some ⟨wr.heap.size, 0, none⟩)) rfl (by kernel_rfl) (fun _ => by kernel_rfl) ?_
              refine told_load (some 100) ⟨wr.heap.size, 0, none⟩ (.int .i64 X.f0) rfl (by kernel_rfl) (fun _ => by kernel_rfl) (fun _ hS => atB hS i0) ?_
              refine told_call (some 101) (.bool true) 63 #[.slice p4 x.f4.length c4, .int .i64 X.f0] rfl (by kernel_rfl) (fun _ => by kernel_rfl) (fun W hS => same_S (HMD.out W hS _ HMB.out) hS) ?_
              refine told_pure (some 102) (.bool false) rfl (by kernel_rfl) (fun _ => by kernel_rfl) ?_
              refine told_pure (some 103) (.bool false) rfl (by kernel_rfl) (fun _ => by kernel_rfl) ?_
              refine told_pure (some 104) (.bool false) rfl (by kernel_rfl) (fun _ => by kernel_rfl) ?_
              refine told_nil ?_
              intro w9 hS9
              show K' _ _
              exact HJK.out _ _ ⟨.pointer (some ⟨wr.heap.size, 0, none⟩), .int .i64 X.f0, .pointer (some ⟨w.heap.size, 1, none⟩), .int .i64 x.f1, .int .i64 (x.f1 - 1), .bool true, .bool false, .bool false, .pointer (some ⟨wr.heap.size, 2, none⟩), .int .i64 X.f2, .pointer (some ⟨wr.heap.size, 1, none⟩), .string X.f1, .int .i64 X.f1.size, .bool true, .bool false, .bool false, .bool false, .int .i64 (k : Int), .bool false, .bool false, undef, undef, undef, undef, undef, undef, undef, undef, undef, undef, .bool false, .bool false, .bool false, .pointer (some ⟨w.heap.size, 3, none⟩), .slice p3 x.f3.length c3, .pointer (some ⟨wr.heap.size, 0, none⟩), .int .i64 X.f0, .bool false, .bool true, .bool true, .pointer (some ⟨w.heap.size, 4, none⟩), .slice p4 x.f4.length c4, .pointer (some ⟨wr.heap.size, 0, none⟩), .int .i64 X.f0, .bool true, .bool false, .bool false, .bool false, ⟨.inl ⟨(⟨HIO.out, by rw [HLB.out, HMB.out]; rfl⟩), rfl⟩, HC1'.out.trans (Below.mono hS9 (by have := HC1'.out.size; have := HS0.out; omega))⟩, by kernel_rfl⟩
      case rest =>
        obtain ⟨⟨hg, rfl⟩ | ⟨hg, rfl⟩, HCc⟩ := hcut
        · have HO1 : Hid (∀ j (hj : j < x.f2.length), j < k + 1 → iOk x.f1 (lastI x.f2 j) x.f2[j] ∧ (lnk x.f3 x.f2[j].f0 || mad x.f4 x.f2[j].f0) = true) := HON.out hg
          clear hg i0 i1 i2 e0 e1 e2 e3 e4
          go_wp2
          go_roundw
          case rel => exact ⟨k + 1, by omega, by go_num, HCc, HO1⟩
          case measure => simp [intOf]; omega
        · have HE : Hid (¬ okX x) := fun h => hg (HNO.out h)
          clear hg
          go_wp2
          go_ret
          exact ⟨.inr ⟨HE.out, rfl⟩, HDN.out _ HCc.out⟩
    · have hke : k = x.f2.length := by omega
      subst hke
      have HX3 : Hid (okI x.f1 x.f2 ∧ ∀ y ∈ x.f2, (lnk x.f3 y.f0 || mad x.f4 y.f0) = true) := ⟨fun j hj => (HOk.out j hj hj).1, fun y hy => by
        obtain ⟨i, hi, rfl⟩ := List.getElem_of_mem hy
        exact (HOk.out i hi hi).2⟩
      clear HOk
      go_wp2
      go_loopw [5] (fun iv wr => ∃ k : Nat, k ≤ x.f3.length ∧ iv = .int .i64 (k : Int) ∧ Hid (Below (w.heap.size + 1) W0 wr) ∧ Hid (∀ j (hj : j < x.f3.length), j < k → dOk (fs0 x.f2) x.f3 j x.f3[j])) (fun iv _ => x.f3.length - (intOf iv).toNat)
      case atStart => exact ⟨0, Nat.zero_le _, rfl, HCk, fun j _ hj => by omega⟩
      clear e0 e1 e2 e3 e4 hlt HCk hk
      case round =>
        obtain ⟨k, hk, rfl, HCk, HOk⟩ := hrel
        obtain ⟨e0, e1, e2, e3, e4⟩ := HBX.out wr HCk.out
        by_cases hlt : k < x.f3.length
        · have hlt' : (k : Int) < x.f3.length := by omega
          obtain ⟨b, off, cap', hv, hbl, hc⟩ := link_cells (HRD.out wr HCk.out).2.1 (by omega)
          simp only [Value.slice.injEq, true_and] at hv
          obtain ⟨rfl, rfl⟩ := hv
          obtain ⟨d0, d1⟩ := hc k hlt
          have HPR : Hid (0 < k → wr.cell? ⟨b, off + (k - 1) * 2, none⟩ = some (.string (lastD x.f3 k))) := fun h0 => by
            obtain ⟨j, rfl⟩ : ∃ j, k = j + 1 := ⟨k - 1, by omega⟩
            rw [lastD_succ x.f3 j (by omega)]
            exact (hc j (by omega)).1
          have HNO : Hid (okX x → dOk (fs0 x.f2) x.f3 k x.f3[k]) := fun h => h.2.2.1 k hlt
          have HON : Hid (dOk (fs0 x.f2) x.f3 k x.f3[k] → ∀ j (hj : j < x.f3.length), j < k + 1 → dOk (fs0 x.f2) x.f3 j x.f3[j]) := fun h j hj hjk => by
            by_cases e : j = k
            · subst e; exact h
            · exact HOk.out j hj (by omega)
          have HSK : Hid (sLink x.f3[k]) := HB.out.sl _ (List.getElem_mem hlt)
          clear hc
          generalize x.f3[k] = X at d0 d1 HNO HON HSK
          generalize hla : lastD x.f3 k = la at HPR
          go_upto_region 15 with fail
          refine wp_genD (fun W1 => W1.cell? ⟨wr.heap.size, 0, none⟩ = some (.string X.f0) ∧ W1.cell? ⟨wr.heap.size, 1, none⟩ = some (.int .i64 X.f1) ∧ (W1.cell? ⟨w.heap.size, 0, none⟩ = some (.int .i64 x.f0) ∧ W1.cell? ⟨w.heap.size, 1, none⟩ = some (.int .i64 x.f1) ∧ W1.cell? ⟨w.heap.size, 2, none⟩ = some (.slice p2 x.f2.length c2) ∧ W1.cell? ⟨w.heap.size, 3, none⟩ = some (.slice (some ⟨b, off, none⟩) x.f3.length c3) ∧ W1.cell? ⟨w.heap.size, 4, none⟩ = some (.slice p4 x.f4.length c4)) ∧ Hid (0 < k → W1.cell? ⟨b, off + (k - 1) * 2, none⟩ = some (.string la)) ∧ Hid (Below (w.heap.size + 1) W0 W1) ∧ Hid (wr.heap.size < W1.heap.size)) ?_ ?_
          · have hB' : Below (w.heap.size + 1) W0 (wr.alloc (.cells #[.string X.f0, .int .i64 X.f1] 49)) := HCk.out.alloc (by have := HCk.out.size; have := HS0.out; omega) _
            exact ⟨box_cell _ _ _ _, box_cell _ _ _ _, HBX.out _ hB', fun h0 => cell_alloc (HPR.out h0), hB', by show _ < _; simp⟩
          intro W1 ⟨i0, i1, ⟨e0, e1, e2, e3, e4⟩, HPW, HC1', HW1⟩
          clear d0 d1
          go_cut [152] from 117 to 152 (fun c wx => ((dOk (fs0 x.f2) x.f3 k X ∧ c = .bool false) ∨ (¬ dOk (fs0 x.f2) x.f3 k X ∧ c = .bool true)) ∧ Hid (Below (w.heap.size + 1) W0 wx))
          case first =>
            rename_i J K' hRJ hMK
            have HJK : Hid (∀ a' w', _ → K' a' w') := fun a' w' h => hMK a' w' (hRJ a' w' h)
            clear hMK hRJ
            go_light
            have hxl : X.f0.size ≤ maxLen := HSK.out
            have hkc : (k : Int) ≤ c3 := by omega
            have HLC : Hid (∀ W, Below W1.heap.size W1 W → ∀ B, lnk (x.f3.take k) X.f1 = B → Calls Tryz.prog 62 #[.slice (some ⟨b, off, none⟩) k c3, .int .i64 X.f1] W fun e w' => e = .returned (.bool B) ∧ w' = W) := fun W hS B hB => by
              rw [← hB]
              have hrow := rowCut ((HRD.out W1 HC1'.out).2.1.keep hS (Nat.le_refl _)) k (by omega)
              rw [rLink_take x.f3 k (by omega)] at hrow
              have hlen : (x.f3.take k).length = k := by rw [List.length_take]; omega
              exact linked_c (.slice (some ⟨b, off, none⟩) k c3) (x.f3.take k) X.f1 W (by omega) (by rw [hlen]; exact hrow)
            cases hNB : nameB X.f0
            · have HNM : Hid (∀ W, Calls Tryz.prog 37 #[.string X.f0] W fun e w' => e = .returned (.bool false) ∧ w' = W) := fun W => by have := name_c X.f0 W hxl; rw [hNB] at this; exact this
              have HE : Hid (¬ dOk (fs0 x.f2) x.f3 k X) := fun h => by have h1 := h.1; rw [hNB] at h1; cases h1
              clear hNB
              refine wp_region_told (fun W => Below W1.heap.size W1 W) (by kernel_rfl) (by kernel_rfl) ((Below.refl W1.heap.size W1).drew) ?_
              refine told_pure (some 117) (.pointer (some ⟨wr.heap.size, 0, none⟩)) rfl (by kernel_rfl) (fun _ => by kernel_rfl) ?_
              refine told_load (some 118) ⟨wr.heap.size, 0, none⟩ (.string X.f0) rfl (by kernel_rfl) (fun _ => by kernel_rfl) (fun _ hS => atB hS i0) ?_
              refine told_call (some 119) (.bool false) 37 #[.string X.f0] rfl (by kernel_rfl) (fun _ => by kernel_rfl) (fun _ hS => same_S (HNM.out _) hS) ?_
              refine told_pure (some 120) (.bool true) rfl (by kernel_rfl) (fun _ => by kernel_rfl) ?_
              refine told_pure (some 121) (.bool true) rfl (by kernel_rfl) (fun _ => by kernel_rfl) ?_
              refine told_skip (some 122) rfl (by kernel_rfl) ?_
              refine told_skip (some 123) rfl (by kernel_rfl) ?_
              refine told_skip (some 124) rfl (by kernel_rfl) ?_
              refine told_skip (some 125) rfl (by kernel_rfl) ?_
              refine told_skip (some 126) rfl (by kernel_rfl) ?_
              refine told_skip (some 127) rfl (by kernel_rfl) ?_
              refine told_skip (some 128) rfl (by kernel_rfl) ?_
              refine told_skip (some 129) rfl (by kernel_rfl) ?_
              refine told_skip (some 130) rfl (by kernel_rfl) ?_
              refine told_skip (some 131) rfl (by kernel_rfl) ?_
              refine told_skip (some 132) rfl (by kernel_rfl) ?_
              refine told_skip (some 133) rfl (by kernel_rfl) ?_
              refine told_skip (some 134) rfl (by kernel_rfl) ?_
              refine told_skip (some 135) rfl (by kernel_rfl) ?_
              refine told_pure (some 136) (.bool true) rfl (by kernel_rfl) (fun _ => by kernel_rfl) ?_
              refine told_pure (some 137) (.bool true) rfl (by kernel_rfl) (fun _ => by kernel_rfl) ?_
              refine told_skip (some 138) rfl (by kernel_rfl) ?_
              refine told_skip (some 139) rfl (by kernel_rfl) ?_
              refine told_skip (some 140) rfl (by kernel_rfl) ?_
              refine told_skip (some 141) rfl (by kernel_rfl) ?_
              refine told_skip (some 142) rfl (by kernel_rfl) ?_
              refine told_pure (some 143) (.bool true) rfl (by kernel_rfl) (fun _ => by kernel_rfl) ?_
              refine told_pure (some 144) (.bool true) rfl (by kernel_rfl) (fun _ => by kernel_rfl) ?_
              refine told_skip (some 145) rfl (by kernel_rfl) ?_
              refine told_skip (some 146) rfl (by kernel_rfl) ?_
              refine told_skip (some 147) rfl (by kernel_rfl) ?_
              refine told_skip (some 148) rfl (by kernel_rfl) ?_
              refine told_skip (some 149) rfl (by kernel_rfl) ?_
              refine told_skip (some 150) rfl (by kernel_rfl) ?_
              refine told_skip (some 151) rfl (by kernel_rfl) ?_
              refine told_pure (some 152) (.bool true) rfl (by kernel_rfl) (fun _ => by kernel_rfl) ?_
              refine told_nil ?_
              intro w9 hS9
              show K' _ _
              exact HJK.out _ _ ⟨.pointer (some ⟨wr.heap.size, 0, none⟩), .string X.f0, .bool false, .bool true, .bool true, undef, undef, undef, undef, undef, undef, undef, undef, undef, undef, undef, undef, undef, undef, .bool true, .bool true, undef, undef, undef, undef, undef, .bool true, .bool true, undef, undef, undef, undef, undef, undef, undef, .bool true, ⟨.inr ⟨(HE.out), rfl⟩, HC1'.out.trans (Below.mono hS9 (by have := HC1'.out.size; have := HS0.out; omega))⟩, by kernel_rfl⟩
            have HNM : Hid (∀ W, Calls Tryz.prog 37 #[.string X.f0] W fun e w' => e = .returned (.bool true) ∧ w' = W) := fun W => by have := name_c X.f0 W hxl; rw [hNB] at this; exact this
            have HNB : Hid (nameB X.f0 = true) := hNB
            clear hNB
            obtain ⟨ix, hix⟩ : ∃ ix, idx (fun y : S_Inode => decide (y.f0 = X.f1)) x.f2 = ix := ⟨_, rfl⟩
            have HIN : Hid (∀ W, Below W1.heap.size W1 W → Calls Tryz.prog 64 #[.agg #[.int .i64 x.f0, .int .i64 x.f1, .slice p2 x.f2.length c2, .slice (some ⟨b, off, none⟩) x.f3.length c3, .slice p4 x.f4.length c4], .int .i64 X.f1] W fun e w' => e = .returned (.int .i64 ix) ∧ Below W1.heap.size W1 w') := fun W hS => by
              rw [← hix]
              exact below_S (inode_c x _ _ _ X.f1 W HLN.out ((HRD.out W1 HC1'.out).keep hS (Nat.le_refl _))) hS
            by_cases r3 : 0 < k
            · have hk1 : (0 : Int) < k := by omega
              have hk2 : (1 : Int) ≤ k := by omega
              have hk3 : (k : Int) - 1 < x.f3.length := by omega
              have hwk : IntKind.i64.wrap ((k : Int) - 1) = (k : Int) - 1 := by rw [IntWalk.i64_left]; exact IntWalk.wrap64_in _ (by omega)
              have hkn : ((k : Int) - 1).toNat = k - 1 := by omega
              have pc := HPW.out r3
              cases r4 : Op.bytesLess la.toList X.f0.toList
              · have HE : Hid (¬ dOk (fs0 x.f2) x.f3 k X) := fun h => by
                  have h1 := h.2.1 r3
                  rw [hla, r4] at h1
                  cases h1
                refine wp_region_told (fun W => Below W1.heap.size W1 W) (by kernel_rfl) (by kernel_rfl) ((Below.refl W1.heap.size W1).drew) ?_
                refine told_pure (some 117) (.pointer (some ⟨wr.heap.size, 0, none⟩)) rfl (by kernel_rfl) (fun _ => by kernel_rfl) ?_
                refine told_load (some 118) ⟨wr.heap.size, 0, none⟩ (.string X.f0) rfl (by kernel_rfl) (fun _ => by kernel_rfl) (fun _ hS => atB hS i0) ?_
                refine told_call (some 119) (.bool true) 37 #[.string X.f0] rfl (by kernel_rfl) (fun _ => by kernel_rfl) (fun _ hS => same_S (HNM.out _) hS) ?_
                refine told_pure (some 120) (.bool false) rfl (by kernel_rfl) (fun _ => by kernel_rfl) ?_
                refine told_pure (some 121) (.bool false) rfl (by kernel_rfl) (fun _ => by kernel_rfl) ?_
                refine told_pure (some 122) (.int .i64 (k : Int)) rfl (by kernel_rfl) (fun _ => by kernel_rfl) ?_
                refine told_is (some 123) (.bool (decide ((k : Int) > 0))) (.bool true) (by rw [decide_eq_true hk1]) rfl (by kernel_rfl) (fun _ => by kernel_rfl) ?_
                refine told_pure (some 124) (.bool true) rfl (by kernel_rfl) (fun _ => by kernel_rfl) ?_
                refine told_pure (some 125) (.pointer (some ⟨w.heap.size, 3, none⟩)) rfl (by kernel_rfl) (fun _ => by kernel_rfl) ?_
                refine told_load (some 126) ⟨w.heap.size, 3, none⟩ (.slice (some ⟨b, off, none⟩) x.f3.length c3) rfl (by kernel_rfl) (fun _ => by kernel_rfl) (fun _ hS => atB hS e3) ?_
                refine told_pure (some 127) (.int .i64 (k : Int)) rfl (by kernel_rfl) (fun _ => by kernel_rfl) ?_
                refine told_is (some 128) (.int .i64 (IntKind.i64.wrap ((k : Int) - 1))) (.int .i64 ((k : Int) - 1)) (by rw [hwk]) rfl (by kernel_rfl) (fun _ => by kernel_rfl) ?_
                refine told_pure (some 129) (.pointer (some ⟨b, off + (k - 1) * 2, none⟩)) rfl (by kernel_rfl) (fun w => by go_simp) ?_
                refine told_pure (some 130) (.pointer (some ⟨b, off + (k - 1) * 2, none⟩)) rfl (by kernel_rfl) (fun _ => by kernel_rfl) ?_
                refine told_load (some 131) ⟨b, off + (k - 1) * 2, none⟩ (.string la) rfl (by kernel_rfl) (fun _ => by kernel_rfl) (fun _ hS => atB hS pc) ?_
                refine told_pure (some 132) (.pointer (some ⟨wr.heap.size, 0, none⟩)) rfl (by kernel_rfl) (fun _ => by kernel_rfl) ?_
                refine told_load (some 133) ⟨wr.heap.size, 0, none⟩ (.string X.f0) rfl (by kernel_rfl) (fun _ => by kernel_rfl) (fun _ hS => atB hS i0) ?_
                refine told_is (some 134) (.bool (!Op.bytesLess la.toList X.f0.toList)) (.bool true) (by rw [r4]; rfl) rfl (by kernel_rfl) (fun _ => by kernel_rfl) ?_
                refine told_pure (some 135) (.bool true) rfl (by kernel_rfl) (fun _ => by kernel_rfl) ?_
                refine told_pure (some 136) (.bool true) rfl (by kernel_rfl) (fun _ => by kernel_rfl) ?_
                refine told_pure (some 137) (.bool true) rfl (by kernel_rfl) (fun _ => by kernel_rfl) ?_
                refine told_skip (some 138) rfl (by kernel_rfl) ?_
                refine told_skip (some 139) rfl (by kernel_rfl) ?_
                refine told_skip (some 140) rfl (by kernel_rfl) ?_
                refine told_skip (some 141) rfl (by kernel_rfl) ?_
                refine told_skip (some 142) rfl (by kernel_rfl) ?_
                refine told_pure (some 143) (.bool true) rfl (by kernel_rfl) (fun _ => by kernel_rfl) ?_
                refine told_pure (some 144) (.bool true) rfl (by kernel_rfl) (fun _ => by kernel_rfl) ?_
                refine told_skip (some 145) rfl (by kernel_rfl) ?_
                refine told_skip (some 146) rfl (by kernel_rfl) ?_
                refine told_skip (some 147) rfl (by kernel_rfl) ?_
                refine told_skip (some 148) rfl (by kernel_rfl) ?_
                refine told_skip (some 149) rfl (by kernel_rfl) ?_
                refine told_skip (some 150) rfl (by kernel_rfl) ?_
                refine told_skip (some 151) rfl (by kernel_rfl) ?_
                refine told_pure (some 152) (.bool true) rfl (by kernel_rfl) (fun _ => by kernel_rfl) ?_
                refine told_nil ?_
                intro w9 hS9
                show K' _ _
                exact HJK.out _ _ ⟨.pointer (some ⟨wr.heap.size, 0, none⟩), .string X.f0, .bool true, .bool false, .bool false, .int .i64 (k : Int), .bool true, .bool true, .pointer (some ⟨w.heap.size, 3, none⟩), .slice (some ⟨b, off, none⟩) x.f3.length c3, .int .i64 (k : Int), .int .i64 ((k : Int) - 1), .pointer (some ⟨b, off + (k - 1) * 2, none⟩), .pointer (some ⟨b, off + (k - 1) * 2, none⟩), .string la, .pointer (some ⟨wr.heap.size, 0, none⟩), .string X.f0, .bool true, .bool true, .bool true, .bool true, undef, undef, undef, undef, undef, .bool true, .bool true, undef, undef, undef, undef, undef, undef, undef, .bool true, ⟨.inr ⟨(HE.out), rfl⟩, HC1'.out.trans (Below.mono hS9 (by have := HC1'.out.size; have := HS0.out; omega))⟩, by kernel_rfl⟩
              have HLT : Hid (0 < k → Op.bytesLess (lastD x.f3 k).toList X.f0.toList = true) := fun _ => by rw [hla]; exact r4
              have HIX : Hid (idx (fun y : S_Inode => decide (y.f0 = X.f1)) x.f2 = ix) := hix
              by_cases r5 : ix < 0
              · have HE : Hid (¬ dOk (fs0 x.f2) x.f3 k X) := fun h => by
                  have h1 := h.2.2.1
                  rw [hasF_idx, HIX.out] at h1
                  simp [r5] at h1
                refine wp_region_told (fun W => Below W1.heap.size W1 W) (by kernel_rfl) (by kernel_rfl) ((Below.refl W1.heap.size W1).drew) ?_
                refine told_pure (some 117) (.pointer (some ⟨wr.heap.size, 0, none⟩)) rfl (by kernel_rfl) (fun _ => by kernel_rfl) ?_
                refine told_load (some 118) ⟨wr.heap.size, 0, none⟩ (.string X.f0) rfl (by kernel_rfl) (fun _ => by kernel_rfl) (fun _ hS => atB hS i0) ?_
                refine told_call (some 119) (.bool true) 37 #[.string X.f0] rfl (by kernel_rfl) (fun _ => by kernel_rfl) (fun _ hS => same_S (HNM.out _) hS) ?_
                refine told_pure (some 120) (.bool false) rfl (by kernel_rfl) (fun _ => by kernel_rfl) ?_
                refine told_pure (some 121) (.bool false) rfl (by kernel_rfl) (fun _ => by kernel_rfl) ?_
                refine told_pure (some 122) (.int .i64 (k : Int)) rfl (by kernel_rfl) (fun _ => by kernel_rfl) ?_
                refine told_is (some 123) (.bool (decide ((k : Int) > 0))) (.bool true) (by rw [decide_eq_true hk1]) rfl (by kernel_rfl) (fun _ => by kernel_rfl) ?_
                refine told_pure (some 124) (.bool true) rfl (by kernel_rfl) (fun _ => by kernel_rfl) ?_
                refine told_pure (some 125) (.pointer (some ⟨w.heap.size, 3, none⟩)) rfl (by kernel_rfl) (fun _ => by kernel_rfl) ?_
                refine told_load (some 126) ⟨w.heap.size, 3, none⟩ (.slice (some ⟨b, off, none⟩) x.f3.length c3) rfl (by kernel_rfl) (fun _ => by kernel_rfl) (fun _ hS => atB hS e3) ?_
                refine told_pure (some 127) (.int .i64 (k : Int)) rfl (by kernel_rfl) (fun _ => by kernel_rfl) ?_
                refine told_is (some 128) (.int .i64 (IntKind.i64.wrap ((k : Int) - 1))) (.int .i64 ((k : Int) - 1)) (by rw [hwk]) rfl (by kernel_rfl) (fun _ => by kernel_rfl) ?_
                refine told_pure (some 129) (.pointer (some ⟨b, off + (k - 1) * 2, none⟩)) rfl (by kernel_rfl) (fun w => by go_simp) ?_
                refine told_pure (some 130) (.pointer (some ⟨b, off + (k - 1) * 2, none⟩)) rfl (by kernel_rfl) (fun _ => by kernel_rfl) ?_
                refine told_load (some 131) ⟨b, off + (k - 1) * 2, none⟩ (.string la) rfl (by kernel_rfl) (fun _ => by kernel_rfl) (fun _ hS => atB hS pc) ?_
                refine told_pure (some 132) (.pointer (some ⟨wr.heap.size, 0, none⟩)) rfl (by kernel_rfl) (fun _ => by kernel_rfl) ?_
                refine told_load (some 133) ⟨wr.heap.size, 0, none⟩ (.string X.f0) rfl (by kernel_rfl) (fun _ => by kernel_rfl) (fun _ hS => atB hS i0) ?_
                refine told_is (some 134) (.bool (!Op.bytesLess la.toList X.f0.toList)) (.bool false) (by rw [r4]; rfl) rfl (by kernel_rfl) (fun _ => by kernel_rfl) ?_
                refine told_pure (some 135) (.bool false) rfl (by kernel_rfl) (fun _ => by kernel_rfl) ?_
                refine told_pure (some 136) (.bool false) rfl (by kernel_rfl) (fun _ => by kernel_rfl) ?_
                refine told_pure (some 137) (.bool false) rfl (by kernel_rfl) (fun _ => by kernel_rfl) ?_
                refine told_loads (some 138) ⟨w.heap.size, 0, none⟩ [.int .i64 x.f0, .int .i64 x.f1, .slice p2 x.f2.length c2, .slice (some ⟨b, off, none⟩) x.f3.length c3, .slice p4 x.f4.length c4] rfl (by kernel_rfl) (fun _ => by kernel_rfl) (fun _ hS => cells5 (atB hS e0) (atB hS e1) (atB hS e2) (atB hS e3) (atB hS e4)) ?_
                refine told_pure (some 139) (.pointer (some ⟨wr.heap.size, 1, none⟩)) rfl (by kernel_rfl) (fun _ => by kernel_rfl) ?_
                refine told_load (some 140) ⟨wr.heap.size, 1, none⟩ (.int .i64 X.f1) rfl (by kernel_rfl) (fun _ => by kernel_rfl) (fun _ hS => atB hS i1) ?_
                refine told_call (some 141) (.int .i64 ix) 64 #[.agg #[.int .i64 x.f0, .int .i64 x.f1, .slice p2 x.f2.length c2, .slice (some ⟨b, off, none⟩) x.f3.length c3, .slice p4 x.f4.length c4], .int .i64 X.f1] rfl (by kernel_rfl) (fun _ => by kernel_rfl) (fun W hS => HIN.out W hS) ?_
                refine told_is (some 142) (.bool (decide (ix < 0))) (.bool true) (by rw [decide_eq_true r5]) rfl (by kernel_rfl) (fun _ => by kernel_rfl) ?_
                refine told_pure (some 143) (.bool true) rfl (by kernel_rfl) (fun _ => by kernel_rfl) ?_
                refine told_pure (some 144) (.bool true) rfl (by kernel_rfl) (fun _ => by kernel_rfl) ?_
                refine told_skip (some 145) rfl (by kernel_rfl) ?_
                refine told_skip (some 146) rfl (by kernel_rfl) ?_
                refine told_skip (some 147) rfl (by kernel_rfl) ?_
                refine told_skip (some 148) rfl (by kernel_rfl) ?_
                refine told_skip (some 149) rfl (by kernel_rfl) ?_
                refine told_skip (some 150) rfl (by kernel_rfl) ?_
                refine told_skip (some 151) rfl (by kernel_rfl) ?_
                refine told_pure (some 152) (.bool true) rfl (by kernel_rfl) (fun _ => by kernel_rfl) ?_
                refine told_nil ?_
                intro w9 hS9
                show K' _ _
                exact HJK.out _ _ ⟨.pointer (some ⟨wr.heap.size, 0, none⟩), .string X.f0, .bool true, .bool false, .bool false, .int .i64 (k : Int), .bool true, .bool true, .pointer (some ⟨w.heap.size, 3, none⟩), .slice (some ⟨b, off, none⟩) x.f3.length c3, .int .i64 (k : Int), .int .i64 ((k : Int) - 1), .pointer (some ⟨b, off + (k - 1) * 2, none⟩), .pointer (some ⟨b, off + (k - 1) * 2, none⟩), .string la, .pointer (some ⟨wr.heap.size, 0, none⟩), .string X.f0, .bool false, .bool false, .bool false, .bool false, .agg #[.int .i64 x.f0, .int .i64 x.f1, .slice p2 x.f2.length c2, .slice (some ⟨b, off, none⟩) x.f3.length c3, .slice p4 x.f4.length c4], .pointer (some ⟨wr.heap.size, 1, none⟩), .int .i64 X.f1, .int .i64 ix, .bool true, .bool true, .bool true, undef, undef, undef, undef, undef, undef, undef, .bool true, ⟨.inr ⟨(HE.out), rfl⟩, HC1'.out.trans (Below.mono hS9 (by have := HC1'.out.size; have := HS0.out; omega))⟩, by kernel_rfl⟩
              have HHX : Hid (hasF (fs0 x.f2) X.f1 = true) := by show _ = _; rw [hasF_idx, HIX.out]; simpa using r5
              cases hLB : lnk (x.f3.take k) X.f1
              · have HLB : Hid (lnk (x.f3.take k) X.f1 = false) := hLB
                have HG : Hid (dOk (fs0 x.f2) x.f3 k X) := ⟨HNB.out, HLT.out, HHX.out, hLB⟩
                clear hLB
                refine wp_region_told (fun W => Below W1.heap.size W1 W) (by kernel_rfl) (by kernel_rfl) ((Below.refl W1.heap.size W1).drew) ?_
                refine told_pure (some 117) (.pointer (some ⟨wr.heap.size, 0, none⟩)) rfl (by kernel_rfl) (fun _ => by kernel_rfl) ?_
                refine told_load (some 118) ⟨wr.heap.size, 0, none⟩ (.string X.f0) rfl (by kernel_rfl) (fun _ => by kernel_rfl) (fun _ hS => atB hS i0) ?_
                refine told_call (some 119) (.bool true) 37 #[.string X.f0] rfl (by kernel_rfl) (fun _ => by kernel_rfl) (fun _ hS => same_S (HNM.out _) hS) ?_
                refine told_pure (some 120) (.bool false) rfl (by kernel_rfl) (fun _ => by kernel_rfl) ?_
                refine told_pure (some 121) (.bool false) rfl (by kernel_rfl) (fun _ => by kernel_rfl) ?_
                refine told_pure (some 122) (.int .i64 (k : Int)) rfl (by kernel_rfl) (fun _ => by kernel_rfl) ?_
                refine told_is (some 123) (.bool (decide ((k : Int) > 0))) (.bool true) (by rw [decide_eq_true hk1]) rfl (by kernel_rfl) (fun _ => by kernel_rfl) ?_
                refine told_pure (some 124) (.bool true) rfl (by kernel_rfl) (fun _ => by kernel_rfl) ?_
                refine told_pure (some 125) (.pointer (some ⟨w.heap.size, 3, none⟩)) rfl (by kernel_rfl) (fun _ => by kernel_rfl) ?_
                refine told_load (some 126) ⟨w.heap.size, 3, none⟩ (.slice (some ⟨b, off, none⟩) x.f3.length c3) rfl (by kernel_rfl) (fun _ => by kernel_rfl) (fun _ hS => atB hS e3) ?_
                refine told_pure (some 127) (.int .i64 (k : Int)) rfl (by kernel_rfl) (fun _ => by kernel_rfl) ?_
                refine told_is (some 128) (.int .i64 (IntKind.i64.wrap ((k : Int) - 1))) (.int .i64 ((k : Int) - 1)) (by rw [hwk]) rfl (by kernel_rfl) (fun _ => by kernel_rfl) ?_
                refine told_pure (some 129) (.pointer (some ⟨b, off + (k - 1) * 2, none⟩)) rfl (by kernel_rfl) (fun w => by go_simp) ?_
                refine told_pure (some 130) (.pointer (some ⟨b, off + (k - 1) * 2, none⟩)) rfl (by kernel_rfl) (fun _ => by kernel_rfl) ?_
                refine told_load (some 131) ⟨b, off + (k - 1) * 2, none⟩ (.string la) rfl (by kernel_rfl) (fun _ => by kernel_rfl) (fun _ hS => atB hS pc) ?_
                refine told_pure (some 132) (.pointer (some ⟨wr.heap.size, 0, none⟩)) rfl (by kernel_rfl) (fun _ => by kernel_rfl) ?_
                refine told_load (some 133) ⟨wr.heap.size, 0, none⟩ (.string X.f0) rfl (by kernel_rfl) (fun _ => by kernel_rfl) (fun _ hS => atB hS i0) ?_
                refine told_is (some 134) (.bool (!Op.bytesLess la.toList X.f0.toList)) (.bool false) (by rw [r4]; rfl) rfl (by kernel_rfl) (fun _ => by kernel_rfl) ?_
                refine told_pure (some 135) (.bool false) rfl (by kernel_rfl) (fun _ => by kernel_rfl) ?_
                refine told_pure (some 136) (.bool false) rfl (by kernel_rfl) (fun _ => by kernel_rfl) ?_
                refine told_pure (some 137) (.bool false) rfl (by kernel_rfl) (fun _ => by kernel_rfl) ?_
                refine told_loads (some 138) ⟨w.heap.size, 0, none⟩ [.int .i64 x.f0, .int .i64 x.f1, .slice p2 x.f2.length c2, .slice (some ⟨b, off, none⟩) x.f3.length c3, .slice p4 x.f4.length c4] rfl (by kernel_rfl) (fun _ => by kernel_rfl) (fun _ hS => cells5 (atB hS e0) (atB hS e1) (atB hS e2) (atB hS e3) (atB hS e4)) ?_
                refine told_pure (some 139) (.pointer (some ⟨wr.heap.size, 1, none⟩)) rfl (by kernel_rfl) (fun _ => by kernel_rfl) ?_
                refine told_load (some 140) ⟨wr.heap.size, 1, none⟩ (.int .i64 X.f1) rfl (by kernel_rfl) (fun _ => by kernel_rfl) (fun _ hS => atB hS i1) ?_
                refine told_call (some 141) (.int .i64 ix) 64 #[.agg #[.int .i64 x.f0, .int .i64 x.f1, .slice p2 x.f2.length c2, .slice (some ⟨b, off, none⟩) x.f3.length c3, .slice p4 x.f4.length c4], .int .i64 X.f1] rfl (by kernel_rfl) (fun _ => by kernel_rfl) (fun W hS => HIN.out W hS) ?_
                refine told_is (some 142) (.bool (decide (ix < 0))) (.bool false) (by rw [decide_eq_false r5]) rfl (by kernel_rfl) (fun _ => by kernel_rfl) ?_
                refine told_pure (some 143) (.bool false) rfl (by kernel_rfl) (fun _ => by kernel_rfl) ?_
                refine told_pure (some 144) (.bool false) rfl (by kernel_rfl) (fun _ => by kernel_rfl) ?_
                refine told_pure (some 145) (.pointer (some ⟨w.heap.size, 3, none⟩)) rfl (by kernel_rfl) (fun _ => by kernel_rfl) ?_
                refine told_load (some 146) ⟨w.heap.size, 3, none⟩ (.slice (some ⟨b, off, none⟩) x.f3.length c3) rfl (by kernel_rfl) (fun _ => by kernel_rfl) (fun _ hS => atB hS e3) ?_
                refine told_pure (some 147) (.int .i64 (k : Int)) rfl (by kernel_rfl) (fun _ => by kernel_rfl) ?_
                refine told_pure (some 148) (.slice (some ⟨b, off, none⟩) k c3) rfl (by kernel_rfl) (fun w => by go_simp) ?_
                refine told_pure (some 149) (.pointer (some ⟨wr.heap.size, 1, none⟩)) rfl (by kernel_rfl) (fun _ => by kernel_rfl) ?_
                refine told_load (some 150) ⟨wr.heap.size, 1, none⟩ (.int .i64 X.f1) rfl (by kernel_rfl) (fun _ => by kernel_rfl) (fun _ hS => atB hS i1) ?_
                refine told_call (some 151) (.bool false) 62 #[.slice (some ⟨b, off, none⟩) k c3, .int .i64 X.f1] rfl (by kernel_rfl) (fun _ => by kernel_rfl) (fun W hS => same_S (HLC.out W hS _ HLB.out) hS) ?_
                refine told_pure (some 152) (.bool false) rfl (by kernel_rfl) (fun _ => by kernel_rfl) ?_
                refine told_nil ?_
                intro w9 hS9
                show K' _ _
                exact HJK.out _ _ ⟨.pointer (some ⟨wr.heap.size, 0, none⟩), .string X.f0, .bool true, .bool false, .bool false, .int .i64 (k : Int), .bool true, .bool true, .pointer (some ⟨w.heap.size, 3, none⟩), .slice (some ⟨b, off, none⟩) x.f3.length c3, .int .i64 (k : Int), .int .i64 ((k : Int) - 1), .pointer (some ⟨b, off + (k - 1) * 2, none⟩), .pointer (some ⟨b, off + (k - 1) * 2, none⟩), .string la, .pointer (some ⟨wr.heap.size, 0, none⟩), .string X.f0, .bool false, .bool false, .bool false, .bool false, .agg #[.int .i64 x.f0, .int .i64 x.f1, .slice p2 x.f2.length c2, .slice (some ⟨b, off, none⟩) x.f3.length c3, .slice p4 x.f4.length c4], .pointer (some ⟨wr.heap.size, 1, none⟩), .int .i64 X.f1, .int .i64 ix, .bool false, .bool false, .bool false, .pointer (some ⟨w.heap.size, 3, none⟩), .slice (some ⟨b, off, none⟩) x.f3.length c3, .int .i64 (k : Int), .slice (some ⟨b, off, none⟩) k c3, .pointer (some ⟨wr.heap.size, 1, none⟩), .int .i64 X.f1, .bool false, .bool false, ⟨.inl ⟨(HG.out), rfl⟩, HC1'.out.trans (Below.mono hS9 (by have := HC1'.out.size; have := HS0.out; omega))⟩, by kernel_rfl⟩
              · have HLB : Hid (lnk (x.f3.take k) X.f1 = true) := hLB
                have HE : Hid (¬ dOk (fs0 x.f2) x.f3 k X) := fun h => by
                  have h1 := h.2.2.2
                  rw [hLB] at h1
                  cases h1
                clear hLB
                refine wp_region_told (fun W => Below W1.heap.size W1 W) (by kernel_rfl) (by kernel_rfl) ((Below.refl W1.heap.size W1).drew) ?_
                refine told_pure (some 117) (.pointer (some ⟨wr.heap.size, 0, none⟩)) rfl (by kernel_rfl) (fun _ => by kernel_rfl) ?_
                refine told_load (some 118) ⟨wr.heap.size, 0, none⟩ (.string X.f0) rfl (by kernel_rfl) (fun _ => by kernel_rfl) (fun _ hS => atB hS i0) ?_
                refine told_call (some 119) (.bool true) 37 #[.string X.f0] rfl (by kernel_rfl) (fun _ => by kernel_rfl) (fun _ hS => same_S (HNM.out _) hS) ?_
                refine told_pure (some 120) (.bool false) rfl (by kernel_rfl) (fun _ => by kernel_rfl) ?_
                refine told_pure (some 121) (.bool false) rfl (by kernel_rfl) (fun _ => by kernel_rfl) ?_
                refine told_pure (some 122) (.int .i64 (k : Int)) rfl (by kernel_rfl) (fun _ => by kernel_rfl) ?_
                refine told_is (some 123) (.bool (decide ((k : Int) > 0))) (.bool true) (by rw [decide_eq_true hk1]) rfl (by kernel_rfl) (fun _ => by kernel_rfl) ?_
                refine told_pure (some 124) (.bool true) rfl (by kernel_rfl) (fun _ => by kernel_rfl) ?_
                refine told_pure (some 125) (.pointer (some ⟨w.heap.size, 3, none⟩)) rfl (by kernel_rfl) (fun _ => by kernel_rfl) ?_
                refine told_load (some 126) ⟨w.heap.size, 3, none⟩ (.slice (some ⟨b, off, none⟩) x.f3.length c3) rfl (by kernel_rfl) (fun _ => by kernel_rfl) (fun _ hS => atB hS e3) ?_
                refine told_pure (some 127) (.int .i64 (k : Int)) rfl (by kernel_rfl) (fun _ => by kernel_rfl) ?_
                refine told_is (some 128) (.int .i64 (IntKind.i64.wrap ((k : Int) - 1))) (.int .i64 ((k : Int) - 1)) (by rw [hwk]) rfl (by kernel_rfl) (fun _ => by kernel_rfl) ?_
                refine told_pure (some 129) (.pointer (some ⟨b, off + (k - 1) * 2, none⟩)) rfl (by kernel_rfl) (fun w => by go_simp) ?_
                refine told_pure (some 130) (.pointer (some ⟨b, off + (k - 1) * 2, none⟩)) rfl (by kernel_rfl) (fun _ => by kernel_rfl) ?_
                refine told_load (some 131) ⟨b, off + (k - 1) * 2, none⟩ (.string la) rfl (by kernel_rfl) (fun _ => by kernel_rfl) (fun _ hS => atB hS pc) ?_
                refine told_pure (some 132) (.pointer (some ⟨wr.heap.size, 0, none⟩)) rfl (by kernel_rfl) (fun _ => by kernel_rfl) ?_
                refine told_load (some 133) ⟨wr.heap.size, 0, none⟩ (.string X.f0) rfl (by kernel_rfl) (fun _ => by kernel_rfl) (fun _ hS => atB hS i0) ?_
                refine told_is (some 134) (.bool (!Op.bytesLess la.toList X.f0.toList)) (.bool false) (by rw [r4]; rfl) rfl (by kernel_rfl) (fun _ => by kernel_rfl) ?_
                refine told_pure (some 135) (.bool false) rfl (by kernel_rfl) (fun _ => by kernel_rfl) ?_
                refine told_pure (some 136) (.bool false) rfl (by kernel_rfl) (fun _ => by kernel_rfl) ?_
                refine told_pure (some 137) (.bool false) rfl (by kernel_rfl) (fun _ => by kernel_rfl) ?_
                refine told_loads (some 138) ⟨w.heap.size, 0, none⟩ [.int .i64 x.f0, .int .i64 x.f1, .slice p2 x.f2.length c2, .slice (some ⟨b, off, none⟩) x.f3.length c3, .slice p4 x.f4.length c4] rfl (by kernel_rfl) (fun _ => by kernel_rfl) (fun _ hS => cells5 (atB hS e0) (atB hS e1) (atB hS e2) (atB hS e3) (atB hS e4)) ?_
                refine told_pure (some 139) (.pointer (some ⟨wr.heap.size, 1, none⟩)) rfl (by kernel_rfl) (fun _ => by kernel_rfl) ?_
                refine told_load (some 140) ⟨wr.heap.size, 1, none⟩ (.int .i64 X.f1) rfl (by kernel_rfl) (fun _ => by kernel_rfl) (fun _ hS => atB hS i1) ?_
                refine told_call (some 141) (.int .i64 ix) 64 #[.agg #[.int .i64 x.f0, .int .i64 x.f1, .slice p2 x.f2.length c2, .slice (some ⟨b, off, none⟩) x.f3.length c3, .slice p4 x.f4.length c4], .int .i64 X.f1] rfl (by kernel_rfl) (fun _ => by kernel_rfl) (fun W hS => HIN.out W hS) ?_
                refine told_is (some 142) (.bool (decide (ix < 0))) (.bool false) (by rw [decide_eq_false r5]) rfl (by kernel_rfl) (fun _ => by kernel_rfl) ?_
                refine told_pure (some 143) (.bool false) rfl (by kernel_rfl) (fun _ => by kernel_rfl) ?_
                refine told_pure (some 144) (.bool false) rfl (by kernel_rfl) (fun _ => by kernel_rfl) ?_
                refine told_pure (some 145) (.pointer (some ⟨w.heap.size, 3, none⟩)) rfl (by kernel_rfl) (fun _ => by kernel_rfl) ?_
                refine told_load (some 146) ⟨w.heap.size, 3, none⟩ (.slice (some ⟨b, off, none⟩) x.f3.length c3) rfl (by kernel_rfl) (fun _ => by kernel_rfl) (fun _ hS => atB hS e3) ?_
                refine told_pure (some 147) (.int .i64 (k : Int)) rfl (by kernel_rfl) (fun _ => by kernel_rfl) ?_
                refine told_pure (some 148) (.slice (some ⟨b, off, none⟩) k c3) rfl (by kernel_rfl) (fun w => by go_simp) ?_
                refine told_pure (some 149) (.pointer (some ⟨wr.heap.size, 1, none⟩)) rfl (by kernel_rfl) (fun _ => by kernel_rfl) ?_
                refine told_load (some 150) ⟨wr.heap.size, 1, none⟩ (.int .i64 X.f1) rfl (by kernel_rfl) (fun _ => by kernel_rfl) (fun _ hS => atB hS i1) ?_
                refine told_call (some 151) (.bool true) 62 #[.slice (some ⟨b, off, none⟩) k c3, .int .i64 X.f1] rfl (by kernel_rfl) (fun _ => by kernel_rfl) (fun W hS => same_S (HLC.out W hS _ HLB.out) hS) ?_
                refine told_pure (some 152) (.bool true) rfl (by kernel_rfl) (fun _ => by kernel_rfl) ?_
                refine told_nil ?_
                intro w9 hS9
                show K' _ _
                exact HJK.out _ _ ⟨.pointer (some ⟨wr.heap.size, 0, none⟩), .string X.f0, .bool true, .bool false, .bool false, .int .i64 (k : Int), .bool true, .bool true, .pointer (some ⟨w.heap.size, 3, none⟩), .slice (some ⟨b, off, none⟩) x.f3.length c3, .int .i64 (k : Int), .int .i64 ((k : Int) - 1), .pointer (some ⟨b, off + (k - 1) * 2, none⟩), .pointer (some ⟨b, off + (k - 1) * 2, none⟩), .string la, .pointer (some ⟨wr.heap.size, 0, none⟩), .string X.f0, .bool false, .bool false, .bool false, .bool false, .agg #[.int .i64 x.f0, .int .i64 x.f1, .slice p2 x.f2.length c2, .slice (some ⟨b, off, none⟩) x.f3.length c3, .slice p4 x.f4.length c4], .pointer (some ⟨wr.heap.size, 1, none⟩), .int .i64 X.f1, .int .i64 ix, .bool false, .bool false, .bool false, .pointer (some ⟨w.heap.size, 3, none⟩), .slice (some ⟨b, off, none⟩) x.f3.length c3, .int .i64 (k : Int), .slice (some ⟨b, off, none⟩) k c3, .pointer (some ⟨wr.heap.size, 1, none⟩), .int .i64 X.f1, .bool true, .bool true, ⟨.inr ⟨(HE.out), rfl⟩, HC1'.out.trans (Below.mono hS9 (by have := HC1'.out.size; have := HS0.out; omega))⟩, by kernel_rfl⟩
            · have hk0 : ¬ (0 : Int) < k := by omega
              have HLT : Hid (0 < k → Op.bytesLess (lastD x.f3 k).toList X.f0.toList = true) := fun h => absurd h r3
              clear r3
              have HIX : Hid (idx (fun y : S_Inode => decide (y.f0 = X.f1)) x.f2 = ix) := hix
              by_cases r5 : ix < 0
              · have HE : Hid (¬ dOk (fs0 x.f2) x.f3 k X) := fun h => by
                  have h1 := h.2.2.1
                  rw [hasF_idx, HIX.out] at h1
                  simp [r5] at h1
                refine wp_region_told (fun W => Below W1.heap.size W1 W) (by kernel_rfl) (by kernel_rfl) ((Below.refl W1.heap.size W1).drew) ?_
                refine told_pure (some 117) (.pointer (some ⟨wr.heap.size, 0, none⟩)) rfl (by kernel_rfl) (fun _ => by kernel_rfl) ?_
                refine told_load (some 118) ⟨wr.heap.size, 0, none⟩ (.string X.f0) rfl (by kernel_rfl) (fun _ => by kernel_rfl) (fun _ hS => atB hS i0) ?_
                refine told_call (some 119) (.bool true) 37 #[.string X.f0] rfl (by kernel_rfl) (fun _ => by kernel_rfl) (fun _ hS => same_S (HNM.out _) hS) ?_
                refine told_pure (some 120) (.bool false) rfl (by kernel_rfl) (fun _ => by kernel_rfl) ?_
                refine told_pure (some 121) (.bool false) rfl (by kernel_rfl) (fun _ => by kernel_rfl) ?_
                refine told_pure (some 122) (.int .i64 (k : Int)) rfl (by kernel_rfl) (fun _ => by kernel_rfl) ?_
                refine told_is (some 123) (.bool (decide ((k : Int) > 0))) (.bool false) (by rw [decide_eq_false hk0]) rfl (by kernel_rfl) (fun _ => by kernel_rfl) ?_
                refine told_pure (some 124) (.bool false) rfl (by kernel_rfl) (fun _ => by kernel_rfl) ?_
                refine told_skip (some 125) rfl (by kernel_rfl) ?_
                refine told_skip (some 126) rfl (by kernel_rfl) ?_
                refine told_skip (some 127) rfl (by kernel_rfl) ?_
                refine told_skip (some 128) rfl (by kernel_rfl) ?_
                refine told_skip (some 129) rfl (by kernel_rfl) ?_
                refine told_skip (some 130) rfl (by kernel_rfl) ?_
                refine told_skip (some 131) rfl (by kernel_rfl) ?_
                refine told_skip (some 132) rfl (by kernel_rfl) ?_
                refine told_skip (some 133) rfl (by kernel_rfl) ?_
                refine told_skip (some 134) rfl (by kernel_rfl) ?_
                refine told_pure (some 135) (.bool false) rfl (by kernel_rfl) (fun _ => by kernel_rfl) ?_
                refine told_pure (some 136) (.bool false) rfl (by kernel_rfl) (fun _ => by kernel_rfl) ?_
                refine told_pure (some 137) (.bool false) rfl (by kernel_rfl) (fun _ => by kernel_rfl) ?_
                refine told_loads (some 138) ⟨w.heap.size, 0, none⟩ [.int .i64 x.f0, .int .i64 x.f1, .slice p2 x.f2.length c2, .slice (some ⟨b, off, none⟩) x.f3.length c3, .slice p4 x.f4.length c4] rfl (by kernel_rfl) (fun _ => by kernel_rfl) (fun _ hS => cells5 (atB hS e0) (atB hS e1) (atB hS e2) (atB hS e3) (atB hS e4)) ?_
                refine told_pure (some 139) (.pointer (some ⟨wr.heap.size, 1, none⟩)) rfl (by kernel_rfl) (fun _ => by kernel_rfl) ?_
                refine told_load (some 140) ⟨wr.heap.size, 1, none⟩ (.int .i64 X.f1) rfl (by kernel_rfl) (fun _ => by kernel_rfl) (fun _ hS => atB hS i1) ?_
                refine told_call (some 141) (.int .i64 ix) 64 #[.agg #[.int .i64 x.f0, .int .i64 x.f1, .slice p2 x.f2.length c2, .slice (some ⟨b, off, none⟩) x.f3.length c3, .slice p4 x.f4.length c4], .int .i64 X.f1] rfl (by kernel_rfl) (fun _ => by kernel_rfl) (fun W hS => HIN.out W hS) ?_
                refine told_is (some 142) (.bool (decide (ix < 0))) (.bool true) (by rw [decide_eq_true r5]) rfl (by kernel_rfl) (fun _ => by kernel_rfl) ?_
                refine told_pure (some 143) (.bool true) rfl (by kernel_rfl) (fun _ => by kernel_rfl) ?_
                refine told_pure (some 144) (.bool true) rfl (by kernel_rfl) (fun _ => by kernel_rfl) ?_
                refine told_skip (some 145) rfl (by kernel_rfl) ?_
                refine told_skip (some 146) rfl (by kernel_rfl) ?_
                refine told_skip (some 147) rfl (by kernel_rfl) ?_
                refine told_skip (some 148) rfl (by kernel_rfl) ?_
                refine told_skip (some 149) rfl (by kernel_rfl) ?_
                refine told_skip (some 150) rfl (by kernel_rfl) ?_
                refine told_skip (some 151) rfl (by kernel_rfl) ?_
                refine told_pure (some 152) (.bool true) rfl (by kernel_rfl) (fun _ => by kernel_rfl) ?_
                refine told_nil ?_
                intro w9 hS9
                show K' _ _
                exact HJK.out _ _ ⟨.pointer (some ⟨wr.heap.size, 0, none⟩), .string X.f0, .bool true, .bool false, .bool false, .int .i64 (k : Int), .bool false, .bool false, undef, undef, undef, undef, undef, undef, undef, undef, undef, undef, .bool false, .bool false, .bool false, .agg #[.int .i64 x.f0, .int .i64 x.f1, .slice p2 x.f2.length c2, .slice (some ⟨b, off, none⟩) x.f3.length c3, .slice p4 x.f4.length c4], .pointer (some ⟨wr.heap.size, 1, none⟩), .int .i64 X.f1, .int .i64 ix, .bool true, .bool true, .bool true, undef, undef, undef, undef, undef, undef, undef, .bool true, ⟨.inr ⟨(HE.out), rfl⟩, HC1'.out.trans (Below.mono hS9 (by have := HC1'.out.size; have := HS0.out; omega))⟩, by kernel_rfl⟩
              have HHX : Hid (hasF (fs0 x.f2) X.f1 = true) := by show _ = _; rw [hasF_idx, HIX.out]; simpa using r5
              cases hLB : lnk (x.f3.take k) X.f1
              · have HLB : Hid (lnk (x.f3.take k) X.f1 = false) := hLB
                have HG : Hid (dOk (fs0 x.f2) x.f3 k X) := ⟨HNB.out, HLT.out, HHX.out, hLB⟩
                clear hLB
                refine wp_region_told (fun W => Below W1.heap.size W1 W) (by kernel_rfl) (by kernel_rfl) ((Below.refl W1.heap.size W1).drew) ?_
                refine told_pure (some 117) (.pointer (some ⟨wr.heap.size, 0, none⟩)) rfl (by kernel_rfl) (fun _ => by kernel_rfl) ?_
                refine told_load (some 118) ⟨wr.heap.size, 0, none⟩ (.string X.f0) rfl (by kernel_rfl) (fun _ => by kernel_rfl) (fun _ hS => atB hS i0) ?_
                refine told_call (some 119) (.bool true) 37 #[.string X.f0] rfl (by kernel_rfl) (fun _ => by kernel_rfl) (fun _ hS => same_S (HNM.out _) hS) ?_
                refine told_pure (some 120) (.bool false) rfl (by kernel_rfl) (fun _ => by kernel_rfl) ?_
                refine told_pure (some 121) (.bool false) rfl (by kernel_rfl) (fun _ => by kernel_rfl) ?_
                refine told_pure (some 122) (.int .i64 (k : Int)) rfl (by kernel_rfl) (fun _ => by kernel_rfl) ?_
                refine told_is (some 123) (.bool (decide ((k : Int) > 0))) (.bool false) (by rw [decide_eq_false hk0]) rfl (by kernel_rfl) (fun _ => by kernel_rfl) ?_
                refine told_pure (some 124) (.bool false) rfl (by kernel_rfl) (fun _ => by kernel_rfl) ?_
                refine told_skip (some 125) rfl (by kernel_rfl) ?_
                refine told_skip (some 126) rfl (by kernel_rfl) ?_
                refine told_skip (some 127) rfl (by kernel_rfl) ?_
                refine told_skip (some 128) rfl (by kernel_rfl) ?_
                refine told_skip (some 129) rfl (by kernel_rfl) ?_
                refine told_skip (some 130) rfl (by kernel_rfl) ?_
                refine told_skip (some 131) rfl (by kernel_rfl) ?_
                refine told_skip (some 132) rfl (by kernel_rfl) ?_
                refine told_skip (some 133) rfl (by kernel_rfl) ?_
                refine told_skip (some 134) rfl (by kernel_rfl) ?_
                refine told_pure (some 135) (.bool false) rfl (by kernel_rfl) (fun _ => by kernel_rfl) ?_
                refine told_pure (some 136) (.bool false) rfl (by kernel_rfl) (fun _ => by kernel_rfl) ?_
                refine told_pure (some 137) (.bool false) rfl (by kernel_rfl) (fun _ => by kernel_rfl) ?_
                refine told_loads (some 138) ⟨w.heap.size, 0, none⟩ [.int .i64 x.f0, .int .i64 x.f1, .slice p2 x.f2.length c2, .slice (some ⟨b, off, none⟩) x.f3.length c3, .slice p4 x.f4.length c4] rfl (by kernel_rfl) (fun _ => by kernel_rfl) (fun _ hS => cells5 (atB hS e0) (atB hS e1) (atB hS e2) (atB hS e3) (atB hS e4)) ?_
                refine told_pure (some 139) (.pointer (some ⟨wr.heap.size, 1, none⟩)) rfl (by kernel_rfl) (fun _ => by kernel_rfl) ?_
                refine told_load (some 140) ⟨wr.heap.size, 1, none⟩ (.int .i64 X.f1) rfl (by kernel_rfl) (fun _ => by kernel_rfl) (fun _ hS => atB hS i1) ?_
                refine told_call (some 141) (.int .i64 ix) 64 #[.agg #[.int .i64 x.f0, .int .i64 x.f1, .slice p2 x.f2.length c2, .slice (some ⟨b, off, none⟩) x.f3.length c3, .slice p4 x.f4.length c4], .int .i64 X.f1] rfl (by kernel_rfl) (fun _ => by kernel_rfl) (fun W hS => HIN.out W hS) ?_
                refine told_is (some 142) (.bool (decide (ix < 0))) (.bool false) (by rw [decide_eq_false r5]) rfl (by kernel_rfl) (fun _ => by kernel_rfl) ?_
                refine told_pure (some 143) (.bool false) rfl (by kernel_rfl) (fun _ => by kernel_rfl) ?_
                refine told_pure (some 144) (.bool false) rfl (by kernel_rfl) (fun _ => by kernel_rfl) ?_
                refine told_pure (some 145) (.pointer (some ⟨w.heap.size, 3, none⟩)) rfl (by kernel_rfl) (fun _ => by kernel_rfl) ?_
                refine told_load (some 146) ⟨w.heap.size, 3, none⟩ (.slice (some ⟨b, off, none⟩) x.f3.length c3) rfl (by kernel_rfl) (fun _ => by kernel_rfl) (fun _ hS => atB hS e3) ?_
                refine told_pure (some 147) (.int .i64 (k : Int)) rfl (by kernel_rfl) (fun _ => by kernel_rfl) ?_
                refine told_pure (some 148) (.slice (some ⟨b, off, none⟩) k c3) rfl (by kernel_rfl) (fun w => by go_simp) ?_
                refine told_pure (some 149) (.pointer (some ⟨wr.heap.size, 1, none⟩)) rfl (by kernel_rfl) (fun _ => by kernel_rfl) ?_
                refine told_load (some 150) ⟨wr.heap.size, 1, none⟩ (.int .i64 X.f1) rfl (by kernel_rfl) (fun _ => by kernel_rfl) (fun _ hS => atB hS i1) ?_
                refine told_call (some 151) (.bool false) 62 #[.slice (some ⟨b, off, none⟩) k c3, .int .i64 X.f1] rfl (by kernel_rfl) (fun _ => by kernel_rfl) (fun W hS => same_S (HLC.out W hS _ HLB.out) hS) ?_
                refine told_pure (some 152) (.bool false) rfl (by kernel_rfl) (fun _ => by kernel_rfl) ?_
                refine told_nil ?_
                intro w9 hS9
                show K' _ _
                exact HJK.out _ _ ⟨.pointer (some ⟨wr.heap.size, 0, none⟩), .string X.f0, .bool true, .bool false, .bool false, .int .i64 (k : Int), .bool false, .bool false, undef, undef, undef, undef, undef, undef, undef, undef, undef, undef, .bool false, .bool false, .bool false, .agg #[.int .i64 x.f0, .int .i64 x.f1, .slice p2 x.f2.length c2, .slice (some ⟨b, off, none⟩) x.f3.length c3, .slice p4 x.f4.length c4], .pointer (some ⟨wr.heap.size, 1, none⟩), .int .i64 X.f1, .int .i64 ix, .bool false, .bool false, .bool false, .pointer (some ⟨w.heap.size, 3, none⟩), .slice (some ⟨b, off, none⟩) x.f3.length c3, .int .i64 (k : Int), .slice (some ⟨b, off, none⟩) k c3, .pointer (some ⟨wr.heap.size, 1, none⟩), .int .i64 X.f1, .bool false, .bool false, ⟨.inl ⟨(HG.out), rfl⟩, HC1'.out.trans (Below.mono hS9 (by have := HC1'.out.size; have := HS0.out; omega))⟩, by kernel_rfl⟩
              · have HLB : Hid (lnk (x.f3.take k) X.f1 = true) := hLB
                have HE : Hid (¬ dOk (fs0 x.f2) x.f3 k X) := fun h => by
                  have h1 := h.2.2.2
                  rw [hLB] at h1
                  cases h1
                clear hLB
                refine wp_region_told (fun W => Below W1.heap.size W1 W) (by kernel_rfl) (by kernel_rfl) ((Below.refl W1.heap.size W1).drew) ?_
                refine told_pure (some 117) (.pointer (some ⟨wr.heap.size, 0, none⟩)) rfl (by kernel_rfl) (fun _ => by kernel_rfl) ?_
                refine told_load (some 118) ⟨wr.heap.size, 0, none⟩ (.string X.f0) rfl (by kernel_rfl) (fun _ => by kernel_rfl) (fun _ hS => atB hS i0) ?_
                refine told_call (some 119) (.bool true) 37 #[.string X.f0] rfl (by kernel_rfl) (fun _ => by kernel_rfl) (fun _ hS => same_S (HNM.out _) hS) ?_
                refine told_pure (some 120) (.bool false) rfl (by kernel_rfl) (fun _ => by kernel_rfl) ?_
                refine told_pure (some 121) (.bool false) rfl (by kernel_rfl) (fun _ => by kernel_rfl) ?_
                refine told_pure (some 122) (.int .i64 (k : Int)) rfl (by kernel_rfl) (fun _ => by kernel_rfl) ?_
                refine told_is (some 123) (.bool (decide ((k : Int) > 0))) (.bool false) (by rw [decide_eq_false hk0]) rfl (by kernel_rfl) (fun _ => by kernel_rfl) ?_
                refine told_pure (some 124) (.bool false) rfl (by kernel_rfl) (fun _ => by kernel_rfl) ?_
                refine told_skip (some 125) rfl (by kernel_rfl) ?_
                refine told_skip (some 126) rfl (by kernel_rfl) ?_
                refine told_skip (some 127) rfl (by kernel_rfl) ?_
                refine told_skip (some 128) rfl (by kernel_rfl) ?_
                refine told_skip (some 129) rfl (by kernel_rfl) ?_
                refine told_skip (some 130) rfl (by kernel_rfl) ?_
                refine told_skip (some 131) rfl (by kernel_rfl) ?_
                refine told_skip (some 132) rfl (by kernel_rfl) ?_
                refine told_skip (some 133) rfl (by kernel_rfl) ?_
                refine told_skip (some 134) rfl (by kernel_rfl) ?_
                refine told_pure (some 135) (.bool false) rfl (by kernel_rfl) (fun _ => by kernel_rfl) ?_
                refine told_pure (some 136) (.bool false) rfl (by kernel_rfl) (fun _ => by kernel_rfl) ?_
                refine told_pure (some 137) (.bool false) rfl (by kernel_rfl) (fun _ => by kernel_rfl) ?_
                refine told_loads (some 138) ⟨w.heap.size, 0, none⟩ [.int .i64 x.f0, .int .i64 x.f1, .slice p2 x.f2.length c2, .slice (some ⟨b, off, none⟩) x.f3.length c3, .slice p4 x.f4.length c4] rfl (by kernel_rfl) (fun _ => by kernel_rfl) (fun _ hS => cells5 (atB hS e0) (atB hS e1) (atB hS e2) (atB hS e3) (atB hS e4)) ?_
                refine told_pure (some 139) (.pointer (some ⟨wr.heap.size, 1, none⟩)) rfl (by kernel_rfl) (fun _ => by kernel_rfl) ?_
                refine told_load (some 140) ⟨wr.heap.size, 1, none⟩ (.int .i64 X.f1) rfl (by kernel_rfl) (fun _ => by kernel_rfl) (fun _ hS => atB hS i1) ?_
                refine told_call (some 141) (.int .i64 ix) 64 #[.agg #[.int .i64 x.f0, .int .i64 x.f1, .slice p2 x.f2.length c2, .slice (some ⟨b, off, none⟩) x.f3.length c3, .slice p4 x.f4.length c4], .int .i64 X.f1] rfl (by kernel_rfl) (fun _ => by kernel_rfl) (fun W hS => HIN.out W hS) ?_
                refine told_is (some 142) (.bool (decide (ix < 0))) (.bool false) (by rw [decide_eq_false r5]) rfl (by kernel_rfl) (fun _ => by kernel_rfl) ?_
                refine told_pure (some 143) (.bool false) rfl (by kernel_rfl) (fun _ => by kernel_rfl) ?_
                refine told_pure (some 144) (.bool false) rfl (by kernel_rfl) (fun _ => by kernel_rfl) ?_
                refine told_pure (some 145) (.pointer (some ⟨w.heap.size, 3, none⟩)) rfl (by kernel_rfl) (fun _ => by kernel_rfl) ?_
                refine told_load (some 146) ⟨w.heap.size, 3, none⟩ (.slice (some ⟨b, off, none⟩) x.f3.length c3) rfl (by kernel_rfl) (fun _ => by kernel_rfl) (fun _ hS => atB hS e3) ?_
                refine told_pure (some 147) (.int .i64 (k : Int)) rfl (by kernel_rfl) (fun _ => by kernel_rfl) ?_
                refine told_pure (some 148) (.slice (some ⟨b, off, none⟩) k c3) rfl (by kernel_rfl) (fun w => by go_simp) ?_
                refine told_pure (some 149) (.pointer (some ⟨wr.heap.size, 1, none⟩)) rfl (by kernel_rfl) (fun _ => by kernel_rfl) ?_
                refine told_load (some 150) ⟨wr.heap.size, 1, none⟩ (.int .i64 X.f1) rfl (by kernel_rfl) (fun _ => by kernel_rfl) (fun _ hS => atB hS i1) ?_
                refine told_call (some 151) (.bool true) 62 #[.slice (some ⟨b, off, none⟩) k c3, .int .i64 X.f1] rfl (by kernel_rfl) (fun _ => by kernel_rfl) (fun W hS => same_S (HLC.out W hS _ HLB.out) hS) ?_
                refine told_pure (some 152) (.bool true) rfl (by kernel_rfl) (fun _ => by kernel_rfl) ?_
                refine told_nil ?_
                intro w9 hS9
                show K' _ _
                exact HJK.out _ _ ⟨.pointer (some ⟨wr.heap.size, 0, none⟩), .string X.f0, .bool true, .bool false, .bool false, .int .i64 (k : Int), .bool false, .bool false, undef, undef, undef, undef, undef, undef, undef, undef, undef, undef, .bool false, .bool false, .bool false, .agg #[.int .i64 x.f0, .int .i64 x.f1, .slice p2 x.f2.length c2, .slice (some ⟨b, off, none⟩) x.f3.length c3, .slice p4 x.f4.length c4], .pointer (some ⟨wr.heap.size, 1, none⟩), .int .i64 X.f1, .int .i64 ix, .bool false, .bool false, .bool false, .pointer (some ⟨w.heap.size, 3, none⟩), .slice (some ⟨b, off, none⟩) x.f3.length c3, .int .i64 (k : Int), .slice (some ⟨b, off, none⟩) k c3, .pointer (some ⟨wr.heap.size, 1, none⟩), .int .i64 X.f1, .bool true, .bool true, ⟨.inr ⟨(HE.out), rfl⟩, HC1'.out.trans (Below.mono hS9 (by have := HC1'.out.size; have := HS0.out; omega))⟩, by kernel_rfl⟩
          case rest =>
            obtain ⟨⟨hg, rfl⟩ | ⟨hg, rfl⟩, HCc⟩ := hcut
            · have HO1 : Hid (∀ j (hj : j < x.f3.length), j < k + 1 → dOk (fs0 x.f2) x.f3 j x.f3[j]) := HON.out hg
              clear hg i0 i1 e0 e1 e2 e3 e4
              go_wp2
              go_roundw
              case rel => exact ⟨k + 1, by omega, by go_num, HCc, HO1⟩
              case measure => simp [intOf]; omega
            · have HE : Hid (¬ okX x) := fun h => hg (HNO.out h)
              clear hg
              go_wp2
              go_ret
              exact ⟨.inr ⟨HE.out, rfl⟩, HDN.out _ HCc.out⟩
        · have hke : k = x.f3.length := by omega
          subst hke
          have HX4 : Hid (okD (fs0 x.f2) x.f3) := fun j hj => HOk.out j hj hj
          clear HOk
          obtain ⟨va, wa, hrun, hrr, hba⟩ := app_links p3 x.f3 c3 wr hl3 (HRD.out wr HCk.out).2.1
          have HRA : Hid (RowR wa va (nms x.f3 (x.f4.take 0)).length 2 (rLink (nms x.f3 (x.f4.take 0)))) := hrr
          have HCA : Hid (Below (w.heap.size + 1) W0 wa) := HCk.out.trans (hba.mono (by have := HCk.out.size; have := HS0.out; omega))
          clear hrr hba
          have e3a : ∀ o, (wr.alloc o).cell? ⟨w.heap.size, 3, none⟩ = some (.slice p3 x.f3.length c3) := fun o => cell_alloc e3
          go_wp2_with (at_builtin; refine wpList_append_to rfl _ _ 25 rfl _ _ rfl rfl va wa hrun ?_)
          clear hrun e0 e1 e2 e3 e4 e3a
          go_wp2
          go_loopw [7, 8] (fun v7 iv wr => ∃ k : Nat, k ≤ x.f4.length ∧ iv = .int .i64 (k : Int) ∧ Hid (RowR wr v7 (nms x.f3 (x.f4.take k)).length 2 (rLink (nms x.f3 (x.f4.take k)))) ∧ Hid (Below (w.heap.size + 1) W0 wr) ∧ Hid (∀ j (hj : j < x.f4.length), j < k → mOk (fs0 x.f2) x.f3 x.f4 j x.f4[j])) (fun _ iv _ => x.f4.length - (intOf iv).toNat)
          case atStart => exact ⟨0, Nat.zero_le _, rfl, HRA, HCA, fun j _ hj => by omega⟩
          case round =>
            clear HRA HCA HCk
            obtain ⟨k, hk, rfl, HRk, HCk, HOk⟩ := hrel
            obtain ⟨e0, e1, e2, e3, e4⟩ := HBX.out wr HCk.out
            by_cases hlt : k < x.f4.length
            · have hlt' : (k : Int) < x.f4.length := by omega
              obtain ⟨b, off, cap', hv, hbl, hc⟩ := move_cells (HRD.out wr HCk.out).2.2 (by omega)
              simp only [Value.slice.injEq, true_and] at hv
              obtain ⟨rfl, rfl⟩ := hv
              obtain ⟨d0, d1, d2, d3⟩ := hc k hlt
              have HNO : Hid (okX x → mOk (fs0 x.f2) x.f3 x.f4 k x.f4[k]) := fun h => h.2.2.2.1 k hlt
              have HON : Hid (mOk (fs0 x.f2) x.f3 x.f4 k x.f4[k] → ∀ j (hj : j < x.f4.length), j < k + 1 → mOk (fs0 x.f2) x.f3 x.f4 j x.f4[j]) := fun h j hj hjk => by
                by_cases e : j = k
                · subst e; exact h
                · exact HOk.out j hj (by omega)
              have HT : Hid (nms x.f3 (x.f4.take (k + 1)) = (ap (nms x.f3 (x.f4.take k)) x.f4[k]).1) := nms_take x.f3 x.f4 k hlt
              have hl := nms_len x.f3 (x.f4.take k)
              rw [List.length_take] at hl
              have hla : (nms x.f3 (x.f4.take k)).length ≤ 1048576 := by omega
              have HSM : Hid (sMove x.f4[k]) := HB.out.sm _ (List.getElem_mem hlt)
              clear hc hl
              generalize x.f4[k] = X at d0 d1 d2 d3 HNO HON HSM HT
              go_upto_region 22 with fail
              refine wp_genD (fun W1 => W1.cell? ⟨wr.heap.size, 0, none⟩ = some (.int .i64 X.f0) ∧ W1.cell? ⟨wr.heap.size, 1, none⟩ = some (.string X.f1) ∧ W1.cell? ⟨wr.heap.size, 2, none⟩ = some (.string X.f2) ∧ W1.cell? ⟨wr.heap.size, 3, none⟩ = some (.int .i64 X.f3) ∧ (W1.cell? ⟨w.heap.size, 0, none⟩ = some (.int .i64 x.f0) ∧ W1.cell? ⟨w.heap.size, 1, none⟩ = some (.int .i64 x.f1) ∧ W1.cell? ⟨w.heap.size, 2, none⟩ = some (.slice p2 x.f2.length c2) ∧ W1.cell? ⟨w.heap.size, 3, none⟩ = some (.slice p3 x.f3.length c3) ∧ W1.cell? ⟨w.heap.size, 4, none⟩ = some (.slice (some ⟨b, off, none⟩) x.f4.length c4)) ∧ Hid (Below (w.heap.size + 1) W0 W1) ∧ Hid (Below wr.heap.size wr W1) ∧ Hid (wr.heap.size < W1.heap.size)) ?_ ?_
              · have hB0 : Below wr.heap.size wr (wr.alloc (.cells #[.int .i64 X.f0, .string X.f1, .string X.f2, .int .i64 X.f3] 51)) := (Below.refl _ _).alloc (Nat.le_refl _) _
                have hB' : Below (w.heap.size + 1) W0 (wr.alloc (.cells #[.int .i64 X.f0, .string X.f1, .string X.f2, .int .i64 X.f3] 51)) := HCk.out.alloc (by have := HCk.out.size; have := HS0.out; omega) _
                exact ⟨box_cell _ _ _ _, box_cell _ _ _ _, box_cell _ _ _ _, box_cell _ _ _ _, HBX.out _ hB', hB', hB0, by show _ < _; simp⟩
              intro W1 ⟨i0, i1, i2, i3, ⟨e0, e1, e2, e3, e4⟩, HC1', HWr, HW1⟩
              clear d0 d1 d2 d3
              go_cut [194] from 169 to 194 (fun c wx => (((X.f0 = 1 → hasF (fs0 x.f2) X.f3 = true ∧ (lnk x.f3 X.f3 || mad (x.f4.take k) X.f3) = false) ∧ c = .bool false) ∨ (¬ (X.f0 = 1 → hasF (fs0 x.f2) X.f3 = true ∧ (lnk x.f3 X.f3 || mad (x.f4.take k) X.f3) = false) ∧ c = .bool true)) ∧ Hid (Below W1.heap.size W1 wx))
              case first =>
                rename_i J K' hRJ hMK
                have HJK : Hid (∀ a' w', _ → K' a' w') := fun a' w' h => hMK a' w' (hRJ a' w' h)
                clear hMK hRJ
                go_light
                have hkc : (k : Int) ≤ c4 := by omega
                by_cases m1 : X.f0 = 1
                case neg =>
                  refine wp_region_told (fun W => Below W1.heap.size W1 W) (by kernel_rfl) (by kernel_rfl) ((Below.refl W1.heap.size W1).drew) ?_
                  refine told_pure (some 169) (.pointer (some ⟨wr.heap.size, 0, none⟩)) rfl (by kernel_rfl) (fun _ => by kernel_rfl) ?_
                  refine told_load (some 170) ⟨wr.heap.size, 0, none⟩ (.int .i64 X.f0) rfl (by kernel_rfl) (fun _ => by kernel_rfl) (fun _ hS => atB hS i0) ?_
                  refine told_is (some 171) (.bool (decide (X.f0 = 1))) (.bool false) (by rw [decide_eq_false m1]) rfl (by kernel_rfl) (fun _ => by kernel_rfl) ?_
                  refine told_pure (some 172) (.bool false) rfl (by kernel_rfl) (fun _ => by kernel_rfl) ?_
                  refine told_skip (some 173) rfl (by kernel_rfl) ?_
                  refine told_skip (some 174) rfl (by kernel_rfl) ?_
                  refine told_skip (some 175) rfl (by kernel_rfl) ?_
                  refine told_skip (some 176) rfl (by kernel_rfl) ?_
                  refine told_skip (some 177) rfl (by kernel_rfl) ?_
                  refine told_skip (some 178) rfl (by kernel_rfl) ?_
                  refine told_skip (some 179) rfl (by kernel_rfl) ?_
                  refine told_skip (some 180) rfl (by kernel_rfl) ?_
                  refine told_skip (some 181) rfl (by kernel_rfl) ?_
                  refine told_skip (some 182) rfl (by kernel_rfl) ?_
                  refine told_skip (some 183) rfl (by kernel_rfl) ?_
                  refine told_skip (some 184) rfl (by kernel_rfl) ?_
                  refine told_skip (some 185) rfl (by kernel_rfl) ?_
                  refine told_skip (some 186) rfl (by kernel_rfl) ?_
                  refine told_skip (some 187) rfl (by kernel_rfl) ?_
                  refine told_skip (some 188) rfl (by kernel_rfl) ?_
                  refine told_skip (some 189) rfl (by kernel_rfl) ?_
                  refine told_skip (some 190) rfl (by kernel_rfl) ?_
                  refine told_skip (some 191) rfl (by kernel_rfl) ?_
                  refine told_skip (some 192) rfl (by kernel_rfl) ?_
                  refine told_skip (some 193) rfl (by kernel_rfl) ?_
                  refine told_pure (some 194) (.bool false) rfl (by kernel_rfl) (fun _ => by kernel_rfl) ?_
                  refine told_nil ?_
                  intro w9 hS9
                  show K' _ _
                  exact HJK.out _ _ ⟨.pointer (some ⟨wr.heap.size, 0, none⟩), .int .i64 X.f0, .bool false, .bool false, undef, undef, undef, undef, undef, undef, undef, undef, undef, undef, undef, undef, undef, undef, undef, undef, undef, undef, undef, undef, undef, .bool false, ⟨.inl ⟨(fun h => absurd h m1), rfl⟩, hS9⟩, by kernel_rfl⟩
                obtain ⟨ix, hix⟩ : ∃ ix, idx (fun y : S_Inode => decide (y.f0 = X.f3)) x.f2 = ix := ⟨_, rfl⟩
                have HIX : Hid (idx (fun y : S_Inode => decide (y.f0 = X.f3)) x.f2 = ix) := hix
                have HIN : Hid (∀ W, Below W1.heap.size W1 W → Calls Tryz.prog 64 #[.agg #[.int .i64 x.f0, .int .i64 x.f1, .slice p2 x.f2.length c2, .slice p3 x.f3.length c3, .slice (some ⟨b, off, none⟩) x.f4.length c4], .int .i64 X.f3] W fun e w' => e = .returned (.int .i64 ix) ∧ Below W1.heap.size W1 w') := fun W hS => by
                  rw [← hix]
                  exact below_S (inode_c x _ _ _ X.f3 W HLN.out ((HRD.out W1 HC1'.out).keep hS (Nat.le_refl _))) hS
                have HLC : Hid (∀ W, Below W1.heap.size W1 W → ∀ B, lnk x.f3 X.f3 = B → Calls Tryz.prog 62 #[.slice p3 x.f3.length c3, .int .i64 X.f3] W fun e w' => e = .returned (.bool B) ∧ w' = W) := fun W hS B hB => by
                  rw [← hB]
                  exact linked_c _ x.f3 X.f3 _ hl3 ((HRD.out W1 HC1'.out).2.1.keep hS (Nat.le_refl _))
                have HMC : Hid (∀ W, Below W1.heap.size W1 W → ∀ B, mad (x.f4.take k) X.f3 = B → Calls Tryz.prog 63 #[.slice (some ⟨b, off, none⟩) k c4, .int .i64 X.f3] W fun e w' => e = .returned (.bool B) ∧ w' = W) := fun W hS B hB => by
                  rw [← hB]
                  have hrow := rowCut ((HRD.out W1 HC1'.out).2.2.keep hS (Nat.le_refl _)) k (by omega)
                  rw [rMove_take x.f4 k (by omega)] at hrow
                  have hlen : (x.f4.take k).length = k := by rw [List.length_take]; omega
                  exact made_c (.slice (some ⟨b, off, none⟩) k c4) (x.f4.take k) X.f3 W (by omega) (by rw [hlen]; exact hrow)
                clear hix
                by_cases r5 : ix < 0
                · have HE : Hid (¬ (X.f0 = 1 → hasF (fs0 x.f2) X.f3 = true ∧ (lnk x.f3 X.f3 || mad (x.f4.take k) X.f3) = false)) := fun h => by
                    have h1 := (h m1).1
                    rw [hasF_idx, HIX.out] at h1
                    simp [r5] at h1
                  refine wp_region_told (fun W => Below W1.heap.size W1 W) (by kernel_rfl) (by kernel_rfl) ((Below.refl W1.heap.size W1).drew) ?_
                  refine told_pure (some 169) (.pointer (some ⟨wr.heap.size, 0, none⟩)) rfl (by kernel_rfl) (fun _ => by kernel_rfl) ?_
                  refine told_load (some 170) ⟨wr.heap.size, 0, none⟩ (.int .i64 X.f0) rfl (by kernel_rfl) (fun _ => by kernel_rfl) (fun _ hS => atB hS i0) ?_
                  refine told_is (some 171) (.bool (decide (X.f0 = 1))) (.bool true) (by rw [decide_eq_true m1]) rfl (by kernel_rfl) (fun _ => by kernel_rfl) ?_
                  refine told_pure (some 172) (.bool true) rfl (by kernel_rfl) (fun _ => by kernel_rfl) ?_
                  refine told_loads (some 173) ⟨w.heap.size, 0, none⟩ [.int .i64 x.f0, .int .i64 x.f1, .slice p2 x.f2.length c2, .slice p3 x.f3.length c3, .slice (some ⟨b, off, none⟩) x.f4.length c4] rfl (by kernel_rfl) (fun _ => by kernel_rfl) (fun _ hS => cells5 (atB hS e0) (atB hS e1) (atB hS e2) (atB hS e3) (atB hS e4)) ?_
                  refine told_pure (some 174) (.pointer (some ⟨wr.heap.size, 3, none⟩)) rfl (by kernel_rfl) (fun _ => by kernel_rfl) ?_
                  refine told_load (some 175) ⟨wr.heap.size, 3, none⟩ (.int .i64 X.f3) rfl (by kernel_rfl) (fun _ => by kernel_rfl) (fun _ hS => atB hS i3) ?_
                  refine told_call (some 176) (.int .i64 ix) 64 #[.agg #[.int .i64 x.f0, .int .i64 x.f1, .slice p2 x.f2.length c2, .slice p3 x.f3.length c3, .slice (some ⟨b, off, none⟩) x.f4.length c4], .int .i64 X.f3] rfl (by kernel_rfl) (fun _ => by kernel_rfl) (fun W hS => HIN.out W hS) ?_
                  refine told_is (some 177) (.bool (decide (ix < 0))) (.bool true) (by rw [decide_eq_true r5]) rfl (by kernel_rfl) (fun _ => by kernel_rfl) ?_
                  refine told_pure (some 178) (.bool true) rfl (by kernel_rfl) (fun _ => by kernel_rfl) ?_
                  refine told_skip (some 179) rfl (by kernel_rfl) ?_
                  refine told_skip (some 180) rfl (by kernel_rfl) ?_
                  refine told_skip (some 181) rfl (by kernel_rfl) ?_
                  refine told_skip (some 182) rfl (by kernel_rfl) ?_
                  refine told_skip (some 183) rfl (by kernel_rfl) ?_
                  refine told_pure (some 184) (.bool true) rfl (by kernel_rfl) (fun _ => by kernel_rfl) ?_
                  refine told_pure (some 185) (.bool true) rfl (by kernel_rfl) (fun _ => by kernel_rfl) ?_
                  refine told_skip (some 186) rfl (by kernel_rfl) ?_
                  refine told_skip (some 187) rfl (by kernel_rfl) ?_
                  refine told_skip (some 188) rfl (by kernel_rfl) ?_
                  refine told_skip (some 189) rfl (by kernel_rfl) ?_
                  refine told_skip (some 190) rfl (by kernel_rfl) ?_
                  refine told_skip (some 191) rfl (by kernel_rfl) ?_
                  refine told_skip (some 192) rfl (by kernel_rfl) ?_
                  refine told_pure (some 193) (.bool true) rfl (by kernel_rfl) (fun _ => by kernel_rfl) ?_
                  refine told_pure (some 194) (.bool true) rfl (by kernel_rfl) (fun _ => by kernel_rfl) ?_
                  refine told_nil ?_
                  intro w9 hS9
                  show K' _ _
                  exact HJK.out _ _ ⟨.pointer (some ⟨wr.heap.size, 0, none⟩), .int .i64 X.f0, .bool true, .bool true, .agg #[.int .i64 x.f0, .int .i64 x.f1, .slice p2 x.f2.length c2, .slice p3 x.f3.length c3, .slice (some ⟨b, off, none⟩) x.f4.length c4], .pointer (some ⟨wr.heap.size, 3, none⟩), .int .i64 X.f3, .int .i64 ix, .bool true, .bool true, undef, undef, undef, undef, undef, .bool true, .bool true, undef, undef, undef, undef, undef, undef, undef, .bool true, .bool true, ⟨.inr ⟨(HE.out), rfl⟩, hS9⟩, by kernel_rfl⟩
                have HHX : Hid (hasF (fs0 x.f2) X.f3 = true) := by show _ = _; rw [hasF_idx, HIX.out]; simpa using r5
                cases hLB : lnk x.f3 X.f3
                case true =>
                  have HLB : Hid (lnk x.f3 X.f3 = true) := hLB
                  have HE : Hid (¬ (X.f0 = 1 → hasF (fs0 x.f2) X.f3 = true ∧ (true || mad (x.f4.take k) X.f3) = false)) := fun h => by
                    have h1 := (h m1).2
                    cases h1
                  clear hLB
                  refine wp_region_told (fun W => Below W1.heap.size W1 W) (by kernel_rfl) (by kernel_rfl) ((Below.refl W1.heap.size W1).drew) ?_
                  refine told_pure (some 169) (.pointer (some ⟨wr.heap.size, 0, none⟩)) rfl (by kernel_rfl) (fun _ => by kernel_rfl) ?_
                  refine told_load (some 170) ⟨wr.heap.size, 0, none⟩ (.int .i64 X.f0) rfl (by kernel_rfl) (fun _ => by kernel_rfl) (fun _ hS => atB hS i0) ?_
                  refine told_is (some 171) (.bool (decide (X.f0 = 1))) (.bool true) (by rw [decide_eq_true m1]) rfl (by kernel_rfl) (fun _ => by kernel_rfl) ?_
                  refine told_pure (some 172) (.bool true) rfl (by kernel_rfl) (fun _ => by kernel_rfl) ?_
                  refine told_loads (some 173) ⟨w.heap.size, 0, none⟩ [.int .i64 x.f0, .int .i64 x.f1, .slice p2 x.f2.length c2, .slice p3 x.f3.length c3, .slice (some ⟨b, off, none⟩) x.f4.length c4] rfl (by kernel_rfl) (fun _ => by kernel_rfl) (fun _ hS => cells5 (atB hS e0) (atB hS e1) (atB hS e2) (atB hS e3) (atB hS e4)) ?_
                  refine told_pure (some 174) (.pointer (some ⟨wr.heap.size, 3, none⟩)) rfl (by kernel_rfl) (fun _ => by kernel_rfl) ?_
                  refine told_load (some 175) ⟨wr.heap.size, 3, none⟩ (.int .i64 X.f3) rfl (by kernel_rfl) (fun _ => by kernel_rfl) (fun _ hS => atB hS i3) ?_
                  refine told_call (some 176) (.int .i64 ix) 64 #[.agg #[.int .i64 x.f0, .int .i64 x.f1, .slice p2 x.f2.length c2, .slice p3 x.f3.length c3, .slice (some ⟨b, off, none⟩) x.f4.length c4], .int .i64 X.f3] rfl (by kernel_rfl) (fun _ => by kernel_rfl) (fun W hS => HIN.out W hS) ?_
                  refine told_is (some 177) (.bool (decide (ix < 0))) (.bool false) (by rw [decide_eq_false r5]) rfl (by kernel_rfl) (fun _ => by kernel_rfl) ?_
                  refine told_pure (some 178) (.bool false) rfl (by kernel_rfl) (fun _ => by kernel_rfl) ?_
                  refine told_pure (some 179) (.pointer (some ⟨w.heap.size, 3, none⟩)) rfl (by kernel_rfl) (fun _ => by kernel_rfl) ?_
                  refine told_load (some 180) ⟨w.heap.size, 3, none⟩ (.slice p3 x.f3.length c3) rfl (by kernel_rfl) (fun _ => by kernel_rfl) (fun _ hS => atB hS e3) ?_
                  refine told_pure (some 181) (.pointer (some ⟨wr.heap.size, 3, none⟩)) rfl (by kernel_rfl) (fun _ => by kernel_rfl) ?_
                  refine told_load (some 182) ⟨wr.heap.size, 3, none⟩ (.int .i64 X.f3) rfl (by kernel_rfl) (fun _ => by kernel_rfl) (fun _ hS => atB hS i3) ?_
                  refine told_call (some 183) (.bool true) 62 #[.slice p3 x.f3.length c3, .int .i64 X.f3] rfl (by kernel_rfl) (fun _ => by kernel_rfl) (fun W hS => same_S (HLC.out W hS _ HLB.out) hS) ?_
                  refine told_pure (some 184) (.bool true) rfl (by kernel_rfl) (fun _ => by kernel_rfl) ?_
                  refine told_pure (some 185) (.bool true) rfl (by kernel_rfl) (fun _ => by kernel_rfl) ?_
                  refine told_skip (some 186) rfl (by kernel_rfl) ?_
                  refine told_skip (some 187) rfl (by kernel_rfl) ?_
                  refine told_skip (some 188) rfl (by kernel_rfl) ?_
                  refine told_skip (some 189) rfl (by kernel_rfl) ?_
                  refine told_skip (some 190) rfl (by kernel_rfl) ?_
                  refine told_skip (some 191) rfl (by kernel_rfl) ?_
                  refine told_skip (some 192) rfl (by kernel_rfl) ?_
                  refine told_pure (some 193) (.bool true) rfl (by kernel_rfl) (fun _ => by kernel_rfl) ?_
                  refine told_pure (some 194) (.bool true) rfl (by kernel_rfl) (fun _ => by kernel_rfl) ?_
                  refine told_nil ?_
                  intro w9 hS9
                  show K' _ _
                  exact HJK.out _ _ ⟨.pointer (some ⟨wr.heap.size, 0, none⟩), .int .i64 X.f0, .bool true, .bool true, .agg #[.int .i64 x.f0, .int .i64 x.f1, .slice p2 x.f2.length c2, .slice p3 x.f3.length c3, .slice (some ⟨b, off, none⟩) x.f4.length c4], .pointer (some ⟨wr.heap.size, 3, none⟩), .int .i64 X.f3, .int .i64 ix, .bool false, .bool false, .pointer (some ⟨w.heap.size, 3, none⟩), .slice p3 x.f3.length c3, .pointer (some ⟨wr.heap.size, 3, none⟩), .int .i64 X.f3, .bool true, .bool true, .bool true, undef, undef, undef, undef, undef, undef, undef, .bool true, .bool true, ⟨.inr ⟨(by rw [HLB.out]; exact HE.out), rfl⟩, hS9⟩, by kernel_rfl⟩
                case false =>
                  have HLB : Hid (lnk x.f3 X.f3 = false) := hLB
                  clear hLB
                  cases hMB : mad (x.f4.take k) X.f3
                  · have HMB : Hid (mad (x.f4.take k) X.f3 = false) := hMB
                    clear hMB
                    refine wp_region_told (fun W => Below W1.heap.size W1 W) (by kernel_rfl) (by kernel_rfl) ((Below.refl W1.heap.size W1).drew) ?_
                    refine told_pure (some 169) (.pointer (some ⟨wr.heap.size, 0, none⟩)) rfl (by kernel_rfl) (fun _ => by kernel_rfl) ?_
                    refine told_load (some 170) ⟨wr.heap.size, 0, none⟩ (.int .i64 X.f0) rfl (by kernel_rfl) (fun _ => by kernel_rfl) (fun _ hS => atB hS i0) ?_
                    refine told_is (some 171) (.bool (decide (X.f0 = 1))) (.bool true) (by rw [decide_eq_true m1]) rfl (by kernel_rfl) (fun _ => by kernel_rfl) ?_
                    refine told_pure (some 172) (.bool true) rfl (by kernel_rfl) (fun _ => by kernel_rfl) ?_
                    refine told_loads (some 173) ⟨w.heap.size, 0, none⟩ [.int .i64 x.f0, .int .i64 x.f1, .slice p2 x.f2.length c2, .slice p3 x.f3.length c3, .slice (some ⟨b, off, none⟩) x.f4.length c4] rfl (by kernel_rfl) (fun _ => by kernel_rfl) (fun _ hS => cells5 (atB hS e0) (atB hS e1) (atB hS e2) (atB hS e3) (atB hS e4)) ?_
                    refine told_pure (some 174) (.pointer (some ⟨wr.heap.size, 3, none⟩)) rfl (by kernel_rfl) (fun _ => by kernel_rfl) ?_
                    refine told_load (some 175) ⟨wr.heap.size, 3, none⟩ (.int .i64 X.f3) rfl (by kernel_rfl) (fun _ => by kernel_rfl) (fun _ hS => atB hS i3) ?_
                    refine told_call (some 176) (.int .i64 ix) 64 #[.agg #[.int .i64 x.f0, .int .i64 x.f1, .slice p2 x.f2.length c2, .slice p3 x.f3.length c3, .slice (some ⟨b, off, none⟩) x.f4.length c4], .int .i64 X.f3] rfl (by kernel_rfl) (fun _ => by kernel_rfl) (fun W hS => HIN.out W hS) ?_
                    refine told_is (some 177) (.bool (decide (ix < 0))) (.bool false) (by rw [decide_eq_false r5]) rfl (by kernel_rfl) (fun _ => by kernel_rfl) ?_
                    refine told_pure (some 178) (.bool false) rfl (by kernel_rfl) (fun _ => by kernel_rfl) ?_
                    refine told_pure (some 179) (.pointer (some ⟨w.heap.size, 3, none⟩)) rfl (by kernel_rfl) (fun _ => by kernel_rfl) ?_
                    refine told_load (some 180) ⟨w.heap.size, 3, none⟩ (.slice p3 x.f3.length c3) rfl (by kernel_rfl) (fun _ => by kernel_rfl) (fun _ hS => atB hS e3) ?_
                    refine told_pure (some 181) (.pointer (some ⟨wr.heap.size, 3, none⟩)) rfl (by kernel_rfl) (fun _ => by kernel_rfl) ?_
                    refine told_load (some 182) ⟨wr.heap.size, 3, none⟩ (.int .i64 X.f3) rfl (by kernel_rfl) (fun _ => by kernel_rfl) (fun _ hS => atB hS i3) ?_
                    refine told_call (some 183) (.bool false) 62 #[.slice p3 x.f3.length c3, .int .i64 X.f3] rfl (by kernel_rfl) (fun _ => by kernel_rfl) (fun W hS => same_S (HLC.out W hS _ HLB.out) hS) ?_
                    refine told_pure (some 184) (.bool false) rfl (by kernel_rfl) (fun _ => by kernel_rfl) ?_
                    refine told_pure (some 185) (.bool false) rfl (by kernel_rfl) (fun _ => by kernel_rfl) ?_
                    refine told_pure (some 186) (.pointer (some ⟨w.heap.size, 4, none⟩)) rfl (by kernel_rfl) (fun _ => by kernel_rfl) ?_
                    refine told_load (some 187) ⟨w.heap.size, 4, none⟩ (.slice (some ⟨b, off, none⟩) x.f4.length c4) rfl (by kernel_rfl) (fun _ => by kernel_rfl) (fun _ hS => atB hS e4) ?_
                    refine told_pure (some 188) (.int .i64 (k : Int)) rfl (by kernel_rfl) (fun _ => by kernel_rfl) ?_
                    refine told_pure (some 189) (.slice (some ⟨b, off, none⟩) k c4) rfl (by kernel_rfl) (fun w => by go_simp) ?_
                    refine told_pure (some 190) (.pointer (some ⟨wr.heap.size, 3, none⟩)) rfl (by kernel_rfl) (fun _ => by kernel_rfl) ?_
                    refine told_load (some 191) ⟨wr.heap.size, 3, none⟩ (.int .i64 X.f3) rfl (by kernel_rfl) (fun _ => by kernel_rfl) (fun _ hS => atB hS i3) ?_
                    refine told_call (some 192) (.bool false) 63 #[.slice (some ⟨b, off, none⟩) k c4, .int .i64 X.f3] rfl (by kernel_rfl) (fun _ => by kernel_rfl) (fun W hS => same_S (HMC.out W hS _ HMB.out) hS) ?_
                    refine told_pure (some 193) (.bool false) rfl (by kernel_rfl) (fun _ => by kernel_rfl) ?_
                    refine told_pure (some 194) (.bool false) rfl (by kernel_rfl) (fun _ => by kernel_rfl) ?_
                    refine told_nil ?_
                    intro w9 hS9
                    show K' _ _
                    exact HJK.out _ _ ⟨.pointer (some ⟨wr.heap.size, 0, none⟩), .int .i64 X.f0, .bool true, .bool true, .agg #[.int .i64 x.f0, .int .i64 x.f1, .slice p2 x.f2.length c2, .slice p3 x.f3.length c3, .slice (some ⟨b, off, none⟩) x.f4.length c4], .pointer (some ⟨wr.heap.size, 3, none⟩), .int .i64 X.f3, .int .i64 ix, .bool false, .bool false, .pointer (some ⟨w.heap.size, 3, none⟩), .slice p3 x.f3.length c3, .pointer (some ⟨wr.heap.size, 3, none⟩), .int .i64 X.f3, .bool false, .bool false, .bool false, .pointer (some ⟨w.heap.size, 4, none⟩), .slice (some ⟨b, off, none⟩) x.f4.length c4, .int .i64 (k : Int), .slice (some ⟨b, off, none⟩) k c4, .pointer (some ⟨wr.heap.size, 3, none⟩), .int .i64 X.f3, .bool false, .bool false, .bool false, ⟨.inl ⟨(fun _ => ⟨HHX.out, by rw [HLB.out, HMB.out]; rfl⟩), rfl⟩, hS9⟩, by kernel_rfl⟩
                  · have HMB : Hid (mad (x.f4.take k) X.f3 = true) := hMB
                    clear hMB
                    refine wp_region_told (fun W => Below W1.heap.size W1 W) (by kernel_rfl) (by kernel_rfl) ((Below.refl W1.heap.size W1).drew) ?_
                    refine told_pure (some 169) (.pointer (some ⟨wr.heap.size, 0, none⟩)) rfl (by kernel_rfl) (fun _ => by kernel_rfl) ?_
                    refine told_load (some 170) ⟨wr.heap.size, 0, none⟩ (.int .i64 X.f0) rfl (by kernel_rfl) (fun _ => by kernel_rfl) (fun _ hS => atB hS i0) ?_
                    refine told_is (some 171) (.bool (decide (X.f0 = 1))) (.bool true) (by rw [decide_eq_true m1]) rfl (by kernel_rfl) (fun _ => by kernel_rfl) ?_
                    refine told_pure (some 172) (.bool true) rfl (by kernel_rfl) (fun _ => by kernel_rfl) ?_
                    refine told_loads (some 173) ⟨w.heap.size, 0, none⟩ [.int .i64 x.f0, .int .i64 x.f1, .slice p2 x.f2.length c2, .slice p3 x.f3.length c3, .slice (some ⟨b, off, none⟩) x.f4.length c4] rfl (by kernel_rfl) (fun _ => by kernel_rfl) (fun _ hS => cells5 (atB hS e0) (atB hS e1) (atB hS e2) (atB hS e3) (atB hS e4)) ?_
                    refine told_pure (some 174) (.pointer (some ⟨wr.heap.size, 3, none⟩)) rfl (by kernel_rfl) (fun _ => by kernel_rfl) ?_
                    refine told_load (some 175) ⟨wr.heap.size, 3, none⟩ (.int .i64 X.f3) rfl (by kernel_rfl) (fun _ => by kernel_rfl) (fun _ hS => atB hS i3) ?_
                    refine told_call (some 176) (.int .i64 ix) 64 #[.agg #[.int .i64 x.f0, .int .i64 x.f1, .slice p2 x.f2.length c2, .slice p3 x.f3.length c3, .slice (some ⟨b, off, none⟩) x.f4.length c4], .int .i64 X.f3] rfl (by kernel_rfl) (fun _ => by kernel_rfl) (fun W hS => HIN.out W hS) ?_
                    refine told_is (some 177) (.bool (decide (ix < 0))) (.bool false) (by rw [decide_eq_false r5]) rfl (by kernel_rfl) (fun _ => by kernel_rfl) ?_
                    refine told_pure (some 178) (.bool false) rfl (by kernel_rfl) (fun _ => by kernel_rfl) ?_
                    refine told_pure (some 179) (.pointer (some ⟨w.heap.size, 3, none⟩)) rfl (by kernel_rfl) (fun _ => by kernel_rfl) ?_
                    refine told_load (some 180) ⟨w.heap.size, 3, none⟩ (.slice p3 x.f3.length c3) rfl (by kernel_rfl) (fun _ => by kernel_rfl) (fun _ hS => atB hS e3) ?_
                    refine told_pure (some 181) (.pointer (some ⟨wr.heap.size, 3, none⟩)) rfl (by kernel_rfl) (fun _ => by kernel_rfl) ?_
                    refine told_load (some 182) ⟨wr.heap.size, 3, none⟩ (.int .i64 X.f3) rfl (by kernel_rfl) (fun _ => by kernel_rfl) (fun _ hS => atB hS i3) ?_
                    refine told_call (some 183) (.bool false) 62 #[.slice p3 x.f3.length c3, .int .i64 X.f3] rfl (by kernel_rfl) (fun _ => by kernel_rfl) (fun W hS => same_S (HLC.out W hS _ HLB.out) hS) ?_
                    refine told_pure (some 184) (.bool false) rfl (by kernel_rfl) (fun _ => by kernel_rfl) ?_
                    refine told_pure (some 185) (.bool false) rfl (by kernel_rfl) (fun _ => by kernel_rfl) ?_
                    refine told_pure (some 186) (.pointer (some ⟨w.heap.size, 4, none⟩)) rfl (by kernel_rfl) (fun _ => by kernel_rfl) ?_
                    refine told_load (some 187) ⟨w.heap.size, 4, none⟩ (.slice (some ⟨b, off, none⟩) x.f4.length c4) rfl (by kernel_rfl) (fun _ => by kernel_rfl) (fun _ hS => atB hS e4) ?_
                    refine told_pure (some 188) (.int .i64 (k : Int)) rfl (by kernel_rfl) (fun _ => by kernel_rfl) ?_
                    refine told_pure (some 189) (.slice (some ⟨b, off, none⟩) k c4) rfl (by kernel_rfl) (fun w => by go_simp) ?_
                    refine told_pure (some 190) (.pointer (some ⟨wr.heap.size, 3, none⟩)) rfl (by kernel_rfl) (fun _ => by kernel_rfl) ?_
                    refine told_load (some 191) ⟨wr.heap.size, 3, none⟩ (.int .i64 X.f3) rfl (by kernel_rfl) (fun _ => by kernel_rfl) (fun _ hS => atB hS i3) ?_
                    refine told_call (some 192) (.bool true) 63 #[.slice (some ⟨b, off, none⟩) k c4, .int .i64 X.f3] rfl (by kernel_rfl) (fun _ => by kernel_rfl) (fun W hS => same_S (HMC.out W hS _ HMB.out) hS) ?_
                    refine told_pure (some 193) (.bool true) rfl (by kernel_rfl) (fun _ => by kernel_rfl) ?_
                    refine told_pure (some 194) (.bool true) rfl (by kernel_rfl) (fun _ => by kernel_rfl) ?_
                    refine told_nil ?_
                    intro w9 hS9
                    show K' _ _
                    exact HJK.out _ _ ⟨.pointer (some ⟨wr.heap.size, 0, none⟩), .int .i64 X.f0, .bool true, .bool true, .agg #[.int .i64 x.f0, .int .i64 x.f1, .slice p2 x.f2.length c2, .slice p3 x.f3.length c3, .slice (some ⟨b, off, none⟩) x.f4.length c4], .pointer (some ⟨wr.heap.size, 3, none⟩), .int .i64 X.f3, .int .i64 ix, .bool false, .bool false, .pointer (some ⟨w.heap.size, 3, none⟩), .slice p3 x.f3.length c3, .pointer (some ⟨wr.heap.size, 3, none⟩), .int .i64 X.f3, .bool false, .bool false, .bool false, .pointer (some ⟨w.heap.size, 4, none⟩), .slice (some ⟨b, off, none⟩) x.f4.length c4, .int .i64 (k : Int), .slice (some ⟨b, off, none⟩) k c4, .pointer (some ⟨wr.heap.size, 3, none⟩), .int .i64 X.f3, .bool true, .bool true, .bool true, ⟨.inr ⟨(fun h => by have h1 := (h m1).2; rw [HLB.out, HMB.out] at h1; cases h1), rfl⟩, hS9⟩, by kernel_rfl⟩
              case rest =>
                obtain ⟨⟨hg, rfl⟩ | ⟨hg, rfl⟩, HCc⟩ := hcut
                · have HG : Hid (X.f0 = 1 → hasF (fs0 x.f2) X.f3 = true ∧ (lnk x.f3 X.f3 || mad (x.f4.take k) X.f3) = false) := hg
                  have HRx : Hid (RowR _ u7 (nms x.f3 (x.f4.take k)).length 2 (rLink (nms x.f3 (x.f4.take k)))) := (HRk.out.keep HWr.out (Nat.le_refl _)).keep HCc.out (Nat.le_refl _)
                  have HCx : Hid (Below (w.heap.size + 1) W0 _) := HC1'.out.trans (HCc.out.mono (by have := HC1'.out.size; have := HS0.out; omega))
                  have j0 := atB HCc.out i0
                  have j1 := atB HCc.out i1
                  have j2 := atB HCc.out i2
                  have j3 := atB HCc.out i3
                  clear hg i0 i1 i2 i3 e0 e1 e2 e3 e4
                  generalize hA : nms x.f3 (x.f4.take k) = A at HRx HT hla
                  have HA : Hid (nms x.f3 (x.f4.take k) = A) := hA
                  clear hA
                  go_wp2_with fail
                  refine (ap_c _ A X _ hla HSM.out HRx.out).mono ?_
                  rintro e w2 ⟨u, rfl, hu, b2⟩
                  have HR2 : Hid (RowR w2 u (nms x.f3 (x.f4.take (k + 1))).length 2 (rLink (nms x.f3 (x.f4.take (k + 1))))) := by show RowR _ _ _ _ _; rw [HT.out]; exact hu
                  have HC2 : Hid (Below (w.heap.size + 1) W0 w2) := HCx.out.trans (b2.mono (by have := HCx.out.size; have := HS0.out; omega))
                  clear hu b2 HRx HCx j0 j1 j2 j3
                  cases hfit : (ap A X).2
                  · have HE : Hid (¬ okX x) := fun h => by
                      have h1 := (HNO.out h).1
                      rw [HA.out, hfit] at h1
                      cases h1
                    clear hfit
                    go_wp2
                    go_ret
                    exact ⟨.inr ⟨HE.out, rfl⟩, HDN.out _ HC2.out⟩
                  · have HO1 : Hid (∀ j (hj : j < x.f4.length), j < k + 1 → mOk (fs0 x.f2) x.f3 x.f4 j x.f4[j]) := HON.out ⟨by rw [HA.out]; exact hfit, HG.out⟩
                    clear hfit
                    go_wp2
                    go_roundw
                    case rel => exact ⟨k + 1, by omega, by go_num, HR2, HC2, HO1⟩
                    case measure => simp [intOf]; omega
                · have HE : Hid (¬ okX x) := fun h => hg (HNO.out h).2
                  have HCx : Hid (Below (w.heap.size + 1) W0 _) := HC1'.out.trans (HCc.out.mono (by have := HC1'.out.size; have := HS0.out; omega))
                  clear hg
                  go_wp2
                  go_ret
                  exact ⟨.inr ⟨HE.out, rfl⟩, HDN.out _ HCx.out⟩
            · have hke : k = x.f4.length := by omega
              subst hke
              have HE : Hid (okX x) := ⟨HX1.out, ⟨HX3.out.1, HX2.out⟩, HX4.out, fun j hj => HOk.out j hj hj, HX3.out.2⟩
              clear HOk
              go_wp2
              go_ret
              exact ⟨.inl ⟨HE.out, rfl⟩, HDN.out _ HCk.out⟩

end Go.Proofs.YtmknplpcpmkhiaaGreat
