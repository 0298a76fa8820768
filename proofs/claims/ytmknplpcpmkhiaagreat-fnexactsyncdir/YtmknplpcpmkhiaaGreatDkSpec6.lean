/- The specification's move that is applied, whatever it is, by its contract; and the names behind moves. -/
import Derived.Test.YtmknplpcpmkhiaaGreatJD
namespace Go.Proofs.YtmknplpcpmkhiaaGreat
open Go.RowKit
set_option linter.unusedVariables false

theorem any_gen4 {P : Program} {md : Region.Mode} {ops : Array Oper} {Q : Exit → Act → World → Prop} {fuel : Nat} {listed : Array Bool} {a : Act} (F : World → Prop) {W0 : World} (h0 : F W0) (h : ∀ W, F W → wpAny P md ops Q fuel listed a W) : wpAny P md ops Q fuel listed a W0 := h W0 h0

set_option maxRecDepth 20000 in
set_option maxHeartbeats 4000000 in
theorem ap_rename (v : Value) (L : List S_Link) (m : S_Move) (w : World) (hn : L.length ≤ 1048576) (hs : sMove m) (hr : RowR w v L.length 2 (rLink L)) (h1 : nameB m.f1 = true) (k0 : m.f0 = 2) (k3 : m.f3 = 0) (ka : ¬ at4 L m.f1 < 0) (kn : nameB m.f2 = true) (ks : ¬ m.f2 = m.f1) :
    Calls Tryz.prog 65 #[v, .agg #[.int .i64 m.f0, .string m.f1, .string m.f2, .int .i64 m.f3]] w (ApR L m w) := by
  have HP : Hid (ap L m = (wi ⟨m.f2, (L[(at4 L m.f1).toNat]?.map (·.f1)).getD 0⟩ (wo m.f1 L), true)) := by
    show _ = _
    unfold ap
    simp [h1, k0, k3, ka, kn, ks]
  have hn' : (L.length : Int) ≤ 1048576 := by omega
  have HB0 : Hid (Below w.heap.size w (w.alloc (.cells #[.int .i64 m.f0, .string m.f1, .string m.f2, .int .i64 m.f3] 51))) := (Below.refl _ _).alloc (Nat.le_refl _) _
  have HR0 : Hid (RowR w v L.length 2 (rLink L)) := hr
  have HR : Hid (RowR (w.alloc (.cells #[.int .i64 m.f0, .string m.f1, .string m.f2, .int .i64 m.f3] 51)) v L.length 2 (rLink L)) := hr.keep HB0.out (Nat.le_refl _)
  have HA : Hid (at4 L m.f1 = idx (fun x => decide (x.f0 = m.f1)) L) := rfl
  have har := idx_range (fun x : S_Link => decide (x.f0 = m.f1)) L
  rw [← HA.out] at har
  obtain ⟨ha1, ha2⟩ := har
  have e1 : (m.f0 == 1) = false := by rw [k0]; rfl
  have e2 : (m.f0 == 2) = true := by rw [k0]; rfl
  have q3 : (m.f3 == 0) = true := by simp [k3]
  have qs : (m.f2.toList == m.f1.toList) = false := by rw [beq_txt]; simp [ks]
  have H1 : Hid (nameB m.f1 = true) := h1
  have HN : Hid (nameB m.f2 = true) := kn
  obtain ⟨i, hi⟩ : ∃ i : Nat, at4 L m.f1 = (i : Int) := Int.eq_ofNat_of_zero_le (by omega)
  have hil : i < L.length := by omega
  have hil' : (i : Int) < L.length := by omega
  obtain ⟨b, off, cap, hv, hb, hc⟩ := link_cells hr (by omega)
  subst hv
  obtain ⟨_, hc1⟩ := hc i hil
  have hID : (L[(at4 L m.f1).toNat]?.map (·.f1)).getD 0 = L[i].f1 := by
    have e : (at4 L m.f1).toNat = i := by omega
    rw [e, List.getElem?_eq_getElem hil]; rfl
  rw [hID] at HP
  obtain ⟨ID, hIDe⟩ : ∃ ID, L[i].f1 = ID := ⟨_, rfl⟩
  rw [hIDe] at HP hc1
  have HCI : Hid (∀ W', Below (w.heap.size + 1) (w.alloc (.cells #[.int .i64 m.f0, .string m.f1, .string m.f2, .int .i64 m.f3] 51)) W' → W'.cell? ⟨b, off + i * 2 + 1, none⟩ = some (.int .i64 ID) ∧ W'.cell? ⟨w.heap.size, 1, none⟩ = some (.string m.f1) ∧ W'.cell? ⟨w.heap.size, 2, none⟩ = some (.string m.f2)) := fun W' hW =>
    ⟨by rw [hW.cell (by show b < w.heap.size + 1; omega), HB0.out.cell (by exact hb)]; exact hc1, by rw [hW.cell (by show w.heap.size < w.heap.size + 1; omega), box_cell]; rfl, by rw [hW.cell (by show w.heap.size < w.heap.size + 1; omega), box_cell]; rfl⟩
  clear k0 k3 kn ks h1 hc hr hID hIDe hc1
  go_enter Tryz.func65, Tryz.ntmps65
  go_wp2_with fail
  refine (at4_c _ L m.f1 _ hn HR.out).mono ?_
  rintro e w1 ⟨rfl, hw⟩
  subst hw
  rw [← HA.out, hi]
  rw [hi] at ha1 ha2 ka
  clear hi HA
  go_wp2_with fail
  refine (name_c m.f1 _ hs.1).mono ?_
  rintro e w1 ⟨rfl, hw⟩
  subst hw
  rw [H1.out]
  go_wp2_with fail
  refine (name_c m.f2 _ hs.2).mono ?_
  rintro e w1 ⟨rfl, hw⟩
  subst hw
  rw [HN.out]
  have hwo : (wo m.f1 L).length ≤ 1048576 := Nat.le_trans (wo_len _ _) hn
  go_wp2
  refine wp_region_any (by kernel_rfl) ?_
  refine wpAny_take (i := 0) (v := ?_) rfl (by kernel_rfl) (by kernel_rfl) (by kernel_rfl) (fun _ _ _ h => h) (Or.inl ⟨by rfl, ?_⟩) ?_
  rotate_left
  · (intro W; go_simp; try with_reducible rfl)
  simp only [Act.put, List.setIfInBounds_toArray, List.set_cons_zero, List.set_cons_succ, List.getElem_toArray, List.getElem_cons_zero]
  refine wpAny_take (i := 1) (v := ?_) rfl (by kernel_rfl) (by kernel_rfl) (by kernel_rfl) (fun _ _ _ h => h) (Or.inl ⟨by rfl, ?_⟩) ?_
  rotate_left
  · (intro W; go_simp; try with_reducible rfl)
  simp only [Act.put, List.setIfInBounds_toArray, List.set_cons_zero, List.set_cons_succ, List.getElem_toArray, List.getElem_cons_zero, List.getElem_cons_succ]
  refine wpAny_take (i := 4) (v := ?_) rfl (by kernel_rfl) (by kernel_rfl) (by kernel_rfl) (fun _ _ _ h => h) (Or.inl ⟨by rfl, ?_⟩) ?_
  rotate_left
  · (intro W; go_simp; try with_reducible rfl)
  simp only [Act.put, List.setIfInBounds_toArray, List.set_cons_zero, List.set_cons_succ, List.getElem_toArray, List.getElem_cons_zero, List.getElem_cons_succ]
  refine wpAny_take (i := 6) (v := ?_) rfl (by kernel_rfl) (by kernel_rfl) (by kernel_rfl) (fun _ _ _ h => h) (Or.inl ⟨by rfl, ?_⟩) ?_
  rotate_left
  · (intro W; go_simp; try with_reducible rfl)
  simp only [Act.put, List.setIfInBounds_toArray, List.set_cons_zero, List.set_cons_succ, List.getElem_toArray, List.getElem_cons_zero, List.getElem_cons_succ]
  refine wpAny_take (i := 7) (v := ?_) rfl (by kernel_rfl) (by kernel_rfl) (by kernel_rfl) (fun _ _ _ h => h) (Or.inl ⟨by rfl, ?_⟩) ?_
  rotate_left
  · (intro W; go_simp; try with_reducible rfl)
  simp only [Act.put, List.setIfInBounds_toArray, List.set_cons_zero, List.set_cons_succ, List.getElem_toArray, List.getElem_cons_zero, List.getElem_cons_succ]
  refine wpAny_take (i := 8) (v := ?_) rfl (by kernel_rfl) (by kernel_rfl) (by kernel_rfl) (fun _ _ _ h => h) (Or.inl ⟨by rfl, ?_⟩) ?_
  rotate_left
  · (intro W; go_simp; try with_reducible rfl)
  simp only [Act.put, List.setIfInBounds_toArray, List.set_cons_zero, List.set_cons_succ, List.getElem_toArray, List.getElem_cons_zero, List.getElem_cons_succ]
  refine wpAny_take (i := 9) (v := ?_) rfl (by kernel_rfl) (by kernel_rfl) (by kernel_rfl) (fun _ _ _ h => h) (Or.inl ⟨by rfl, ?_⟩) ?_
  rotate_left
  · (intro W; go_simp; try with_reducible rfl)
  simp only [Act.put, List.setIfInBounds_toArray, List.set_cons_zero, List.set_cons_succ, List.getElem_toArray, List.getElem_cons_zero, List.getElem_cons_succ]
  refine any_gen4 (fun W => Below (w.heap.size + 1) (w.alloc (.cells #[.int .i64 m.f0, .string m.f1, .string m.f2, .int .i64 m.f3] 51)) W) ((Below.refl _ _).drew) ?_
  intro W0 f0
  have F0 : Hid (Below (w.heap.size + 1) (w.alloc (.cells #[.int .i64 m.f0, .string m.f1, .string m.f2, .int .i64 m.f3] 51)) W0) := f0
  clear f0
  obtain ⟨ci, c1, c2⟩ := HCI.out W0 F0.out
  refine wpAny_ready (rs := [2, 5, 10]) (by kernel_rfl) (by simp) ?_
  refine AllReady.cons rfl (fun K hK => ?_) (AllReady.cons rfl (fun K hK => ?_) (AllReady.cons rfl (fun K hK => ?_) AllReady.nil))
  · go_simp
    refine hK _ _ ?_
    clear hK K
    refine wpAny_ready (rs := [3, 5, 10]) (by kernel_rfl) (by simp) ?_
    refine AllReady.cons rfl (fun K hK => ?_) (AllReady.cons rfl (fun K hK => ?_) (AllReady.cons rfl (fun K hK => ?_) AllReady.nil))
    · go_simp
      refine (without_c _ L m.f1 W0 hn (HR.out.keep F0.out (by simp))).mono ?_
      rintro e W1 ⟨u, rfl, own, bb⟩
      have HU : Hid (RowR W1 u (wo m.f1 L).length 2 (rLink (wo m.f1 L))) := RowR.own own
      have F1 : Hid (Below (w.heap.size + 1) (w.alloc (.cells #[.int .i64 m.f0, .string m.f1, .string m.f2, .int .i64 m.f3] 51)) W1) := F0.out.trans (bb.mono (by have := F0.out.size; simp at this; exact this))
      clear own bb ci c1 c2
      refine hK _ _ ?_
      clear hK K
      obtain ⟨ci, c1, c2⟩ := HCI.out W1 F1.out
      refine wpAny_ready (rs := [5, 10]) (by kernel_rfl) (by simp) ?_
      refine AllReady.cons rfl (fun K hK => ?_) (AllReady.cons rfl (fun K hK => ?_) AllReady.nil)
      · go_simp
        refine hK _ _ ?_
        clear hK K
        refine wpAny_ready (rs := [10]) (by kernel_rfl) (by simp) ?_
        refine AllReady.cons rfl (fun K hK => ?_) AllReady.nil
        · go_simp
          refine hK _ _ ?_
          clear hK K
          refine wpAny_take (i := 11) (v := ?_) rfl (by kernel_rfl) (by kernel_rfl) (by kernel_rfl) (fun _ _ _ h => h) (Or.inl ⟨by rfl, ?_⟩) ?_
          rotate_left
          · (intro W; go_simp; try with_reducible rfl)
          simp only [Act.put, List.setIfInBounds_toArray, List.set_cons_zero, List.set_cons_succ, List.getElem_toArray, List.getElem_cons_zero, List.getElem_cons_succ]
          refine wpAny_ready (rs := [12]) (by kernel_rfl) (by simp) ?_
          refine AllReady.cons rfl (fun K hK => ?_) AllReady.nil
          go_simp
          refine (with_c u (wo m.f1 L) ⟨m.f2, ID⟩ W1 hwo HU.out).mono ?_
          rintro e W2 ⟨u2, rfl, own2, bb⟩
          have HO2 : Hid (RowR W2 u2 (wi ⟨m.f2, ID⟩ (wo m.f1 L)).length 2 (rLink (wi ⟨m.f2, ID⟩ (wo m.f1 L)))) := RowR.own own2
          have HZ : Hid (Below w.heap.size w W2) := HB0.out.trans ((F1.out.mono (by omega)).trans (bb.mono (by have := F1.out.size; simp at this; omega)))
          clear own2 bb
          refine hK _ _ ?_
          clear hK K
          refine wpAny_take (i := 13) (v := ?_) rfl (by kernel_rfl) (by kernel_rfl) (by kernel_rfl) (fun _ _ _ h => h) (Or.inl ⟨by rfl, ?_⟩) ?_
          rotate_left
          · (intro W; go_simp; try with_reducible rfl)
          simp only [Act.put, List.setIfInBounds_toArray, List.set_cons_zero, List.set_cons_succ, List.getElem_toArray, List.getElem_cons_zero, List.getElem_cons_succ]
          refine wpAny_take (i := 14) (v := ?_) rfl (by kernel_rfl) (by kernel_rfl) (by kernel_rfl) (fun _ _ _ h => h) (Or.inl ⟨by rfl, ?_⟩) ?_
          rotate_left
          · (intro W; go_simp; try with_reducible rfl)
          simp only [Act.put, List.setIfInBounds_toArray, List.set_cons_zero, List.set_cons_succ, List.getElem_toArray, List.getElem_cons_zero, List.getElem_cons_succ]
          refine wpAny_done (by kernel_rfl) ?_ _
          go_wp2
          go_ret2
          exact ⟨_, by rw [HP.out]; rfl, by rw [HP.out]; exact HO2.out, HZ.out⟩
      · go_simp
        refine hK _ _ ?_
        clear hK K
        refine wpAny_ready (rs := [5]) (by kernel_rfl) (by simp) ?_
        refine AllReady.cons rfl (fun K hK => ?_) AllReady.nil
        · go_simp
          refine hK _ _ ?_
          clear hK K
          refine wpAny_take (i := 11) (v := ?_) rfl (by kernel_rfl) (by kernel_rfl) (by kernel_rfl) (fun _ _ _ h => h) (Or.inl ⟨by rfl, ?_⟩) ?_
          rotate_left
          · (intro W; go_simp; try with_reducible rfl)
          simp only [Act.put, List.setIfInBounds_toArray, List.set_cons_zero, List.set_cons_succ, List.getElem_toArray, List.getElem_cons_zero, List.getElem_cons_succ]
          refine wpAny_ready (rs := [12]) (by kernel_rfl) (by simp) ?_
          refine AllReady.cons rfl (fun K hK => ?_) AllReady.nil
          go_simp
          refine (with_c u (wo m.f1 L) ⟨m.f2, ID⟩ W1 hwo HU.out).mono ?_
          rintro e W2 ⟨u2, rfl, own2, bb⟩
          have HO2 : Hid (RowR W2 u2 (wi ⟨m.f2, ID⟩ (wo m.f1 L)).length 2 (rLink (wi ⟨m.f2, ID⟩ (wo m.f1 L)))) := RowR.own own2
          have HZ : Hid (Below w.heap.size w W2) := HB0.out.trans ((F1.out.mono (by omega)).trans (bb.mono (by have := F1.out.size; simp at this; omega)))
          clear own2 bb
          refine hK _ _ ?_
          clear hK K
          refine wpAny_take (i := 13) (v := ?_) rfl (by kernel_rfl) (by kernel_rfl) (by kernel_rfl) (fun _ _ _ h => h) (Or.inl ⟨by rfl, ?_⟩) ?_
          rotate_left
          · (intro W; go_simp; try with_reducible rfl)
          simp only [Act.put, List.setIfInBounds_toArray, List.set_cons_zero, List.set_cons_succ, List.getElem_toArray, List.getElem_cons_zero, List.getElem_cons_succ]
          refine wpAny_take (i := 14) (v := ?_) rfl (by kernel_rfl) (by kernel_rfl) (by kernel_rfl) (fun _ _ _ h => h) (Or.inl ⟨by rfl, ?_⟩) ?_
          rotate_left
          · (intro W; go_simp; try with_reducible rfl)
          simp only [Act.put, List.setIfInBounds_toArray, List.set_cons_zero, List.set_cons_succ, List.getElem_toArray, List.getElem_cons_zero, List.getElem_cons_succ]
          refine wpAny_done (by kernel_rfl) ?_ _
          go_wp2
          go_ret2
          exact ⟨_, by rw [HP.out]; rfl, by rw [HP.out]; exact HO2.out, HZ.out⟩
    · go_simp
      refine hK _ _ ?_
      clear hK K
      refine wpAny_ready (rs := [3, 10]) (by kernel_rfl) (by simp) ?_
      refine AllReady.cons rfl (fun K hK => ?_) (AllReady.cons rfl (fun K hK => ?_) AllReady.nil)
      · go_simp
        refine (without_c _ L m.f1 W0 hn (HR.out.keep F0.out (by simp))).mono ?_
        rintro e W1 ⟨u, rfl, own, bb⟩
        have HU : Hid (RowR W1 u (wo m.f1 L).length 2 (rLink (wo m.f1 L))) := RowR.own own
        have F1 : Hid (Below (w.heap.size + 1) (w.alloc (.cells #[.int .i64 m.f0, .string m.f1, .string m.f2, .int .i64 m.f3] 51)) W1) := F0.out.trans (bb.mono (by have := F0.out.size; simp at this; exact this))
        clear own bb ci c1 c2
        refine hK _ _ ?_
        clear hK K
        obtain ⟨ci, c1, c2⟩ := HCI.out W1 F1.out
        refine wpAny_ready (rs := [10]) (by kernel_rfl) (by simp) ?_
        refine AllReady.cons rfl (fun K hK => ?_) AllReady.nil
        · go_simp
          refine hK _ _ ?_
          clear hK K
          refine wpAny_take (i := 11) (v := ?_) rfl (by kernel_rfl) (by kernel_rfl) (by kernel_rfl) (fun _ _ _ h => h) (Or.inl ⟨by rfl, ?_⟩) ?_
          rotate_left
          · (intro W; go_simp; try with_reducible rfl)
          simp only [Act.put, List.setIfInBounds_toArray, List.set_cons_zero, List.set_cons_succ, List.getElem_toArray, List.getElem_cons_zero, List.getElem_cons_succ]
          refine wpAny_ready (rs := [12]) (by kernel_rfl) (by simp) ?_
          refine AllReady.cons rfl (fun K hK => ?_) AllReady.nil
          go_simp
          refine (with_c u (wo m.f1 L) ⟨m.f2, ID⟩ W1 hwo HU.out).mono ?_
          rintro e W2 ⟨u2, rfl, own2, bb⟩
          have HO2 : Hid (RowR W2 u2 (wi ⟨m.f2, ID⟩ (wo m.f1 L)).length 2 (rLink (wi ⟨m.f2, ID⟩ (wo m.f1 L)))) := RowR.own own2
          have HZ : Hid (Below w.heap.size w W2) := HB0.out.trans ((F1.out.mono (by omega)).trans (bb.mono (by have := F1.out.size; simp at this; omega)))
          clear own2 bb
          refine hK _ _ ?_
          clear hK K
          refine wpAny_take (i := 13) (v := ?_) rfl (by kernel_rfl) (by kernel_rfl) (by kernel_rfl) (fun _ _ _ h => h) (Or.inl ⟨by rfl, ?_⟩) ?_
          rotate_left
          · (intro W; go_simp; try with_reducible rfl)
          simp only [Act.put, List.setIfInBounds_toArray, List.set_cons_zero, List.set_cons_succ, List.getElem_toArray, List.getElem_cons_zero, List.getElem_cons_succ]
          refine wpAny_take (i := 14) (v := ?_) rfl (by kernel_rfl) (by kernel_rfl) (by kernel_rfl) (fun _ _ _ h => h) (Or.inl ⟨by rfl, ?_⟩) ?_
          rotate_left
          · (intro W; go_simp; try with_reducible rfl)
          simp only [Act.put, List.setIfInBounds_toArray, List.set_cons_zero, List.set_cons_succ, List.getElem_toArray, List.getElem_cons_zero, List.getElem_cons_succ]
          refine wpAny_done (by kernel_rfl) ?_ _
          go_wp2
          go_ret2
          exact ⟨_, by rw [HP.out]; rfl, by rw [HP.out]; exact HO2.out, HZ.out⟩
      · go_simp
        refine hK _ _ ?_
        clear hK K
        refine wpAny_take (i := 11) (v := ?_) rfl (by kernel_rfl) (by kernel_rfl) (by kernel_rfl) (fun _ _ _ h => h) (Or.inl ⟨by rfl, ?_⟩) ?_
        rotate_left
        · (intro W; go_simp; try with_reducible rfl)
        simp only [Act.put, List.setIfInBounds_toArray, List.set_cons_zero, List.set_cons_succ, List.getElem_toArray, List.getElem_cons_zero, List.getElem_cons_succ]
        refine wpAny_ready (rs := [3]) (by kernel_rfl) (by simp) ?_
        refine AllReady.cons rfl (fun K hK => ?_) AllReady.nil
        · go_simp
          refine (without_c _ L m.f1 W0 hn (HR.out.keep F0.out (by simp))).mono ?_
          rintro e W1 ⟨u, rfl, own, bb⟩
          have HU : Hid (RowR W1 u (wo m.f1 L).length 2 (rLink (wo m.f1 L))) := RowR.own own
          have F1 : Hid (Below (w.heap.size + 1) (w.alloc (.cells #[.int .i64 m.f0, .string m.f1, .string m.f2, .int .i64 m.f3] 51)) W1) := F0.out.trans (bb.mono (by have := F0.out.size; simp at this; exact this))
          clear own bb ci c1 c2
          refine hK _ _ ?_
          clear hK K
          obtain ⟨ci, c1, c2⟩ := HCI.out W1 F1.out
          refine wpAny_ready (rs := [12]) (by kernel_rfl) (by simp) ?_
          refine AllReady.cons rfl (fun K hK => ?_) AllReady.nil
          go_simp
          refine (with_c u (wo m.f1 L) ⟨m.f2, ID⟩ W1 hwo HU.out).mono ?_
          rintro e W2 ⟨u2, rfl, own2, bb⟩
          have HO2 : Hid (RowR W2 u2 (wi ⟨m.f2, ID⟩ (wo m.f1 L)).length 2 (rLink (wi ⟨m.f2, ID⟩ (wo m.f1 L)))) := RowR.own own2
          have HZ : Hid (Below w.heap.size w W2) := HB0.out.trans ((F1.out.mono (by omega)).trans (bb.mono (by have := F1.out.size; simp at this; omega)))
          clear own2 bb
          refine hK _ _ ?_
          clear hK K
          refine wpAny_take (i := 13) (v := ?_) rfl (by kernel_rfl) (by kernel_rfl) (by kernel_rfl) (fun _ _ _ h => h) (Or.inl ⟨by rfl, ?_⟩) ?_
          rotate_left
          · (intro W; go_simp; try with_reducible rfl)
          simp only [Act.put, List.setIfInBounds_toArray, List.set_cons_zero, List.set_cons_succ, List.getElem_toArray, List.getElem_cons_zero, List.getElem_cons_succ]
          refine wpAny_take (i := 14) (v := ?_) rfl (by kernel_rfl) (by kernel_rfl) (by kernel_rfl) (fun _ _ _ h => h) (Or.inl ⟨by rfl, ?_⟩) ?_
          rotate_left
          · (intro W; go_simp; try with_reducible rfl)
          simp only [Act.put, List.setIfInBounds_toArray, List.set_cons_zero, List.set_cons_succ, List.getElem_toArray, List.getElem_cons_zero, List.getElem_cons_succ]
          refine wpAny_done (by kernel_rfl) ?_ _
          go_wp2
          go_ret2
          exact ⟨_, by rw [HP.out]; rfl, by rw [HP.out]; exact HO2.out, HZ.out⟩
    · go_simp
      refine hK _ _ ?_
      clear hK K
      refine wpAny_ready (rs := [3, 5]) (by kernel_rfl) (by simp) ?_
      refine AllReady.cons rfl (fun K hK => ?_) (AllReady.cons rfl (fun K hK => ?_) AllReady.nil)
      · go_simp
        refine (without_c _ L m.f1 W0 hn (HR.out.keep F0.out (by simp))).mono ?_
        rintro e W1 ⟨u, rfl, own, bb⟩
        have HU : Hid (RowR W1 u (wo m.f1 L).length 2 (rLink (wo m.f1 L))) := RowR.own own
        have F1 : Hid (Below (w.heap.size + 1) (w.alloc (.cells #[.int .i64 m.f0, .string m.f1, .string m.f2, .int .i64 m.f3] 51)) W1) := F0.out.trans (bb.mono (by have := F0.out.size; simp at this; exact this))
        clear own bb ci c1 c2
        refine hK _ _ ?_
        clear hK K
        obtain ⟨ci, c1, c2⟩ := HCI.out W1 F1.out
        refine wpAny_ready (rs := [5]) (by kernel_rfl) (by simp) ?_
        refine AllReady.cons rfl (fun K hK => ?_) AllReady.nil
        · go_simp
          refine hK _ _ ?_
          clear hK K
          refine wpAny_take (i := 11) (v := ?_) rfl (by kernel_rfl) (by kernel_rfl) (by kernel_rfl) (fun _ _ _ h => h) (Or.inl ⟨by rfl, ?_⟩) ?_
          rotate_left
          · (intro W; go_simp; try with_reducible rfl)
          simp only [Act.put, List.setIfInBounds_toArray, List.set_cons_zero, List.set_cons_succ, List.getElem_toArray, List.getElem_cons_zero, List.getElem_cons_succ]
          refine wpAny_ready (rs := [12]) (by kernel_rfl) (by simp) ?_
          refine AllReady.cons rfl (fun K hK => ?_) AllReady.nil
          go_simp
          refine (with_c u (wo m.f1 L) ⟨m.f2, ID⟩ W1 hwo HU.out).mono ?_
          rintro e W2 ⟨u2, rfl, own2, bb⟩
          have HO2 : Hid (RowR W2 u2 (wi ⟨m.f2, ID⟩ (wo m.f1 L)).length 2 (rLink (wi ⟨m.f2, ID⟩ (wo m.f1 L)))) := RowR.own own2
          have HZ : Hid (Below w.heap.size w W2) := HB0.out.trans ((F1.out.mono (by omega)).trans (bb.mono (by have := F1.out.size; simp at this; omega)))
          clear own2 bb
          refine hK _ _ ?_
          clear hK K
          refine wpAny_take (i := 13) (v := ?_) rfl (by kernel_rfl) (by kernel_rfl) (by kernel_rfl) (fun _ _ _ h => h) (Or.inl ⟨by rfl, ?_⟩) ?_
          rotate_left
          · (intro W; go_simp; try with_reducible rfl)
          simp only [Act.put, List.setIfInBounds_toArray, List.set_cons_zero, List.set_cons_succ, List.getElem_toArray, List.getElem_cons_zero, List.getElem_cons_succ]
          refine wpAny_take (i := 14) (v := ?_) rfl (by kernel_rfl) (by kernel_rfl) (by kernel_rfl) (fun _ _ _ h => h) (Or.inl ⟨by rfl, ?_⟩) ?_
          rotate_left
          · (intro W; go_simp; try with_reducible rfl)
          simp only [Act.put, List.setIfInBounds_toArray, List.set_cons_zero, List.set_cons_succ, List.getElem_toArray, List.getElem_cons_zero, List.getElem_cons_succ]
          refine wpAny_done (by kernel_rfl) ?_ _
          go_wp2
          go_ret2
          exact ⟨_, by rw [HP.out]; rfl, by rw [HP.out]; exact HO2.out, HZ.out⟩
      · go_simp
        refine hK _ _ ?_
        clear hK K
        refine wpAny_take (i := 11) (v := ?_) rfl (by kernel_rfl) (by kernel_rfl) (by kernel_rfl) (fun _ _ _ h => h) (Or.inl ⟨by rfl, ?_⟩) ?_
        rotate_left
        · (intro W; go_simp; try with_reducible rfl)
        simp only [Act.put, List.setIfInBounds_toArray, List.set_cons_zero, List.set_cons_succ, List.getElem_toArray, List.getElem_cons_zero, List.getElem_cons_succ]
        refine wpAny_ready (rs := [3]) (by kernel_rfl) (by simp) ?_
        refine AllReady.cons rfl (fun K hK => ?_) AllReady.nil
        · go_simp
          refine (without_c _ L m.f1 W0 hn (HR.out.keep F0.out (by simp))).mono ?_
          rintro e W1 ⟨u, rfl, own, bb⟩
          have HU : Hid (RowR W1 u (wo m.f1 L).length 2 (rLink (wo m.f1 L))) := RowR.own own
          have F1 : Hid (Below (w.heap.size + 1) (w.alloc (.cells #[.int .i64 m.f0, .string m.f1, .string m.f2, .int .i64 m.f3] 51)) W1) := F0.out.trans (bb.mono (by have := F0.out.size; simp at this; exact this))
          clear own bb ci c1 c2
          refine hK _ _ ?_
          clear hK K
          obtain ⟨ci, c1, c2⟩ := HCI.out W1 F1.out
          refine wpAny_ready (rs := [12]) (by kernel_rfl) (by simp) ?_
          refine AllReady.cons rfl (fun K hK => ?_) AllReady.nil
          go_simp
          refine (with_c u (wo m.f1 L) ⟨m.f2, ID⟩ W1 hwo HU.out).mono ?_
          rintro e W2 ⟨u2, rfl, own2, bb⟩
          have HO2 : Hid (RowR W2 u2 (wi ⟨m.f2, ID⟩ (wo m.f1 L)).length 2 (rLink (wi ⟨m.f2, ID⟩ (wo m.f1 L)))) := RowR.own own2
          have HZ : Hid (Below w.heap.size w W2) := HB0.out.trans ((F1.out.mono (by omega)).trans (bb.mono (by have := F1.out.size; simp at this; omega)))
          clear own2 bb
          refine hK _ _ ?_
          clear hK K
          refine wpAny_take (i := 13) (v := ?_) rfl (by kernel_rfl) (by kernel_rfl) (by kernel_rfl) (fun _ _ _ h => h) (Or.inl ⟨by rfl, ?_⟩) ?_
          rotate_left
          · (intro W; go_simp; try with_reducible rfl)
          simp only [Act.put, List.setIfInBounds_toArray, List.set_cons_zero, List.set_cons_succ, List.getElem_toArray, List.getElem_cons_zero, List.getElem_cons_succ]
          refine wpAny_take (i := 14) (v := ?_) rfl (by kernel_rfl) (by kernel_rfl) (by kernel_rfl) (fun _ _ _ h => h) (Or.inl ⟨by rfl, ?_⟩) ?_
          rotate_left
          · (intro W; go_simp; try with_reducible rfl)
          simp only [Act.put, List.setIfInBounds_toArray, List.set_cons_zero, List.set_cons_succ, List.getElem_toArray, List.getElem_cons_zero, List.getElem_cons_succ]
          refine wpAny_done (by kernel_rfl) ?_ _
          go_wp2
          go_ret2
          exact ⟨_, by rw [HP.out]; rfl, by rw [HP.out]; exact HO2.out, HZ.out⟩
  · go_simp
    refine hK _ _ ?_
    clear hK K
    refine wpAny_ready (rs := [2, 10]) (by kernel_rfl) (by simp) ?_
    refine AllReady.cons rfl (fun K hK => ?_) (AllReady.cons rfl (fun K hK => ?_) AllReady.nil)
    · go_simp
      refine hK _ _ ?_
      clear hK K
      refine wpAny_ready (rs := [3, 10]) (by kernel_rfl) (by simp) ?_
      refine AllReady.cons rfl (fun K hK => ?_) (AllReady.cons rfl (fun K hK => ?_) AllReady.nil)
      · go_simp
        refine (without_c _ L m.f1 W0 hn (HR.out.keep F0.out (by simp))).mono ?_
        rintro e W1 ⟨u, rfl, own, bb⟩
        have HU : Hid (RowR W1 u (wo m.f1 L).length 2 (rLink (wo m.f1 L))) := RowR.own own
        have F1 : Hid (Below (w.heap.size + 1) (w.alloc (.cells #[.int .i64 m.f0, .string m.f1, .string m.f2, .int .i64 m.f3] 51)) W1) := F0.out.trans (bb.mono (by have := F0.out.size; simp at this; exact this))
        clear own bb ci c1 c2
        refine hK _ _ ?_
        clear hK K
        obtain ⟨ci, c1, c2⟩ := HCI.out W1 F1.out
        refine wpAny_ready (rs := [10]) (by kernel_rfl) (by simp) ?_
        refine AllReady.cons rfl (fun K hK => ?_) AllReady.nil
        · go_simp
          refine hK _ _ ?_
          clear hK K
          refine wpAny_take (i := 11) (v := ?_) rfl (by kernel_rfl) (by kernel_rfl) (by kernel_rfl) (fun _ _ _ h => h) (Or.inl ⟨by rfl, ?_⟩) ?_
          rotate_left
          · (intro W; go_simp; try with_reducible rfl)
          simp only [Act.put, List.setIfInBounds_toArray, List.set_cons_zero, List.set_cons_succ, List.getElem_toArray, List.getElem_cons_zero, List.getElem_cons_succ]
          refine wpAny_ready (rs := [12]) (by kernel_rfl) (by simp) ?_
          refine AllReady.cons rfl (fun K hK => ?_) AllReady.nil
          go_simp
          refine (with_c u (wo m.f1 L) ⟨m.f2, ID⟩ W1 hwo HU.out).mono ?_
          rintro e W2 ⟨u2, rfl, own2, bb⟩
          have HO2 : Hid (RowR W2 u2 (wi ⟨m.f2, ID⟩ (wo m.f1 L)).length 2 (rLink (wi ⟨m.f2, ID⟩ (wo m.f1 L)))) := RowR.own own2
          have HZ : Hid (Below w.heap.size w W2) := HB0.out.trans ((F1.out.mono (by omega)).trans (bb.mono (by have := F1.out.size; simp at this; omega)))
          clear own2 bb
          refine hK _ _ ?_
          clear hK K
          refine wpAny_take (i := 13) (v := ?_) rfl (by kernel_rfl) (by kernel_rfl) (by kernel_rfl) (fun _ _ _ h => h) (Or.inl ⟨by rfl, ?_⟩) ?_
          rotate_left
          · (intro W; go_simp; try with_reducible rfl)
          simp only [Act.put, List.setIfInBounds_toArray, List.set_cons_zero, List.set_cons_succ, List.getElem_toArray, List.getElem_cons_zero, List.getElem_cons_succ]
          refine wpAny_take (i := 14) (v := ?_) rfl (by kernel_rfl) (by kernel_rfl) (by kernel_rfl) (fun _ _ _ h => h) (Or.inl ⟨by rfl, ?_⟩) ?_
          rotate_left
          · (intro W; go_simp; try with_reducible rfl)
          simp only [Act.put, List.setIfInBounds_toArray, List.set_cons_zero, List.set_cons_succ, List.getElem_toArray, List.getElem_cons_zero, List.getElem_cons_succ]
          refine wpAny_done (by kernel_rfl) ?_ _
          go_wp2
          go_ret2
          exact ⟨_, by rw [HP.out]; rfl, by rw [HP.out]; exact HO2.out, HZ.out⟩
      · go_simp
        refine hK _ _ ?_
        clear hK K
        refine wpAny_take (i := 11) (v := ?_) rfl (by kernel_rfl) (by kernel_rfl) (by kernel_rfl) (fun _ _ _ h => h) (Or.inl ⟨by rfl, ?_⟩) ?_
        rotate_left
        · (intro W; go_simp; try with_reducible rfl)
        simp only [Act.put, List.setIfInBounds_toArray, List.set_cons_zero, List.set_cons_succ, List.getElem_toArray, List.getElem_cons_zero, List.getElem_cons_succ]
        refine wpAny_ready (rs := [3]) (by kernel_rfl) (by simp) ?_
        refine AllReady.cons rfl (fun K hK => ?_) AllReady.nil
        · go_simp
          refine (without_c _ L m.f1 W0 hn (HR.out.keep F0.out (by simp))).mono ?_
          rintro e W1 ⟨u, rfl, own, bb⟩
          have HU : Hid (RowR W1 u (wo m.f1 L).length 2 (rLink (wo m.f1 L))) := RowR.own own
          have F1 : Hid (Below (w.heap.size + 1) (w.alloc (.cells #[.int .i64 m.f0, .string m.f1, .string m.f2, .int .i64 m.f3] 51)) W1) := F0.out.trans (bb.mono (by have := F0.out.size; simp at this; exact this))
          clear own bb ci c1 c2
          refine hK _ _ ?_
          clear hK K
          obtain ⟨ci, c1, c2⟩ := HCI.out W1 F1.out
          refine wpAny_ready (rs := [12]) (by kernel_rfl) (by simp) ?_
          refine AllReady.cons rfl (fun K hK => ?_) AllReady.nil
          go_simp
          refine (with_c u (wo m.f1 L) ⟨m.f2, ID⟩ W1 hwo HU.out).mono ?_
          rintro e W2 ⟨u2, rfl, own2, bb⟩
          have HO2 : Hid (RowR W2 u2 (wi ⟨m.f2, ID⟩ (wo m.f1 L)).length 2 (rLink (wi ⟨m.f2, ID⟩ (wo m.f1 L)))) := RowR.own own2
          have HZ : Hid (Below w.heap.size w W2) := HB0.out.trans ((F1.out.mono (by omega)).trans (bb.mono (by have := F1.out.size; simp at this; omega)))
          clear own2 bb
          refine hK _ _ ?_
          clear hK K
          refine wpAny_take (i := 13) (v := ?_) rfl (by kernel_rfl) (by kernel_rfl) (by kernel_rfl) (fun _ _ _ h => h) (Or.inl ⟨by rfl, ?_⟩) ?_
          rotate_left
          · (intro W; go_simp; try with_reducible rfl)
          simp only [Act.put, List.setIfInBounds_toArray, List.set_cons_zero, List.set_cons_succ, List.getElem_toArray, List.getElem_cons_zero, List.getElem_cons_succ]
          refine wpAny_take (i := 14) (v := ?_) rfl (by kernel_rfl) (by kernel_rfl) (by kernel_rfl) (fun _ _ _ h => h) (Or.inl ⟨by rfl, ?_⟩) ?_
          rotate_left
          · (intro W; go_simp; try with_reducible rfl)
          simp only [Act.put, List.setIfInBounds_toArray, List.set_cons_zero, List.set_cons_succ, List.getElem_toArray, List.getElem_cons_zero, List.getElem_cons_succ]
          refine wpAny_done (by kernel_rfl) ?_ _
          go_wp2
          go_ret2
          exact ⟨_, by rw [HP.out]; rfl, by rw [HP.out]; exact HO2.out, HZ.out⟩
    · go_simp
      refine hK _ _ ?_
      clear hK K
      refine wpAny_take (i := 11) (v := ?_) rfl (by kernel_rfl) (by kernel_rfl) (by kernel_rfl) (fun _ _ _ h => h) (Or.inl ⟨by rfl, ?_⟩) ?_
      rotate_left
      · (intro W; go_simp; try with_reducible rfl)
      simp only [Act.put, List.setIfInBounds_toArray, List.set_cons_zero, List.set_cons_succ, List.getElem_toArray, List.getElem_cons_zero, List.getElem_cons_succ]
      refine wpAny_ready (rs := [2]) (by kernel_rfl) (by simp) ?_
      refine AllReady.cons rfl (fun K hK => ?_) AllReady.nil
      · go_simp
        refine hK _ _ ?_
        clear hK K
        refine wpAny_ready (rs := [3]) (by kernel_rfl) (by simp) ?_
        refine AllReady.cons rfl (fun K hK => ?_) AllReady.nil
        · go_simp
          refine (without_c _ L m.f1 W0 hn (HR.out.keep F0.out (by simp))).mono ?_
          rintro e W1 ⟨u, rfl, own, bb⟩
          have HU : Hid (RowR W1 u (wo m.f1 L).length 2 (rLink (wo m.f1 L))) := RowR.own own
          have F1 : Hid (Below (w.heap.size + 1) (w.alloc (.cells #[.int .i64 m.f0, .string m.f1, .string m.f2, .int .i64 m.f3] 51)) W1) := F0.out.trans (bb.mono (by have := F0.out.size; simp at this; exact this))
          clear own bb ci c1 c2
          refine hK _ _ ?_
          clear hK K
          obtain ⟨ci, c1, c2⟩ := HCI.out W1 F1.out
          refine wpAny_ready (rs := [12]) (by kernel_rfl) (by simp) ?_
          refine AllReady.cons rfl (fun K hK => ?_) AllReady.nil
          go_simp
          refine (with_c u (wo m.f1 L) ⟨m.f2, ID⟩ W1 hwo HU.out).mono ?_
          rintro e W2 ⟨u2, rfl, own2, bb⟩
          have HO2 : Hid (RowR W2 u2 (wi ⟨m.f2, ID⟩ (wo m.f1 L)).length 2 (rLink (wi ⟨m.f2, ID⟩ (wo m.f1 L)))) := RowR.own own2
          have HZ : Hid (Below w.heap.size w W2) := HB0.out.trans ((F1.out.mono (by omega)).trans (bb.mono (by have := F1.out.size; simp at this; omega)))
          clear own2 bb
          refine hK _ _ ?_
          clear hK K
          refine wpAny_take (i := 13) (v := ?_) rfl (by kernel_rfl) (by kernel_rfl) (by kernel_rfl) (fun _ _ _ h => h) (Or.inl ⟨by rfl, ?_⟩) ?_
          rotate_left
          · (intro W; go_simp; try with_reducible rfl)
          simp only [Act.put, List.setIfInBounds_toArray, List.set_cons_zero, List.set_cons_succ, List.getElem_toArray, List.getElem_cons_zero, List.getElem_cons_succ]
          refine wpAny_take (i := 14) (v := ?_) rfl (by kernel_rfl) (by kernel_rfl) (by kernel_rfl) (fun _ _ _ h => h) (Or.inl ⟨by rfl, ?_⟩) ?_
          rotate_left
          · (intro W; go_simp; try with_reducible rfl)
          simp only [Act.put, List.setIfInBounds_toArray, List.set_cons_zero, List.set_cons_succ, List.getElem_toArray, List.getElem_cons_zero, List.getElem_cons_succ]
          refine wpAny_done (by kernel_rfl) ?_ _
          go_wp2
          go_ret2
          exact ⟨_, by rw [HP.out]; rfl, by rw [HP.out]; exact HO2.out, HZ.out⟩
  · go_simp
    refine hK _ _ ?_
    clear hK K
    refine wpAny_ready (rs := [2, 5]) (by kernel_rfl) (by simp) ?_
    refine AllReady.cons rfl (fun K hK => ?_) (AllReady.cons rfl (fun K hK => ?_) AllReady.nil)
    · go_simp
      refine hK _ _ ?_
      clear hK K
      refine wpAny_ready (rs := [3, 5]) (by kernel_rfl) (by simp) ?_
      refine AllReady.cons rfl (fun K hK => ?_) (AllReady.cons rfl (fun K hK => ?_) AllReady.nil)
      · go_simp
        refine (without_c _ L m.f1 W0 hn (HR.out.keep F0.out (by simp))).mono ?_
        rintro e W1 ⟨u, rfl, own, bb⟩
        have HU : Hid (RowR W1 u (wo m.f1 L).length 2 (rLink (wo m.f1 L))) := RowR.own own
        have F1 : Hid (Below (w.heap.size + 1) (w.alloc (.cells #[.int .i64 m.f0, .string m.f1, .string m.f2, .int .i64 m.f3] 51)) W1) := F0.out.trans (bb.mono (by have := F0.out.size; simp at this; exact this))
        clear own bb ci c1 c2
        refine hK _ _ ?_
        clear hK K
        obtain ⟨ci, c1, c2⟩ := HCI.out W1 F1.out
        refine wpAny_ready (rs := [5]) (by kernel_rfl) (by simp) ?_
        refine AllReady.cons rfl (fun K hK => ?_) AllReady.nil
        · go_simp
          refine hK _ _ ?_
          clear hK K
          refine wpAny_take (i := 11) (v := ?_) rfl (by kernel_rfl) (by kernel_rfl) (by kernel_rfl) (fun _ _ _ h => h) (Or.inl ⟨by rfl, ?_⟩) ?_
          rotate_left
          · (intro W; go_simp; try with_reducible rfl)
          simp only [Act.put, List.setIfInBounds_toArray, List.set_cons_zero, List.set_cons_succ, List.getElem_toArray, List.getElem_cons_zero, List.getElem_cons_succ]
          refine wpAny_ready (rs := [12]) (by kernel_rfl) (by simp) ?_
          refine AllReady.cons rfl (fun K hK => ?_) AllReady.nil
          go_simp
          refine (with_c u (wo m.f1 L) ⟨m.f2, ID⟩ W1 hwo HU.out).mono ?_
          rintro e W2 ⟨u2, rfl, own2, bb⟩
          have HO2 : Hid (RowR W2 u2 (wi ⟨m.f2, ID⟩ (wo m.f1 L)).length 2 (rLink (wi ⟨m.f2, ID⟩ (wo m.f1 L)))) := RowR.own own2
          have HZ : Hid (Below w.heap.size w W2) := HB0.out.trans ((F1.out.mono (by omega)).trans (bb.mono (by have := F1.out.size; simp at this; omega)))
          clear own2 bb
          refine hK _ _ ?_
          clear hK K
          refine wpAny_take (i := 13) (v := ?_) rfl (by kernel_rfl) (by kernel_rfl) (by kernel_rfl) (fun _ _ _ h => h) (Or.inl ⟨by rfl, ?_⟩) ?_
          rotate_left
          · (intro W; go_simp; try with_reducible rfl)
          simp only [Act.put, List.setIfInBounds_toArray, List.set_cons_zero, List.set_cons_succ, List.getElem_toArray, List.getElem_cons_zero, List.getElem_cons_succ]
          refine wpAny_take (i := 14) (v := ?_) rfl (by kernel_rfl) (by kernel_rfl) (by kernel_rfl) (fun _ _ _ h => h) (Or.inl ⟨by rfl, ?_⟩) ?_
          rotate_left
          · (intro W; go_simp; try with_reducible rfl)
          simp only [Act.put, List.setIfInBounds_toArray, List.set_cons_zero, List.set_cons_succ, List.getElem_toArray, List.getElem_cons_zero, List.getElem_cons_succ]
          refine wpAny_done (by kernel_rfl) ?_ _
          go_wp2
          go_ret2
          exact ⟨_, by rw [HP.out]; rfl, by rw [HP.out]; exact HO2.out, HZ.out⟩
      · go_simp
        refine hK _ _ ?_
        clear hK K
        refine wpAny_take (i := 11) (v := ?_) rfl (by kernel_rfl) (by kernel_rfl) (by kernel_rfl) (fun _ _ _ h => h) (Or.inl ⟨by rfl, ?_⟩) ?_
        rotate_left
        · (intro W; go_simp; try with_reducible rfl)
        simp only [Act.put, List.setIfInBounds_toArray, List.set_cons_zero, List.set_cons_succ, List.getElem_toArray, List.getElem_cons_zero, List.getElem_cons_succ]
        refine wpAny_ready (rs := [3]) (by kernel_rfl) (by simp) ?_
        refine AllReady.cons rfl (fun K hK => ?_) AllReady.nil
        · go_simp
          refine (without_c _ L m.f1 W0 hn (HR.out.keep F0.out (by simp))).mono ?_
          rintro e W1 ⟨u, rfl, own, bb⟩
          have HU : Hid (RowR W1 u (wo m.f1 L).length 2 (rLink (wo m.f1 L))) := RowR.own own
          have F1 : Hid (Below (w.heap.size + 1) (w.alloc (.cells #[.int .i64 m.f0, .string m.f1, .string m.f2, .int .i64 m.f3] 51)) W1) := F0.out.trans (bb.mono (by have := F0.out.size; simp at this; exact this))
          clear own bb ci c1 c2
          refine hK _ _ ?_
          clear hK K
          obtain ⟨ci, c1, c2⟩ := HCI.out W1 F1.out
          refine wpAny_ready (rs := [12]) (by kernel_rfl) (by simp) ?_
          refine AllReady.cons rfl (fun K hK => ?_) AllReady.nil
          go_simp
          refine (with_c u (wo m.f1 L) ⟨m.f2, ID⟩ W1 hwo HU.out).mono ?_
          rintro e W2 ⟨u2, rfl, own2, bb⟩
          have HO2 : Hid (RowR W2 u2 (wi ⟨m.f2, ID⟩ (wo m.f1 L)).length 2 (rLink (wi ⟨m.f2, ID⟩ (wo m.f1 L)))) := RowR.own own2
          have HZ : Hid (Below w.heap.size w W2) := HB0.out.trans ((F1.out.mono (by omega)).trans (bb.mono (by have := F1.out.size; simp at this; omega)))
          clear own2 bb
          refine hK _ _ ?_
          clear hK K
          refine wpAny_take (i := 13) (v := ?_) rfl (by kernel_rfl) (by kernel_rfl) (by kernel_rfl) (fun _ _ _ h => h) (Or.inl ⟨by rfl, ?_⟩) ?_
          rotate_left
          · (intro W; go_simp; try with_reducible rfl)
          simp only [Act.put, List.setIfInBounds_toArray, List.set_cons_zero, List.set_cons_succ, List.getElem_toArray, List.getElem_cons_zero, List.getElem_cons_succ]
          refine wpAny_take (i := 14) (v := ?_) rfl (by kernel_rfl) (by kernel_rfl) (by kernel_rfl) (fun _ _ _ h => h) (Or.inl ⟨by rfl, ?_⟩) ?_
          rotate_left
          · (intro W; go_simp; try with_reducible rfl)
          simp only [Act.put, List.setIfInBounds_toArray, List.set_cons_zero, List.set_cons_succ, List.getElem_toArray, List.getElem_cons_zero, List.getElem_cons_succ]
          refine wpAny_done (by kernel_rfl) ?_ _
          go_wp2
          go_ret2
          exact ⟨_, by rw [HP.out]; rfl, by rw [HP.out]; exact HO2.out, HZ.out⟩
    · go_simp
      refine hK _ _ ?_
      clear hK K
      refine wpAny_take (i := 11) (v := ?_) rfl (by kernel_rfl) (by kernel_rfl) (by kernel_rfl) (fun _ _ _ h => h) (Or.inl ⟨by rfl, ?_⟩) ?_
      rotate_left
      · (intro W; go_simp; try with_reducible rfl)
      simp only [Act.put, List.setIfInBounds_toArray, List.set_cons_zero, List.set_cons_succ, List.getElem_toArray, List.getElem_cons_zero, List.getElem_cons_succ]
      refine wpAny_ready (rs := [2]) (by kernel_rfl) (by simp) ?_
      refine AllReady.cons rfl (fun K hK => ?_) AllReady.nil
      · go_simp
        refine hK _ _ ?_
        clear hK K
        refine wpAny_ready (rs := [3]) (by kernel_rfl) (by simp) ?_
        refine AllReady.cons rfl (fun K hK => ?_) AllReady.nil
        · go_simp
          refine (without_c _ L m.f1 W0 hn (HR.out.keep F0.out (by simp))).mono ?_
          rintro e W1 ⟨u, rfl, own, bb⟩
          have HU : Hid (RowR W1 u (wo m.f1 L).length 2 (rLink (wo m.f1 L))) := RowR.own own
          have F1 : Hid (Below (w.heap.size + 1) (w.alloc (.cells #[.int .i64 m.f0, .string m.f1, .string m.f2, .int .i64 m.f3] 51)) W1) := F0.out.trans (bb.mono (by have := F0.out.size; simp at this; exact this))
          clear own bb ci c1 c2
          refine hK _ _ ?_
          clear hK K
          obtain ⟨ci, c1, c2⟩ := HCI.out W1 F1.out
          refine wpAny_ready (rs := [12]) (by kernel_rfl) (by simp) ?_
          refine AllReady.cons rfl (fun K hK => ?_) AllReady.nil
          go_simp
          refine (with_c u (wo m.f1 L) ⟨m.f2, ID⟩ W1 hwo HU.out).mono ?_
          rintro e W2 ⟨u2, rfl, own2, bb⟩
          have HO2 : Hid (RowR W2 u2 (wi ⟨m.f2, ID⟩ (wo m.f1 L)).length 2 (rLink (wi ⟨m.f2, ID⟩ (wo m.f1 L)))) := RowR.own own2
          have HZ : Hid (Below w.heap.size w W2) := HB0.out.trans ((F1.out.mono (by omega)).trans (bb.mono (by have := F1.out.size; simp at this; omega)))
          clear own2 bb
          refine hK _ _ ?_
          clear hK K
          refine wpAny_take (i := 13) (v := ?_) rfl (by kernel_rfl) (by kernel_rfl) (by kernel_rfl) (fun _ _ _ h => h) (Or.inl ⟨by rfl, ?_⟩) ?_
          rotate_left
          · (intro W; go_simp; try with_reducible rfl)
          simp only [Act.put, List.setIfInBounds_toArray, List.set_cons_zero, List.set_cons_succ, List.getElem_toArray, List.getElem_cons_zero, List.getElem_cons_succ]
          refine wpAny_take (i := 14) (v := ?_) rfl (by kernel_rfl) (by kernel_rfl) (by kernel_rfl) (fun _ _ _ h => h) (Or.inl ⟨by rfl, ?_⟩) ?_
          rotate_left
          · (intro W; go_simp; try with_reducible rfl)
          simp only [Act.put, List.setIfInBounds_toArray, List.set_cons_zero, List.set_cons_succ, List.getElem_toArray, List.getElem_cons_zero, List.getElem_cons_succ]
          refine wpAny_done (by kernel_rfl) ?_ _
          go_wp2
          go_ret2
          exact ⟨_, by rw [HP.out]; rfl, by rw [HP.out]; exact HO2.out, HZ.out⟩

end Go.Proofs.YtmknplpcpmkhiaaGreat
