/- The names behind moves, by the contract. -/
import Derived.Test.YtmknplpcpmkhiaaGreatDkSpec7
namespace Go.Proofs.YtmknplpcpmkhiaaGreat
open Go.RowKit
set_option linter.unusedVariables false

theorem append_nil_run (w : World) (g c : Nat) : (Builtin.append_ #[25, 25] 25 #[.slice (some ⟨g, 0, none⟩) 0 0, .slice none 0 c]).run Tryz.prog w = .ok (.slice (some ⟨g, 0, none⟩) 0 0) w := by kernel_rfl

theorem append_empty_run (w : World) (g c : Nat) (a : Addr) : (Builtin.append_ #[25, 25] 25 #[.slice (some ⟨g, 0, none⟩) 0 0, .slice (some a) 0 c]).run Tryz.prog w = .ok (.slice (some ⟨g, 0, none⟩) 0 0) w := by kernel_rfl

/-- An append that hands back what it was handed. -/
theorem wpList_append_same {P : Program} {ops : Array Oper} {rest : List Oper} {op : Oper} {a : Act} {w : World} {Q : Exit → Act → World → Prop} (hgd : op.guard = none) (s y : Operand) (t : TypeId)
    (ho : op.op = .call { callee := .builtin .append, args := #[s, y], argTypes := #[t, t] }) (v u : Value) (hs : a.eval s = v) (hx : a.eval y = u)
    (hrun : (Builtin.append_ #[t, t] op.type #[v, u]).run P w = .ok v w) (h : wpList P ops Q rest (a.put op.dst v) w) : wpList P ops Q (op :: rest) a w := by
  refine wpList_plain hgd fun K hK => ?_
  unfold Oper.wp execOp
  simp only [ho, resolve, invoke, builtin, Sem.run_bind, Sem.run_pure, Result.andThen_ok, List.map_toArray, List.map_cons, List.map_nil, hs, hx, hrun]
  exact hK _ _ h

set_option maxRecDepth 20000 in
set_option maxHeartbeats 2000000 in
theorem names_none (x : S_Disk) (v2 : Value) (p3 p4 : Option Addr) (cap3 cap4 : Nat) (n : Int) (w : World) (l4 : x.f4.length ≤ 1048576) (hs : ∀ y ∈ x.f4, sMove y) (hr4 : RowR w (.slice p4 x.f4.length cap4) x.f4.length 4 (rMove x.f4)) :
    Calls Tryz.prog 42 #[.agg #[.int .i64 x.f0, .int .i64 x.f1, v2, .slice p3 0 cap3, .slice p4 x.f4.length cap4], .int .i64 n] w fun e w' => ∃ v', e = .returned v' ∧ RowR w' v' (nms [] (x.f4.take n.toNat)).length 2 (rLink (nms [] (x.f4.take n.toNat))) ∧ Below w.heap.size w w' := by
  obtain ⟨W, hW⟩ : ∃ W, W = (w.alloc (.cells #[.int .i64 x.f0, .int .i64 x.f1, v2, .slice p3 0 cap3, .slice p4 x.f4.length cap4] 28)).alloc (.cells #[] 49) := ⟨_, rfl⟩
  have HW : Hid ((w.alloc (.cells #[.int .i64 x.f0, .int .i64 x.f1, v2, .slice p3 0 cap3, .slice p4 x.f4.length cap4] 28)).alloc (.cells #[] 49) = W) := hW.symm
  have hWs : W.heap.size = w.heap.size + 1 + 1 := by rw [hW]; simp
  have HB0 : Hid (Below w.heap.size w W) := by rw [hW]; exact ((Below.refl _ _).alloc (Nat.le_refl _) _).alloc (by simp) _
  have HBX : Hid (∀ W', Below (w.heap.size + 1) W W' → W'.cell? ⟨w.heap.size, 4, none⟩ = some (.slice p4 x.f4.length cap4)) := fun W' hb => by
    rw [hb.cell (by show w.heap.size < w.heap.size + 1; omega), hW, World.cell?_alloc_lt _ _ ⟨w.heap.size, 4, none⟩ (by simp), box_cell]; rfl
  have HR4 : Hid (RowR w (.slice p4 x.f4.length cap4) x.f4.length 4 (rMove x.f4)) := hr4
  have HS : Hid (∀ y ∈ x.f4, sMove y) := hs
  obtain ⟨K, hK⟩ : ∃ K, K = min n.toNat x.f4.length := ⟨_, rfl⟩
  have HK : Hid (x.f4.take K = x.f4.take n.toNat) := by show _ = _; rw [hK, List.take_eq_take_iff]; omega
  have HD1 : Hid (RowR W (.slice (some ⟨w.heap.size + 1, 0, none⟩) 0 0) (nms [] (x.f4.take 0)).length 2 (rLink (nms [] (x.f4.take 0)))) := ⟨rfl, _, 0, rfl, fun j hj => by simp [nms] at hj⟩
  have HC1 : Hid (Below (w.heap.size + 1) W W) := Below.refl _ _
  have happ : ∀ W', (Builtin.append_ #[25, 25] 25 #[.slice (some ⟨w.heap.size + 1, 0, none⟩) 0 0, .slice p3 0 cap3]).run Tryz.prog W' = .ok (.slice (some ⟨w.heap.size + 1, 0, none⟩) 0 0) W' := fun W' => by
    cases p3 with
    | none => exact append_nil_run W' _ _
    | some a => exact append_empty_run W' _ _ a
  obtain ⟨D, hD⟩ : ∃ D : List S_Link, D = [] := ⟨_, rfl⟩
  rw [← hD] at HD1 ⊢
  have hDl : D.length = 0 := by rw [hD]; rfl
  clear hW hr4 hs hD
  go_enter Tryz.func42, Tryz.ntmps42
  go_wp2_with (at_builtin; refine wpList_append_same rfl _ _ 25 rfl _ _ rfl rfl (happ _) ?_)
  go_wp2
  rw [HW.out]
  go_loopw [5, 6] (fun v5 iv wr => ∃ k : Nat, k ≤ K ∧ iv = .int .i64 (k : Int) ∧ Hid (RowR wr v5 (nms D (x.f4.take k)).length 2 (rLink (nms D (x.f4.take k)))) ∧ Hid (Below (w.heap.size + 1) W wr)) (fun _ iv _ => K - (intOf iv).toNat)
  case atStart => exact ⟨0, Nat.zero_le _, rfl, HD1, HC1⟩
  case round =>
    obtain ⟨k, hk, rfl, HRk, HCk⟩ := hrel
    have hb4 := (HBX.out wr HCk.out)
    by_cases hlt : k < K
    · have hn1 : (k : Int) < n := by omega
      have hn2 : (k : Int) < x.f4.length := by omega
      have hk4 : k < x.f4.length := by omega
      obtain ⟨b, off, cap', hv, hb, hc⟩ := move_cells (HR4.out.keep (HB0.out.trans (HCk.out.mono (by omega))) (Nat.le_refl _)) (by omega)
      simp only [Value.slice.injEq, true_and] at hv
      obtain ⟨rfl, rfl⟩ := hv
      obtain ⟨c0, c1, c2, c3⟩ := hc k hk4
      have HT : Hid (nms D (x.f4.take (k + 1)) = (ap (nms D (x.f4.take k)) x.f4[k]).1) := nms_take D x.f4 k hk4
      have hl := nms_len D (x.f4.take k)
      rw [List.length_take] at hl
      have hl2 : (nms D (x.f4.take k)).length ≤ 1048576 := by omega
      have HSM : Hid (sMove x.f4[k]) := HS.out _ (List.getElem_mem hk4)
      clear hc hl
      generalize x.f4[k] = X at c0 c1 c2 c3 HT HSM
      generalize nms D (x.f4.take k) = A at HRk HT hl2
      go_wp2_with fail
      refine (ap_c _ A X wr hl2 HSM.out HRk.out).mono ?_
      rintro e w2 ⟨u, rfl, hu, b2⟩
      have HR2 : Hid (RowR w2 u (nms D (x.f4.take (k + 1))).length 2 (rLink (nms D (x.f4.take (k + 1))))) := by show RowR _ _ _ _ _; rw [HT.out]; exact hu
      have HC2 : Hid (Below (w.heap.size + 1) W w2) := HCk.out.trans (b2.mono (by have := HCk.out.size; omega))
      clear hu b2 HT HRk HCk c0 c1 c2 c3 hb4
      go_wp2
      go_roundw
      case rel => exact ⟨k + 1, by omega, by go_num, HR2, HC2⟩
      case measure => simp [intOf]; omega
    · have hke : k = K := by omega
      have HF : Hid (RowR wr u5 (nms D (x.f4.take n.toNat)).length 2 (rLink (nms D (x.f4.take n.toNat)))) := by
        have := HRk.out
        rw [hke, HK.out] at this
        exact this
      have HZ : Hid (Below w.heap.size w wr) := HB0.out.trans (HCk.out.mono (by omega))
      by_cases hn1 : (k : Int) < n
      · have hn2 : ¬ (k : Int) < x.f4.length := by omega
        clear hlt
        go_wp2
        go_ret
        exact ⟨_, rfl, HF.out, HZ.out⟩
      · clear hlt
        go_wp2
        go_ret
        exact ⟨_, rfl, HF.out, HZ.out⟩

set_option maxRecDepth 20000 in
set_option maxHeartbeats 2000000 in
theorem names_some (x : S_Disk) (v2 : Value) (p3 p4 : Option Addr) (cap3 cap4 : Nat) (n : Int) (w : World) (l4 : x.f4.length ≤ 1048576) (hs : ∀ y ∈ x.f4, sMove y) (hr4 : RowR w (.slice p4 x.f4.length cap4) x.f4.length 4 (rMove x.f4)) (l3 : 0 < x.f3.length) (hsum : x.f3.length + x.f4.length ≤ 1048576) (hr3 : RowR w (.slice p3 x.f3.length cap3) x.f3.length 2 (rLink x.f3)) :
    Calls Tryz.prog 42 #[.agg #[.int .i64 x.f0, .int .i64 x.f1, v2, .slice p3 x.f3.length cap3, .slice p4 x.f4.length cap4], .int .i64 n] w fun e w' => ∃ v', e = .returned v' ∧ RowR w' v' (nms x.f3 (x.f4.take n.toNat)).length 2 (rLink (nms x.f3 (x.f4.take n.toNat))) ∧ Below w.heap.size w w' := by
  obtain ⟨i0, hi, hz0, hz1, hz2⟩ := info_parts infoLink
  obtain ⟨b3, off3, cap', hv, hb3, hc3⟩ := hr3.some l3 (by decide)
  simp only [Value.slice.injEq, true_and] at hv
  obtain ⟨rfl, rfl⟩ := hv
  obtain ⟨W, hW⟩ : ∃ W, W = (w.alloc (.cells #[.int .i64 x.f0, .int .i64 x.f1, v2, .slice (some ⟨b3, off3, none⟩) x.f3.length cap3, .slice p4 x.f4.length cap4] 28)).alloc (.cells #[] 49) := ⟨_, rfl⟩
  have HW : Hid ((w.alloc (.cells #[.int .i64 x.f0, .int .i64 x.f1, v2, .slice (some ⟨b3, off3, none⟩) x.f3.length cap3, .slice p4 x.f4.length cap4] 28)).alloc (.cells #[] 49) = W) := hW.symm
  have hWs : W.heap.size = w.heap.size + 1 + 1 := by rw [hW]; simp
  have HB0 : Hid (Below w.heap.size w W) := by rw [hW]; exact ((Below.refl _ _).alloc (Nat.le_refl _) _).alloc (by simp) _
  have HBX : Hid (∀ W', Below (w.heap.size + 1) W W' → W'.cell? ⟨w.heap.size, 4, none⟩ = some (.slice p4 x.f4.length cap4)) := fun W' hb => by
    rw [hb.cell (by show w.heap.size < w.heap.size + 1; omega), hW, World.cell?_alloc_lt _ _ ⟨w.heap.size, 4, none⟩ (by simp), box_cell]; rfl
  have HR4 : Hid (RowR w (.slice p4 x.f4.length cap4) x.f4.length 4 (rMove x.f4)) := hr4
  have HS : Hid (∀ y ∈ x.f4, sMove y) := hs
  obtain ⟨K, hK⟩ : ∃ K, K = min n.toNat x.f4.length := ⟨_, rfl⟩
  have HK : Hid (x.f4.take K = x.f4.take n.toNat) := by show _ = _; rw [hK, List.take_eq_take_iff]; omega
  have HO0 : Hid (W.ownsRow (w.heap.size + 1) 49 2 (.slice (some ⟨w.heap.size + 1, 0, none⟩) 0 0) 0 []) := by
    rw [hW]
    have := World.ownsRow_made (base := w.heap.size + 1) (e := 49) (size := 2) (w.alloc (.cells #[.int .i64 x.f0, .int .i64 x.f1, v2, .slice (some ⟨b3, off3, none⟩) x.f3.length cap3, .slice p4 x.f4.length cap4] 28)) #[] 0 (by simp) (by decide) (by simp)
    rw [World.size_alloc] at this
    exact this
  have HN3 : Hid (∀ j u, (rLink x.f3)[j]? = some u → W.cell? ((⟨b3, off3, none⟩ : Addr).add j) = some u) := fun j u hj => by
    have hjl : j < x.f3.length * 2 := by
      rcases Nat.lt_or_ge j (x.f3.length * 2) with h | h
      · exact h
      · rw [List.getElem?_eq_none (by rw [rLink_len]; exact h)] at hj; simp at hj
    rw [Addr.add_mid, HB0.out.cell (by exact hb3), hc3 j hjl]
    exact hj
  have H1C : Hid (∀ u ∈ rLink x.f3, u.oneCell' = true) := fun u hu => by
    unfold rLink at hu
    obtain ⟨y, _, hy⟩ := List.mem_flatMap.1 hu
    simp [cLink] at hy
    rcases hy with rfl | rfl <;> rfl
  have hlz : (rLink x.f3).length = x.f3.length * 2 := rLink_len _
  clear hW hr4 hs hr3 hc3
  go_enter Tryz.func42, Tryz.ntmps42
  go_wp2_with (at_builtin; rw [HW.out]; refine wpList_append_own _ rfl _ _ 25 rfl (w.heap.size + 1) 49 i0 (.agg #[.string ⟨#[]⟩, .int .i64 0]) 2 24 Tryz.underlying25 hi hz0 hz1 hz2 rfl (by decide) _ _ _ rfl HO0.out ⟨b3, off3, none⟩ x.f3.length cap3 (rLink x.f3) rfl hlz HN3.out H1C.out (by unfold maxLen; omega) (by omega) (by omega) ?_)
  intro v5 w1 own1 hgr _
  have HD1 : Hid (RowR w1 v5 (nms x.f3 (x.f4.take 0)).length 2 (rLink (nms x.f3 (x.f4.take 0)))) := RowR.own own1
  have HC1 : Hid (Below (w.heap.size + 1) W w1) := (Below.refl _ _).grown hgr (by omega) (fun k hk => by simp only [Value.ownBlock, Option.some.injEq] at hk; omega)
  clear own1 hgr
  go_wp2
  go_loopw [5, 6] (fun v5 iv wr => ∃ k : Nat, k ≤ K ∧ iv = .int .i64 (k : Int) ∧ Hid (RowR wr v5 (nms x.f3 (x.f4.take k)).length 2 (rLink (nms x.f3 (x.f4.take k)))) ∧ Hid (Below (w.heap.size + 1) W wr)) (fun _ iv _ => K - (intOf iv).toNat)
  case atStart => exact ⟨0, Nat.zero_le _, rfl, HD1, HC1⟩
  case round =>
    obtain ⟨k, hk, rfl, HRk, HCk⟩ := hrel
    have hb4 := (HBX.out wr HCk.out)
    by_cases hlt : k < K
    · have hn1 : (k : Int) < n := by omega
      have hn2 : (k : Int) < x.f4.length := by omega
      have hk4 : k < x.f4.length := by omega
      obtain ⟨b, off, cap', hv, hb, hc⟩ := move_cells (HR4.out.keep (HB0.out.trans (HCk.out.mono (by omega))) (Nat.le_refl _)) (by omega)
      simp only [Value.slice.injEq, true_and] at hv
      obtain ⟨rfl, rfl⟩ := hv
      obtain ⟨c0, c1, c2, c3⟩ := hc k hk4
      have HT : Hid (nms x.f3 (x.f4.take (k + 1)) = (ap (nms x.f3 (x.f4.take k)) x.f4[k]).1) := nms_take x.f3 x.f4 k hk4
      have hl := nms_len x.f3 (x.f4.take k)
      rw [List.length_take] at hl
      have hl2 : (nms x.f3 (x.f4.take k)).length ≤ 1048576 := by omega
      have HSM : Hid (sMove x.f4[k]) := HS.out _ (List.getElem_mem hk4)
      clear hc hl
      generalize x.f4[k] = X at c0 c1 c2 c3 HT HSM
      generalize nms x.f3 (x.f4.take k) = A at HRk HT hl2
      go_wp2_with fail
      refine (ap_c _ A X wr hl2 HSM.out HRk.out).mono ?_
      rintro e w2 ⟨u, rfl, hu, b2⟩
      have HR2 : Hid (RowR w2 u (nms x.f3 (x.f4.take (k + 1))).length 2 (rLink (nms x.f3 (x.f4.take (k + 1))))) := by show RowR _ _ _ _ _; rw [HT.out]; exact hu
      have HC2 : Hid (Below (w.heap.size + 1) W w2) := HCk.out.trans (b2.mono (by have := HCk.out.size; omega))
      clear hu b2 HT HRk HCk c0 c1 c2 c3 hb4
      go_wp2
      go_roundw
      case rel => exact ⟨k + 1, by omega, by go_num, HR2, HC2⟩
      case measure => simp [intOf]; omega
    · have hke : k = K := by omega
      have HF : Hid (RowR wr u5 (nms x.f3 (x.f4.take n.toNat)).length 2 (rLink (nms x.f3 (x.f4.take n.toNat)))) := by
        have := HRk.out
        rw [hke, HK.out] at this
        exact this
      have HZ : Hid (Below w.heap.size w wr) := HB0.out.trans (HCk.out.mono (by omega))
      by_cases hn1 : (k : Int) < n
      · have hn2 : ¬ (k : Int) < x.f4.length := by omega
        clear hlt
        go_wp2
        go_ret
        exact ⟨_, rfl, HF.out, HZ.out⟩
      · clear hlt
        go_wp2
        go_ret
        exact ⟨_, rfl, HF.out, HZ.out⟩

theorem names_c (x : S_Disk) (v2 v3 v4 : Value) (n : Int) (w : World) (hn : LnDisk x 1048576) (hsum : x.f3.length + x.f4.length ≤ 1048576) (hs : ∀ y ∈ x.f4, sMove y) (hr : RdDisk w x v2 v3 v4) :
    Calls Tryz.prog 42 #[.agg #[.int .i64 x.f0, .int .i64 x.f1, v2, v3, v4], .int .i64 n] w fun e w' => ∃ v', e = .returned v' ∧ RowR w' v' (nms x.f3 (x.f4.take n.toNat)).length 2 (rLink (nms x.f3 (x.f4.take n.toNat))) ∧ Below w.heap.size w w' := by
  obtain ⟨_, p3, cap3, hv3, _⟩ := hr.2.1
  obtain ⟨_, p4, cap4, hv4, _⟩ := hr.2.2
  subst hv3
  subst hv4
  rcases Nat.eq_zero_or_pos x.f3.length with h0 | h0
  · have e : x.f3 = [] := List.eq_nil_of_length_eq_zero h0
    have := names_none x v2 p3 p4 cap3 cap4 n w hn.2.2 hs hr.2.2
    rw [e]
    exact this
  · exact names_some x v2 p3 p4 cap3 cap4 n w hn.2.2 hs hr.2.2 h0 hsum hr.2.1

end Go.Proofs.YtmknplpcpmkhiaaGreat
