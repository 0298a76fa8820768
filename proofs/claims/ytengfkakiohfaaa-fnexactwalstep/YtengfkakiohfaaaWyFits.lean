/- That a record fits, by the specification. -/
import Derived.Test.YtengfkakiohfaaaWyBase
namespace Go.Proofs.Ytengfkakiohfaaa
open Go.RowKit
set_option linter.unusedVariables false
set_option linter.unusedSimpArgs false

set_option maxRecDepth 20000 in
set_option maxHeartbeats 4000000 in
theorem specCopyW_c (x : S_Wal) (p : Option Addr) (cap : Nat) (w : World) (hn : x.f4.length ≤ 1048576) (hr : RowR w (.slice p x.f4.length cap) x.f4.length 2 (rEntry x.f4)) :
    Calls Try.prog 39 #[.agg #[.int .i64 x.f0, .int .i64 x.f1, .int .i64 x.f2, .int .i64 x.f3, .slice p x.f4.length cap]] w fun e w' => ∃ q c, e = .returned (.agg #[.int .i64 x.f0, .int .i64 x.f1, .int .i64 x.f2, .int .i64 x.f3, .slice q x.f4.length c]) ∧ OwWal w' w.heap.size x (.slice q x.f4.length c) ∧ Below w.heap.size w w' := by
  obtain ⟨W0, hW0⟩ : ∃ W, W = (w.alloc (.cells #[.int .i64 x.f0, .int .i64 x.f1, .int .i64 x.f2, .int .i64 x.f3, .slice p x.f4.length cap] 26)).alloc (.cells #[.int .i64 0, .int .i64 0, .int .i64 0, .int .i64 0, .slice none 0 0] 26) := ⟨_, rfl⟩
  have HW0 : Hid ((w.alloc (.cells #[.int .i64 x.f0, .int .i64 x.f1, .int .i64 x.f2, .int .i64 x.f3, .slice p x.f4.length cap] 26)).alloc (.cells #[.int .i64 0, .int .i64 0, .int .i64 0, .int .i64 0, .slice none 0 0] 26) = W0) := hW0.symm
  have HZ0 : Hid (W0.heap.size = w.heap.size + 2) := by show _ = _; rw [hW0]; simp
  have HB0 : Hid (Below w.heap.size w W0) := by rw [hW0]; exact ((Below.refl _ _).alloc (Nat.le_refl _) _).alloc (by simp) _
  have HX0 : Hid (W0.heap[w.heap.size]? = some (.cells #[.int .i64 x.f0, .int .i64 x.f1, .int .i64 x.f2, .int .i64 x.f3, .slice p x.f4.length cap] 26)) := by rw [hW0]; exact (((Below.refl (w.heap.size + 1) (w.alloc (.cells #[.int .i64 x.f0, .int .i64 x.f1, .int .i64 x.f2, .int .i64 x.f3, .slice p x.f4.length cap] 26))).alloc (by simp) _).block _ (Nat.lt_succ_self _)).trans (alloc_last _ _)
  have HY0 : Hid (W0.heap[w.heap.size + 1]? = some (.cells #[.int .i64 0, .int .i64 0, .int .i64 0, .int .i64 0, .slice none 0 0] 26)) := by
    rw [hW0]
    have := alloc_last (w.alloc (.cells #[.int .i64 x.f0, .int .i64 x.f1, .int .i64 x.f2, .int .i64 x.f3, .slice p x.f4.length cap] 26)) (.cells #[.int .i64 0, .int .i64 0, .int .i64 0, .int .i64 0, .slice none 0 0] 26)
    rw [World.size_alloc] at this
    exact this
  obtain ⟨v', w1, hrun, hown, hb1⟩ := cpEn p x.f4 cap W0 hn (RowR.keep hr HB0.out (Nat.le_refl _))
  have HX1 : Hid (w1.heap[w.heap.size]? = some (.cells #[.int .i64 x.f0, .int .i64 x.f1, .int .i64 x.f2, .int .i64 x.f3, .slice p x.f4.length cap] 26)) := (hb1.block _ (lt_of_some HX0.out)).trans HX0.out
  have HY1 : Hid (w1.heap[w.heap.size + 1]? = some (.cells #[.int .i64 0, .int .i64 0, .int .i64 0, .int .i64 0, .slice none 0 0] 26)) := (hb1.block _ (lt_of_some HY0.out)).trans HY0.out
  have HO1 : Hid (w1.ownsRow W0.heap.size 68 2 v' x.f4.length (rEntry x.f4)) := hown
  have HB1 : Hid (Below w.heap.size w w1) := HB0.out.trans (hb1.mono HB0.out.size)
  obtain ⟨q, c, rfl⟩ := own_sliceS hown
  rw [HZ0.out] at hrun
  clear hn hr hW0 hown hb1
  obtain ⟨x0, x1, x2, x3, x4⟩ := box5 HX0.out
  obtain ⟨u0, u1, u2, u3, u4⟩ := box5 HX1.out
  have xf := frz5 HX1.out 4
  obtain ⟨z0, z1, z2, z3, z4⟩ := box5 HY1.out
  have zf := frz5 HY1.out
  go_enter Try.func39, Try.ntmps39
  go_wp2_with (at_builtin; rw [HW0.out]; refine wpList_append_toS rfl _ _ 24 rfl _ _ rfl rfl _ _ hrun ?_)
  clear hrun
  have HX2 : Hid ((w1.setCell ⟨w.heap.size, 4, none⟩ (.slice q x.f4.length c)).heap[w.heap.size]? = some (.cells #[.int .i64 x.f0, .int .i64 x.f1, .int .i64 x.f2, .int .i64 x.f3, .slice q x.f4.length c] 26)) := heap_setCell_same w1 w.heap.size 4 _ _ (.slice q x.f4.length c) HX1.out
  have HY2 : Hid ((w1.setCell ⟨w.heap.size, 4, none⟩ (.slice q x.f4.length c)).heap[w.heap.size + 1]? = some (.cells #[.int .i64 0, .int .i64 0, .int .i64 0, .int .i64 0, .slice none 0 0] 26)) := (Below.heap_setCell _ _ _ _ (by show w.heap.size + 1 ≠ w.heap.size; omega)).trans HY1.out
  have HO2 : Hid ((w1.setCell ⟨w.heap.size, 4, none⟩ (.slice q x.f4.length c)).ownsRow W0.heap.size 68 2 (.slice q x.f4.length c) x.f4.length (rEntry x.f4)) := own_set_lt HO1.out _ (by show w.heap.size < _; rw [HZ0.out]; omega)
  have HB2 : Hid (Below w.heap.size w (w1.setCell ⟨w.heap.size, 4, none⟩ (.slice q x.f4.length c))) := HB1.out.setCell (Nat.le_refl _) _
  have HO3 : Hid ((((((((w1.setCell ⟨w.heap.size, 4, none⟩ (.slice q x.f4.length c)).setCell ⟨w.heap.size + 1, 0, none⟩ ((.int .i64 x.f0))).setCell ⟨w.heap.size + 1, 1, none⟩ ((.int .i64 x.f1))).setCell ⟨w.heap.size + 1, 2, none⟩ ((.int .i64 x.f2))).setCell ⟨w.heap.size + 1, 3, none⟩ ((.int .i64 x.f3))).setCell ⟨w.heap.size + 1, 4, none⟩ ((.slice q x.f4.length c)))).ownsRow w.heap.size 68 2 (.slice q x.f4.length c) x.f4.length (rEntry x.f4)) := own_low (store5_own _ _ _ _ _ HO2.out (by rw [HZ0.out]; omega)) (by rw [HZ0.out]; omega)
  have HB3 : Hid (Below w.heap.size w (((((((w1.setCell ⟨w.heap.size, 4, none⟩ (.slice q x.f4.length c)).setCell ⟨w.heap.size + 1, 0, none⟩ ((.int .i64 x.f0))).setCell ⟨w.heap.size + 1, 1, none⟩ ((.int .i64 x.f1))).setCell ⟨w.heap.size + 1, 2, none⟩ ((.int .i64 x.f2))).setCell ⟨w.heap.size + 1, 3, none⟩ ((.int .i64 x.f3))).setCell ⟨w.heap.size + 1, 4, none⟩ ((.slice q x.f4.length c))))) := store5_bel _ _ _ _ _ HB2.out (by omega)
  obtain ⟨y0, y1, y2, y3, y4⟩ := box5 (store5 (.int .i64 x.f0) (.int .i64 x.f1) (.int .i64 x.f2) (.int .i64 x.f3) (.slice q x.f4.length c) HY2.out)
  refine bodyPost_ret (v := .agg #[.int .i64 x.f0, .int .i64 x.f1, .int .i64 x.f2, .int .i64 x.f3, .slice q x.f4.length c]) (by simp [results, Try.results39, go_sem, y0, y1, y2, y3, y4, z0, z1, z2, z3, z4]) rfl ?_
  exact ⟨_, _, rfl, HO3.out, HB3.out⟩

set_option maxRecDepth 20000 in
set_option maxHeartbeats 4000000 in
theorem specLast_c (x : S_Wal) (p : Option Addr) (cap : Nat) (w : World) (hn : x.f4.length ≤ 1048576) (hr : RowR w (.slice p x.f4.length cap) x.f4.length 2 (rEntry x.f4)) :
    Calls Try.prog 53 #[.agg #[.int .i64 x.f0, .int .i64 x.f1, .int .i64 x.f2, .int .i64 x.f3, .slice p x.f4.length cap]] w fun e w' => e = .returned (.int .i64 (lastT x)) ∧ Below w.heap.size w w' := by
  have hn' : (x.f4.length : Int) ≤ 1048576 := by omega
  rcases Nat.eq_zero_or_pos x.f4.length with h0 | h0
  · have HF : Hid (lastT x = x.f3) := lastT_none h0
    have h0' : ((x.f4.length : Int) == 0) = true := beq_iff_eq.2 (by omega)
    clear h0 hr hn
    go_enter Try.func53, Try.ntmps53
    go_wp2
    go_ret
    exact ⟨by rw [HF.out]; rfl, (Below.refl _ _).alloc (Nat.le_refl _) _⟩
  · have hlt : x.f4.length - 1 < x.f4.length := by omega
    have HF : Hid (lastT x = x.f4[x.f4.length - 1].f0) := lastT_some hlt
    obtain ⟨b, off, cap', hv, hb, hc⟩ := hr.some h0 (by decide)
    simp only [Value.slice.injEq, true_and] at hv
    obtain ⟨rfl, rfl⟩ := hv
    have c0 : w.cell? ⟨b, off + (x.f4.length - 1) * 2, none⟩ = some (.int .i64 (x.f4[x.f4.length - 1]).f0) := by
      rw [hc ((x.f4.length - 1) * 2) (by omega)]
      exact flat_at cEntry 2 cEntry_len x.f4 (x.f4.length - 1) 0 hlt (by decide)
    have h0' : ((x.f4.length : Int) == 0) = false := beq_eq_false_iff_ne.2 (by omega)
    obtain ⟨m, hm⟩ : ∃ m, m = x.f4.length - 1 := ⟨_, rfl⟩
    have hw : IntKind.i64.wrap ((x.f4.length : Int) - 1) = (m : Int) := by rw [IntWalk.i64_in _ (by omega)]; omega
    have hml : (m : Int) < (x.f4.length : Int) := by omega
    have hbw : b < w.heap.size := hb
    have hne : ¬ b = w.heap.size := by omega
    have c1 : w.cell? ⟨b, off + m * 2, none⟩ = some (.int .i64 (x.f4[x.f4.length - 1]).f0) := by rw [hm]; exact c0
    clear c0
    clear hc hr hn
    generalize (x.f4[x.f4.length - 1]).f0 = Y at c1 HF
    clear hlt h0 hm
    go_enter Try.func53, Try.ntmps53
    go_wp2
    go_ret
    exact ⟨by rw [HF.out]; rfl, (Below.refl _ _).alloc (Nat.le_refl _) _⟩

set_option maxRecDepth 20000 in
set_option maxHeartbeats 4000000 in
theorem cellsS {w W : World} {b : Nat} {c0 c1 c2 c3 c4 : Value} {T : TypeId} (h : w.heap[b]? = some (.cells #[c0, c1, c2, c3, c4] T)) (hS : Below w.heap.size w W) : ∀ j u, [c0, c1, c2, c3, c4][j]? = some u → W.cell? ((⟨b, 0, none⟩ : Addr).add j) = some u := by
  have h' : W.heap[b]? = some (.cells #[c0, c1, c2, c3, c4] T) := (hS.block _ (lt_of_some h)).trans h
  obtain ⟨a0, a1, a2, a3, a4⟩ := box5 h'
  intro j u hj
  rw [Addr.add_mid, Nat.zero_add]
  rcases j with _ | _ | _ | _ | _ | j
  · simp only [List.getElem?_cons_zero, Option.some.injEq] at hj; rw [← hj]; exact a0
  · simp only [List.getElem?_cons_succ, List.getElem?_cons_zero, Option.some.injEq] at hj; rw [← hj]; exact a1
  · simp only [List.getElem?_cons_succ, List.getElem?_cons_zero, Option.some.injEq] at hj; rw [← hj]; exact a2
  · simp only [List.getElem?_cons_succ, List.getElem?_cons_zero, Option.some.injEq] at hj; rw [← hj]; exact a3
  · simp only [List.getElem?_cons_succ, List.getElem?_cons_zero, Option.some.injEq] at hj; rw [← hj]; exact a4
  · simp at hj

set_option maxRecDepth 20000 in
set_option maxHeartbeats 4000000 in
theorem specFitsR_c (x : S_Wal) (r : S_Rec) (p : Option Addr) (cap : Nat) (w : World) (hn : x.f4.length ≤ 1048576) (h2 : 0 ≤ x.f2 ∧ x.f2 ≤ 100000) (hr : RowR w (.slice p x.f4.length cap) x.f4.length 2 (rEntry x.f4)) :
    Calls Try.prog 31 #[.agg #[.int .i64 x.f0, .int .i64 x.f1, .int .i64 x.f2, .int .i64 x.f3, .slice p x.f4.length cap], .agg #[.int .i64 r.f0, .int .i64 r.f1, .int .i64 r.f2, .int .i64 r.f3, .string r.f4]] w fun e w' => e = .returned (.bool (decide (fitsR x r))) ∧ Below w.heap.size w w' := by
  obtain ⟨W0, hW0⟩ : ∃ W, W = (w.alloc (.cells #[.int .i64 x.f0, .int .i64 x.f1, .int .i64 x.f2, .int .i64 x.f3, .slice p x.f4.length cap] 26)).alloc (.cells #[.int .i64 r.f0, .int .i64 r.f1, .int .i64 r.f2, .int .i64 r.f3, .string r.f4] 35) := ⟨_, rfl⟩
  have HW0 : Hid ((w.alloc (.cells #[.int .i64 x.f0, .int .i64 x.f1, .int .i64 x.f2, .int .i64 x.f3, .slice p x.f4.length cap] 26)).alloc (.cells #[.int .i64 r.f0, .int .i64 r.f1, .int .i64 r.f2, .int .i64 r.f3, .string r.f4] 35) = W0) := hW0.symm
  have HZ0 : Hid (W0.heap.size = w.heap.size + 2) := by show _ = _; rw [hW0]; simp
  have HB0 : Hid (Below w.heap.size w W0) := by rw [hW0]; exact ((Below.refl _ _).alloc (Nat.le_refl _) _).alloc (by simp) _
  have HX0 : Hid (W0.heap[w.heap.size]? = some (.cells #[.int .i64 x.f0, .int .i64 x.f1, .int .i64 x.f2, .int .i64 x.f3, .slice p x.f4.length cap] 26)) := by rw [hW0]; exact (((Below.refl (w.heap.size + 1) (w.alloc (.cells #[.int .i64 x.f0, .int .i64 x.f1, .int .i64 x.f2, .int .i64 x.f3, .slice p x.f4.length cap] 26))).alloc (by simp) _).block _ (Nat.lt_succ_self _)).trans (alloc_last _ _)
  have HY0 : Hid (W0.heap[w.heap.size + 1]? = some (.cells #[.int .i64 r.f0, .int .i64 r.f1, .int .i64 r.f2, .int .i64 r.f3, .string r.f4] 35)) := by
    rw [hW0]
    have := alloc_last (w.alloc (.cells #[.int .i64 x.f0, .int .i64 x.f1, .int .i64 x.f2, .int .i64 x.f3, .slice p x.f4.length cap] 26)) (.cells #[.int .i64 r.f0, .int .i64 r.f1, .int .i64 r.f2, .int .i64 r.f3, .string r.f4] 35)
    rw [World.size_alloc] at this
    exact this
  have HRW : Hid (RowR W0 (.slice p x.f4.length cap) x.f4.length 2 (rEntry x.f4)) := RowR.keep hr HB0.out (Nat.le_refl _)
  have HN : Hid (x.f4.length ≤ 1048576) := hn
  obtain ⟨h2a, h2b⟩ := h2
  have hn' : (x.f4.length : Int) ≤ 1048576 := by omega
  have hwl : IntKind.i64.wrap (x.f2 + (x.f4.length : Int)) = x.f2 + (x.f4.length : Int) := IntWalk.i64_in _ (by omega)
  have hwl1 : IntKind.i64.wrap (x.f2 + (x.f4.length : Int) + 1) = x.f2 + (x.f4.length : Int) + 1 := IntWalk.i64_in _ (by omega)
  clear hn hr hW0
  obtain ⟨d0, d1, d2, d3, d4⟩ := box5 HX0.out
  obtain ⟨e0, e1, e2, e3, e4⟩ := box5 HY0.out
  by_cases q1 : r.f0 = 1
  · skip
    have k1 : (r.f0 == 1) = true := beq_iff_eq.2 (by omega)
    by_cases h1 : x.f0 < r.f1
    · have HF : Hid (fitsR x r) := (fits_1 q1).2 (.inl h1)
      clear q1
      go_enter Try.func31, Try.ntmps31
      go_wp2_with fail
      rw [HW0.out]
      go_ret
      exact ⟨ret_t HF.out, HB0.out⟩
    by_cases h3 : r.f1 = x.f0
    rotate_left
    · have HF : Hid (¬ fitsR x r) := fun h => ((fits_1 q1).1 h).elim h1 (fun h => h3 h.1)
      have b3 : (r.f1 == x.f0) = false := by simpa using h3
      clear q1 h3
      go_enter Try.func31, Try.ntmps31
      go_wp2_with fail
      rw [HW0.out]
      go_ret
      exact ⟨ret_f HF.out, HB0.out⟩
    have b3 : (r.f1 == x.f0) = true := by simpa using h3
    by_cases h4 : x.f1 = -1
    · have HF : Hid (fitsR x r) := (fits_1 q1).2 (.inr ⟨h3, .inl h4⟩)
      have b4 : (x.f1 == -1) = true := by simpa using h4
      clear q1 h3 h4
      go_enter Try.func31, Try.ntmps31
      go_wp2_with fail
      rw [HW0.out]
      go_ret
      exact ⟨ret_t HF.out, HB0.out⟩
    have b4 : (x.f1 == -1) = false := by simpa using h4
    by_cases h5 : r.f3 = x.f1
    · have HF : Hid (fitsR x r) := (fits_1 q1).2 (.inr ⟨h3, .inr h5⟩)
      have b5 : (r.f3 == x.f1) = true := by simpa using h5
      clear q1 h3 h4 h5
      go_enter Try.func31, Try.ntmps31
      go_wp2_with fail
      rw [HW0.out]
      go_ret
      exact ⟨ret_t HF.out, HB0.out⟩
    · have HF : Hid (¬ fitsR x r) := fun h => ((fits_1 q1).1 h).elim h1 (fun h => h.2.elim h4 h5)
      have b5 : (r.f3 == x.f1) = false := by simpa using h5
      clear q1 h3 h4 h5
      go_enter Try.func31, Try.ntmps31
      go_wp2_with fail
      rw [HW0.out]
      go_ret
      exact ⟨ret_f HF.out, HB0.out⟩
  by_cases q2 : r.f0 = 2
  · skip
    have k1 : (r.f0 == 1) = false := beq_eq_false_iff_ne.2 (by omega)
    have k2 : (r.f0 == 2) = true := beq_iff_eq.2 (by omega)
    by_cases g0 : r.f2 = x.f2 + (x.f4.length : Int) + 1
    rotate_left
    · have HF : Hid (¬ fitsR x r) := fun h' => g0 (by have h := (fits_2 q2).1 h'; exact h.1)
      have t0 : (r.f2 == x.f2 + (x.f4.length : Int) + 1) = false := by simpa using g0
      clear q1 q2 g0
      go_enter Try.func31, Try.ntmps31
      go_upto_region 6 with fail
      rw [HW0.out]
      refine wp_region_told (fun W => Below W0.heap.size W0 W) (by kernel_rfl) (by kernel_rfl) ((Below.refl W0.heap.size W0).drew) ?_
      refine told_pure (some 42) (.pointer (some ⟨w.heap.size + 1, 2, none⟩)) rfl (by kernel_rfl) (fun _ => by kernel_rfl) ?_
      refine told_load (some 43) ⟨w.heap.size + 1, 2, none⟩ (.int .i64 r.f2) rfl (by kernel_rfl) (fun _ => by kernel_rfl) (fun _ hS => atB hS e2) ?_
      refine told_pure (some 44) (.int .i64 (x.f2 + (x.f4.length : Int))) rfl (by kernel_rfl) (fun _ => by kernel_rfl) ?_
      refine told_is (some 45) (.int .i64 (IntKind.i64.wrap (x.f2 + (x.f4.length : Int) + 1))) (.int .i64 (x.f2 + (x.f4.length : Int) + 1)) (by rw [hwl1]) rfl (by kernel_rfl) (fun _ => by kernel_rfl) ?_
      refine told_is (some 46) (.bool (r.f2 == x.f2 + (x.f4.length : Int) + 1)) (.bool false) (by rw [t0]) rfl (by kernel_rfl) (fun _ => by kernel_rfl) ?_
      refine told_pure (some 47) (.bool false) rfl (by kernel_rfl) (fun _ => by kernel_rfl) ?_
      refine told_skip (some 48) rfl (by kernel_rfl) ?_
      refine told_skip (some 49) rfl (by kernel_rfl) ?_
      refine told_skip (some 50) rfl (by kernel_rfl) ?_
      refine told_skip (some 51) rfl (by kernel_rfl) ?_
      refine told_pure (some 52) (.bool false) rfl (by kernel_rfl) (fun _ => by kernel_rfl) ?_
      refine told_pure (some 53) (.bool false) rfl (by kernel_rfl) (fun _ => by kernel_rfl) ?_
      refine told_skip (some 54) rfl (by kernel_rfl) ?_
      refine told_skip (some 55) rfl (by kernel_rfl) ?_
      refine told_skip (some 56) rfl (by kernel_rfl) ?_
      refine told_skip (some 57) rfl (by kernel_rfl) ?_
      refine told_skip (some 58) rfl (by kernel_rfl) ?_
      refine told_pure (some 59) (.bool false) rfl (by kernel_rfl) (fun _ => by kernel_rfl) ?_
      refine told_pure (some 60) (.bool false) rfl (by kernel_rfl) (fun _ => by kernel_rfl) ?_
      refine told_skip (some 61) rfl (by kernel_rfl) ?_
      refine told_skip (some 62) rfl (by kernel_rfl) ?_
      refine told_skip (some 63) rfl (by kernel_rfl) ?_
      refine told_skip (some 64) rfl (by kernel_rfl) ?_
      refine told_skip (some 65) rfl (by kernel_rfl) ?_
      refine told_pure (some 66) (.bool false) rfl (by kernel_rfl) (fun _ => by kernel_rfl) ?_
      refine told_pure (some 4) (.bool false) rfl (by kernel_rfl) (fun _ => by kernel_rfl) ?_
      refine told_nil ?_
      intro w9 hS9
      simp only [Act.put, List.setIfInBounds_toArray, List.set_cons_zero, List.set_cons_succ]
      have HB9 : Hid (Below w.heap.size w w9) := HB0.out.trans (Below.mono hS9 HB0.out.size)
      clear hS9
      go_wp2
      go_ret
      exact ⟨ret_f HF.out, HB9.out⟩
    have t0 : (r.f2 == x.f2 + (x.f4.length : Int) + 1) = true := by simpa using g0
    by_cases g1 : (x.f4.length : Int) < 60
    rotate_left
    · have HF : Hid (¬ fitsR x r) := fun h' => g1 (by have h := (fits_2 q2).1 h'; exact h.2.1)
      have t1 : decide ((x.f4.length : Int) < 60) = false := decide_eq_false g1
      clear q1 q2 g0 g1
      go_enter Try.func31, Try.ntmps31
      go_upto_region 6 with fail
      rw [HW0.out]
      refine wp_region_told (fun W => Below W0.heap.size W0 W) (by kernel_rfl) (by kernel_rfl) ((Below.refl W0.heap.size W0).drew) ?_
      refine told_pure (some 42) (.pointer (some ⟨w.heap.size + 1, 2, none⟩)) rfl (by kernel_rfl) (fun _ => by kernel_rfl) ?_
      refine told_load (some 43) ⟨w.heap.size + 1, 2, none⟩ (.int .i64 r.f2) rfl (by kernel_rfl) (fun _ => by kernel_rfl) (fun _ hS => atB hS e2) ?_
      refine told_pure (some 44) (.int .i64 (x.f2 + (x.f4.length : Int))) rfl (by kernel_rfl) (fun _ => by kernel_rfl) ?_
      refine told_is (some 45) (.int .i64 (IntKind.i64.wrap (x.f2 + (x.f4.length : Int) + 1))) (.int .i64 (x.f2 + (x.f4.length : Int) + 1)) (by rw [hwl1]) rfl (by kernel_rfl) (fun _ => by kernel_rfl) ?_
      refine told_is (some 46) (.bool (r.f2 == x.f2 + (x.f4.length : Int) + 1)) (.bool true) (by rw [t0]) rfl (by kernel_rfl) (fun _ => by kernel_rfl) ?_
      refine told_pure (some 47) (.bool true) rfl (by kernel_rfl) (fun _ => by kernel_rfl) ?_
      refine told_pure (some 48) (.pointer (some ⟨w.heap.size, 4, none⟩)) rfl (by kernel_rfl) (fun _ => by kernel_rfl) ?_
      refine told_load (some 49) ⟨w.heap.size, 4, none⟩ (.slice p x.f4.length cap) rfl (by kernel_rfl) (fun _ => by kernel_rfl) (fun _ hS => atB hS d4) ?_
      refine told_pure (some 50) (.int .i64 x.f4.length) rfl (by kernel_rfl) (fun _ => by kernel_rfl) ?_
      refine told_is (some 51) (.bool (decide ((x.f4.length : Int) < 60))) (.bool false) (by rw [t1]) rfl (by kernel_rfl) (fun _ => by kernel_rfl) ?_
      refine told_pure (some 52) (.bool false) rfl (by kernel_rfl) (fun _ => by kernel_rfl) ?_
      refine told_pure (some 53) (.bool false) rfl (by kernel_rfl) (fun _ => by kernel_rfl) ?_
      refine told_skip (some 54) rfl (by kernel_rfl) ?_
      refine told_skip (some 55) rfl (by kernel_rfl) ?_
      refine told_skip (some 56) rfl (by kernel_rfl) ?_
      refine told_skip (some 57) rfl (by kernel_rfl) ?_
      refine told_skip (some 58) rfl (by kernel_rfl) ?_
      refine told_pure (some 59) (.bool false) rfl (by kernel_rfl) (fun _ => by kernel_rfl) ?_
      refine told_pure (some 60) (.bool false) rfl (by kernel_rfl) (fun _ => by kernel_rfl) ?_
      refine told_skip (some 61) rfl (by kernel_rfl) ?_
      refine told_skip (some 62) rfl (by kernel_rfl) ?_
      refine told_skip (some 63) rfl (by kernel_rfl) ?_
      refine told_skip (some 64) rfl (by kernel_rfl) ?_
      refine told_skip (some 65) rfl (by kernel_rfl) ?_
      refine told_pure (some 66) (.bool false) rfl (by kernel_rfl) (fun _ => by kernel_rfl) ?_
      refine told_pure (some 4) (.bool false) rfl (by kernel_rfl) (fun _ => by kernel_rfl) ?_
      refine told_nil ?_
      intro w9 hS9
      simp only [Act.put, List.setIfInBounds_toArray, List.set_cons_zero, List.set_cons_succ]
      have HB9 : Hid (Below w.heap.size w w9) := HB0.out.trans (Below.mono hS9 HB0.out.size)
      clear hS9
      go_wp2
      go_ret
      exact ⟨ret_f HF.out, HB9.out⟩
    have t1 : decide ((x.f4.length : Int) < 60) = true := decide_eq_true g1
    by_cases g2 : lastT x ≤ r.f1
    rotate_left
    · have HF : Hid (¬ fitsR x r) := fun h' => g2 (by have h := (fits_2 q2).1 h'; exact h.2.2.1)
      have t2 : decide (lastT x ≤ r.f1) = false := decide_eq_false g2
      clear q1 q2 g0 g1 g2
      go_enter Try.func31, Try.ntmps31
      go_upto_region 6 with fail
      rw [HW0.out]
      refine wp_region_told (fun W => Below W0.heap.size W0 W) (by kernel_rfl) (by kernel_rfl) ((Below.refl W0.heap.size W0).drew) ?_
      refine told_pure (some 42) (.pointer (some ⟨w.heap.size + 1, 2, none⟩)) rfl (by kernel_rfl) (fun _ => by kernel_rfl) ?_
      refine told_load (some 43) ⟨w.heap.size + 1, 2, none⟩ (.int .i64 r.f2) rfl (by kernel_rfl) (fun _ => by kernel_rfl) (fun _ hS => atB hS e2) ?_
      refine told_pure (some 44) (.int .i64 (x.f2 + (x.f4.length : Int))) rfl (by kernel_rfl) (fun _ => by kernel_rfl) ?_
      refine told_is (some 45) (.int .i64 (IntKind.i64.wrap (x.f2 + (x.f4.length : Int) + 1))) (.int .i64 (x.f2 + (x.f4.length : Int) + 1)) (by rw [hwl1]) rfl (by kernel_rfl) (fun _ => by kernel_rfl) ?_
      refine told_is (some 46) (.bool (r.f2 == x.f2 + (x.f4.length : Int) + 1)) (.bool true) (by rw [t0]) rfl (by kernel_rfl) (fun _ => by kernel_rfl) ?_
      refine told_pure (some 47) (.bool true) rfl (by kernel_rfl) (fun _ => by kernel_rfl) ?_
      refine told_pure (some 48) (.pointer (some ⟨w.heap.size, 4, none⟩)) rfl (by kernel_rfl) (fun _ => by kernel_rfl) ?_
      refine told_load (some 49) ⟨w.heap.size, 4, none⟩ (.slice p x.f4.length cap) rfl (by kernel_rfl) (fun _ => by kernel_rfl) (fun _ hS => atB hS d4) ?_
      refine told_pure (some 50) (.int .i64 x.f4.length) rfl (by kernel_rfl) (fun _ => by kernel_rfl) ?_
      refine told_is (some 51) (.bool (decide ((x.f4.length : Int) < 60))) (.bool true) (by rw [t1]) rfl (by kernel_rfl) (fun _ => by kernel_rfl) ?_
      refine told_pure (some 52) (.bool true) rfl (by kernel_rfl) (fun _ => by kernel_rfl) ?_
      refine told_pure (some 53) (.bool true) rfl (by kernel_rfl) (fun _ => by kernel_rfl) ?_
      refine told_pure (some 54) (.pointer (some ⟨w.heap.size + 1, 1, none⟩)) rfl (by kernel_rfl) (fun _ => by kernel_rfl) ?_
      refine told_load (some 55) ⟨w.heap.size + 1, 1, none⟩ (.int .i64 r.f1) rfl (by kernel_rfl) (fun _ => by kernel_rfl) (fun _ hS => atB hS e1) ?_
      refine told_loads (some 56) ⟨w.heap.size, 0, none⟩ [(.int .i64 x.f0), (.int .i64 x.f1), (.int .i64 x.f2), (.int .i64 x.f3), .slice p x.f4.length cap] rfl (by kernel_rfl) (fun _ => by kernel_rfl) (fun _ hS => cellsS (HX0.out) hS) ?_
      refine told_call (some 57) (.int .i64 (lastT x)) 53 #[.agg #[.int .i64 x.f0, .int .i64 x.f1, .int .i64 x.f2, .int .i64 x.f3, .slice p x.f4.length cap]] rfl (by kernel_rfl) (fun _ => by kernel_rfl) (fun W hS => below_S (specLast_c x p cap W HN.out (RowR.keep HRW.out hS (Nat.le_refl _))) hS) ?_
      refine told_is (some 58) (.bool (decide (lastT x ≤ r.f1))) (.bool false) (by rw [t2]) rfl (by kernel_rfl) (fun _ => by kernel_rfl) ?_
      refine told_pure (some 59) (.bool false) rfl (by kernel_rfl) (fun _ => by kernel_rfl) ?_
      refine told_pure (some 60) (.bool false) rfl (by kernel_rfl) (fun _ => by kernel_rfl) ?_
      refine told_skip (some 61) rfl (by kernel_rfl) ?_
      refine told_skip (some 62) rfl (by kernel_rfl) ?_
      refine told_skip (some 63) rfl (by kernel_rfl) ?_
      refine told_skip (some 64) rfl (by kernel_rfl) ?_
      refine told_skip (some 65) rfl (by kernel_rfl) ?_
      refine told_pure (some 66) (.bool false) rfl (by kernel_rfl) (fun _ => by kernel_rfl) ?_
      refine told_pure (some 4) (.bool false) rfl (by kernel_rfl) (fun _ => by kernel_rfl) ?_
      refine told_nil ?_
      intro w9 hS9
      simp only [Act.put, List.setIfInBounds_toArray, List.set_cons_zero, List.set_cons_succ]
      have HB9 : Hid (Below w.heap.size w w9) := HB0.out.trans (Below.mono hS9 HB0.out.size)
      clear hS9
      go_wp2
      go_ret
      exact ⟨ret_f HF.out, HB9.out⟩
    have t2 : decide (lastT x ≤ r.f1) = true := decide_eq_true g2
    by_cases g3 : r.f1 ≤ x.f0
    rotate_left
    · have HF : Hid (¬ fitsR x r) := fun h' => g3 (by have h := (fits_2 q2).1 h'; exact h.2.2.2)
      have t3 : decide (r.f1 ≤ x.f0) = false := decide_eq_false g3
      clear q1 q2 g0 g1 g2 g3
      go_enter Try.func31, Try.ntmps31
      go_upto_region 6 with fail
      rw [HW0.out]
      refine wp_region_told (fun W => Below W0.heap.size W0 W) (by kernel_rfl) (by kernel_rfl) ((Below.refl W0.heap.size W0).drew) ?_
      refine told_pure (some 42) (.pointer (some ⟨w.heap.size + 1, 2, none⟩)) rfl (by kernel_rfl) (fun _ => by kernel_rfl) ?_
      refine told_load (some 43) ⟨w.heap.size + 1, 2, none⟩ (.int .i64 r.f2) rfl (by kernel_rfl) (fun _ => by kernel_rfl) (fun _ hS => atB hS e2) ?_
      refine told_pure (some 44) (.int .i64 (x.f2 + (x.f4.length : Int))) rfl (by kernel_rfl) (fun _ => by kernel_rfl) ?_
      refine told_is (some 45) (.int .i64 (IntKind.i64.wrap (x.f2 + (x.f4.length : Int) + 1))) (.int .i64 (x.f2 + (x.f4.length : Int) + 1)) (by rw [hwl1]) rfl (by kernel_rfl) (fun _ => by kernel_rfl) ?_
      refine told_is (some 46) (.bool (r.f2 == x.f2 + (x.f4.length : Int) + 1)) (.bool true) (by rw [t0]) rfl (by kernel_rfl) (fun _ => by kernel_rfl) ?_
      refine told_pure (some 47) (.bool true) rfl (by kernel_rfl) (fun _ => by kernel_rfl) ?_
      refine told_pure (some 48) (.pointer (some ⟨w.heap.size, 4, none⟩)) rfl (by kernel_rfl) (fun _ => by kernel_rfl) ?_
      refine told_load (some 49) ⟨w.heap.size, 4, none⟩ (.slice p x.f4.length cap) rfl (by kernel_rfl) (fun _ => by kernel_rfl) (fun _ hS => atB hS d4) ?_
      refine told_pure (some 50) (.int .i64 x.f4.length) rfl (by kernel_rfl) (fun _ => by kernel_rfl) ?_
      refine told_is (some 51) (.bool (decide ((x.f4.length : Int) < 60))) (.bool true) (by rw [t1]) rfl (by kernel_rfl) (fun _ => by kernel_rfl) ?_
      refine told_pure (some 52) (.bool true) rfl (by kernel_rfl) (fun _ => by kernel_rfl) ?_
      refine told_pure (some 53) (.bool true) rfl (by kernel_rfl) (fun _ => by kernel_rfl) ?_
      refine told_pure (some 54) (.pointer (some ⟨w.heap.size + 1, 1, none⟩)) rfl (by kernel_rfl) (fun _ => by kernel_rfl) ?_
      refine told_load (some 55) ⟨w.heap.size + 1, 1, none⟩ (.int .i64 r.f1) rfl (by kernel_rfl) (fun _ => by kernel_rfl) (fun _ hS => atB hS e1) ?_
      refine told_loads (some 56) ⟨w.heap.size, 0, none⟩ [(.int .i64 x.f0), (.int .i64 x.f1), (.int .i64 x.f2), (.int .i64 x.f3), .slice p x.f4.length cap] rfl (by kernel_rfl) (fun _ => by kernel_rfl) (fun _ hS => cellsS (HX0.out) hS) ?_
      refine told_call (some 57) (.int .i64 (lastT x)) 53 #[.agg #[.int .i64 x.f0, .int .i64 x.f1, .int .i64 x.f2, .int .i64 x.f3, .slice p x.f4.length cap]] rfl (by kernel_rfl) (fun _ => by kernel_rfl) (fun W hS => below_S (specLast_c x p cap W HN.out (RowR.keep HRW.out hS (Nat.le_refl _))) hS) ?_
      refine told_is (some 58) (.bool (decide (lastT x ≤ r.f1))) (.bool true) (by rw [t2]) rfl (by kernel_rfl) (fun _ => by kernel_rfl) ?_
      refine told_pure (some 59) (.bool true) rfl (by kernel_rfl) (fun _ => by kernel_rfl) ?_
      refine told_pure (some 60) (.bool true) rfl (by kernel_rfl) (fun _ => by kernel_rfl) ?_
      refine told_pure (some 61) (.pointer (some ⟨w.heap.size + 1, 1, none⟩)) rfl (by kernel_rfl) (fun _ => by kernel_rfl) ?_
      refine told_load (some 62) ⟨w.heap.size + 1, 1, none⟩ (.int .i64 r.f1) rfl (by kernel_rfl) (fun _ => by kernel_rfl) (fun _ hS => atB hS e1) ?_
      refine told_pure (some 63) (.pointer (some ⟨w.heap.size, 0, none⟩)) rfl (by kernel_rfl) (fun _ => by kernel_rfl) ?_
      refine told_load (some 64) ⟨w.heap.size, 0, none⟩ (.int .i64 x.f0) rfl (by kernel_rfl) (fun _ => by kernel_rfl) (fun _ hS => atB hS d0) ?_
      refine told_is (some 65) (.bool (decide (r.f1 ≤ x.f0))) (.bool false) (by rw [t3]) rfl (by kernel_rfl) (fun _ => by kernel_rfl) ?_
      refine told_pure (some 66) (.bool false) rfl (by kernel_rfl) (fun _ => by kernel_rfl) ?_
      refine told_pure (some 4) (.bool false) rfl (by kernel_rfl) (fun _ => by kernel_rfl) ?_
      refine told_nil ?_
      intro w9 hS9
      simp only [Act.put, List.setIfInBounds_toArray, List.set_cons_zero, List.set_cons_succ]
      have HB9 : Hid (Below w.heap.size w w9) := HB0.out.trans (Below.mono hS9 HB0.out.size)
      clear hS9
      go_wp2
      go_ret
      exact ⟨ret_f HF.out, HB9.out⟩
    have t3 : decide (r.f1 ≤ x.f0) = true := decide_eq_true g3
    have HF : Hid (fitsR x r) := (fits_2 q2).2 ⟨g0, g1, g2, g3⟩
    clear q1 q2 g0 g1 g2 g3
    go_enter Try.func31, Try.ntmps31
    go_upto_region 6 with fail
    rw [HW0.out]
    refine wp_region_told (fun W => Below W0.heap.size W0 W) (by kernel_rfl) (by kernel_rfl) ((Below.refl W0.heap.size W0).drew) ?_
    refine told_pure (some 42) (.pointer (some ⟨w.heap.size + 1, 2, none⟩)) rfl (by kernel_rfl) (fun _ => by kernel_rfl) ?_
    refine told_load (some 43) ⟨w.heap.size + 1, 2, none⟩ (.int .i64 r.f2) rfl (by kernel_rfl) (fun _ => by kernel_rfl) (fun _ hS => atB hS e2) ?_
    refine told_pure (some 44) (.int .i64 (x.f2 + (x.f4.length : Int))) rfl (by kernel_rfl) (fun _ => by kernel_rfl) ?_
    refine told_is (some 45) (.int .i64 (IntKind.i64.wrap (x.f2 + (x.f4.length : Int) + 1))) (.int .i64 (x.f2 + (x.f4.length : Int) + 1)) (by rw [hwl1]) rfl (by kernel_rfl) (fun _ => by kernel_rfl) ?_
    refine told_is (some 46) (.bool (r.f2 == x.f2 + (x.f4.length : Int) + 1)) (.bool true) (by rw [t0]) rfl (by kernel_rfl) (fun _ => by kernel_rfl) ?_
    refine told_pure (some 47) (.bool true) rfl (by kernel_rfl) (fun _ => by kernel_rfl) ?_
    refine told_pure (some 48) (.pointer (some ⟨w.heap.size, 4, none⟩)) rfl (by kernel_rfl) (fun _ => by kernel_rfl) ?_
    refine told_load (some 49) ⟨w.heap.size, 4, none⟩ (.slice p x.f4.length cap) rfl (by kernel_rfl) (fun _ => by kernel_rfl) (fun _ hS => atB hS d4) ?_
    refine told_pure (some 50) (.int .i64 x.f4.length) rfl (by kernel_rfl) (fun _ => by kernel_rfl) ?_
    refine told_is (some 51) (.bool (decide ((x.f4.length : Int) < 60))) (.bool true) (by rw [t1]) rfl (by kernel_rfl) (fun _ => by kernel_rfl) ?_
    refine told_pure (some 52) (.bool true) rfl (by kernel_rfl) (fun _ => by kernel_rfl) ?_
    refine told_pure (some 53) (.bool true) rfl (by kernel_rfl) (fun _ => by kernel_rfl) ?_
    refine told_pure (some 54) (.pointer (some ⟨w.heap.size + 1, 1, none⟩)) rfl (by kernel_rfl) (fun _ => by kernel_rfl) ?_
    refine told_load (some 55) ⟨w.heap.size + 1, 1, none⟩ (.int .i64 r.f1) rfl (by kernel_rfl) (fun _ => by kernel_rfl) (fun _ hS => atB hS e1) ?_
    refine told_loads (some 56) ⟨w.heap.size, 0, none⟩ [(.int .i64 x.f0), (.int .i64 x.f1), (.int .i64 x.f2), (.int .i64 x.f3), .slice p x.f4.length cap] rfl (by kernel_rfl) (fun _ => by kernel_rfl) (fun _ hS => cellsS (HX0.out) hS) ?_
    refine told_call (some 57) (.int .i64 (lastT x)) 53 #[.agg #[.int .i64 x.f0, .int .i64 x.f1, .int .i64 x.f2, .int .i64 x.f3, .slice p x.f4.length cap]] rfl (by kernel_rfl) (fun _ => by kernel_rfl) (fun W hS => below_S (specLast_c x p cap W HN.out (RowR.keep HRW.out hS (Nat.le_refl _))) hS) ?_
    refine told_is (some 58) (.bool (decide (lastT x ≤ r.f1))) (.bool true) (by rw [t2]) rfl (by kernel_rfl) (fun _ => by kernel_rfl) ?_
    refine told_pure (some 59) (.bool true) rfl (by kernel_rfl) (fun _ => by kernel_rfl) ?_
    refine told_pure (some 60) (.bool true) rfl (by kernel_rfl) (fun _ => by kernel_rfl) ?_
    refine told_pure (some 61) (.pointer (some ⟨w.heap.size + 1, 1, none⟩)) rfl (by kernel_rfl) (fun _ => by kernel_rfl) ?_
    refine told_load (some 62) ⟨w.heap.size + 1, 1, none⟩ (.int .i64 r.f1) rfl (by kernel_rfl) (fun _ => by kernel_rfl) (fun _ hS => atB hS e1) ?_
    refine told_pure (some 63) (.pointer (some ⟨w.heap.size, 0, none⟩)) rfl (by kernel_rfl) (fun _ => by kernel_rfl) ?_
    refine told_load (some 64) ⟨w.heap.size, 0, none⟩ (.int .i64 x.f0) rfl (by kernel_rfl) (fun _ => by kernel_rfl) (fun _ hS => atB hS d0) ?_
    refine told_is (some 65) (.bool (decide (r.f1 ≤ x.f0))) (.bool true) (by rw [t3]) rfl (by kernel_rfl) (fun _ => by kernel_rfl) ?_
    refine told_pure (some 66) (.bool true) rfl (by kernel_rfl) (fun _ => by kernel_rfl) ?_
    refine told_pure (some 4) (.bool true) rfl (by kernel_rfl) (fun _ => by kernel_rfl) ?_
    refine told_nil ?_
    intro w9 hS9
    simp only [Act.put, List.setIfInBounds_toArray, List.set_cons_zero, List.set_cons_succ]
    have HB9 : Hid (Below w.heap.size w w9) := HB0.out.trans (Below.mono hS9 HB0.out.size)
    clear hS9
    go_wp2
    go_ret
    exact ⟨ret_t HF.out, HB9.out⟩
  by_cases q3 : r.f0 = 3
  · skip
    have k1 : (r.f0 == 1) = false := beq_eq_false_iff_ne.2 (by omega)
    have k2 : (r.f0 == 2) = false := beq_eq_false_iff_ne.2 (by omega)
    have k3 : (r.f0 == 3) = true := beq_iff_eq.2 (by omega)
    by_cases g0 : x.f2 < r.f2
    rotate_left
    · have HF : Hid (¬ fitsR x r) := fun h' => g0 ((fits_3 q3).1 h').1
      clear q1 q2 q3
      go_enter Try.func31, Try.ntmps31
      go_wp2_with fail
      rw [HW0.out]
      go_ret
      exact ⟨ret_f HF.out, HB0.out⟩
    by_cases g1 : r.f2 ≤ x.f2 + (x.f4.length : Int)
    rotate_left
    · have HF : Hid (¬ fitsR x r) := fun h' => g1 ((fits_3 q3).1 h').2
      clear q1 q2 q3
      go_enter Try.func31, Try.ntmps31
      go_wp2_with fail
      rw [HW0.out]
      go_ret
      exact ⟨ret_f HF.out, HB0.out⟩
    have HF : Hid (fitsR x r) := (fits_3 q3).2 ⟨g0, g1⟩
    clear q1 q2 q3
    go_enter Try.func31, Try.ntmps31
    go_wp2_with fail
    rw [HW0.out]
    go_ret
    exact ⟨ret_t HF.out, HB0.out⟩
  have HF : Hid (¬ fitsR x r) := fits_0 q1 q2 q3
  have k1 : (r.f0 == 1) = false := beq_eq_false_iff_ne.2 (by omega)
  have k2 : (r.f0 == 2) = false := beq_eq_false_iff_ne.2 (by omega)
  have k3 : (r.f0 == 3) = false := beq_eq_false_iff_ne.2 (by omega)
  clear q1 q2 q3
  go_enter Try.func31, Try.ntmps31
  go_wp2_with fail
  rw [HW0.out]
  go_ret
  exact ⟨ret_f HF.out, HB0.out⟩

end Go.Proofs.Ytengfkakiohfaaa
