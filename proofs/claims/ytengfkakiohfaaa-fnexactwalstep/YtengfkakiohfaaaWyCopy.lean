/- copyWal and lastTerm of the program. -/
import Derived.Test.YtengfkakiohfaaaWySpecS
import Derived.Test.YtengfkakiohfaaaFrClone
import Derived.Test.YtengfkakiohfaaaRgHeld
namespace Go.Proofs.Ytengfkakiohfaaa
open Go.RowKit
set_option linter.unusedVariables false
set_option linter.unusedSimpArgs false

theorem box2S {w : World} {b : Nat} {a0 a1 : Value} {t : TypeId} (h : w.heap[b]? = some (.cells #[a0, a1] t)) : w.cell? ⟨b, 0, none⟩ = some a0 ∧ w.cell? ⟨b, 1, none⟩ = some a1 := by
  simp [World.cell?, h]

set_option maxRecDepth 20000 in
set_option maxHeartbeats 4000000 in
theorem copyWal_c (x : S_Wal) (p : Option Addr) (cap : Nat) (w : World) (hn : x.f4.length ≤ 1048576) (hs : ∀ y ∈ x.f4, y.f1.size ≤ 281474976710656) (hr : RowR w (.slice p x.f4.length cap) x.f4.length 2 (rEntry x.f4)) :
    Calls Try.prog 32 #[.agg #[.int .i64 x.f0, .int .i64 x.f1, .int .i64 x.f2, .int .i64 x.f3, .slice p x.f4.length cap]] w fun e w' => ∃ q c, e = .returned (.agg #[.int .i64 x.f0, .int .i64 x.f1, .int .i64 x.f2, .int .i64 x.f3, .slice q x.f4.length c]) ∧ OwWal w' w.heap.size x (.slice q x.f4.length c) ∧ Below w.heap.size w w' := by
  obtain ⟨iR, hiR, hR0, hR1, hR2⟩ := info_parts infoEntry
  obtain ⟨W0, hW0⟩ : ∃ W, W = (w.alloc (.cells #[.int .i64 x.f0, .int .i64 x.f1, .int .i64 x.f2, .int .i64 x.f3, .slice p x.f4.length cap] 26)).alloc (.cells #[.int .i64 0, .int .i64 0, .int .i64 0, .int .i64 0, .slice none 0 0] 26) := ⟨_, rfl⟩
  have HW0 : Hid ((w.alloc (.cells #[.int .i64 x.f0, .int .i64 x.f1, .int .i64 x.f2, .int .i64 x.f3, .slice p x.f4.length cap] 26)).alloc (.cells #[.int .i64 0, .int .i64 0, .int .i64 0, .int .i64 0, .slice none 0 0] 26) = W0) := hW0.symm
  have HZ0 : Hid (W0.heap.size = w.heap.size + 2) := by show _ = _; rw [hW0]; simp
  have HB0 : Hid (Below w.heap.size w W0) := by rw [hW0]; exact ((Below.refl _ _).alloc (Nat.le_refl _) _).alloc (by simp) _
  have HX0 : Hid (W0.heap[w.heap.size]? = some (.cells #[.int .i64 x.f0, .int .i64 x.f1, .int .i64 x.f2, .int .i64 x.f3, .slice p x.f4.length cap] 26)) := by rw [hW0, Below.heap_alloc _ _ _ (by simp)]; exact alloc_last _ _
  have HY0 : Hid (W0.heap[w.heap.size + 1]? = some (.cells #[.int .i64 0, .int .i64 0, .int .i64 0, .int .i64 0, .slice none 0 0] 26)) := by
    rw [hW0]
    have := alloc_last (w.alloc (.cells #[.int .i64 x.f0, .int .i64 x.f1, .int .i64 x.f2, .int .i64 x.f3, .slice p x.f4.length cap] 26)) (.cells #[.int .i64 0, .int .i64 0, .int .i64 0, .int .i64 0, .slice none 0 0] 26)
    rw [World.size_alloc] at this
    exact this
  have HR : Hid (RowR w (.slice p x.f4.length cap) x.f4.length 2 (rEntry x.f4)) := hr
  have HN : Hid (x.f4.length ≤ 1048576) := hn
  have HS : Hid (∀ y ∈ x.f4, y.f1.size ≤ 281474976710656) := hs
  have hn' : (x.f4.length : Int) ≤ 1048576 := by omega
  clear hn hr hW0 hs
  obtain ⟨x0, x1, x2, x3, x4⟩ := box5 HX0.out
  go_enter Try.func32, Try.ntmps32
  go_wp2_with fail
  rw [HW0.out]
  clear x0 x1 x2 x3 x4
  go_loopw [3, 9] (fun ov iv wr => ∃ k : Nat, k ≤ x.f4.length ∧ iv = .int .i64 (k : Int) ∧ Hid (wr.ownsRow W0.heap.size 68 2 ov (x.f4.take k).length (rEntry (x.f4.take k))) ∧ Hid (Below W0.heap.size W0 wr)) (fun _ iv _ => x.f4.length - (intOf iv).toNat)
  case atStart => exact ⟨0, Nat.zero_le _, rfl, ⟨rfl, Or.inl ⟨rfl, rfl⟩⟩, Below.refl _ _⟩
  case round =>
    obtain ⟨k, hk, rfl, HO, HBr⟩ := hrel
    have HB : Hid (Below w.heap.size w wr) := HB0.out.trans (HBr.out.mono (by rw [HZ0.out]; omega))
    by_cases hlt : k < x.f4.length
    · have hlt' : (k : Int) < x.f4.length := by omega
      obtain ⟨b, off, cap', hv, hb, hc⟩ := HR.out.some (by omega) (by decide)
      simp only [Value.slice.injEq, true_and] at hv
      obtain ⟨rfl, rfl⟩ := hv
      have c : ∀ q, q < 2 → wr.cell? ⟨b, off + (k * 2 + q), none⟩ = (cEntry x.f4[k])[q]? := fun q hq => by
        rw [HB.out.cell (by exact hb), hc (k * 2 + q) (by omega)]
        exact flat_at cEntry 2 cEntry_len x.f4 k q hlt hq
      have c0 : wr.cell? ⟨b, off + k * 2, none⟩ = some (.int .i64 (x.f4[k]).f0) := by have := c 0 (by decide); rw [← Nat.add_assoc] at this; exact this
      have c1 : wr.cell? ⟨b, off + k * 2 + 1, none⟩ = some (.string (x.f4[k]).f1) := by have := c 1 (by decide); rw [← Nat.add_assoc] at this; exact this
      have HTK : Hid (x.f4.take (k + 1) = x.f4.take k ++ [x.f4[k]]) := List.take_succ_eq_append_getElem hlt
      have HKL : Hid ((x.f4.take k).length ≤ 1048576) := by have := HN.out; show _ ≤ _; rw [List.length_take]; omega
      have HCL : Hid (x.f4[k].f1.size ≤ 281474976710656) := HS.out _ (List.getElem_mem hlt)
      have hbw : b < wr.heap.size := Nat.lt_of_lt_of_le hb HB.out.size
      have hne : ¬ b = wr.heap.size := by omega
      clear c hc
      generalize x.f4[k] = X at c0 c1 HTK HCL
      obtain ⟨W1, hW1⟩ : ∃ W, W = wr.alloc (.cells #[.int .i64 X.f0, .string X.f1] 68) := ⟨_, rfl⟩
      have HW1 : Hid (wr.alloc (.cells #[.int .i64 X.f0, .string X.f1] 68) = W1) := hW1.symm
      have HO1 : Hid (W1.ownsRow W0.heap.size 68 2 u3 (x.f4.take k).length (rEntry (x.f4.take k))) := by rw [hW1]; exact HO.out.alloc _
      have HB1 : Hid (Below W0.heap.size W0 W1) := by rw [hW1]; exact HBr.out.alloc HBr.out.size _
      have HD1 : Hid (W1.heap[wr.heap.size]? = some (.cells #[.int .i64 X.f0, .string X.f1] 68)) := by rw [hW1]; exact alloc_last _ _
      clear hW1
      go_upto_region 5 with fail
      rw [HW1.out]
      clear c0 c1
      have d0 : W1.cell? ⟨wr.heap.size, 0, none⟩ = some (.int .i64 X.f0) := (box2S HD1.out).1
      have d1 : W1.cell? ⟨wr.heap.size, 1, none⟩ = some (.string X.f1) := (box2S HD1.out).2
      refine wp_region_L [⟨7, fun W => W.cell? ⟨wr.heap.size, 0, none⟩ = some (.int .i64 X.f0)⟩, ⟨5, fun W => W.cell? ⟨wr.heap.size, 1, none⟩ = some (.string X.f1)⟩] (by kernel_rfl) (fun f hf => by
          simp only [List.mem_cons, List.not_mem_nil, or_false] at hf
          rcases hf with rfl | rfl
          · exact d0
          · exact d1
          ) ?_
      refine At.take 0 (some 13) (u3) rfl rfl (by kernel_rfl) (by kernel_rfl) (by kernel_rfl) (by kernel_rfl) (fun _ _ _ h => h) (yl_pure (by kernel_rfl) (fun _ => by kernel_rfl)) ?_
      refine At.take 1 (some 14) (.pointer (some ⟨wr.heap.size, 0, none⟩)) rfl rfl (by kernel_rfl) (by kernel_rfl) (by kernel_rfl) (by kernel_rfl) (fun _ _ _ h => h) (yl_pure (by kernel_rfl) (fun _ => by kernel_rfl)) ?_
      refine At.take 2 (some 15) (.int .i64 X.f0) rfl rfl (by kernel_rfl) (by kernel_rfl) (by kernel_rfl) (by kernel_rfl) (fun _ _ _ h => h) (yl_load 7 ⟨wr.heap.size, 0, none⟩ (.int .i64 X.f0) (List.mem_cons_self) [6, 7] (by kernel_rfl) rfl (by kernel_rfl) (fun _ => by kernel_rfl)) ?_
      refine At.take 3 (some 16) (.pointer (some ⟨wr.heap.size, 1, none⟩)) rfl rfl (by kernel_rfl) (by kernel_rfl) (by kernel_rfl) (by kernel_rfl) (fun _ _ _ h => h) (yl_pure (by kernel_rfl) (fun _ => by kernel_rfl)) ?_
      refine At.take 4 (some 17) (.string X.f1) rfl rfl (by kernel_rfl) (by kernel_rfl) (by kernel_rfl) (by kernel_rfl) (fun _ _ _ h => h) (yl_load 5 ⟨wr.heap.size, 1, none⟩ (.string X.f1) (List.mem_cons_of_mem _ (List.mem_cons_self)) [5] (by kernel_rfl) rfl (by kernel_rfl) (fun _ => by kernel_rfl)) ?_
      refine At.step 5 (some 18) rfl rfl (by kernel_rfl) (by kernel_rfl) (fun u W => u = .string X.f1 ∧ Below W1.drew.heap.size W1.drew W) (gives_call (by kernel_rfl) ((clone_c X.f1 W1.drew HCL.out).mono fun e w' ⟨he, hb⟩ => ⟨_, he, rfl, hb⟩)) ?_
      rintro u WA ⟨rfl, hbA⟩
      refine ⟨held_cons (.inr (atB hbA (by exact d0))) (held_cons (.inl (by kernel_rfl)) (held_nil)), ?_⟩
      refine At.take 6 (some 19) (.agg #[.int .i64 X.f0, .string X.f1]) rfl rfl (by kernel_rfl) (by kernel_rfl) (by kernel_rfl) (by kernel_rfl) (fun _ _ _ h => h) (yl_pure (by kernel_rfl) (fun _ => by kernel_rfl)) ?_
      refine At.step 7 (some 20) rfl rfl (by kernel_rfl) (by kernel_rfl) (fun u W => u = .slice (some ⟨WA.heap.size, 0, none⟩) 1 1 ∧ W = WA.alloc (.cells #[.int .i64 X.f0, .string X.f1] 68)) (gives_run (by kernel_rfl)) ?_
      rintro u WB ⟨rfl, hWB⟩
      refine ⟨by subst hWB; exact held_cons (.inl (by kernel_rfl)) (held_cons (.inl (by kernel_rfl)) (held_nil)), ?_⟩
      have HOA : Hid (WA.ownsRow W0.heap.size 68 2 u3 (x.f4.take k).length (rEntry (x.f4.take k))) := own_bel (show W1.drew.ownsRow _ _ _ _ _ _ from HO1.out) hbA (Nat.le_refl _)
      have HBA : Hid (Below W0.heap.size W0 WA) := (HB1.out.drew).trans (hbA.mono HB1.out.size)
      have HOB : Hid (WB.ownsRow W0.heap.size 68 2 u3 (x.f4.take k).length (rEntry (x.f4.take k))) := by rw [hWB]; exact HOA.out.alloc _
      have HBB : Hid (Below W0.heap.size W0 WB) := by rw [hWB]; exact HBA.out.alloc HBA.out.size _
      obtain ⟨v', WC, hrunC, hownC, hgrowC, _⟩ := run_append_own (P := Try.prog) WB W0.heap.size 24 24 68 iR (.agg #[.int .i64 0, .string ⟨#[]⟩]) 2 24 Try.underlying24 hiR hR0 hR1 hR2 rfl (by decide) u3 (x.f4.take k).length _ HOB.out ⟨WA.heap.size, 0, none⟩ 1 1 [.int .i64 X.f0, .string X.f1] rfl (by rw [hWB]; exact cell_two_newS WA _ _ _) (by intro u hu; simp at hu; rcases hu with rfl | rfl <;> rfl) (by have := HKL.out; unfold maxLen; omega) (by have := HKL.out; omega) HBB.out.size
      refine At.step 8 (some 21) rfl rfl (by kernel_rfl) (by kernel_rfl) (fun u W => u = v' ∧ W = WC) (gives_append (fun _ => by kernel_rfl) hrunC) ?_
      rintro u WC' ⟨rfl, hWC⟩
      subst hWC
      refine ⟨held_cons (.inl (by kernel_rfl)) (held_cons (.inl (by kernel_rfl)) (held_nil)), ?_⟩
      refine At.take 9 (some 3) (u) rfl rfl (by kernel_rfl) (by kernel_rfl) (by kernel_rfl) (by kernel_rfl) (fun _ _ _ h => h) (yl_pure (by kernel_rfl) (fun _ => by kernel_rfl)) ?_
      refine At.done (by kernel_rfl) ?_
      simp only [Act.put, List.setIfInBounds_toArray, List.set_cons_zero, List.set_cons_succ]
      have HOE : Hid (WC'.ownsRow W0.heap.size 68 2 u (x.f4.take (k + 1)).length (rEntry (x.f4.take (k + 1)))) := by
        show WC'.ownsRow _ _ _ _ _ _
        rw [HTK.out, rEntry_one, List.length_append]
        exact hownC
      have HBE : Hid (Below W0.heap.size W0 WC') := HBB.out.grown hgrowC HBB.out.size (ownBlock_ge HOB.out)
      clear hownC hgrowC hrunC HOB HBB hWB HOA HBA hbA d0 d1
      go_wp2
      go_roundw
      case rel => exact ⟨k + 1, by omega, by go_num, HOE, HBE⟩
      case measure => simp [intOf]; omega
    · have hke : k = x.f4.length := by omega
      have HOE : Hid (wr.ownsRow W0.heap.size 68 2 u3 x.f4.length (rEntry x.f4)) := by have := HO.out; rw [List.take_of_length_le (by omega)] at this; exact this
      obtain ⟨q, c, hv⟩ := own_sliceS HOE.out
      subst hv
      have HX1 : Hid (wr.heap[w.heap.size]? = some (.cells #[.int .i64 x.f0, .int .i64 x.f1, .int .i64 x.f2, .int .i64 x.f3, .slice p x.f4.length cap] 26)) := (HBr.out.block _ (lt_of_some HX0.out)).trans HX0.out
      have HY1 : Hid (wr.heap[w.heap.size + 1]? = some (.cells #[.int .i64 0, .int .i64 0, .int .i64 0, .int .i64 0, .slice none 0 0] 26)) := (HBr.out.block _ (lt_of_some HY0.out)).trans HY0.out
      clear HO hk hlt
      subst hke
      obtain ⟨x0, x1, x2, x3, x4⟩ := box5 HX1.out
      have xf := frz5 HX1.out 4
      obtain ⟨z0, z1, z2, z3, z4⟩ := box5 HY1.out
      have zf := frz5 HY1.out
      have HY2 : Hid ((wr.setCell ⟨w.heap.size, 4, none⟩ (.slice q x.f4.length c)).heap[w.heap.size + 1]? = some (.cells #[.int .i64 0, .int .i64 0, .int .i64 0, .int .i64 0, .slice none 0 0] 26)) := (Below.heap_setCell _ _ _ _ (by show w.heap.size + 1 ≠ w.heap.size; omega)).trans HY1.out
      have HO2 : Hid ((wr.setCell ⟨w.heap.size, 4, none⟩ (.slice q x.f4.length c)).ownsRow W0.heap.size 68 2 (.slice q x.f4.length c) x.f4.length (rEntry x.f4)) := own_set_lt HOE.out _ (by show w.heap.size < _; rw [HZ0.out]; omega)
      have HB2 : Hid (Below w.heap.size w (wr.setCell ⟨w.heap.size, 4, none⟩ (.slice q x.f4.length c))) := HB.out.setCell (Nat.le_refl _) _
      have HO3 : Hid ((((((((wr.setCell ⟨w.heap.size, 4, none⟩ (.slice q x.f4.length c)).setCell ⟨w.heap.size + 1, 0, none⟩ ((.int .i64 x.f0))).setCell ⟨w.heap.size + 1, 1, none⟩ ((.int .i64 x.f1))).setCell ⟨w.heap.size + 1, 2, none⟩ ((.int .i64 x.f2))).setCell ⟨w.heap.size + 1, 3, none⟩ ((.int .i64 x.f3))).setCell ⟨w.heap.size + 1, 4, none⟩ ((.slice q x.f4.length c)))).ownsRow w.heap.size 68 2 (.slice q x.f4.length c) x.f4.length (rEntry x.f4)) := own_low (store5_own _ _ _ _ _ HO2.out (by rw [HZ0.out]; omega)) (by rw [HZ0.out]; omega)
      have HB3 : Hid (Below w.heap.size w (((((((wr.setCell ⟨w.heap.size, 4, none⟩ (.slice q x.f4.length c)).setCell ⟨w.heap.size + 1, 0, none⟩ ((.int .i64 x.f0))).setCell ⟨w.heap.size + 1, 1, none⟩ ((.int .i64 x.f1))).setCell ⟨w.heap.size + 1, 2, none⟩ ((.int .i64 x.f2))).setCell ⟨w.heap.size + 1, 3, none⟩ ((.int .i64 x.f3))).setCell ⟨w.heap.size + 1, 4, none⟩ ((.slice q x.f4.length c))))) := store5_bel _ _ _ _ _ HB2.out (by omega)
      obtain ⟨y0, y1, y2, y3, y4⟩ := box5 (store5 (.int .i64 x.f0) (.int .i64 x.f1) (.int .i64 x.f2) (.int .i64 x.f3) (.slice q x.f4.length c) HY2.out)
      go_wp2
      refine bodyPost_ret (v := .agg #[.int .i64 x.f0, .int .i64 x.f1, .int .i64 x.f2, .int .i64 x.f3, .slice q x.f4.length c]) (by simp [results, Try.results32, go_sem, y0, y1, y2, y3, y4]) rfl ?_
      exact ⟨_, _, rfl, HO3.out, HB3.out⟩

set_option maxRecDepth 20000 in
set_option maxHeartbeats 4000000 in
theorem lastTerm_c (x : S_Wal) (b : Nat) (p : Option Addr) (cap : Nat) (w : World) (hn : x.f4.length ≤ 1048576) (hx : w.heap[b]? = some (.cells #[.int .i64 x.f0, .int .i64 x.f1, .int .i64 x.f2, .int .i64 x.f3, .slice p x.f4.length cap] 26)) (hr : RowR w (.slice p x.f4.length cap) x.f4.length 2 (rEntry x.f4)) :
    Calls Try.prog 82 #[.pointer (some ⟨b, 0, none⟩)] w fun e w' => e = .returned (.int .i64 (lastT x)) ∧ Below w.heap.size w w' := by
  have HX : Hid (w.heap[b]? = some (.cells #[.int .i64 x.f0, .int .i64 x.f1, .int .i64 x.f2, .int .i64 x.f3, .slice p x.f4.length cap] 26)) := hx
  have hn' : (x.f4.length : Int) ≤ 1048576 := by omega
  clear hx
  obtain ⟨d0, d1, d2, d3, d4⟩ := box5 HX.out
  rcases Nat.eq_zero_or_pos x.f4.length with h0 | h0
  · have HF : Hid (lastT x = x.f3) := lastT_none h0
    have h0' : ((x.f4.length : Int) == 0) = true := beq_iff_eq.2 (by omega)
    clear h0 hr hn
    go_enter Try.func82, Try.ntmps82
    go_wp2
    go_ret
    exact ⟨by rw [HF.out]; rfl, Below.refl _ _⟩
  · have hlt : x.f4.length - 1 < x.f4.length := by omega
    have HF : Hid (lastT x = x.f4[x.f4.length - 1].f0) := lastT_some hlt
    obtain ⟨g, off, cap', hv, hb, hc⟩ := hr.some h0 (by decide)
    simp only [Value.slice.injEq, true_and] at hv
    obtain ⟨rfl, rfl⟩ := hv
    have c0 : w.cell? ⟨g, off + (x.f4.length - 1) * 2, none⟩ = some (.int .i64 (x.f4[x.f4.length - 1]).f0) := by
      rw [hc ((x.f4.length - 1) * 2) (by omega)]
      exact flat_at cEntry 2 cEntry_len x.f4 (x.f4.length - 1) 0 hlt (by decide)
    have h0' : ((x.f4.length : Int) == 0) = false := beq_eq_false_iff_ne.2 (by omega)
    obtain ⟨m, hm⟩ : ∃ m, m = x.f4.length - 1 := ⟨_, rfl⟩
    have hw : IntKind.i64.wrap ((x.f4.length : Int) - 1) = (m : Int) := by rw [IntWalk.i64_in _ (by omega)]; omega
    have hml : (m : Int) < (x.f4.length : Int) := by omega
    have c1 : w.cell? ⟨g, off + m * 2, none⟩ = some (.int .i64 (x.f4[x.f4.length - 1]).f0) := by rw [hm]; exact c0
    clear c0 hc hr hn
    generalize (x.f4[x.f4.length - 1]).f0 = Y at c1 HF
    clear hlt h0 hm
    go_enter Try.func82, Try.ntmps82
    go_upto_region 3 with fail
    refine wp_region_told (fun W => Below w.heap.size w W) (by kernel_rfl) (by kernel_rfl) ((Below.refl w.heap.size w).drew) ?_
    refine told_pure (some 13) (.pointer (some ⟨b, 0, none⟩)) rfl (by kernel_rfl) (fun _ => by kernel_rfl) ?_
    refine told_pure (some 14) (.pointer (some ⟨b, 0, none⟩)) rfl (by kernel_rfl) (fun _ => by kernel_rfl) ?_
    refine told_pure (some 15) (.pointer (some ⟨b, 4, none⟩)) rfl (by kernel_rfl) (fun _ => by kernel_rfl) ?_
    refine told_load (some 16) ⟨b, 4, none⟩ (.slice (some ⟨g, off, none⟩) x.f4.length cap) rfl (by kernel_rfl) (fun _ => by kernel_rfl) (fun _ hS => atB hS d4) ?_
    refine told_pure (some 17) (.pointer (some ⟨b, 0, none⟩)) rfl (by kernel_rfl) (fun _ => by kernel_rfl) ?_
    refine told_pure (some 18) (.pointer (some ⟨b, 0, none⟩)) rfl (by kernel_rfl) (fun _ => by kernel_rfl) ?_
    refine told_pure (some 19) (.pointer (some ⟨b, 4, none⟩)) rfl (by kernel_rfl) (fun _ => by kernel_rfl) ?_
    refine told_load (some 20) ⟨b, 4, none⟩ (.slice (some ⟨g, off, none⟩) x.f4.length cap) rfl (by kernel_rfl) (fun _ => by kernel_rfl) (fun _ hS => atB hS d4) ?_
    refine told_pure (some 21) (.int .i64 x.f4.length) rfl (by kernel_rfl) (fun _ => by kernel_rfl) ?_
    refine told_is (some 22) (.int .i64 (IntKind.i64.wrap ((x.f4.length : Int) - 1))) (.int .i64 (m : Int)) (by rw [hw]) rfl (by kernel_rfl) (fun _ => by kernel_rfl) ?_
    refine told_pure (some 23) (.pointer (some ⟨g, off + m * 2, none⟩)) rfl (by kernel_rfl) (fun w => by go_simp) ?_
    refine told_pure (some 24) (.pointer (some ⟨g, off + m * 2, none⟩)) rfl (by kernel_rfl) (fun _ => by kernel_rfl) ?_
    refine told_load (some 25) ⟨g, off + m * 2, none⟩ (.int .i64 Y) rfl (by kernel_rfl) (fun _ => by kernel_rfl) (fun _ hS => atB hS c1) ?_
    refine told_pure (some 2) (.int .i64 Y) rfl (by kernel_rfl) (fun _ => by kernel_rfl) ?_
    refine told_nil ?_
    intro w9 hS9
    simp only [Act.put, List.setIfInBounds_toArray, List.set_cons_zero, List.set_cons_succ]
    have HB9 : Hid (Below w.heap.size w w9) := hS9
    clear hS9
    go_wp2
    go_ret
    exact ⟨by rw [HF.out]; rfl, HB9.out⟩

end Go.Proofs.Ytengfkakiohfaaa
