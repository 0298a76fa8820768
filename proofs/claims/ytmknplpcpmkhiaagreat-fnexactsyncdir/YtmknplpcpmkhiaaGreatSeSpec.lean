/- What settles a disk, the specification's: by contracts. -/
import Derived.Test.YtmknplpcpmkhiaaGreatJS
import Derived.Test.YtmknplpcpmkhiaaGreatDkSync
namespace Go.Proofs.YtmknplpcpmkhiaaGreat
open Go.RowKit Go.Maps
set_option linter.unusedVariables false

theorem gives_storesD {P : Program} {o : Oper} {ρ : Operand → Value} {w : World} {b : Nat} {cs : List Value} {old : Array Value} {t : TypeId} (hv : ∀ w, (execOp ρ o).run P w = ((storeCells ⟨b, 0, none⟩ cs 0) >>= fun _ => pure Next.skip : Sem Next).run P w) (h1 : ∀ v ∈ cs, v.oneCell' = true) (hb : w.heap[b]? = some (.cells old t)) (hl : old.size = cs.length) :
    gives P o ρ w fun u W => u = undef ∧ W = w.setCells b 0 cs :=
  gives_unit _ hv (run_storeCells_cells b 0 cs 0 w (fun j hj => by simp [World.cell?, hb]; omega) (fun j hj => by simp [World.frozen?, hb]) h1)

theorem cells3D {w : World} {b n : Nat} {a0 a1 a2 : Value} (h0 : w.cell? ⟨b, n, none⟩ = some a0) (h1 : w.cell? ⟨b, n + 1, none⟩ = some a1) (h2 : w.cell? ⟨b, n + 2, none⟩ = some a2) :
    ∀ j u, [a0, a1, a2][j]? = some u → w.cell? ((⟨b, n, none⟩ : Addr).add j) = some u := by
  intro j u h
  rw [Addr.add_mid]
  rcases j with _ | _ | _ | j
  · simp only [List.getElem?_cons_zero, Option.some.injEq] at h; rw [← h]; exact h0
  · simp only [List.getElem?_cons_succ, List.getElem?_cons_zero, Option.some.injEq] at h; rw [← h]; exact h1
  · simp only [List.getElem?_cons_succ, List.getElem?_cons_zero, Option.some.injEq] at h; rw [← h]; exact h2
  · simp at h

set_option maxRecDepth 20000 in
set_option maxHeartbeats 4000000 in
theorem settled_c (a b : Int) (v2 v3 v4 : Value) (p2 pl : Option Addr) (c2 cl : Nat) (I : List S_Inode) (L : List S_Link) (w : World) (hI : I.length ≤ 1048576) (hL : L.length ≤ 1048576) (hr2 : RowR w (.slice p2 I.length c2) I.length 3 (rInode I)) (hrl : RowR w (.slice pl L.length cl) L.length 2 (rLink L)) :
    Calls Tryz.prog 41 #[.agg #[.int .i64 a, .int .i64 b, v2, v3, v4], .slice pl L.length cl, .slice p2 I.length c2] w fun e w' => ∃ q d, e = .returned (.agg #[.int .i64 a, .int .i64 b, .slice q (I.filter fun y => lnk L y.f0).length d, .slice pl L.length cl, .slice none 0 0]) ∧ RowR w' (.slice q (I.filter fun y => lnk L y.f0).length d) (I.filter fun y => lnk L y.f0).length 3 (rInode (I.filter fun y => lnk L y.f0)) ∧ Below w.heap.size w w' := by
  obtain ⟨iI, hiI, hI0, hI1, hI2⟩ := info_parts infoInode
  have HRI : Hid (∀ W, Below w.heap.size w W → RowR W (.slice p2 I.length c2) I.length 3 (rInode I)) := fun W h => hr2.keep h (Nat.le_refl _)
  have HRL : Hid (∀ W, Below w.heap.size w W → RowR W (.slice pl L.length cl) L.length 2 (rLink L)) := fun W h => hrl.keep h (Nat.le_refl _)
  clear hr2 hrl
  go_enter Tryz.func41, Tryz.ntmps41
  go_upto_region 2 with fail
  refine wp_genD (fun W => Hid (W.heap[w.heap.size + 2]? = some (.cells #[.int .i64 a, .int .i64 b, .slice none 0 0, .slice pl L.length cl, .slice none 0 0] 28)) ∧ Hid (W.heap[w.heap.size + 1]? = some (.cells #[.int .i64 0, .int .i64 0, .slice none 0 0, .slice none 0 0, .slice none 0 0] 28)) ∧ Hid (Below w.heap.size w W) ∧ Hid (w.heap.size + 3 ≤ W.heap.size)) ⟨?_, ?_, ?_, ?_⟩ ?_
  · show _ = _
    have h := alloc_at ((w.alloc (.cells #[.int .i64 a, .int .i64 b, v2, v3, v4] 28)).alloc (.cells #[.int .i64 0, .int .i64 0, .slice none 0 0, .slice none 0 0, .slice none 0 0] 28)) (.cells #[.int .i64 a, .int .i64 b, .slice none 0 0, .slice pl L.length cl, .slice none 0 0] 28)
    rw [World.size_alloc, World.size_alloc] at h
    exact h
  · show _ = _
    rw [Below.heap_alloc _ _ _ (by simp)]
    have h := alloc_at (w.alloc (.cells #[.int .i64 a, .int .i64 b, v2, v3, v4] 28)) (.cells #[.int .i64 0, .int .i64 0, .slice none 0 0, .slice none 0 0, .slice none 0 0] 28)
    rw [World.size_alloc] at h
    exact h
  · exact (((Below.refl _ _).alloc (Nat.le_refl _) _).alloc (by simp) _).alloc (by rw [World.size_alloc, World.size_alloc]; omega) _
  · show _ ≤ _
    simp
  rintro W0 ⟨HY0, HZ0, HB0, HS0⟩
  go_wp2_with fail
  go_loopw [8] (fun iv wr => ∃ (k : Nat) (q : Option Addr) (d : Nat), iv = .int .i64 (k : Int) ∧ k ≤ I.length ∧ Hid (wr.heap[w.heap.size + 2]? = some (.cells #[.int .i64 a, .int .i64 b, .slice q ((I.take k).filter fun y => lnk L y.f0).length d, .slice pl L.length cl, .slice none 0 0] 28)) ∧ Hid (wr.heap[w.heap.size + 1]? = some (.cells #[.int .i64 0, .int .i64 0, .slice none 0 0, .slice none 0 0, .slice none 0 0] 28)) ∧ Hid (wr.ownsRow (w.heap.size + 3) 47 3 (.slice q ((I.take k).filter fun y => lnk L y.f0).length d) ((I.take k).filter fun y => lnk L y.f0).length (rInode ((I.take k).filter fun y => lnk L y.f0))) ∧ Hid (Below w.heap.size w wr) ∧ Hid (w.heap.size + 3 ≤ wr.heap.size)) (fun iv _ => I.length - (intOf iv).toNat)
  case atStart => exact ⟨0, none, 0, rfl, Nat.zero_le _, HY0, HZ0, ⟨rfl, .inl ⟨rfl, rfl⟩⟩, HB0, HS0⟩
  case round =>
    obtain ⟨k, q, d, rfl, hk, HY, HZ, HO, HB, HS⟩ := hrel
    clear HY0 HZ0 HB0 HS0
    by_cases hlt : k < I.length
    · have hlt' : (k : Int) < I.length := by omega
      obtain ⟨g, off, cap', hv, hbl, hc⟩ := inode_cells (HRI.out wr HB.out) (by omega)
      simp only [Value.slice.injEq, true_and] at hv
      obtain ⟨rfl, rfl⟩ := hv
      obtain ⟨c0, c1, c3⟩ := hc k hlt
      have HF : Hid ((I.take (k + 1)).filter (fun y => lnk L y.f0) = (I.take k).filter (fun y => lnk L y.f0) ++ (if lnk L I[k].f0 then [I[k]] else [])) := filter_take _ I k hlt
      have hGl : ((I.take k).filter fun y => lnk L y.f0).length ≤ 1048576 := Nat.le_trans (List.length_filter_le _ _) (by rw [List.length_take]; omega)
      clear hc
      generalize I[k] = X at c0 c1 c3 HF
      obtain ⟨G, hG⟩ : ∃ G, ((I.take k).filter fun y => lnk L y.f0) = G := ⟨_, rfl⟩
      rw [hG] at HY HO HF hGl
      clear hG
      go_wp2_with fail
      refine (linked_c _ L X.f0 wr hL (HRL.out wr HB.out)).mono ?_
      rintro e w1 ⟨rfl, hw⟩
      replace hw := hw.symm
      subst hw
      rw [show (L.any fun x => decide (x.f1 = X.f0)) = lnk L X.f0 from rfl]
      cases hl : lnk L X.f0
      · have HF2 : Hid ((I.take (k + 1)).filter (fun y => lnk L y.f0) = G) := by
          show _ = _
          rw [HF.out, hl]
          simp
        clear HF hl
        go_wp2
        go_roundw
        case rel =>
          refine ⟨k + 1, q, d, by go_num, by omega, ?_, HZ, ?_, HB, HS⟩
          · rw [HF2.out]; exact HY
          · rw [HF2.out]; exact HO
        case measure => simp [intOf]; omega
      · have HF2 : Hid ((I.take (k + 1)).filter (fun y => lnk L y.f0) = G ++ [X]) := by
          show _ = _
          rw [HF.out, hl]
          simp
        clear HF hl
        obtain ⟨⟨y0, y1, y2, y3, y4⟩, yf⟩ := disk_cell HY.out
        have yf2 := yf 2
        clear yf
        go_upto_region 6 with fail
        refine wp_region_L [⟨7, fun W => W.cell? ⟨w.heap.size + 2, 2, none⟩ = some (.slice q G.length d)⟩, ⟨6, fun W => ∀ j u, ([.int .i64 X.f0, .string X.f1, .int .i64 X.f2] : List Value)[j]? = some u → W.cell? ((⟨g, off + k * 3, none⟩ : Addr).add j) = some u⟩] (by kernel_rfl) (fun f hf => by
            simp only [List.mem_cons, List.not_mem_nil, or_false] at hf
            rcases hf with rfl | rfl
            · exact y2
            · exact cells3D c0 c1 c3
            ) ?_
        refine At.take 0 (some 28) (.pointer (some ⟨w.heap.size + 2, 2, none⟩)) rfl rfl (by kernel_rfl) (by kernel_rfl) (by kernel_rfl) (by kernel_rfl) (fun _ _ _ h => h) (yl_pure (by kernel_rfl) (fun _ => by kernel_rfl)) ?_
        refine At.take 1 (some 29) (.slice q G.length d) rfl rfl (by kernel_rfl) (by kernel_rfl) (by kernel_rfl) (by kernel_rfl) (fun _ _ _ h => h) (yl_load 7 ⟨w.heap.size + 2, 2, none⟩ (.slice q G.length d) (List.mem_cons_self) [7] (by kernel_rfl) rfl (by kernel_rfl) (fun _ => by kernel_rfl)) ?_
        refine At.take 2 (some 30) (.slice (some ⟨g, off, none⟩) I.length c2) rfl rfl (by kernel_rfl) (by kernel_rfl) (by kernel_rfl) (by kernel_rfl) (fun _ _ _ h => h) (yl_pure (by kernel_rfl) (fun _ => by kernel_rfl)) ?_
        refine At.take 3 (some 31) (.int .i64 (k : Int)) rfl rfl (by kernel_rfl) (by kernel_rfl) (by kernel_rfl) (by kernel_rfl) (fun _ _ _ h => h) (yl_pure (by kernel_rfl) (fun _ => by kernel_rfl)) ?_
        refine At.take 4 (some 32) (.pointer (some ⟨g, off + k * 3, none⟩)) rfl rfl (by kernel_rfl) (by kernel_rfl) (by kernel_rfl) (by kernel_rfl) (fun _ _ _ h => h) (yl_pure (by kernel_rfl) (fun w => by go_simp)) ?_
        refine At.take 5 (some 33) (.agg #[.int .i64 X.f0, .string X.f1, .int .i64 X.f2]) rfl rfl (by kernel_rfl) (by kernel_rfl) (by kernel_rfl) (by kernel_rfl) (fun _ _ _ h => h) (yl_loads 6 ⟨g, off + k * 3, none⟩ [.int .i64 X.f0, .string X.f1, .int .i64 X.f2] (List.mem_cons_of_mem _ (List.mem_cons_self)) [6] (by kernel_rfl) rfl (by kernel_rfl) (fun _ => by kernel_rfl)) ?_
        refine At.step 6 (some 34) rfl rfl (by kernel_rfl) (by kernel_rfl) (fun u W => u = .slice (some ⟨wr.drew.heap.size, 0, none⟩) 1 1 ∧ W = wr.drew.alloc (.cells #[.int .i64 X.f0, .string X.f1, .int .i64 X.f2] 47)) (gives_run (by kernel_rfl)) ?_
        rintro u WB ⟨rfl, hWB⟩
        refine ⟨by rw [hWB]; exact held_cons (.inr (cell_alloc (y2))) (held_cons (.inl (by kernel_rfl)) (held_nil)), ?_⟩
        have HOB : Hid (WB.ownsRow (w.heap.size + 3) 47 3 (.slice q G.length d) G.length (rInode G)) := by rw [hWB]; exact (show wr.drew.ownsRow _ _ _ _ _ _ from HO.out).alloc _
        have HBB : Hid (Below w.heap.size w WB) := by rw [hWB]; exact HB.out.drew.alloc HB.out.size _
        have HYB : Hid (WB.heap[w.heap.size + 2]? = some (.cells #[.int .i64 a, .int .i64 b, .slice q G.length d, .slice pl L.length cl, .slice none 0 0] 28)) := by rw [hWB]; exact (Below.heap_alloc _ _ _ (lt_of_some HY.out)).trans HY.out
        have HZB : Hid (WB.heap[w.heap.size + 1]? = some (.cells #[.int .i64 0, .int .i64 0, .slice none 0 0, .slice none 0 0, .slice none 0 0] 28)) := by rw [hWB]; exact (Below.heap_alloc _ _ _ (lt_of_some HZ.out)).trans HZ.out
        have HSB : Hid (w.heap.size + 3 ≤ WB.heap.size) := by have h1 := HS.out; show _ ≤ _; rw [hWB, World.size_alloc]; show _ ≤ wr.heap.size + 1; omega
        obtain ⟨v', WC, hrunC, hownC, hgrowC, _⟩ := run_append_own (P := Tryz.prog) WB (w.heap.size + 3) 24 24 47 iI (.agg #[.int .i64 0, .string ⟨#[]⟩, .int .i64 0]) 3 32 Tryz.underlying24 hiI hI0 hI1 hI2 rfl (by decide) _ _ _ HOB.out ⟨wr.drew.heap.size, 0, none⟩ 1 1 [.int .i64 X.f0, .string X.f1, .int .i64 X.f2] rfl (by rw [hWB]; exact cells_new wr.drew _ _) (by intro u hu; simp at hu; rcases hu with rfl | rfl | rfl <;> rfl) (by unfold maxLen; omega) (by omega) (by have h1 := HSB.out; omega)
        obtain ⟨pv, cv, hvv, _, _⟩ := own_slice hownC
        subst hvv
        have hne : ∀ j, j < w.heap.size + 3 → some j ≠ ((.slice q G.length d) : Value).ownBlock := fun j hj e1 => by have := own_ge HOB.out _ e1.symm; omega
        have HYC : Hid (WC.heap[w.heap.size + 2]? = some (.cells #[.int .i64 a, .int .i64 b, .slice q G.length d, .slice pl L.length cl, .slice none 0 0] 28)) := (hgrowC.block _ (lt_of_some HYB.out) (hne _ (by omega))).trans HYB.out
        have HZC : Hid (WC.heap[w.heap.size + 1]? = some (.cells #[.int .i64 0, .int .i64 0, .slice none 0 0, .slice none 0 0, .slice none 0 0] 28)) := (hgrowC.block _ (lt_of_some HZB.out) (hne _ (by omega))).trans HZB.out
        have HOC : Hid (WC.ownsRow (w.heap.size + 3) 47 3 (.slice pv (G.length + 1) cv) (G.length + 1) (rInode (G ++ [X]))) := by
          have e1 : rInode (G ++ [X]) = rInode G ++ [.int .i64 X.f0, .string X.f1, .int .i64 X.f2] := by unfold rInode; rw [List.flatMap_append]; rfl
          show World.ownsRow _ _ _ _ _ _ _
          rw [e1]
          exact hownC
        have HBC : Hid (Below w.heap.size w WC) := HBB.out.grown hgrowC HBB.out.size (fun j hj => by have := own_ge HOB.out _ hj; omega)
        have HSC : Hid (w.heap.size + 3 ≤ WC.heap.size) := by have h1 := HSB.out; have h2 := hgrowC.size; show _ ≤ _; omega
        obtain ⟨⟨_, _, q2, _, _⟩, qf⟩ := disk_cell HYC.out
        have qf2 := qf 2
        refine At.step 7 (some 35) rfl rfl (by kernel_rfl) (by kernel_rfl) (fun u W => u = .slice pv (G.length + 1) cv ∧ W = WC) (gives_append (fun _ => by kernel_rfl) hrunC) ?_
        rintro u WC' ⟨rfl, hWC⟩
        subst hWC
        refine ⟨held_cons (.inl (by kernel_rfl)) (held_cons (.inl (by kernel_rfl)) (held_nil)), ?_⟩
        refine At.take 8 (some 36) (.pointer (some ⟨w.heap.size + 2, 2, none⟩)) rfl rfl (by kernel_rfl) (by kernel_rfl) (by kernel_rfl) (by kernel_rfl) (fun _ _ _ h => h) (yl_pure (by kernel_rfl) (fun _ => by kernel_rfl)) ?_
        refine At.step 9 none rfl rfl (by kernel_rfl) (by kernel_rfl) (fun u W => u = undef ∧ W = WC'.setCell ⟨w.heap.size + 2, 2, none⟩ (.slice pv (G.length + 1) cv)) (gives_store (p := ⟨w.heap.size + 2, 2, none⟩) (x := .slice pv (G.length + 1) cv) (y := (.slice q G.length d)) (fun _ => by kernel_rfl) (by rfl) q2 qf2) ?_
        rintro u WE ⟨rfl, hWE⟩
        refine ⟨held_cons (.inl (by kernel_rfl)) (held_cons (.inl (by kernel_rfl)) (held_nil)), ?_⟩
        refine At.done (by kernel_rfl) ?_
        simp only [Act.put, List.setIfInBounds_toArray, List.set_cons_zero, List.set_cons_succ]
        have HY5 : Hid (WE.heap[w.heap.size + 2]? = some (.cells #[.int .i64 a, .int .i64 b, .slice pv (G.length + 1) cv, .slice pl L.length cl, .slice none 0 0] 28)) := by rw [hWE]; exact (disk_set HYC.out).1 _
        have HZ5 : Hid (WE.heap[w.heap.size + 1]? = some (.cells #[.int .i64 0, .int .i64 0, .slice none 0 0, .slice none 0 0, .slice none 0 0] 28)) := by
          show _ = _
          rw [hWE, heap_set_ne _ _ (by show w.heap.size + 1 ≠ w.heap.size + 2; omega)]
          exact HZC.out
        have HO5 : Hid (WE.ownsRow (w.heap.size + 3) 47 3 (.slice pv (G.length + 1) cv) (G.length + 1) (rInode (G ++ [X]))) := by rw [hWE]; exact own_set_lt HOC.out _ (by show w.heap.size + 2 < w.heap.size + 3; omega)
        have HB5 : Hid (Below w.heap.size w WE) := by rw [hWE]; exact HBC.out.setCell (by show w.heap.size ≤ w.heap.size + 2; omega) _
        have HS5 : Hid (w.heap.size + 3 ≤ WE.heap.size) := by
          show _ ≤ _
          rw [hWE]
          simp only [World.setCell, Array.size_modify]
          exact HSC.out
        clear hWE hrunC q2 qf2 qf yf2 y0 y1 y2 y3 y4 c0 c1 c3 HOB HBB HYB HZB HSB hownC hgrowC hne hWB
        clear HYC HZC HOC HBC HSC HO HB HY HZ HS hbl
        go_wp2
        go_roundw
        case rel =>
          have hlen : (G ++ [X]).length = G.length + 1 := by simp
          refine ⟨k + 1, pv, cv, by go_num, by omega, ?_, HZ5, ?_, HB5, HS5⟩
          · rw [HF2.out, hlen]; exact HY5
          · rw [HF2.out, hlen]; exact HO5
        case measure => simp [intOf]; omega
    · have hke : k = I.length := by omega
      subst hke
      rw [List.take_length] at HY HO
      have hlt' : ¬ (I.length : Int) < I.length := by omega
      obtain ⟨⟨y0, y1, y2, y3, y4⟩, _⟩ := disk_cell HY.out
      obtain ⟨⟨z0, z1, z2, z3, z4⟩, zf⟩ := disk_cell HZ.out
      have zf0 := zf 0
      have zf1 := zf 1
      have zf2 := zf 2
      have zf3 := zf 3
      have zf4 := zf 4
      clear zf
      go_wp2
      refine bodyPost_ret (v := .agg #[.int .i64 a, .int .i64 b, .slice q (I.filter fun y => lnk L y.f0).length d, .slice pl L.length cl, .slice none 0 0]) (by simp [results, Tryz.results41, go_sem, z0, z1, z2, z3, z4]) rfl ⟨q, d, rfl, ?_, ?_⟩
      · have hs : ∀ {W : World}, W.ownsRow (w.heap.size + 3) 47 3 (.slice q (I.filter fun y => lnk L y.f0).length d) (I.filter fun y => lnk L y.f0).length (rInode (I.filter fun y => lnk L y.f0)) → ∀ u (o : Nat), (W.setCell ⟨w.heap.size + 1, o, none⟩ u).ownsRow (w.heap.size + 3) 47 3 (.slice q (I.filter fun y => lnk L y.f0).length d) (I.filter fun y => lnk L y.f0).length (rInode (I.filter fun y => lnk L y.f0)) := fun h u o => own_set_lt h u (by show w.heap.size + 1 < w.heap.size + 3; omega)
        exact RowR.own (hs (hs (hs (hs (hs HO.out _ 0) _ 1) _ 2) _ 3) _ 4)
      · exact ((((HB.out.setCell (by show w.heap.size ≤ w.heap.size + 1; omega) _).setCell (by show w.heap.size ≤ w.heap.size + 1; omega) _).setCell (by show w.heap.size ≤ w.heap.size + 1; omega) _).setCell (by show w.heap.size ≤ w.heap.size + 1; omega) _).setCell (by show w.heap.size ≤ w.heap.size + 1; omega) _

end Go.Proofs.YtmknplpcpmkhiaaGreat
