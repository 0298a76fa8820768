/- A vocabulary and a text are drawn. -/
import Derived.Test.YtdggkcohidijcaaJV
namespace Go.Proofs.Ytdggkcohidijcaa
open Go.RowKit
set_option linter.unusedVariables false
set_option linter.unusedSimpArgs false

/-- A vocabulary and a text are drawn. -/
def EnD (w : World) (e : Ending) (w' : World) : Prop := ∃ (L : List S_Pair) (p : Option Addr) (c : Nat) (s : ByteArray), e = .returned (.tuple #[.agg #[.slice p L.length c], .string s]) ∧ L.length ≤ 66 ∧ s.size ≤ 300000 ∧ w'.ownsRow w.heap.size 88 2 (.slice p L.length c) L.length (rPair L) ∧ Below w.heap.size w w'

theorem gives_storesE {P : Program} {o : Oper} {ρ : Operand → Value} {w : World} {b : Nat} {cs : List Value} {old : Array Value} {t : TypeId} (hv : ∀ w, (execOp ρ o).run P w = ((storeCells ⟨b, 0, none⟩ cs 0) >>= fun _ => pure Next.skip : Sem Next).run P w) (h1 : ∀ v ∈ cs, v.oneCell' = true) (hb : w.heap[b]? = some (.cells old t)) (hl : old.size = cs.length) :
    gives P o ρ w fun u W => u = undef ∧ W = w.setCells b 0 cs :=
  gives_unit _ hv (run_storeCells_cells b 0 cs 0 w (fun j hj => by simp [World.cell?, hb]; omega) (fun j hj => by simp [World.frozen?, hb]) h1)

set_option maxRecDepth 20000 in
set_option maxHeartbeats 4000000 in
theorem drawEnc_c (w : World) (len cap : Nat) (ao : Option Addr) (zs : List Int) (hc : CodeAt w w.heap.size ao len zs) (hl : len ≤ 1048576) (hz : ∀ j, 0 ≤ zs.getD j 0 ∧ zs.getD j 0 ≤ 255) :
    Calls Try.prog 9 #[.slice ao len cap] w (EnD w) := by
  have HC : Hid (CodeAt w w.heap.size ao len zs) := hc
  have HZ : Hid (∀ j, 0 ≤ zs.getD j 0 ∧ zs.getD j 0 ≤ 255) := hz
  obtain ⟨x0, hx0⟩ : ∃ W, W = w.alloc (.cells #[.slice none 0 0] 26) := ⟨_, rfl⟩
  have Hx0 : Hid (w.alloc (.cells #[.slice none 0 0] 26) = x0) := hx0.symm
  have HX0 : Hid (x0.heap[w.heap.size]? = some (.cells #[.slice none 0 0] 26)) := by rw [hx0]; exact alloc_last _ _
  have HB0 : Hid (Below w.heap.size w x0) := by rw [hx0]; exact (Below.refl _ _).alloc (Nat.le_refl _) _
  have HSZ0 : Hid (w.heap.size < x0.heap.size) := by show _ < _; rw [hx0]; simp
  clear hx0 hz hc
  go_enter Try.func9, Try.ntmps9
  go_wp2_with fail
  rw [Hx0.out]
  refine (cursor_any x0 ao len cap zs (codeBel HC.out HB0.out) hl HZ.out).mono ?_
  rintro e x1 ⟨rfl, hC1, hg1⟩
  obtain ⟨B, hB⟩ : ∃ B, x0.heap.size = B := ⟨_, rfl⟩
  have HBB : Hid (x0.heap.size = B) := hB
  have HC1 : Hid (Cur x1 B ao len cap zs (newF zs len)) := by rw [← hB]; exact hC1
  have HB1 : Hid (Below w.heap.size w x1) := HB0.out.trans ((belOf hg1).mono HB0.out.size)
  have HX1 : Hid (x1.heap[w.heap.size]? = some (.cells #[.slice none 0 0] 26)) := ((belOf hg1).block _ (lt_of_some HX0.out)).trans HX0.out
  rw [hB]
  clear hC1 hg1 hB
  go_wp2_with fail
  refine (size_c 15 x1 ao len cap (by decide) (by decide) hl).mono ?_
  rintro e xz ⟨m, rfl, hm0, hm1, hw⟩
  replace hw := hw.symm
  subst hw
  go_wp2_with fail
  refine (l7Any_c x1 B len cap ao zs (newF zs len) m ⟨hm0, hm1⟩ HC1.out hl HZ.out).mono ?_
  rintro e x2 ⟨L, p, c, st, rfl, hLl, hown, hC2, hg2⟩
  have HLl : Hid (L.length ≤ 66) := hLl
  obtain ⟨bv, hbv⟩ : ∃ b, x2.heap.size = b := ⟨_, rfl⟩
  obtain ⟨bo, hbo⟩ : ∃ b, x1.heap.size = b := ⟨_, rfl⟩
  obtain ⟨x3, hx3⟩ : ∃ W, W = x2.alloc (.cells #[.slice p L.length c] 26) := ⟨_, rfl⟩
  have Hx3 : Hid (x2.alloc (.cells #[.slice p L.length c] 26) = x3) := hx3.symm
  have HBV : Hid (x2.heap.size = bv) := hbv
  have S3 : Hid (WbS w B len cap ao zs bo bv x3 L p c st) := by
    have h1 := HSZ0.out; have h2 := HBB.out; have h3 := HC1.out.lt; have h4 := hg2.size
    have hb : Below x2.heap.size x2 x3 := by rw [hx3]; exact (Below.refl _ _).alloc (Nat.le_refl _) _
    have hd : Below w.heap.size w x2 := belCur HB1.out hg2 (by omega)
    rw [hbo] at hown
    exact ⟨Cur.keep hC2 (grownV hb) (by simp), hd.trans (hb.mono hd.size), (hb.block _ (lt_of_some (blk_curV HX1.out hg2 (by omega)))).trans (blk_curV HX1.out hg2 (by omega)), by rw [hx3, ← hbv]; exact alloc_last _ _, own_bel hown hb (Nat.le_refl _), by omega, by omega, by omega⟩
  clear hown hC2 hg2 hLl hx3 hbv hbo hm0 hm1
  have SD : Hid (WbS w B len cap ao zs bo bv x3.drew L p c st) := S3.out.bel (Below.refl _ _).drew
  go_upto_region 3 with fail
  rw [Hx3.out, HBV.out]
  refine wp_region_L [⟨6, fun W => ∀ j u, ([.slice p L.length c] : List Value)[j]? = some u → W.cell? ((⟨bv, 0, none⟩ : Addr).add j) = some u⟩, ⟨5, fun W => ∀ j u, ([.slice p L.length c] : List Value)[j]? = some u → W.cell? ((⟨bv, 0, none⟩ : Addr).add j) = some u⟩] (by kernel_rfl) (fun f hf => by
      simp only [List.mem_cons, List.not_mem_nil, or_false] at hf
      rcases hf with rfl | rfl
      · exact (cell1V (box1 SD.out.box))
      · exact (cell1V (box1 SD.out.box))
      ) ?_
  refine At.take 0 (some 12) (.agg #[.slice p L.length c]) rfl rfl (by kernel_rfl) (by kernel_rfl) (by kernel_rfl) (by kernel_rfl) (fun _ _ _ h => h) (yl_loads 6 ⟨bv, 0, none⟩ [.slice p L.length c] (List.mem_cons_self) [6] (by kernel_rfl) rfl (by kernel_rfl) (fun _ => by kernel_rfl)) ?_
  refine At.take 1 (some 13) (.pointer (some ⟨B, 0, none⟩)) rfl rfl (by kernel_rfl) (by kernel_rfl) (by kernel_rfl) (by kernel_rfl) (fun _ _ _ h => h) (yl_pure (by kernel_rfl) (fun _ => by kernel_rfl)) ?_
  refine At.take 2 (some 14) (.agg #[.slice p L.length c]) rfl rfl (by kernel_rfl) (by kernel_rfl) (by kernel_rfl) (by kernel_rfl) (fun _ _ _ h => h) (yl_loads 5 ⟨bv, 0, none⟩ [.slice p L.length c] (List.mem_cons_of_mem _ (List.mem_cons_self)) [5] (by kernel_rfl) rfl (by kernel_rfl) (fun _ => by kernel_rfl)) ?_
  refine At.take 3 (some 15) (.slice ao len cap) rfl rfl (by kernel_rfl) (by kernel_rfl) (by kernel_rfl) (by kernel_rfl) (fun _ _ _ h => h) (yl_pure (by kernel_rfl) (fun _ => by kernel_rfl)) ?_
  refine At.step 4 (some 16) rfl rfl (by kernel_rfl) (by kernel_rfl) (fun u W => ∃ n : Int, u = .int .i64 n ∧ 0 ≤ n ∧ n ≤ 10 ∧ W = x3.drew) (gives_call (by kernel_rfl) ((sizeT_c 10 x3.drew ao len cap (by decide) (by decide) hl).mono fun e w' ⟨n, he, h0, h1, hw⟩ => ⟨_, he, n, rfl, h0, h1, hw⟩)) ?_
  rintro u WA ⟨m2, rfl, m20, m21, hWA⟩
  replace hWA := hWA.symm
  subst hWA
  refine ⟨held_cons (.inr ((cell1V (box1 SD.out.box)))) (held_cons (.inr ((cell1V (box1 SD.out.box)))) (held_nil)), ?_⟩
  refine At.step 5 (some 17) rfl rfl (by kernel_rfl) (by kernel_rfl) (fun u W => ∃ (s : ByteArray) (s6 : Nat × Int), u = .string s ∧ s.size ≤ 300000 ∧ Cur W B ao len cap zs s6 ∧ x3.drew.grownBy W (some B)) (gives_call (by kernel_rfl) ((l9Line_c x3.drew B len cap ao zs st m2 ⟨m20, by omega⟩ L p c bo (by have := HLl.out; omega) SD.out.row SD.out.mid SD.out.cur hl HZ.out).mono fun e w' ⟨s, s6, he, h0, h1, hw⟩ => ⟨_, he, s, s6, rfl, h0, h1, hw⟩)) ?_
  rintro u W4 ⟨s, s6, rfl, hs, hC4, hg4⟩
  have S4 : Hid (WbS w B len cap ao zs bo bv W4 L p c s6) := SD.out.call hC4 hg4
  have HSZ : Hid (s.size ≤ 300000) := hs
  clear hC4 hg4 hs m20 m21
  refine ⟨held_cons (.inr ((cell1V (box1 S4.out.box)))) (held_cons (.inl (by kernel_rfl)) (held_nil)), ?_⟩
  refine At.step 6 none rfl rfl (by kernel_rfl) (by kernel_rfl) (fun u W => u = undef ∧ W = W4.setCells w.heap.size 0 [.slice p L.length c]) (gives_storesE (b := w.heap.size) (cs := [.slice p L.length c]) (fun _ => by kernel_rfl) (by intro v hv; rw [List.mem_singleton.1 hv]; rfl) S4.out.out rfl) ?_
  rintro u W5 ⟨rfl, hW5⟩
  refine ⟨held_cons (.inl (by kernel_rfl)) (held_cons (.inl (by kernel_rfl)) (held_nil)), ?_⟩
  refine At.take 7 (some 3) (.string s) rfl rfl (by kernel_rfl) (by kernel_rfl) (by kernel_rfl) (by kernel_rfl) (fun _ _ _ h => h) (yl_pure (by kernel_rfl) (fun _ => by kernel_rfl)) ?_
  refine At.done (by kernel_rfl) ?_
  simp only [Act.put, List.setIfInBounds_toArray, List.set_cons_zero, List.set_cons_succ]
  have hset : W4.setCells w.heap.size 0 [.slice p L.length c] = W4.setCell ⟨w.heap.size, 0, none⟩ (.slice p L.length c) := rfl
  rw [hset] at hW5
  have z9 := box1 (set1V S4.out.out (.slice p L.length c))
  rw [← hW5] at z9
  have HF : Hid (W5.ownsRow w.heap.size 88 2 (.slice p L.length c) L.length (rPair L)) := by rw [hW5]; exact own_set_kind (own_low S4.out.row (by have := S4.out.lo; have := S4.out.mid; omega)) ⟨w.heap.size, 0, none⟩ _ S4.out.out (by decide)
  have HBF : Hid (Below w.heap.size w W5) := by rw [hW5]; exact S4.out.down.setCell (Nat.le_refl _) _
  clear hset hW5 S3 SD S4
  go_wp2
  exact bodyPost_ret (v := .tuple #[.agg #[.slice p L.length c], .string s]) (by simp [results, Try.results9, go_sem, z9]) rfl ⟨L, p, c, s, rfl, HLl.out, HSZ.out, HF.out, HBF.out⟩

end Go.Proofs.Ytdggkcohidijcaa
