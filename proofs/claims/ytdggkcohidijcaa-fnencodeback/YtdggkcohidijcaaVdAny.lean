/- A vocabulary that is not right at times is drawn. -/
import Derived.Test.YtdggkcohidijcaaVdDrawC
import Derived.Test.YtdggkcohidijcaaRgHeld
import Derived.Test.YtdggkcohidijcaaRgCut
import Derived.Test.YtdggkcohidijcaaRgMade
namespace Go.Proofs.Ytdggkcohidijcaa
open Go.RowKit
set_option linter.unusedVariables false
set_option linter.unusedSimpArgs false

/-- While a vocabulary is drawn: the cursor, the answer's place, the place of the vocabulary and its row. -/
structure AnyS (w : World) (B len cap : Nat) (ao : Option Addr) (zs : List Int) (bv : Nat) (W : World) (L : List S_Pair) (p : Option Addr) (n c : Nat) (su : Nat × Int) : Prop where
  kd : Kd w W B ao len cap zs su
  out : W.heap[w.heap.size]? = some (.cells #[.slice none 0 0] 26)
  box : W.heap[bv]? = some (.cells #[.slice p n c] 26)
  row : W.ownsRow w.heap.size 88 2 (.slice p n c) n (rPair L)
  len : L.length = n
  old : B < w.heap.size
  new : w.heap.size < bv

section
variable {w W W' : World} {B len cap : Nat} {ao : Option Addr} {zs : List Int} {bv : Nat} {L : List S_Pair} {p : Option Addr} {n c : Nat} {su su' : Nat × Int}

theorem AnyS.bel (S : AnyS w B len cap ao zs bv W L p n c su) (h : Below W.heap.size W W') : AnyS w B len cap ao zs bv W' L p n c su :=
  ⟨S.kd.bel h, (h.block _ (lt_of_some S.out)).trans S.out, (h.block _ (lt_of_some S.box)).trans S.box, own_bel S.row h (Nat.le_refl _), S.len, S.old, S.new⟩

theorem AnyS.call (S : AnyS w B len cap ao zs bv W L p n c su) (hC : Cur W' B ao len cap zs su') (hg : W.grownBy W' (some B)) : AnyS w B len cap ao zs bv W' L p n c su' :=
  ⟨S.kd.call hC hg, blk_curV S.out hg (by have := S.old; omega), blk_curV S.box hg (by have := S.old; have := S.new; omega), own_curV S.row hg S.old, S.len, S.old, S.new⟩

/-- A row stays where a cell of a block of another kind is written. -/
theorem own_set_kind {base : Nat} {e e2 : TypeId} {size m : Nat} {v : Value} {xs : List Value} {cs : Array Value} {fz : Nat × Nat} (h : W.ownsRow base e size v m xs) (a : Addr) (u : Value) (hb : W.heap[a.block]? = some (.cells cs e2 fz)) (hne : e2 ≠ e) : (W.setCell a u).ownsRow base e size v m xs := by
  obtain ⟨h1, ⟨rfl, h2⟩ | ⟨g, cp, cur, rfl, hg2, hh, r⟩⟩ := h
  · exact ⟨h1, .inl ⟨rfl, h2⟩⟩
  · refine ⟨h1, .inr ⟨g, cp, cur, rfl, hg2, ?_, r⟩⟩
    rw [Below.heap_setCell _ _ _ _ (fun e1 => by
      rw [e1] at hh
      rw [hb] at hh
      simp only [Option.some.injEq, Obj.cells.injEq] at hh
      exact hne hh.2.1)]
    exact hh

/-- A pair is appended, and the vocabulary laid anew. -/
theorem AnyS.app (S : AnyS w B len cap ao zs bv W L p n c su) (hn : n ≤ 1000) (a b : Int) : ∃ q' c' W2, (Builtin.append_ #[24, 24] 24 #[.slice p n c, .slice (some ⟨W.heap.size, 0, none⟩) 1 1]).run Try.prog (W.alloc (.cells #[.int .i64 a, .int .i64 b] 88)) = .ok (.slice q' (n + 1) c') W2 ∧
    W2.heap[bv]? = some (.cells #[.slice p n c] 26) ∧ AnyS w B len cap ao zs bv (W2.setCell ⟨bv, 0, none⟩ (.slice q' (n + 1) c')) (L ++ [⟨a, b⟩]) q' (n + 1) c' su := by
  obtain ⟨i0, hi, hz0, hz1, hz2⟩ := info_parts infoPd
  have SA := S.bel (W' := W.alloc (.cells #[.int .i64 a, .int .i64 b] 88)) ((Below.refl _ _).alloc (Nat.le_refl _) _)
  have hsz : w.heap.size ≤ (W.alloc (.cells #[.int .i64 a, .int .i64 b] 88)).heap.size := SA.kd.grown.size
  obtain ⟨v', W2, hrun, hown, hgrow, _⟩ := run_append_own (P := Try.prog) (W.alloc (.cells #[.int .i64 a, .int .i64 b] 88)) w.heap.size 24 24 88 i0 (.agg #[.int .i64 0, .int .i64 0]) 2 16 Try.underlying24 hi hz0 hz1 hz2 rfl (by decide) (.slice p n c) n (rPair L) SA.row ⟨W.heap.size, 0, none⟩ 1 1 [.int .i64 a, .int .i64 b] rfl (cell_two_newV _ _ _ _) (by intro u hu; simp at hu; rcases hu with rfl | rfl <;> rfl) (by unfold maxLen; omega) (by omega) hsz
  obtain ⟨q', c', rfl⟩ := own_sliceV hown
  have hrb : ∀ k, (Value.slice p n c).ownBlock = some k → w.heap.size ≤ k := fun k hk => (SA.row.lt k hk).1
  have hne : ∀ k o e2 cs fz, (W.alloc (.cells #[.int .i64 a, .int .i64 b] 88)).heap[k]? = some o → o = .cells cs e2 fz → e2 ≠ 88 → some k ≠ (Value.slice p n c).ownBlock := by
    intro k o e2 cs fz hk ho he hkb
    obtain ⟨_, ⟨hv, _⟩ | ⟨g, cp, cur, hv, _, hh, _⟩⟩ := SA.row
    · rw [hv] at hkb; simp [Value.ownBlock] at hkb
    · rw [hv] at hkb
      simp only [Value.ownBlock, Option.some.injEq] at hkb
      subst hkb
      rw [hh] at hk
      simp only [Option.some.injEq] at hk
      subst hk
      simp only [Obj.cells.injEq] at ho
      exact he ho.2.1.symm
  have hbox : W2.heap[bv]? = some (.cells #[.slice p n c] 26) := (hgrow.block _ (lt_of_some SA.box) (hne _ _ _ _ _ SA.box rfl (by decide))).trans SA.box
  have hout : W2.heap[w.heap.size]? = some (.cells #[.slice none 0 0] 26) := (hgrow.block _ (lt_of_some SA.out) (hne _ _ _ _ _ SA.out rfl (by decide))).trans SA.out
  have hkd : Kd w W2 B ao len cap zs su := ⟨SA.kd.cur.keep hgrow (fun k hk => by have := hrb k hk; have := S.old; omega), SA.kd.grown.andThen hgrow (fun j hj => .inl (hrb j hj))⟩
  refine ⟨q', c', W2, hrun, hbox, ⟨hkd.set S.old ⟨bv, 0, none⟩ (by have := S.new; show w.heap.size ≤ bv; omega) _, ?_, set1V hbox _, ?_, by rw [List.length_append, S.len]; rfl, S.old, S.new⟩⟩
  · rw [Below.heap_setCell _ _ _ _ (by have := S.new; show w.heap.size ≠ bv; omega)]
    exact hout
  · refine own_set_kind ?_ ⟨bv, 0, none⟩ _ hbox (by decide)
    rw [rPair_oneV]
    exact hown

theorem pair_cells {L : List S_Pair} {k rb ro : Nat} (hc : ∀ j, j < n * 2 → W.cell? ⟨rb, ro + j, none⟩ = (rPair L)[j]?) (hkL : k < L.length) (hk : k < n) :
    ∀ j u, ([.int .i64 L[k].f0, .int .i64 L[k].f1] : List Value)[j]? = some u → W.cell? ((⟨rb, ro + k * 2, none⟩ : Addr).add j) = some u := by
  intro j u hj
  have hj2 : j < 2 := (List.getElem?_eq_some_iff.1 hj).1
  rw [Addr.add_mid, Nat.add_assoc, hc (k * 2 + j) (by omega), ← hj]
  exact flat_at cPair 2 cPair_len L k j hkL hj2

theorem set2V {b : Nat} {a0 a1 : Value} {t : TypeId} (h : W.heap[b]? = some (.cells #[a0, a1] t)) (u v : Value) : ((W.setCell ⟨b, 0, none⟩ u).setCell ⟨b, 1, none⟩ v).heap[b]? = some (.cells #[u, v] t) := by
  simp only [World.setCell, Array.getElem?_modify, if_true, h]
  rfl

/-- The vocabulary is laid anew with another row. -/
theorem AnyS.lay (S : AnyS w B len cap ao zs bv W L p n c su) {M : List S_Pair} {q : Option Addr} {m d : Nat} (hm : M.length = m) (hr : W.ownsRow w.heap.size 88 2 (.slice q m d) m (rPair M)) : AnyS w B len cap ao zs bv (W.setCell ⟨bv, 0, none⟩ (.slice q m d)) M q m d su := by
  refine ⟨S.kd.set S.old ⟨bv, 0, none⟩ (by have := S.new; show w.heap.size ≤ bv; omega) _, ?_, set1V S.box _, own_set_kind hr ⟨bv, 0, none⟩ _ S.box (by decide), hm, S.old, S.new⟩
  rw [Below.heap_setCell _ _ _ _ (by have := S.new; show w.heap.size ≠ bv; omega)]
  exact S.out

theorem AnyS.fin (S : AnyS w B len cap ao zs bv W L p n c su) : VoD w B len cap ao zs n (.returned (.agg #[.slice p L.length c])) (W.setCell ⟨w.heap.size, 0, none⟩ (.slice p n c)) := by
  have K := S.kd.set S.old ⟨w.heap.size, 0, none⟩ (Nat.le_refl _) (.slice p n c)
  refine ⟨L, p, c, su, rfl, Nat.le_of_eq S.len, ?_, K.cur, K.grown⟩
  rw [S.len]
  exact own_set_kind S.row ⟨w.heap.size, 0, none⟩ _ S.out (by decide)

theorem VoD.less {m m2 : Nat} {e : Ending} (h : VoD w B len cap ao zs m e W) (hm : m ≤ m2) : VoD w B len cap ao zs m2 e W := by
  obtain ⟨L, p, c, st, h1, h2, h3⟩ := h
  exact ⟨L, p, c, st, h1, Nat.le_trans h2 hm, h3⟩
end

set_option maxRecDepth 20000 in
set_option maxHeartbeats 16000000 in
theorem l7Any_c (w : World) (B len cap : Nat) (ao : Option Addr) (zs : List Int) (st : Nat × Int) (most : Int) (hm : 0 ≤ most ∧ most ≤ 1000) (hC : Cur w B ao len cap zs st) (hl : len ≤ 1048576) (hz : ∀ j, 0 ≤ zs.getD j 0 ∧ zs.getD j 0 ≤ 255) :
    Calls Try.prog 34 #[.pointer (some ⟨B, 0, none⟩), .int .i64 most] w (VoD w B len cap ao zs 66) := by
  have HZ : Hid (∀ j, 0 ≤ zs.getD j 0 ∧ zs.getD j 0 ≤ 255) := hz
  have hBW : B < w.heap.size := hC.lt
  have HBW : Hid (B < w.heap.size) := hBW
  obtain ⟨x0, hx0⟩ : ∃ W, W = w.alloc (.cells #[.slice none 0 0] 26) := ⟨_, rfl⟩
  have Hx0 : Hid (w.alloc (.cells #[.slice none 0 0] 26) = x0) := hx0.symm
  have HX0 : Hid (x0.heap[w.heap.size]? = some (.cells #[.slice none 0 0] 26)) := by rw [hx0]; exact alloc_last _ _
  have K0 : Hid (Kd w x0 B ao len cap zs st) := (⟨hC, World.grownBy.refl _ _⟩ : Kd w w B ao len cap zs st).bel (by rw [hx0]; exact (Below.refl _ _).alloc (Nat.le_refl _) _)
  have HSZ0 : Hid (w.heap.size < x0.heap.size) := by show _ < _; rw [hx0]; simp
  clear hx0 hz hC hBW
  go_enter Try.func34, Try.ntmps34
  go_wp2_with fail
  rw [Hx0.out]
  refine (l7Draw_c x0 B len cap ao zs st most hm K0.out.cur hl HZ.out).mono ?_
  rintro e x1 ⟨L, p, c, su, rfl, hLl, hown, hC1, hg1⟩
  have K1 : Hid (Kd w x1 B ao len cap zs su) := K0.out.call hC1 hg1
  have HX1 : Hid (x1.heap[w.heap.size]? = some (.cells #[.slice none 0 0] 26)) := blk_curV HX0.out hg1 (by have := HBW.out; omega)
  obtain ⟨n, hn⟩ : ∃ n, L.length = n := ⟨_, rfl⟩
  have HLN : Hid (L.length = n) := hn
  rw [hn] at hown hLl ⊢
  have HRW : Hid (x1.ownsRow w.heap.size 88 2 (.slice p n c) n (rPair L)) := own_low hown (Nat.le_of_lt HSZ0.out)
  have HSZ1 : Hid (w.heap.size < x1.heap.size) := Nat.lt_of_lt_of_le HSZ0.out hg1.size
  obtain ⟨bv, hbv⟩ : ∃ b, x1.heap.size = b := ⟨_, rfl⟩
  have HBV : Hid (x1.heap.size = bv) := hbv
  obtain ⟨x2, hx2⟩ : ∃ W, W = x1.alloc (.cells #[.slice p n c] 26) := ⟨_, rfl⟩
  have Hx2 : Hid (x1.alloc (.cells #[.slice p n c] 26) = x2) := hx2.symm
  have S2 : Hid (AnyS w B len cap ao zs bv x2 L p n c su) := by
    have hb : Below x1.heap.size x1 x2 := by rw [hx2]; exact (Below.refl _ _).alloc (Nat.le_refl _) _
    refine ⟨K1.out.bel hb, (hb.block _ (lt_of_some HX1.out)).trans HX1.out, ?_, own_bel HRW.out hb (Nat.le_refl _), HLN.out, HBW.out, by rw [← hbv]; exact HSZ1.out⟩
    rw [hx2, ← hbv]
    exact alloc_last _ _
  have hn60 : n ≤ 60 := hLl
  clear hx2 hown hC1 hg1 hn K1 HX1 HRW hLl hbv
  go_wp2_with fail
  rw [Hx2.out, HBV.out]
  refine (once_exV x2 B len cap ao zs su 8 S2.out.kd.cur hl HZ.out).mono ?_
  rintro e x3 ⟨t8, su3, rfl, hC3, hg3⟩
  have S3 : Hid (AnyS w B len cap ao zs bv x3 L p n c su3) := S2.out.call hC3 hg3
  clear hC3 hg3
  cases t8
  case false =>
    have z0 := box1 S3.out.out
    have zf0 := frz1V S3.out.out 0
    have y0 := box1 S3.out.box
    have HF := S3.out.fin
    have HLn := S3.out.len
    rw [HLn] at HF
    have HFF : Hid (VoD w B len cap ao zs 66 (.returned (.agg #[.slice p n c])) (x3.setCell ⟨w.heap.size, 0, none⟩ (.slice p n c))) := HF.less (by omega)
    have z9 := box1 (set1V S3.out.out (.slice p n c))
    clear HF HLn
    go_wp2
    exact bodyPost_ret (v := .agg #[.slice p n c]) (by simp [results, Try.results34, go_sem, z9, z0]) rfl HFF.out
  case true =>
  go_wp2_with fail
  refine (below_exV x3 B len cap ao zs su3 4 S3.out.kd.cur hl HZ.out).mono ?_
  rintro e x4 ⟨q, su4, rfl, q0, q1, hC4, hg4⟩
  have S4 : Hid (AnyS w B len cap ao zs bv x4 L p n c su4) := S3.out.call hC4 hg4
  clear hC4 hg4 q1
  by_cases hq0 : q = 0
  · subst hq0
    clear q0
    have e6 : IntKind.i64.wrap (256 + (n : Int)) = 256 + (n : Int) := IntWalk.i64_in _ (by omega)
    have SD : Hid (AnyS w B len cap ao zs bv x4.drew L p n c su4) := S4.out.bel (Below.refl _ _).drew
    go_upto_region 11 with fail
    refine wp_region_L [⟨11, fun W => W.cell? ⟨bv, 0, none⟩ = some (.slice p n c)⟩, ⟨7, fun W => W.cell? ⟨bv, 0, none⟩ = some (.slice p n c)⟩] (by kernel_rfl) (fun f hf => by
        simp only [List.mem_cons, List.not_mem_nil, or_false] at hf
        rcases hf with rfl | rfl
        · exact (box1 SD.out.box)
        · exact (box1 SD.out.box)
        ) ?_
    refine At.take 0 (some 37) (.pointer (some ⟨bv, 0, none⟩)) rfl rfl (by kernel_rfl) (by kernel_rfl) (by kernel_rfl) (by kernel_rfl) (fun _ _ _ h => h) (yl_pure (by kernel_rfl) (fun _ => by kernel_rfl)) ?_
    refine At.take 1 (some 38) (.slice p n c) rfl rfl (by kernel_rfl) (by kernel_rfl) (by kernel_rfl) (by kernel_rfl) (fun _ _ _ h => h) (yl_load 11 ⟨bv, 0, none⟩ (.slice p n c) (List.mem_cons_self) [11] (by kernel_rfl) rfl (by kernel_rfl) (fun _ => by kernel_rfl)) ?_
    refine At.take 2 (some 39) (.pointer (some ⟨B, 0, none⟩)) rfl rfl (by kernel_rfl) (by kernel_rfl) (by kernel_rfl) (by kernel_rfl) (fun _ _ _ h => h) (yl_pure (by kernel_rfl) (fun _ => by kernel_rfl)) ?_
    refine At.take 3 (some 40) (.pointer (some ⟨bv, 0, none⟩)) rfl rfl (by kernel_rfl) (by kernel_rfl) (by kernel_rfl) (by kernel_rfl) (fun _ _ _ h => h) (yl_pure (by kernel_rfl) (fun _ => by kernel_rfl)) ?_
    refine At.take 4 (some 41) (.slice p n c) rfl rfl (by kernel_rfl) (by kernel_rfl) (by kernel_rfl) (by kernel_rfl) (fun _ _ _ h => h) (yl_load 7 ⟨bv, 0, none⟩ (.slice p n c) (List.mem_cons_of_mem _ (List.mem_cons_self)) [5, 6, 7] (by kernel_rfl) rfl (by kernel_rfl) (fun _ => by kernel_rfl)) ?_
    refine At.take 5 (some 42) (.int .i64 (n : Int)) rfl rfl (by kernel_rfl) (by kernel_rfl) (by kernel_rfl) (by kernel_rfl) (fun _ _ _ h => h) (yl_pure (by kernel_rfl) (fun _ => by kernel_rfl)) ?_
    refine At.take 6 (some 43) (.int .i64 (256 + (n : Int))) rfl rfl (by kernel_rfl) (by kernel_rfl) (by kernel_rfl) (by kernel_rfl) (fun _ _ _ h => h) (yl_is (.int .i64 (IntKind.i64.wrap (256 + (n : Int)))) (by rw [e6]) (by kernel_rfl) (fun _ => by kernel_rfl)) ?_
    refine At.step 7 (some 44) rfl rfl (by kernel_rfl) (by kernel_rfl) (fun u W => u = .slice (some ⟨x4.drew.heap.size, 0, none⟩) 3 3 ∧ W = x4.drew.alloc (.cells #[.int .i64 (-1), .int .i64 (256 + (n : Int)), .int .i64 97] 3)) (gives_run (by kernel_rfl)) ?_
    rintro u WA ⟨rfl, hWA⟩
    have S5 : Hid (AnyS w B len cap ao zs bv WA L p n c su4) := by rw [hWA]; exact SD.out.bel ((Below.refl _ _).alloc (Nat.le_refl _) _)
    have HLs : Hid (WA.heap[x4.drew.heap.size]? = some (.cells (([-1, 256 + (n : Int), 97] : List Int).map (Value.int .i64)).toArray 3)) := by rw [hWA]; exact alloc_last _ _
    refine ⟨held_cons (.inr ((box1 S5.out.box))) (held_cons (.inl (by kernel_rfl)) (held_nil)), ?_⟩
    refine At.step 8 (some 45) rfl rfl (by kernel_rfl) (by kernel_rfl) (fun u W => ∃ (v : Int) (s6 : Nat × Int), u = .int .i64 v ∧ Cur W B ao len cap zs s6 ∧ WA.grownBy W (some B)) (gives_call (by kernel_rfl) ((pick_exV WA B len cap ao zs su4 x4.drew.heap.size [-1, 256 + (n : Int), 97] (by simp) (by simp) S5.out.kd.cur hl HZ.out (by have := SD.out.kd.cur.lt; omega) HLs.out).mono fun e w' ⟨v, s6, he, h1, h2⟩ => ⟨_, he, v, s6, rfl, h1, h2⟩)) ?_
    rintro u WB ⟨a1, s6, rfl, hC6, hg6⟩
    have S6 : Hid (AnyS w B len cap ao zs bv WB L p n c s6) := S5.out.call hC6 hg6
    refine ⟨held_cons (.inr ((box1 S6.out.box))) (held_cons (.inl (by kernel_rfl)) (held_nil)), ?_⟩
    refine At.take 9 (some 46) (.agg #[.int .i64 a1, .int .i64 98]) rfl rfl (by kernel_rfl) (by kernel_rfl) (by kernel_rfl) (by kernel_rfl) (fun _ _ _ h => h) (yl_pure (by kernel_rfl) (fun _ => by kernel_rfl)) ?_
    refine At.step 10 (some 47) rfl rfl (by kernel_rfl) (by kernel_rfl) (fun u W => u = .slice (some ⟨WB.heap.size, 0, none⟩) 1 1 ∧ W = WB.alloc (.cells #[.int .i64 a1, .int .i64 98] 88)) (gives_run (by kernel_rfl)) ?_
    rintro u WC ⟨rfl, hWC⟩
    have S7 : Hid (AnyS w B len cap ao zs bv WC L p n c s6) := by rw [hWC]; exact S6.out.bel ((Below.refl _ _).alloc (Nat.le_refl _) _)
    refine ⟨held_cons (.inr ((box1 S7.out.box))) (held_cons (.inl (by kernel_rfl)) (held_nil)), ?_⟩
    obtain ⟨q', c', WD, hrun, hbox, hS9⟩ := S6.out.app (by omega) a1 98
    rw [← hWC] at hrun
    refine At.step 11 (some 48) rfl rfl (by kernel_rfl) (by kernel_rfl) (fun u W => u = .slice q' (n + 1) c' ∧ W = WD) (gives_append (fun _ => by kernel_rfl) hrun) ?_
    rintro u WD' ⟨rfl, hWD⟩
    subst hWD
    refine ⟨held_cons (.inl (by kernel_rfl)) (held_cons (.inl (by kernel_rfl)) (held_nil)), ?_⟩
    refine At.take 12 (some 49) (.pointer (some ⟨bv, 0, none⟩)) rfl rfl (by kernel_rfl) (by kernel_rfl) (by kernel_rfl) (by kernel_rfl) (fun _ _ _ h => h) (yl_pure (by kernel_rfl) (fun _ => by kernel_rfl)) ?_
    refine At.step 13 none rfl rfl (by kernel_rfl) (by kernel_rfl) (fun u W => u = undef ∧ W = WD'.setCell ⟨bv, 0, none⟩ (.slice q' (n + 1) c')) (gives_store (p := ⟨bv, 0, none⟩) (x := .slice q' (n + 1) c') (y := .slice p n c) (fun _ => by kernel_rfl) (by rfl) (box1 hbox) (frz1V hbox 0)) ?_
    rintro u WE ⟨rfl, hWE⟩
    refine ⟨held_cons (.inl (by kernel_rfl)) (held_cons (.inl (by kernel_rfl)) (held_nil)), ?_⟩
    refine At.done (by kernel_rfl) ?_
    simp only [Act.put, List.setIfInBounds_toArray, List.set_cons_zero, List.set_cons_succ]
    have S9 : Hid (AnyS w B len cap ao zs bv WE (L ++ [⟨a1, 98⟩]) q' (n + 1) c' s6) := by rw [hWE]; exact hS9
    clear hWE hrun hbox hS9
    have z0 := box1 S9.out.out
    have zf0 := frz1V S9.out.out 0
    have y0 := box1 S9.out.box
    have HF := S9.out.fin
    have HLn := S9.out.len
    rw [HLn] at HF
    have HFF : Hid (VoD w B len cap ao zs 66 (.returned (.agg #[.slice q' (n + 1) c'])) (WE.setCell ⟨w.heap.size, 0, none⟩ (.slice q' (n + 1) c'))) := HF.less (by omega)
    have z9 := box1 (set1V S9.out.out (.slice q' (n + 1) c'))
    clear HF HLn
    go_wp2
    exact bodyPost_ret (v := .agg #[.slice q' (n + 1) c']) (by simp [results, Try.results34, go_sem, z9, z0]) rfl HFF.out
  by_cases hq1 : q = 1
  · subst hq1
    clear hq0 q0
    rcases Nat.eq_zero_or_pos n with hn0 | hnp
    · subst hn0
      have y0 := box1 S4.out.box
      go_upto_if 55 with fail
      have z0 := box1 S4.out.out
      have zf0 := frz1V S4.out.out 0
      have HF := S4.out.fin
      have HLn := S4.out.len
      rw [HLn] at HF
      have HFF : Hid (VoD w B len cap ao zs 66 (.returned (.agg #[.slice p 0 c])) (x4.setCell ⟨w.heap.size, 0, none⟩ (.slice p 0 c))) := HF.less (Nat.zero_le _)
      have z9 := box1 (set1V S4.out.out (.slice p 0 c))
      clear HF HLn
      go_wp2
      exact bodyPost_ret (v := .agg #[.slice p 0 c]) (by simp [results, Try.results34, go_sem, z9, z0]) rfl HFF.out
    have hnp' : (0 : Int) < (n : Int) := by omega
    obtain ⟨rb, ro, rc, hrv, _, _⟩ := (RowR.own S4.out.row).some hnp (by decide)
    simp only [Value.slice.injEq, true_and] at hrv
    obtain ⟨rfl, rfl⟩ := hrv
    have SD : Hid (AnyS w B len cap ao zs bv x4.drew L (some ⟨rb, ro, none⟩) n c su4) := S4.out.bel (Below.refl _ _).drew
    have y0 := box1 S4.out.box
    go_upto_region 14 with fail
    clear y0
    refine wp_region_L [⟨12, fun W => W.cell? ⟨bv, 0, none⟩ = some (.slice (some ⟨rb, ro, none⟩) n c)⟩, ⟨11, fun W => W.cell? ⟨bv, 0, none⟩ = some (.slice (some ⟨rb, ro, none⟩) n c)⟩, ⟨8, fun W => W.cell? ⟨bv, 0, none⟩ = some (.slice (some ⟨rb, ro, none⟩) n c)⟩] (by kernel_rfl) (fun f hf => by
        simp only [List.mem_cons, List.not_mem_nil, or_false] at hf
        rcases hf with rfl | rfl | rfl
        · exact (box1 SD.out.box)
        · exact (box1 SD.out.box)
        · exact (box1 SD.out.box)
        ) ?_
    refine At.take 0 (some 56) (.pointer (some ⟨bv, 0, none⟩)) rfl rfl (by kernel_rfl) (by kernel_rfl) (by kernel_rfl) (by kernel_rfl) (fun _ _ _ h => h) (yl_pure (by kernel_rfl) (fun _ => by kernel_rfl)) ?_
    refine At.take 1 (some 57) (.slice (some ⟨rb, ro, none⟩) n c) rfl rfl (by kernel_rfl) (by kernel_rfl) (by kernel_rfl) (by kernel_rfl) (fun _ _ _ h => h) (yl_load 12 ⟨bv, 0, none⟩ (.slice (some ⟨rb, ro, none⟩) n c) (List.mem_cons_self) [12] (by kernel_rfl) rfl (by kernel_rfl) (fun _ => by kernel_rfl)) ?_
    refine At.take 2 (some 58) (.pointer (some ⟨bv, 0, none⟩)) rfl rfl (by kernel_rfl) (by kernel_rfl) (by kernel_rfl) (by kernel_rfl) (fun _ _ _ h => h) (yl_pure (by kernel_rfl) (fun _ => by kernel_rfl)) ?_
    refine At.take 3 (some 59) (.slice (some ⟨rb, ro, none⟩) n c) rfl rfl (by kernel_rfl) (by kernel_rfl) (by kernel_rfl) (by kernel_rfl) (fun _ _ _ h => h) (yl_load 11 ⟨bv, 0, none⟩ (.slice (some ⟨rb, ro, none⟩) n c) (List.mem_cons_of_mem _ (List.mem_cons_self)) [9, 10, 11] (by kernel_rfl) rfl (by kernel_rfl) (fun _ => by kernel_rfl)) ?_
    refine At.take 4 (some 60) (.pointer (some ⟨B, 0, none⟩)) rfl rfl (by kernel_rfl) (by kernel_rfl) (by kernel_rfl) (by kernel_rfl) (fun _ _ _ h => h) (yl_pure (by kernel_rfl) (fun _ => by kernel_rfl)) ?_
    refine At.take 5 (some 61) (.pointer (some ⟨bv, 0, none⟩)) rfl rfl (by kernel_rfl) (by kernel_rfl) (by kernel_rfl) (by kernel_rfl) (fun _ _ _ h => h) (yl_pure (by kernel_rfl) (fun _ => by kernel_rfl)) ?_
    refine At.take 6 (some 62) (.slice (some ⟨rb, ro, none⟩) n c) rfl rfl (by kernel_rfl) (by kernel_rfl) (by kernel_rfl) (by kernel_rfl) (fun _ _ _ h => h) (yl_load 8 ⟨bv, 0, none⟩ (.slice (some ⟨rb, ro, none⟩) n c) (List.mem_cons_of_mem _ (List.mem_cons_of_mem _ (List.mem_cons_self))) [7, 8] (by kernel_rfl) rfl (by kernel_rfl) (fun _ => by kernel_rfl)) ?_
    refine At.take 7 (some 63) (.int .i64 (n : Int)) rfl rfl (by kernel_rfl) (by kernel_rfl) (by kernel_rfl) (by kernel_rfl) (fun _ _ _ h => h) (yl_pure (by kernel_rfl) (fun _ => by kernel_rfl)) ?_
    refine At.step 8 (some 64) rfl rfl (by kernel_rfl) (by kernel_rfl) (fun u W => ∃ (v : Int) (s6 : Nat × Int), u = .int .i64 v ∧ 0 ≤ v ∧ (0 < (n : Int) → v < n) ∧ Cur W B ao len cap zs s6 ∧ x4.drew.grownBy W (some B)) (gives_call (by kernel_rfl) ((below_exV x4.drew B len cap ao zs su4 n SD.out.kd.cur hl HZ.out).mono fun e w' ⟨v, s6, he, h0, h3, h1, h2⟩ => ⟨_, he, v, s6, rfl, h0, h3, h1, h2⟩)) ?_
    rintro u WB ⟨vi, s6, rfl, hv0, hv1, hC6, hg6⟩
    have S6 : Hid (AnyS w B len cap ao zs bv WB L (some ⟨rb, ro, none⟩) n c s6) := SD.out.call hC6 hg6
    obtain ⟨k, rfl⟩ := Int.eq_ofNat_of_zero_le hv0
    have hkn' : (k : Int) < n := hv1 (by omega)
    have hkn : k < n := by omega
    have hkL : k < L.length := by rw [S6.out.len]; exact hkn
    obtain ⟨rb2, ro2, rc2, hrv, _, hrc⟩ := (RowR.own S6.out.row).some (by omega) (by decide)
    simp only [Value.slice.injEq, Option.some.injEq, Addr.mk.injEq, and_true, true_and] at hrv
    have er : rb = rb2 := hrv.1.1
    have eo : ro = ro2 := hrv.1.2
    subst er
    subst eo
    have HCL := pair_cells hrc hkL hkn
    generalize L[k] = X at HCL
    clear hrc hrv hv0 hv1 hC6 hg6
    refine ⟨held_cons (.inr ((box1 S6.out.box))) (held_cons (.inr ((box1 S6.out.box))) (held_cons (.inl (by kernel_rfl)) (held_nil))), ?_⟩
    refine At.more ⟨11, fun W => ∀ j u, ([.int .i64 X.f0, .int .i64 X.f1] : List Value)[j]? = some u → W.cell? ((⟨rb, ro + k * 2, none⟩ : Addr).add j) = some u⟩ HCL ?_
    refine At.take 9 (some 65) (.pointer (some ⟨rb, ro + k * 2, none⟩)) rfl rfl (by kernel_rfl) (by kernel_rfl) (by kernel_rfl) (by kernel_rfl) (fun _ _ _ h => h) (yl_pure (by kernel_rfl) (fun w => by go_simp)) ?_
    refine At.take 10 (some 66) (.agg #[.int .i64 X.f0, .int .i64 X.f1]) rfl rfl (by kernel_rfl) (by kernel_rfl) (by kernel_rfl) (by kernel_rfl) (fun _ _ _ h => h) (yl_loads 11 ⟨rb, ro + k * 2, none⟩ [.int .i64 X.f0, .int .i64 X.f1] (List.mem_cons_self) [11] (by kernel_rfl) rfl (by kernel_rfl) (fun _ => by kernel_rfl)) ?_
    refine At.step 11 (some 67) rfl rfl (by kernel_rfl) (by kernel_rfl) (fun u W => u = .slice (some ⟨WB.heap.size, 0, none⟩) 1 1 ∧ W = WB.alloc (.cells #[.int .i64 X.f0, .int .i64 X.f1] 88)) (gives_run (by kernel_rfl)) ?_
    rintro u WC ⟨rfl, hWC⟩
    have S7 : Hid (AnyS w B len cap ao zs bv WC L (some ⟨rb, ro, none⟩) n c s6) := by rw [hWC]; exact S6.out.bel ((Below.refl _ _).alloc (Nat.le_refl _) _)
    refine ⟨held_cons (.inl (by kernel_rfl)) (held_cons (.inr ((box1 S7.out.box))) (held_cons (.inl (by kernel_rfl)) (held_cons (.inl (by kernel_rfl)) (held_nil)))), ?_⟩
    obtain ⟨q', c', WD, hrun, hbox, hS9⟩ := S6.out.app (by omega) X.f0 X.f1
    rw [← hWC] at hrun
    refine At.step 12 (some 68) rfl rfl (by kernel_rfl) (by kernel_rfl) (fun u W => u = .slice q' (n + 1) c' ∧ W = WD) (gives_append (fun _ => by kernel_rfl) hrun) ?_
    rintro u WD' ⟨rfl, hWD⟩
    subst hWD
    refine ⟨held_cons (.inl (by kernel_rfl)) (held_cons (.inl (by kernel_rfl)) (held_cons (.inl (by kernel_rfl)) (held_cons (.inl (by kernel_rfl)) (held_nil)))), ?_⟩
    refine At.take 13 (some 69) (.pointer (some ⟨bv, 0, none⟩)) rfl rfl (by kernel_rfl) (by kernel_rfl) (by kernel_rfl) (by kernel_rfl) (fun _ _ _ h => h) (yl_pure (by kernel_rfl) (fun _ => by kernel_rfl)) ?_
    refine At.step 14 none rfl rfl (by kernel_rfl) (by kernel_rfl) (fun u W => u = undef ∧ W = WD'.setCell ⟨bv, 0, none⟩ (.slice q' (n + 1) c')) (gives_store (p := ⟨bv, 0, none⟩) (x := .slice q' (n + 1) c') (y := .slice (some ⟨rb, ro, none⟩) n c) (fun _ => by kernel_rfl) (by rfl) (box1 hbox) (frz1V hbox 0)) ?_
    rintro u WE ⟨rfl, hWE⟩
    refine ⟨held_cons (.inl (by kernel_rfl)) (held_cons (.inl (by kernel_rfl)) (held_cons (.inl (by kernel_rfl)) (held_cons (.inl (by kernel_rfl)) (held_nil)))), ?_⟩
    refine At.done (by kernel_rfl) ?_
    simp only [Act.put, List.setIfInBounds_toArray, List.set_cons_zero, List.set_cons_succ]
    have S9 : Hid (AnyS w B len cap ao zs bv WE (L ++ [⟨X.f0, X.f1⟩]) q' (n + 1) c' s6) := by rw [hWE]; exact hS9
    clear hWE hrun hbox hS9
    have z0 := box1 S9.out.out
    have zf0 := frz1V S9.out.out 0
    have y0 := box1 S9.out.box
    have HF := S9.out.fin
    have HLn := S9.out.len
    rw [HLn] at HF
    have HFF : Hid (VoD w B len cap ao zs 66 (.returned (.agg #[.slice q' (n + 1) c'])) (WE.setCell ⟨w.heap.size, 0, none⟩ (.slice q' (n + 1) c'))) := HF.less (by omega)
    have z9 := box1 (set1V S9.out.out (.slice q' (n + 1) c'))
    clear HF HLn
    go_wp2
    exact bodyPost_ret (v := .agg #[.slice q' (n + 1) c']) (by simp [results, Try.results34, go_sem, z9, z0]) rfl HFF.out
  by_cases hq2 : q = 2
  · subst hq2
    clear hq0 hq1 q0
    clear HLN
    go_wp2_with fail
    go_loopw [6] (fun iv wr => ∃ (k : Nat) (L : List S_Pair) (p : Option Addr) (n c : Nat) (su : Nat × Int), iv = .int .i64 (k : Int) ∧ k ≤ 6 ∧ n ≤ 60 + k ∧ Hid (AnyS w B len cap ao zs bv wr L p n c su)) (fun iv _ => 6 - (intOf iv).toNat)
    case atStart => exact ⟨0, L, p, n, c, su4, rfl, by omega, by omega, S4⟩
    case round =>
      clear S4 S3 S2 hn60
      obtain ⟨k, L, p, n, c, su, rfl, hk6, hn60, S⟩ := hrel
      by_cases hlt : k < 6
      · have hlt' : (k : Int) < 6 := by omega
        have y0 := box1 S.out.box
        rcases Nat.eq_zero_or_pos n with hn0 | hnp
        · subst hn0
          go_upto_region 21 with fail
          refine wp_genW (fun W => Hid (AnyS w B len cap ao zs bv W L p 0 c su) ∧ Hid (W.heap[wr.heap.size]? = some (.cells #[.int .i64 97, .int .i64 97] 88)) ∧ Hid (Below wr.heap.size wr W)) ⟨S.out.bel ((Below.refl _ _).alloc (Nat.le_refl _) _), alloc_last _ _, (Below.refl _ _).alloc (Nat.le_refl _) _⟩ ?_
          rintro W1 ⟨S1, hx1, _⟩
          obtain ⟨c0, c1⟩ := box2 hx1.out
          clear y0
          obtain ⟨q', c2, W2, hrun, hbox, hS⟩ := S1.out.app (by omega) 97 97
          have HS : Hid (AnyS w B len cap ao zs bv (W2.setCell ⟨bv, 0, none⟩ (.slice q' (0 + 1) c2)) (L ++ [⟨97, 97⟩]) q' (0 + 1) c2 su) := hS
          have y1 := box1 S1.out.box
          have yb := box1 hbox
          have ybf := frz1V hbox 0
          clear hS hbox
          go_wp2_with (at_builtin; refine wpList_append_run rfl _ _ 24 rfl _ _ rfl rfl _ _ hrun ?_)
          clear hrun
          go_roundw
          case rel => exact ⟨k + 1, _, _, _, _, _, by go_num, by omega, by omega, HS⟩
          case measure => simp [intOf] <;> omega
        · have hnp' : (0 : Int) < (n : Int) := by omega
          have e6 : IntKind.i64.wrap (255 + (n : Int)) = 255 + (n : Int) := IntWalk.i64_in _ (by omega)
          clear hnp
          go_upto_region 21 with fail
          refine wp_genW (fun W => Hid (AnyS w B len cap ao zs bv W L p n c su) ∧ Hid (W.heap[wr.heap.size]? = some (.cells #[.int .i64 97, .int .i64 97] 88)) ∧ Hid (Below wr.heap.size wr W)) ⟨S.out.bel ((Below.refl _ _).alloc (Nat.le_refl _) _), alloc_last _ _, (Below.refl _ _).alloc (Nat.le_refl _) _⟩ ?_
          rintro W1 ⟨S1, hx1, HBw⟩
          obtain ⟨c0, c1⟩ := box2 hx1.out
          have fz : ∀ o, W1.frozen? ⟨wr.heap.size, o, none⟩ = false := fun o => by simp [World.frozen?, hx1.out]
          have HB2 : Hid (AnyS w B len cap ao zs bv ((W1.setCell ⟨wr.heap.size, 0, none⟩ (.int .i64 (255 + (n : Int)))).setCell ⟨wr.heap.size, 1, none⟩ (.int .i64 (255 + (n : Int)))) L p n c su) := by
            have hw1 : w.heap.size < wr.heap.size := lt_of_some S.out.out
            exact S.out.bel (((HBw.out).setCell (by show wr.heap.size ≤ wr.heap.size; exact Nat.le_refl _) _).setCell (by show wr.heap.size ≤ wr.heap.size; exact Nat.le_refl _) _)
          have hx2 := set2V hx1.out (.int .i64 (255 + (n : Int))) (.int .i64 (255 + (n : Int)))
          clear y0
          go_upto_region 23 with fail
          refine wp_genW (fun W => Hid (AnyS w B len cap ao zs bv W L p n c su) ∧ Hid (W.heap[wr.heap.size]? = some (.cells #[.int .i64 (255 + (n : Int)), .int .i64 (255 + (n : Int))] 88))) ⟨HB2.out, hx2⟩ ?_
          clear S1 hx1 c0 c1 fz HB2 hx2
          rintro W1 ⟨S1, hx1⟩
          obtain ⟨c0, c1⟩ := box2 hx1.out
          obtain ⟨q', c2, W2, hrun, hbox, hS⟩ := S1.out.app (by omega) (255 + (n : Int)) (255 + (n : Int))
          have HS : Hid (AnyS w B len cap ao zs bv (W2.setCell ⟨bv, 0, none⟩ (.slice q' (n + 1) c2)) (L ++ [⟨(255 + (n : Int)), (255 + (n : Int))⟩]) q' (n + 1) c2 su) := hS
          have y1 := box1 S1.out.box
          have yb := box1 hbox
          have ybf := frz1V hbox 0
          clear hS hbox
          go_wp2_with (at_builtin; refine wpList_append_run rfl _ _ 24 rfl _ _ rfl rfl _ _ hrun ?_)
          clear hrun
          go_roundw
          case rel => exact ⟨k + 1, _, _, _, _, _, by go_num, by omega, by omega, HS⟩
          case measure => simp [intOf] <;> omega
      · have hke : k = 6 := by omega
        subst hke
        have z0 := box1 S.out.out
        have zf0 := frz1V S.out.out 0
        have y0 := box1 S.out.box
        have HF := S.out.fin
        have HLn := S.out.len
        rw [HLn] at HF
        have HFF : Hid (VoD w B len cap ao zs 66 (.returned (.agg #[.slice p n c])) (wr.setCell ⟨w.heap.size, 0, none⟩ (.slice p n c))) := HF.less (by omega)
        have z9 := box1 (set1V S.out.out (.slice p n c))
        clear HF HLn
        go_wp2
        exact bodyPost_ret (v := .agg #[.slice p n c]) (by simp [results, Try.results34, go_sem, z9, z0]) rfl HFF.out
  have e0 : (q == 0) = false := by simp [hq0]
  have e1 : (q == 1) = false := by simp [hq1]
  have e2 : (q == 2) = false := by simp [hq2]
  clear hq0 hq1 hq2 q0
  have y4 := box1 S4.out.box
  go_wp2_with fail
  refine (below_exV x4 B len cap ao zs su4 2 S4.out.kd.cur hl HZ.out).mono ?_
  rintro e x5 ⟨b2, su5, rfl, b20, b21, hC5, hg5⟩
  have S5 : Hid (AnyS w B len cap ao zs bv x5 L p n c su5) := S4.out.call hC5 hg5
  have b22 := b21 (by omega)
  obtain ⟨m, rfl⟩ := Int.eq_ofNat_of_zero_le b20
  clear hC5 hg5 b21 y4
  have y0 := box1 S5.out.box
  have yf := frz1V S5.out.box 0
  have e6 : IntKind.i64.wrap (60 + (m : Int)) = 60 + (m : Int) := IntWalk.i64_in _ (by omega)
  have S6 : Hid (AnyS w B len cap ao zs bv ((x5.setCell ⟨bv, 0, none⟩ (.slice (some ⟨x5.heap.size, 0, none⟩) 0 0)).alloc (.cells #[] 88)) [] (some ⟨x5.heap.size, 0, none⟩) 0 0 su5) := by
    have S' := S5.out.bel (W' := x5.alloc (.cells #[] 88)) ((Below.refl _ _).alloc (Nat.le_refl _) _)
    have S'' := S'.lay (M := []) (q := some ⟨x5.heap.size, 0, none⟩) (m := 0) (d := 0) rfl (own_low (World.ownsRow_made (base := x5.heap.size) (e := 88) (size := 2) x5 #[] 0 (Nat.le_refl _) (by decide) rfl) (by have := lt_of_some S5.out.out; omega))
    have hlt := lt_of_some S5.out.box
    have e : (x5.alloc (.cells #[] 88)).setCell ⟨bv, 0, none⟩ (.slice (some ⟨x5.heap.size, 0, none⟩) 0 0) = (x5.setCell ⟨bv, 0, none⟩ (.slice (some ⟨x5.heap.size, 0, none⟩) 0 0)).alloc (.cells #[] 88) := World.setCell_alloc_past _ _ _ _ hlt
    rw [e] at S''
    exact S''
  have hbx : bv < x5.heap.size := lt_of_some S5.out.box
  have hnx : ¬ bv = x5.heap.size := by omega
  have hm2 : m ≤ 1 := by omega
  clear HLN
  go_wp2_with fail
  clear y0 yf
  go_loopw [10] (fun iv wr => ∃ (k : Nat) (L : List S_Pair) (p : Option Addr) (n c : Nat) (su : Nat × Int), iv = .int .i64 (k : Int) ∧ k ≤ 61 ∧ n ≤ k ∧ Hid (AnyS w B len cap ao zs bv wr L p n c su) ∧ k ≤ 60 + m) (fun iv _ => 62 - (intOf iv).toNat)
  case atStart => exact ⟨0, [], _, 0, 0, su5, rfl, by omega, by omega, S6, by omega⟩
  case round =>
    clear S6 S5 S4 S3 S2 hn60
    obtain ⟨k, L, p, n, c, su, rfl, hk6, hn60, S1, hkm⟩ := hrel
    by_cases hlt : k < 60 + m
    · have hlt' : (k : Int) < 60 + (m : Int) := by omega
      obtain ⟨q', c2, W2, hrun, hbox, hS⟩ := S1.out.app (by omega) (k : Int) 200
      have HS : Hid (AnyS w B len cap ao zs bv (W2.setCell ⟨bv, 0, none⟩ (.slice q' (n + 1) c2)) (L ++ [⟨(k : Int), 200⟩]) q' (n + 1) c2 su) := hS
      have y1 := box1 S1.out.box
      have yb := box1 hbox
      have ybf := frz1V hbox 0
      clear hS hbox
      go_wp2_with (at_builtin; refine wpList_append_run rfl _ _ 24 rfl _ _ rfl rfl _ _ hrun ?_)
      clear hrun
      go_roundw
      case rel => exact ⟨k + 1, _, _, _, _, _, by go_num, by omega, by omega, HS, by omega⟩
      case measure => simp [intOf] <;> omega
    · have hke : k = 60 + m := by omega
      have hlt' : ¬ (k : Int) < 60 + (m : Int) := by omega
      clear hlt hke
      have z0 := box1 S1.out.out
      have zf0 := frz1V S1.out.out 0
      have y0 := box1 S1.out.box
      have HF := S1.out.fin
      have HLn := S1.out.len
      rw [HLn] at HF
      have HFF : Hid (VoD w B len cap ao zs 66 (.returned (.agg #[.slice p n c])) (wr.setCell ⟨w.heap.size, 0, none⟩ (.slice p n c))) := HF.less (by omega)
      have z9 := box1 (set1V S1.out.out (.slice p n c))
      clear HF HLn
      go_wp2
      exact bodyPost_ret (v := .agg #[.slice p n c]) (by simp [results, Try.results34, go_sem, z9, z0]) rfl HFF.out
end Go.Proofs.Ytdggkcohidijcaa
