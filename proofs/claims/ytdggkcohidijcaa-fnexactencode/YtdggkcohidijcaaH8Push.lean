/- An item is pushed. -/
import Derived.Test.YtdggkcohidijcaaH8Pop
import Derived.Maps.AppendAt
namespace Go.Proofs.Ytdggkcohidijcaa
open Go.RowKit
set_option linter.unusedVariables false
set_option linter.unusedSimpArgs false

theorem infoJ : (Try.prog.info? 112).map (fun i => (i.zero, i.size, i.bytes)) = some (some (.agg #[.int .i64 0, .pointer none]), 2, 16) := by kernel_rfl

/-- The items of a row are told anew: whatever they were. -/
theorem lay8 {w : World} {R B : Nat} {mv fv v0 : Value} {Y : List Jt} {p' : Option Addr} {n' c' : Nat} (hrow : w.heap[R]? = some (.cells #[mv, fv, (.func (.func 72) #[] #[]), v0] 107)) (hY : w.ownsRow B 112 2 (.slice p' n' c') n' (rJ Y)) (hl : Y.length = n') (hm : ∀ z ∈ Y, Sym w z.b z.a) : HqS (w.setCell ⟨R, 3, none⟩ (.slice p' n' c')) R B mv fv Y p' n' c' := by
  have hne := kind_ne hY hrow (by decide)
  refine ⟨?_, ?_, hl, fun z hz => ?_⟩
  · simp only [World.setCell, Array.getElem?_modify, if_true, hrow]
    rfl
  · obtain ⟨h1, ⟨hv, h2⟩ | ⟨g, cp, cur, hv, hg, hh, r⟩⟩ := hY
    · exact ⟨h1, .inl ⟨hv, h2⟩⟩
    · refine ⟨h1, .inr ⟨g, cp, cur, hv, hg, ?_, r⟩⟩
      rw [Below.heap_setCell _ _ _ _ (fun e => hne (by rw [hv]; exact congrArg some e))]
      exact hh
  · obtain ⟨t, q1, q2, hs⟩ := hm z hz
    exact ⟨t, q1, q2, by rw [Below.heap_setCell _ _ _ _ (fun e => by rw [show z.b = R from e, hrow] at hs; simp at hs)]; exact hs⟩

theorem Sym.grown {w w' : World} {b : Nat} {a : Int} {base : Nat} {size m : Nat} {v : Value} {xs : List Value} (h : Sym w b a) (ho : w.ownsRow base 112 size v m xs) (hg : w.grownBy w' v.ownBlock) : Sym w' b a := by
  obtain ⟨t, q1, q2, hs⟩ := h
  exact ⟨t, q1, q2, (hg.block _ (lt_of_some hs) (fun e => kind_ne ho hs (by decide) e.symm)).trans hs⟩

theorem Sym.bel {w w' : World} {b : Nat} {a : Int} (h : Sym w b a) (hb : Below w.heap.size w w') : Sym w' b a := by
  obtain ⟨t, q1, q2, hs⟩ := h
  exact ⟨t, q1, q2, (hb.block _ (lt_of_some hs)).trans hs⟩

set_option maxRecDepth 20000 in
set_option maxHeartbeats 4000000 in
theorem cell_two_newJ (w : World) (a b : Value) (t : TypeId) : ∀ j u, ([a, b] : List Value)[j]? = some u → (w.alloc (.cells #[a, b] t)).cell? ((⟨w.heap.size, 0, none⟩ : Addr).add j) = some u := fun j u h => by
  rw [Addr.add_mid, Nat.zero_add]
  simp only [World.cell?, alloc_last]
  simpa using h

set_option maxRecDepth 20000 in
set_option maxHeartbeats 4000000 in
theorem push_c (X : List Jt) (x : Jt) (w : World) (R B : Nat) (mv fv : Value) (p : Option Addr) (n c : Nat) (hn : n + 1 ≤ 4000) (S : HqS w R B mv fv X p n c) (hk : HpOk X) (hx : Sym w x.b x.a) (hBw : B ≤ w.heap.size) :
    Calls Try.prog 85 #[.pointer (some ⟨R, 2, none⟩), .agg #[.int .i64 x.r, .pointer (some ⟨x.b, 0, none⟩)]] w fun e w' => e = .returned (.tuple #[]) ∧ ∃ Y p' c', HqS w' R B mv fv Y p' (n + 1) c' ∧ HpOk Y ∧ (∀ z, z ∈ Y ↔ z ∈ X ∨ z = x) ∧ Fr8 R (.slice p n c) w w' ∧ Nxt8 w (.slice p n c) (.slice p' (n + 1) c') := by
  have HS : Hid (HqS w R B mv fv X p n c) := S
  have HK : Hid (HpOk X) := hk
  have HXS : Hid (Sym w x.b x.a) := hx
  obtain ⟨i0, hi, hz0, hz1, hz2⟩ := info_parts infoJ
  have hXl : X.length = n := S.len
  have HXL : Hid (X.length = n) := hXl
  obtain ⟨W0, hW0⟩ : ∃ W, W = w.alloc (.cells #[.int .i64 x.r, .pointer (some ⟨x.b, 0, none⟩)] 112) := ⟨_, rfl⟩
  have HWW : Hid (w.alloc (.cells #[.int .i64 x.r, .pointer (some ⟨x.b, 0, none⟩)] 112) = W0) := hW0.symm
  have HW0 : Hid (Below w.heap.size w W0) := by rw [hW0]; exact (Below.refl _ _).alloc (Nat.le_refl _) _
  have hxD : ∀ j u, ([.int .i64 x.r, .pointer (some ⟨x.b, 0, none⟩)] : List Value)[j]? = some u → W0.drew.cell? ((⟨w.heap.size, 0, none⟩ : Addr).add j) = some u := by rw [hW0]; exact cell_two_newJ w _ _ _
  have hslD := (HS.out.bel HW0.out.drew).cells.2.2.2
  clear S hk hx hW0 hXl
  go_enter Try.func85, Try.ntmps85
  go_upto_region 1 with fail
  rw [HWW.out]
  refine wp_region_L [⟨7, fun W => W.cell? ⟨R, 3, none⟩ = some (.slice p n c)⟩, ⟨6, fun W => ∀ j u, ([.int .i64 x.r, .pointer (some ⟨x.b, 0, none⟩)] : List Value)[j]? = some u → W.cell? ((⟨w.heap.size, 0, none⟩ : Addr).add j) = some u⟩] (by kernel_rfl) (fun f hf => by
      simp only [List.mem_cons, List.not_mem_nil, or_false] at hf
      rcases hf with rfl | rfl
      · exact hslD
      · exact hxD
      ) ?_
  refine At.take 0 (some 5) (.pointer (some ⟨R, 2, none⟩)) rfl rfl (by kernel_rfl) (by kernel_rfl) (by kernel_rfl) (by kernel_rfl) (fun _ _ _ h => h) (yl_pure (by kernel_rfl) (fun _ => by kernel_rfl)) ?_
  refine At.take 1 (some 6) (.pointer (some ⟨R, 2, none⟩)) rfl rfl (by kernel_rfl) (by kernel_rfl) (by kernel_rfl) (by kernel_rfl) (fun _ _ _ h => h) (yl_pure (by kernel_rfl) (fun _ => by kernel_rfl)) ?_
  refine At.take 2 (some 7) (.pointer (some ⟨R, 2, none⟩)) rfl rfl (by kernel_rfl) (by kernel_rfl) (by kernel_rfl) (by kernel_rfl) (fun _ _ _ h => h) (yl_pure (by kernel_rfl) (fun _ => by kernel_rfl)) ?_
  refine At.take 3 (some 8) (.pointer (some ⟨R, 3, none⟩)) rfl rfl (by kernel_rfl) (by kernel_rfl) (by kernel_rfl) (by kernel_rfl) (fun _ _ _ h => h) (yl_pure (by kernel_rfl) (fun _ => by kernel_rfl)) ?_
  refine At.take 4 (some 9) (.slice p n c) rfl rfl (by kernel_rfl) (by kernel_rfl) (by kernel_rfl) (by kernel_rfl) (fun _ _ _ h => h) (yl_load 7 ⟨R, 3, none⟩ (.slice p n c) (List.mem_cons_self) [7] (by kernel_rfl) rfl (by kernel_rfl) (fun _ => by kernel_rfl)) ?_
  refine At.take 5 (some 10) (.agg #[.int .i64 x.r, .pointer (some ⟨x.b, 0, none⟩)]) rfl rfl (by kernel_rfl) (by kernel_rfl) (by kernel_rfl) (by kernel_rfl) (fun _ _ _ h => h) (yl_loads 6 ⟨w.heap.size, 0, none⟩ [.int .i64 x.r, .pointer (some ⟨x.b, 0, none⟩)] (List.mem_cons_of_mem _ (List.mem_cons_self)) [6] (by kernel_rfl) rfl (by kernel_rfl) (fun _ => by kernel_rfl)) ?_
  refine At.step 6 (some 11) rfl rfl (by kernel_rfl) (by kernel_rfl) (fun u W => u = .slice (some ⟨W0.drew.heap.size, 0, none⟩) 1 1 ∧ W = W0.drew.alloc (.cells #[.int .i64 x.r, .pointer (some ⟨x.b, 0, none⟩)] 112)) (gives_run (by kernel_rfl)) ?_
  rintro u WB ⟨rfl, hWB⟩
  have hbB : Below w.heap.size w WB := by rw [hWB]; exact (HW0.out.drew).alloc HW0.out.size _
  have SB := HS.out.bel hbB
  have hnb : ∀ j u, ([.int .i64 x.r, .pointer (some ⟨x.b, 0, none⟩)] : List Value)[j]? = some u → WB.cell? ((⟨W0.drew.heap.size, 0, none⟩ : Addr).add j) = some u := by rw [hWB]; exact cell_two_newJ _ _ _ _
  refine ⟨held_cons (.inr ((SB.cells.2.2.2))) (held_cons (.inl (by kernel_rfl)) (held_nil)), ?_⟩
  obtain ⟨v', WC, hrun, hown, hgrow, _, hblk⟩ := run_append_own_at (P := Try.prog) WB B 102 102 112 i0 (.agg #[.int .i64 0, .pointer none]) 2 16 Try.underlying102 hi hz0 hz1 hz2 rfl (by decide) (.slice p n c) n (rJ X) SB.own ⟨W0.drew.heap.size, 0, none⟩ 1 1 [.int .i64 x.r, .pointer (some ⟨x.b, 0, none⟩)] rfl hnb (cJ_one x) (by unfold maxLen; omega) (by omega) (Nat.le_trans hBw hbB.size)
  obtain ⟨p2, c2, rfl⟩ := own_sliceV hown
  refine At.step 7 (some 12) rfl rfl (by kernel_rfl) (by kernel_rfl) (fun u W => u = .slice p2 (n + 1) c2 ∧ W = WC) (gives_append (fun _ => by kernel_rfl) hrun) ?_
  rintro u WC' ⟨rfl, hWC⟩
  subst hWC
  have hrowC : WC'.heap[R]? = some (.cells #[mv, fv, (.func (.func 72) #[] #[]), .slice p n c] 107) := (hgrow.block _ (lt_of_some SB.row) (fun e => kind_ne SB.own SB.row (by decide) e.symm)).trans SB.row
  have hslC : WC'.cell? ⟨R, 3, none⟩ = some (.slice p n c) := by simp [World.cell?, hrowC]
  have hfzC : WC'.frozen? ⟨R, 3, none⟩ = false := by simp [World.frozen?, hrowC]
  refine ⟨held_cons (.inl (by kernel_rfl)) (held_cons (.inl (by kernel_rfl)) (held_nil)), ?_⟩
  refine At.take 8 (some 13) (.pointer (some ⟨R, 2, none⟩)) rfl rfl (by kernel_rfl) (by kernel_rfl) (by kernel_rfl) (by kernel_rfl) (fun _ _ _ h => h) (yl_pure (by kernel_rfl) (fun _ => by kernel_rfl)) ?_
  refine At.take 9 (some 14) (.pointer (some ⟨R, 3, none⟩)) rfl rfl (by kernel_rfl) (by kernel_rfl) (by kernel_rfl) (by kernel_rfl) (fun _ _ _ h => h) (yl_pure (by kernel_rfl) (fun _ => by kernel_rfl)) ?_
  refine At.step 10 none rfl rfl (by kernel_rfl) (by kernel_rfl) (fun u W => u = undef ∧ W = WC'.setCell ⟨R, 3, none⟩ (.slice p2 (n + 1) c2)) (gives_store (p := ⟨R, 3, none⟩) (x := .slice p2 (n + 1) c2) (y := .slice p n c) (fun _ => by kernel_rfl) (by rfl) hslC hfzC) ?_
  rintro u WE ⟨rfl, hWE⟩
  refine ⟨held_cons (.inl (by kernel_rfl)) (held_cons (.inl (by kernel_rfl)) (held_nil)), ?_⟩
  refine At.done (by kernel_rfl) ?_
  simp only [Act.put, List.setIfInBounds_toArray, List.set_cons_zero, List.set_cons_succ]
  have HSE : Hid (HqS WE R B mv fv (X ++ [x]) p2 (n + 1) c2) := by
    rw [hWE]
    refine lay8 hrowC ?_ (by rw [List.length_append, HXL.out]; rfl) (fun z hz => ?_)
    · rw [rJ_one]; exact hown
    · rcases List.mem_append.1 hz with h | h
      · exact (SB.ats z h).grown SB.own hgrow
      · rw [List.mem_singleton.1 h]; exact (HXS.out.bel hbB).grown SB.own hgrow
  have HFE : Hid (Fr8 R (.slice p n c) w WE) := by
    rw [hWE]
    have h1 : Fr8 R (.slice p n c) w WC' := ⟨hgrow.os.trans hbB.os, hgrow.tape.trans hbB.tape, hgrow.output.trans hbB.output, Nat.le_trans hbB.size hgrow.size, fun k hk h1 h2 => (hgrow.block k (Nat.lt_of_lt_of_le hk hbB.size) (fun e => h2 e.symm)).trans (hbB.block k hk)⟩
    exact h1.setR _ _
  have HNE : Hid (Nxt8 w (.slice p n c) (.slice p2 (n + 1) c2)) := fun k hk => by
    rcases hblk with h | h
    · exact .inl (by rw [← h]; exact hk)
    · rw [h] at hk
      simp only [Option.some.injEq] at hk
      have := hbB.size
      exact .inr (by omega)
  have HUE : Hid (UpI (X ++ [x]) n) := by have := up_start x HK.out; rw [HXL.out] at this; exact this
  have HME : Hid (∀ z, z ∈ X ++ [x] ↔ z ∈ X ∨ z = x) := fun z => by rw [List.mem_append, List.mem_singleton]
  clear hWE hrowC hslC hfzC hown hgrow hblk hrun hnb hbB SB hWB hxD hslD hi hz0 hz1 hz2
  obtain ⟨N, hN⟩ : ∃ N, n + 1 = N := ⟨_, rfl⟩
  have HNN : Hid (n + 1 = N) := hN
  rw [hN] at HSE HNE ⊢
  have hnN : n < N := by omega
  have hN4 : N ≤ 4000 := by omega
  have hN4' : (N : Int) ≤ 4000 := by omega
  have e5 : IntKind.i64.wrap ((N : Int) - 1) = (n : Int) := by rw [IntWalk.i64_in _ (by omega)]; omega
  have hsl := HSE.out.cells.2.2.2
  clear hN
  go_wp2_with fail
  clear hsl e5
  go_loopw [4] (fun av wr => ∃ (Y : List Jt) (a : Nat), av = .int .i64 (a : Int) ∧ a < N ∧ Hid (HqS wr R B mv fv Y p2 N c2) ∧ Hid (UpI Y a) ∧ Hid (∀ z, z ∈ Y ↔ z ∈ X ∨ z = x) ∧ Hid (Fr8 R (.slice p n c) w wr)) (fun av _ => (intOf av).toNat)
  case atStart => exact ⟨_, n, rfl, hnN, HSE, HUE, HME, HFE⟩
  case round =>
    clear HSE HUE HME HFE
    obtain ⟨Y, a, rfl, ha, S, HU, HM, HF⟩ := hrel
    rcases Nat.eq_zero_or_pos a with h0 | h0
    · subst h0
      have HKK : Hid (HpOk Y) := up_top HU.out
      have hz0 : ¬ ((0 : Nat) : Int) > 0 := by omega
      go_upto_region 3 with fail
      refine wp_region_told (fun W => Below wr.heap.size wr W) (by kernel_rfl) (by kernel_rfl) ((Below.refl wr.heap.size wr).drew) ?_
      refine told_pure (some 21) (.int .i64 (((0 : Nat) : Int))) rfl (by kernel_rfl) (fun _ => by kernel_rfl) ?_
      refine told_is (some 22) (.bool (decide (((0 : Nat) : Int) > 0))) (.bool false) (by rw [decide_eq_false hz0]) rfl (by kernel_rfl) (fun _ => by kernel_rfl) ?_
      refine told_pure (some 23) (.bool false) rfl (by kernel_rfl) (fun _ => by kernel_rfl) ?_
      refine told_skip (some 24) rfl (by kernel_rfl) ?_
      refine told_skip (some 25) rfl (by kernel_rfl) ?_
      refine told_skip (some 26) rfl (by kernel_rfl) ?_
      refine told_skip (some 27) rfl (by kernel_rfl) ?_
      refine told_skip (some 28) rfl (by kernel_rfl) ?_
      refine told_skip (some 29) rfl (by kernel_rfl) ?_
      refine told_skip (some 30) rfl (by kernel_rfl) ?_
      refine told_skip (some 31) rfl (by kernel_rfl) ?_
      refine told_skip (some 32) rfl (by kernel_rfl) ?_
      refine told_skip (some 33) rfl (by kernel_rfl) ?_
      refine told_skip (some 34) rfl (by kernel_rfl) ?_
      refine told_skip (some 35) rfl (by kernel_rfl) ?_
      refine told_skip (some 36) rfl (by kernel_rfl) ?_
      refine told_skip (some 37) rfl (by kernel_rfl) ?_
      refine told_skip (some 38) rfl (by kernel_rfl) ?_
      refine told_skip (some 39) rfl (by kernel_rfl) ?_
      refine told_skip (some 40) rfl (by kernel_rfl) ?_
      refine told_skip (some 41) rfl (by kernel_rfl) ?_
      refine told_skip (some 42) rfl (by kernel_rfl) ?_
      refine told_skip (some 43) rfl (by kernel_rfl) ?_
      refine told_skip (some 44) rfl (by kernel_rfl) ?_
      refine told_pure (some 45) (.bool false) rfl (by kernel_rfl) (fun _ => by kernel_rfl) ?_
      refine told_nil ?_
      intro W2 hS2
      simp only [Act.put, List.setIfInBounds_toArray, List.set_cons_zero, List.set_cons_succ]
      have S2 : Hid (HqS W2 R B mv fv Y p2 N c2) := S.out.bel hS2
      have HF2 : Hid (Fr8 R (.slice p n c) w W2) := HF.out.bel hS2
      clear hS2
      go_wp2
      go_end0
      refine ⟨rfl, Y, p2, c2, ?_⟩
      rw [HNN.out]
      exact ⟨S2.out, HKK.out, HM.out, HF2.out, HNE.out⟩
    obtain ⟨m, rfl⟩ : ∃ m, a = m + 1 := ⟨a - 1, by omega⟩
    obtain ⟨q, hq⟩ : ∃ q, m / 2 = q := ⟨_, rfl⟩
    have HQ : Hid (q = (m + 1 - 1) / 2 ∧ q ≤ m) := ⟨by omega, by omega⟩
    have hqm : q < N := by omega
    have hap : ((m + 1 : Nat) : Int) > 0 := by omega
    have e1 : IntKind.i64.wrap (((m + 1 : Nat) : Int) - 1) = (m : Int) := by rw [IntWalk.i64_in _ (by omega)]; omega
    have e2 : (m : Int) / 2 = (q : Int) := by omega
    have e3 : IntKind.i64.wrap (q : Int) = (q : Int) := IntWalk.i64_in _ (by omega)
    have hap' : (0 : Int) < ((m + 1 : Nat) : Int) := by omega
    obtain ⟨A, hA⟩ : ∃ A, m + 1 = A := ⟨_, rfl⟩
    have HAA : Hid (m + 1 = A) := hA
    rw [hA] at ha HU HQ hap hap' e1 ⊢
    obtain ⟨g, hp2, hgw, hBg, hnc, hgR, hcl⟩ := S.out.items (by omega)
    subst hp2
    obtain ⟨xa, hxa⟩ : ∃ x, Y[A]? = some x := ⟨_, List.getElem?_eq_getElem (by rw [S.out.len]; omega)⟩
    obtain ⟨xq, hxq⟩ : ∃ x, Y[q]? = some x := ⟨_, List.getElem?_eq_getElem (by rw [S.out.len]; omega)⟩
    have HXa : Hid (Y[A]? = some xa) := hxa
    have HXq : Hid (Y[q]? = some xq) := hxq
    have hca := hcl A xa hxa
    have hcq := hcl q xq hxq
    have hma := List.mem_of_getElem? hxa
    have hmq := List.mem_of_getElem? hxq
    have hsl := S.out.cells.2.2.2
    have hless := S.out.cells.2.2.1
    have haN : (A : Int) < N := by omega
    have hqN : (q : Int) < N := by omega
    clear hcl hxa hxq h0 hA hq
    go_upto_region 3 with fail
    by_cases hlt : ltJ xa xq
    · skip
      refine wp_region_told (fun W => Below wr.heap.size wr W) (by kernel_rfl) (by kernel_rfl) ((Below.refl wr.heap.size wr).drew) ?_
      refine told_pure (some 21) (.int .i64 ((A : Int))) rfl (by kernel_rfl) (fun _ => by kernel_rfl) ?_
      refine told_is (some 22) (.bool (decide ((A : Int) > 0))) (.bool true) (by rw [decide_eq_true hap]) rfl (by kernel_rfl) (fun _ => by kernel_rfl) ?_
      refine told_pure (some 23) (.bool true) rfl (by kernel_rfl) (fun _ => by kernel_rfl) ?_
      refine told_pure (some 24) (.pointer (some ⟨R, 2, none⟩)) rfl (by kernel_rfl) (fun _ => by kernel_rfl) ?_
      refine told_pure (some 25) (.pointer (some ⟨R, 2, none⟩)) rfl (by kernel_rfl) (fun _ => by kernel_rfl) ?_
      refine told_pure (some 26) (.pointer (some ⟨R, 2, none⟩)) rfl (by kernel_rfl) (fun _ => by kernel_rfl) ?_
      refine told_load (some 27) ⟨R, 2, none⟩ ((.func (.func 72) #[] #[])) rfl (by kernel_rfl) (fun _ => by kernel_rfl) (fun _ hS => atB hS hless) ?_
      refine told_pure (some 28) (.pointer (some ⟨R, 2, none⟩)) rfl (by kernel_rfl) (fun _ => by kernel_rfl) ?_
      refine told_pure (some 29) (.pointer (some ⟨R, 2, none⟩)) rfl (by kernel_rfl) (fun _ => by kernel_rfl) ?_
      refine told_pure (some 30) (.pointer (some ⟨R, 3, none⟩)) rfl (by kernel_rfl) (fun _ => by kernel_rfl) ?_
      refine told_load (some 31) ⟨R, 3, none⟩ (.slice (some ⟨g, 0, none⟩) N c2) rfl (by kernel_rfl) (fun _ => by kernel_rfl) (fun _ hS => atB hS hsl) ?_
      refine told_pure (some 32) (.int .i64 ((A : Int))) rfl (by kernel_rfl) (fun _ => by kernel_rfl) ?_
      refine told_pure (some 33) (.pointer (some ⟨g, A * 2, none⟩)) rfl (by kernel_rfl) (fun w => by go_simp) ?_
      refine told_loads (some 34) ⟨g, A * 2, none⟩ [.int .i64 xa.r, .pointer (some ⟨xa.b, 0, none⟩)] rfl (by kernel_rfl) (fun _ => by kernel_rfl) (fun W hS j u hj => atB hS (hca j u hj)) ?_
      refine told_pure (some 35) (.pointer (some ⟨R, 2, none⟩)) rfl (by kernel_rfl) (fun _ => by kernel_rfl) ?_
      refine told_pure (some 36) (.pointer (some ⟨R, 2, none⟩)) rfl (by kernel_rfl) (fun _ => by kernel_rfl) ?_
      refine told_pure (some 37) (.pointer (some ⟨R, 3, none⟩)) rfl (by kernel_rfl) (fun _ => by kernel_rfl) ?_
      refine told_load (some 38) ⟨R, 3, none⟩ (.slice (some ⟨g, 0, none⟩) N c2) rfl (by kernel_rfl) (fun _ => by kernel_rfl) (fun _ hS => atB hS hsl) ?_
      refine told_pure (some 39) (.int .i64 ((A : Int))) rfl (by kernel_rfl) (fun _ => by kernel_rfl) ?_
      refine told_is (some 40) (.int .i64 (IntKind.i64.wrap ((A : Int) - 1))) (.int .i64 (m : Int)) (by rw [e1]) rfl (by kernel_rfl) (fun _ => by kernel_rfl) ?_
      refine told_pure (some 41) (.int .i64 (q : Int)) rfl (by kernel_rfl) (fun w => by go_simp) ?_
      refine told_pure (some 42) (.pointer (some ⟨g, q * 2, none⟩)) rfl (by kernel_rfl) (fun w => by go_simp) ?_
      refine told_loads (some 43) ⟨g, q * 2, none⟩ [.int .i64 xq.r, .pointer (some ⟨xq.b, 0, none⟩)] rfl (by kernel_rfl) (fun _ => by kernel_rfl) (fun W hS j u hj => atB hS (hcq j u hj)) ?_
      refine told_call (some 44) (.bool true) 72 #[.agg #[.int .i64 xa.r, .pointer (some ⟨xa.b, 0, none⟩)], .agg #[.int .i64 xq.r, .pointer (some ⟨xq.b, 0, none⟩)]] rfl (by kernel_rfl) (fun _ => by kernel_rfl) (fun W hS => below_S ((sooner_c xa xq W (Sym.cell ((S.out.bel hS).ats _ hma)) (Sym.cell ((S.out.bel hS).ats _ hmq))).mono fun e w' ⟨he, hb⟩ => ⟨by rw [he, decide_eq_true hlt], hb⟩) hS) ?_
      refine told_pure (some 45) (.bool true) rfl (by kernel_rfl) (fun _ => by kernel_rfl) ?_
      refine told_nil ?_
      intro W2 hS2
      simp only [Act.put, List.setIfInBounds_toArray, List.set_cons_zero, List.set_cons_succ]
      have S2 : Hid (HqS W2 R B mv fv Y (some ⟨g, 0, none⟩) N c2) := S.out.bel hS2
      have HF2 : Hid (Fr8 R (.slice p n c) w W2) := HF.out.bel hS2
      clear hS2 hca hcq hsl hless
      go_wp2_with fail
      refine (swap_c Y A q xa xq W2 R B mv fv _ N c2 hN4 HXa.out HXq.out S2.out).mono ?_
      rintro e W3 ⟨rfl, hS3, hf3⟩
      have S3 : Hid (HqS W3 R B mv fv ((Y.set A xq).set q xa) (some ⟨g, 0, none⟩) N c2) := hS3
      have HF3 : Hid (Fr8 R (.slice p n c) w W3) := HF2.out.trans HNE.out hf3
      have hsw := swp_set HXa.out HXq.out
      have HU3 : Hid (UpI ((Y.set A xq).set q xa) q) := by
        have e : (A - 1) / 2 = q := by have := HQ.out.1; omega
        have h := up_step (by omega) HXa.out (by rw [e]; exact HXq.out) hlt (by rw [e]; exact hsw) HU.out
        rw [e] at h
        exact h
      have HM3 : Hid (∀ z, z ∈ (Y.set A xq).set q xa ↔ z ∈ X ∨ z = x) := fun z => (hsw.mem (List.getElem?_eq_some_iff.1 HXa.out).1 (List.getElem?_eq_some_iff.1 HXq.out).1 z).trans (HM.out z)
      have hqA : q < A := by have := HQ.out.2; have := HAA.out; omega
      clear hS3 hf3 hsw hlt
      go_wp2
      go_roundw
      case rel => first | exact ⟨_, q, by go_num, hqm, S3, HU3, HM3, HF3⟩ | ((repeat apply Exists.intro); exact ⟨⟨_, q, rfl, hqm, S3, HU3, HM3, HF3⟩, rfl⟩) | ((repeat apply Exists.intro); exact ⟨⟨_, q, by go_num, hqm, S3, HU3, HM3, HF3⟩, rfl⟩)
      case measure => simp [intOf] <;> omega
    · skip
      refine wp_region_told (fun W => Below wr.heap.size wr W) (by kernel_rfl) (by kernel_rfl) ((Below.refl wr.heap.size wr).drew) ?_
      refine told_pure (some 21) (.int .i64 ((A : Int))) rfl (by kernel_rfl) (fun _ => by kernel_rfl) ?_
      refine told_is (some 22) (.bool (decide ((A : Int) > 0))) (.bool true) (by rw [decide_eq_true hap]) rfl (by kernel_rfl) (fun _ => by kernel_rfl) ?_
      refine told_pure (some 23) (.bool true) rfl (by kernel_rfl) (fun _ => by kernel_rfl) ?_
      refine told_pure (some 24) (.pointer (some ⟨R, 2, none⟩)) rfl (by kernel_rfl) (fun _ => by kernel_rfl) ?_
      refine told_pure (some 25) (.pointer (some ⟨R, 2, none⟩)) rfl (by kernel_rfl) (fun _ => by kernel_rfl) ?_
      refine told_pure (some 26) (.pointer (some ⟨R, 2, none⟩)) rfl (by kernel_rfl) (fun _ => by kernel_rfl) ?_
      refine told_load (some 27) ⟨R, 2, none⟩ ((.func (.func 72) #[] #[])) rfl (by kernel_rfl) (fun _ => by kernel_rfl) (fun _ hS => atB hS hless) ?_
      refine told_pure (some 28) (.pointer (some ⟨R, 2, none⟩)) rfl (by kernel_rfl) (fun _ => by kernel_rfl) ?_
      refine told_pure (some 29) (.pointer (some ⟨R, 2, none⟩)) rfl (by kernel_rfl) (fun _ => by kernel_rfl) ?_
      refine told_pure (some 30) (.pointer (some ⟨R, 3, none⟩)) rfl (by kernel_rfl) (fun _ => by kernel_rfl) ?_
      refine told_load (some 31) ⟨R, 3, none⟩ (.slice (some ⟨g, 0, none⟩) N c2) rfl (by kernel_rfl) (fun _ => by kernel_rfl) (fun _ hS => atB hS hsl) ?_
      refine told_pure (some 32) (.int .i64 ((A : Int))) rfl (by kernel_rfl) (fun _ => by kernel_rfl) ?_
      refine told_pure (some 33) (.pointer (some ⟨g, A * 2, none⟩)) rfl (by kernel_rfl) (fun w => by go_simp) ?_
      refine told_loads (some 34) ⟨g, A * 2, none⟩ [.int .i64 xa.r, .pointer (some ⟨xa.b, 0, none⟩)] rfl (by kernel_rfl) (fun _ => by kernel_rfl) (fun W hS j u hj => atB hS (hca j u hj)) ?_
      refine told_pure (some 35) (.pointer (some ⟨R, 2, none⟩)) rfl (by kernel_rfl) (fun _ => by kernel_rfl) ?_
      refine told_pure (some 36) (.pointer (some ⟨R, 2, none⟩)) rfl (by kernel_rfl) (fun _ => by kernel_rfl) ?_
      refine told_pure (some 37) (.pointer (some ⟨R, 3, none⟩)) rfl (by kernel_rfl) (fun _ => by kernel_rfl) ?_
      refine told_load (some 38) ⟨R, 3, none⟩ (.slice (some ⟨g, 0, none⟩) N c2) rfl (by kernel_rfl) (fun _ => by kernel_rfl) (fun _ hS => atB hS hsl) ?_
      refine told_pure (some 39) (.int .i64 ((A : Int))) rfl (by kernel_rfl) (fun _ => by kernel_rfl) ?_
      refine told_is (some 40) (.int .i64 (IntKind.i64.wrap ((A : Int) - 1))) (.int .i64 (m : Int)) (by rw [e1]) rfl (by kernel_rfl) (fun _ => by kernel_rfl) ?_
      refine told_pure (some 41) (.int .i64 (q : Int)) rfl (by kernel_rfl) (fun w => by go_simp) ?_
      refine told_pure (some 42) (.pointer (some ⟨g, q * 2, none⟩)) rfl (by kernel_rfl) (fun w => by go_simp) ?_
      refine told_loads (some 43) ⟨g, q * 2, none⟩ [.int .i64 xq.r, .pointer (some ⟨xq.b, 0, none⟩)] rfl (by kernel_rfl) (fun _ => by kernel_rfl) (fun W hS j u hj => atB hS (hcq j u hj)) ?_
      refine told_call (some 44) (.bool false) 72 #[.agg #[.int .i64 xa.r, .pointer (some ⟨xa.b, 0, none⟩)], .agg #[.int .i64 xq.r, .pointer (some ⟨xq.b, 0, none⟩)]] rfl (by kernel_rfl) (fun _ => by kernel_rfl) (fun W hS => below_S ((sooner_c xa xq W (Sym.cell ((S.out.bel hS).ats _ hma)) (Sym.cell ((S.out.bel hS).ats _ hmq))).mono fun e w' ⟨he, hb⟩ => ⟨by rw [he, decide_eq_false hlt], hb⟩) hS) ?_
      refine told_pure (some 45) (.bool false) rfl (by kernel_rfl) (fun _ => by kernel_rfl) ?_
      refine told_nil ?_
      intro W2 hS2
      simp only [Act.put, List.setIfInBounds_toArray, List.set_cons_zero, List.set_cons_succ]
      have S2 : Hid (HqS W2 R B mv fv Y (some ⟨g, 0, none⟩) N c2) := S.out.bel hS2
      have HF2 : Hid (Fr8 R (.slice p n c) w W2) := HF.out.bel hS2
      clear hS2 hca hcq hsl hless
      have HKK : Hid (HpOk Y) := up_done HXa.out (by have e : (A - 1) / 2 = q := by { have := HQ.out.1; omega }
                                                     rw [e]; exact HXq.out) hlt HU.out
      clear hlt
      go_wp2
      go_end0
      refine ⟨rfl, Y, (some ⟨g, 0, none⟩), c2, ?_⟩
      rw [HNN.out]
      exact ⟨S2.out, HKK.out, HM.out, HF2.out, HNE.out⟩

end Go.Proofs.Ytdggkcohidijcaa
