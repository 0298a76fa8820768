/- Which joint merges first; two that change places. -/
import Derived.Test.YtdggkcohidijcaaH8Mem
import Derived.Test.YtdggkcohidijcaaVcOk
namespace Go.Proofs.Ytdggkcohidijcaa
open Go.RowKit
set_option linter.unusedVariables false
set_option linter.unusedSimpArgs false

set_option maxRecDepth 20000 in
set_option maxHeartbeats 4000000 in
theorem sooner_c (x y : Jt) (w : World) (hx : w.cell? ⟨x.b, 1, none⟩ = some (.int .i64 x.a)) (hy : w.cell? ⟨y.b, 1, none⟩ = some (.int .i64 y.a)) :
    Calls Try.prog 72 #[.agg #[.int .i64 x.r, .pointer (some ⟨x.b, 0, none⟩)], .agg #[.int .i64 y.r, .pointer (some ⟨y.b, 0, none⟩)]] w fun e w' => e = .returned (.bool (decide (ltJ x y))) ∧ Below w.heap.size w w' := by
  obtain ⟨W1, hW1⟩ : ∃ W, W = (w.alloc (.cells #[.int .i64 x.r, .pointer (some ⟨x.b, 0, none⟩)] 112)).alloc (.cells #[.int .i64 y.r, .pointer (some ⟨y.b, 0, none⟩)] 112) := ⟨_, rfl⟩
  have HW1 : Hid ((w.alloc (.cells #[.int .i64 x.r, .pointer (some ⟨x.b, 0, none⟩)] 112)).alloc (.cells #[.int .i64 y.r, .pointer (some ⟨y.b, 0, none⟩)] 112) = W1) := hW1.symm
  have HB : Below w.heap.size w W1 := by rw [hW1]; exact ((Below.refl _ _).alloc (Nat.le_refl _) _).alloc (by simp) _
  have HBH : Hid (Below w.heap.size w W1) := HB
  have e0 : W1.cell? ⟨x.b, 1, none⟩ = some (.int .i64 x.a) := by rw [HB.cell (by exact World.block_lt_of_cell? w _ hx)]; exact hx
  have e1 : W1.cell? ⟨y.b, 1, none⟩ = some (.int .i64 y.a) := by rw [HB.cell (by exact World.block_lt_of_cell? w _ hy)]; exact hy
  obtain ⟨d0, d1⟩ := box2 (show W1.heap[w.heap.size]? = some (.cells #[.int .i64 x.r, .pointer (some ⟨x.b, 0, none⟩)] 112) by rw [hW1, Below.heap_alloc _ _ _ (by simp)]; exact alloc_last _ _)
  obtain ⟨d2, d3⟩ := box2 (show W1.heap[w.heap.size + 1]? = some (.cells #[.int .i64 y.r, .pointer (some ⟨y.b, 0, none⟩)] 112) by
    rw [hW1]
    have := alloc_last (w.alloc (.cells #[.int .i64 x.r, .pointer (some ⟨x.b, 0, none⟩)] 112)) (.cells #[.int .i64 y.r, .pointer (some ⟨y.b, 0, none⟩)] 112)
    rw [World.size_alloc] at this
    exact this)
  clear hW1 hx hy HB
  by_cases g0 : x.r < y.r
  · have HF : Hid (ltJ x y) := .inl g0
    go_enter Try.func72, Try.ntmps72
    go_upto_region 1 with fail
    rw [HW1.out]
    refine wp_region_told (fun W => Below W1.heap.size W1 W) (by kernel_rfl) (by kernel_rfl) ((Below.refl W1.heap.size W1).drew) ?_
    refine told_pure (some 5) (.pointer (some ⟨w.heap.size, 0, none⟩)) rfl (by kernel_rfl) (fun _ => by kernel_rfl) ?_
    refine told_load (some 6) ⟨w.heap.size, 0, none⟩ (.int .i64 x.r) rfl (by kernel_rfl) (fun _ => by kernel_rfl) (fun _ hS => atB hS d0) ?_
    refine told_pure (some 7) (.pointer (some ⟨w.heap.size + 1, 0, none⟩)) rfl (by kernel_rfl) (fun _ => by kernel_rfl) ?_
    refine told_load (some 8) ⟨w.heap.size + 1, 0, none⟩ (.int .i64 y.r) rfl (by kernel_rfl) (fun _ => by kernel_rfl) (fun _ hS => atB hS d2) ?_
    refine told_is (some 9) (.bool (decide (x.r < y.r))) (.bool true) (by rw [decide_eq_true g0]) rfl (by kernel_rfl) (fun _ => by kernel_rfl) ?_
    refine told_pure (some 10) (.bool true) rfl (by kernel_rfl) (fun _ => by kernel_rfl) ?_
    refine told_skip (some 11) rfl (by kernel_rfl) ?_
    refine told_skip (some 12) rfl (by kernel_rfl) ?_
    refine told_skip (some 13) rfl (by kernel_rfl) ?_
    refine told_skip (some 14) rfl (by kernel_rfl) ?_
    refine told_skip (some 15) rfl (by kernel_rfl) ?_
    refine told_skip (some 16) rfl (by kernel_rfl) ?_
    refine told_skip (some 17) rfl (by kernel_rfl) ?_
    refine told_skip (some 18) rfl (by kernel_rfl) ?_
    refine told_skip (some 19) rfl (by kernel_rfl) ?_
    refine told_skip (some 20) rfl (by kernel_rfl) ?_
    refine told_skip (some 21) rfl (by kernel_rfl) ?_
    refine told_skip (some 22) rfl (by kernel_rfl) ?_
    refine told_skip (some 23) rfl (by kernel_rfl) ?_
    refine told_skip (some 24) rfl (by kernel_rfl) ?_
    refine told_skip (some 25) rfl (by kernel_rfl) ?_
    refine told_skip (some 26) rfl (by kernel_rfl) ?_
    refine told_skip (some 27) rfl (by kernel_rfl) ?_
    refine told_skip (some 28) rfl (by kernel_rfl) ?_
    refine told_pure (some 29) (.bool true) rfl (by kernel_rfl) (fun _ => by kernel_rfl) ?_
    refine told_pure (some 4) (.bool true) rfl (by kernel_rfl) (fun _ => by kernel_rfl) ?_
    refine told_nil ?_
    intro W2 hS2
    simp only [Act.put, List.setIfInBounds_toArray, List.set_cons_zero, List.set_cons_succ]
    have HB2 : Hid (Below w.heap.size w W2) := HBH.out.trans (Below.mono hS2 HBH.out.size)
    clear hS2 d0 d1 d2 d3 e0 e1
    go_wp2
    go_ret
    exact ⟨retV_t HF.out, HB2.out⟩
  · by_cases g1' : x.r = y.r
    · have g1 : (x.r == y.r) = true := by simp [g1']
      by_cases g2 : x.a < y.a
      · have HF : Hid (ltJ x y) := .inr ⟨g1', g2⟩
        clear g1'
        go_enter Try.func72, Try.ntmps72
        go_upto_region 1 with fail
        rw [HW1.out]
        refine wp_region_told (fun W => Below W1.heap.size W1 W) (by kernel_rfl) (by kernel_rfl) ((Below.refl W1.heap.size W1).drew) ?_
        refine told_pure (some 5) (.pointer (some ⟨w.heap.size, 0, none⟩)) rfl (by kernel_rfl) (fun _ => by kernel_rfl) ?_
        refine told_load (some 6) ⟨w.heap.size, 0, none⟩ (.int .i64 x.r) rfl (by kernel_rfl) (fun _ => by kernel_rfl) (fun _ hS => atB hS d0) ?_
        refine told_pure (some 7) (.pointer (some ⟨w.heap.size + 1, 0, none⟩)) rfl (by kernel_rfl) (fun _ => by kernel_rfl) ?_
        refine told_load (some 8) ⟨w.heap.size + 1, 0, none⟩ (.int .i64 y.r) rfl (by kernel_rfl) (fun _ => by kernel_rfl) (fun _ hS => atB hS d2) ?_
        refine told_is (some 9) (.bool (decide (x.r < y.r))) (.bool false) (by rw [decide_eq_false g0]) rfl (by kernel_rfl) (fun _ => by kernel_rfl) ?_
        refine told_pure (some 10) (.bool false) rfl (by kernel_rfl) (fun _ => by kernel_rfl) ?_
        refine told_pure (some 11) (.pointer (some ⟨w.heap.size, 0, none⟩)) rfl (by kernel_rfl) (fun _ => by kernel_rfl) ?_
        refine told_load (some 12) ⟨w.heap.size, 0, none⟩ (.int .i64 x.r) rfl (by kernel_rfl) (fun _ => by kernel_rfl) (fun _ hS => atB hS d0) ?_
        refine told_pure (some 13) (.pointer (some ⟨w.heap.size + 1, 0, none⟩)) rfl (by kernel_rfl) (fun _ => by kernel_rfl) ?_
        refine told_load (some 14) ⟨w.heap.size + 1, 0, none⟩ (.int .i64 y.r) rfl (by kernel_rfl) (fun _ => by kernel_rfl) (fun _ hS => atB hS d2) ?_
        refine told_is (some 15) (.bool (x.r == y.r)) (.bool true) (by rw [g1]) rfl (by kernel_rfl) (fun _ => by kernel_rfl) ?_
        refine told_pure (some 16) (.bool true) rfl (by kernel_rfl) (fun _ => by kernel_rfl) ?_
        refine told_pure (some 17) (.pointer (some ⟨w.heap.size, 1, none⟩)) rfl (by kernel_rfl) (fun _ => by kernel_rfl) ?_
        refine told_load (some 18) ⟨w.heap.size, 1, none⟩ (.pointer (some ⟨x.b, 0, none⟩)) rfl (by kernel_rfl) (fun _ => by kernel_rfl) (fun _ hS => atB hS d1) ?_
        refine told_pure (some 19) (.pointer (some ⟨x.b, 0, none⟩)) rfl (by kernel_rfl) (fun _ => by kernel_rfl) ?_
        refine told_pure (some 20) (.pointer (some ⟨x.b, 1, none⟩)) rfl (by kernel_rfl) (fun _ => by kernel_rfl) ?_
        refine told_load (some 21) ⟨x.b, 1, none⟩ (.int .i64 x.a) rfl (by kernel_rfl) (fun _ => by kernel_rfl) (fun _ hS => atB hS e0) ?_
        refine told_pure (some 22) (.pointer (some ⟨w.heap.size + 1, 1, none⟩)) rfl (by kernel_rfl) (fun _ => by kernel_rfl) ?_
        refine told_load (some 23) ⟨w.heap.size + 1, 1, none⟩ (.pointer (some ⟨y.b, 0, none⟩)) rfl (by kernel_rfl) (fun _ => by kernel_rfl) (fun _ hS => atB hS d3) ?_
        refine told_pure (some 24) (.pointer (some ⟨y.b, 0, none⟩)) rfl (by kernel_rfl) (fun _ => by kernel_rfl) ?_
        refine told_pure (some 25) (.pointer (some ⟨y.b, 1, none⟩)) rfl (by kernel_rfl) (fun _ => by kernel_rfl) ?_
        refine told_load (some 26) ⟨y.b, 1, none⟩ (.int .i64 y.a) rfl (by kernel_rfl) (fun _ => by kernel_rfl) (fun _ hS => atB hS e1) ?_
        refine told_is (some 27) (.bool (decide (x.a < y.a))) (.bool true) (by rw [decide_eq_true g2]) rfl (by kernel_rfl) (fun _ => by kernel_rfl) ?_
        refine told_pure (some 28) (.bool true) rfl (by kernel_rfl) (fun _ => by kernel_rfl) ?_
        refine told_pure (some 29) (.bool true) rfl (by kernel_rfl) (fun _ => by kernel_rfl) ?_
        refine told_pure (some 4) (.bool true) rfl (by kernel_rfl) (fun _ => by kernel_rfl) ?_
        refine told_nil ?_
        intro W2 hS2
        simp only [Act.put, List.setIfInBounds_toArray, List.set_cons_zero, List.set_cons_succ]
        have HB2 : Hid (Below w.heap.size w W2) := HBH.out.trans (Below.mono hS2 HBH.out.size)
        clear hS2 d0 d1 d2 d3 e0 e1
        go_wp2
        go_ret
        exact ⟨retV_t HF.out, HB2.out⟩
      · have HF : Hid (¬ ltJ x y) := fun h => h.elim g0 fun h => g2 h.2
        clear g1'
        go_enter Try.func72, Try.ntmps72
        go_upto_region 1 with fail
        rw [HW1.out]
        refine wp_region_told (fun W => Below W1.heap.size W1 W) (by kernel_rfl) (by kernel_rfl) ((Below.refl W1.heap.size W1).drew) ?_
        refine told_pure (some 5) (.pointer (some ⟨w.heap.size, 0, none⟩)) rfl (by kernel_rfl) (fun _ => by kernel_rfl) ?_
        refine told_load (some 6) ⟨w.heap.size, 0, none⟩ (.int .i64 x.r) rfl (by kernel_rfl) (fun _ => by kernel_rfl) (fun _ hS => atB hS d0) ?_
        refine told_pure (some 7) (.pointer (some ⟨w.heap.size + 1, 0, none⟩)) rfl (by kernel_rfl) (fun _ => by kernel_rfl) ?_
        refine told_load (some 8) ⟨w.heap.size + 1, 0, none⟩ (.int .i64 y.r) rfl (by kernel_rfl) (fun _ => by kernel_rfl) (fun _ hS => atB hS d2) ?_
        refine told_is (some 9) (.bool (decide (x.r < y.r))) (.bool false) (by rw [decide_eq_false g0]) rfl (by kernel_rfl) (fun _ => by kernel_rfl) ?_
        refine told_pure (some 10) (.bool false) rfl (by kernel_rfl) (fun _ => by kernel_rfl) ?_
        refine told_pure (some 11) (.pointer (some ⟨w.heap.size, 0, none⟩)) rfl (by kernel_rfl) (fun _ => by kernel_rfl) ?_
        refine told_load (some 12) ⟨w.heap.size, 0, none⟩ (.int .i64 x.r) rfl (by kernel_rfl) (fun _ => by kernel_rfl) (fun _ hS => atB hS d0) ?_
        refine told_pure (some 13) (.pointer (some ⟨w.heap.size + 1, 0, none⟩)) rfl (by kernel_rfl) (fun _ => by kernel_rfl) ?_
        refine told_load (some 14) ⟨w.heap.size + 1, 0, none⟩ (.int .i64 y.r) rfl (by kernel_rfl) (fun _ => by kernel_rfl) (fun _ hS => atB hS d2) ?_
        refine told_is (some 15) (.bool (x.r == y.r)) (.bool true) (by rw [g1]) rfl (by kernel_rfl) (fun _ => by kernel_rfl) ?_
        refine told_pure (some 16) (.bool true) rfl (by kernel_rfl) (fun _ => by kernel_rfl) ?_
        refine told_pure (some 17) (.pointer (some ⟨w.heap.size, 1, none⟩)) rfl (by kernel_rfl) (fun _ => by kernel_rfl) ?_
        refine told_load (some 18) ⟨w.heap.size, 1, none⟩ (.pointer (some ⟨x.b, 0, none⟩)) rfl (by kernel_rfl) (fun _ => by kernel_rfl) (fun _ hS => atB hS d1) ?_
        refine told_pure (some 19) (.pointer (some ⟨x.b, 0, none⟩)) rfl (by kernel_rfl) (fun _ => by kernel_rfl) ?_
        refine told_pure (some 20) (.pointer (some ⟨x.b, 1, none⟩)) rfl (by kernel_rfl) (fun _ => by kernel_rfl) ?_
        refine told_load (some 21) ⟨x.b, 1, none⟩ (.int .i64 x.a) rfl (by kernel_rfl) (fun _ => by kernel_rfl) (fun _ hS => atB hS e0) ?_
        refine told_pure (some 22) (.pointer (some ⟨w.heap.size + 1, 1, none⟩)) rfl (by kernel_rfl) (fun _ => by kernel_rfl) ?_
        refine told_load (some 23) ⟨w.heap.size + 1, 1, none⟩ (.pointer (some ⟨y.b, 0, none⟩)) rfl (by kernel_rfl) (fun _ => by kernel_rfl) (fun _ hS => atB hS d3) ?_
        refine told_pure (some 24) (.pointer (some ⟨y.b, 0, none⟩)) rfl (by kernel_rfl) (fun _ => by kernel_rfl) ?_
        refine told_pure (some 25) (.pointer (some ⟨y.b, 1, none⟩)) rfl (by kernel_rfl) (fun _ => by kernel_rfl) ?_
        refine told_load (some 26) ⟨y.b, 1, none⟩ (.int .i64 y.a) rfl (by kernel_rfl) (fun _ => by kernel_rfl) (fun _ hS => atB hS e1) ?_
        refine told_is (some 27) (.bool (decide (x.a < y.a))) (.bool false) (by rw [decide_eq_false g2]) rfl (by kernel_rfl) (fun _ => by kernel_rfl) ?_
        refine told_pure (some 28) (.bool false) rfl (by kernel_rfl) (fun _ => by kernel_rfl) ?_
        refine told_pure (some 29) (.bool false) rfl (by kernel_rfl) (fun _ => by kernel_rfl) ?_
        refine told_pure (some 4) (.bool false) rfl (by kernel_rfl) (fun _ => by kernel_rfl) ?_
        refine told_nil ?_
        intro W2 hS2
        simp only [Act.put, List.setIfInBounds_toArray, List.set_cons_zero, List.set_cons_succ]
        have HB2 : Hid (Below w.heap.size w W2) := HBH.out.trans (Below.mono hS2 HBH.out.size)
        clear hS2 d0 d1 d2 d3 e0 e1
        go_wp2
        go_ret
        exact ⟨retV_f HF.out, HB2.out⟩
    · have g1 : (x.r == y.r) = false := by simp [g1']
      have HF : Hid (¬ ltJ x y) := fun h => h.elim g0 fun h => g1' h.1
      clear g1'
      go_enter Try.func72, Try.ntmps72
      go_upto_region 1 with fail
      rw [HW1.out]
      refine wp_region_told (fun W => Below W1.heap.size W1 W) (by kernel_rfl) (by kernel_rfl) ((Below.refl W1.heap.size W1).drew) ?_
      refine told_pure (some 5) (.pointer (some ⟨w.heap.size, 0, none⟩)) rfl (by kernel_rfl) (fun _ => by kernel_rfl) ?_
      refine told_load (some 6) ⟨w.heap.size, 0, none⟩ (.int .i64 x.r) rfl (by kernel_rfl) (fun _ => by kernel_rfl) (fun _ hS => atB hS d0) ?_
      refine told_pure (some 7) (.pointer (some ⟨w.heap.size + 1, 0, none⟩)) rfl (by kernel_rfl) (fun _ => by kernel_rfl) ?_
      refine told_load (some 8) ⟨w.heap.size + 1, 0, none⟩ (.int .i64 y.r) rfl (by kernel_rfl) (fun _ => by kernel_rfl) (fun _ hS => atB hS d2) ?_
      refine told_is (some 9) (.bool (decide (x.r < y.r))) (.bool false) (by rw [decide_eq_false g0]) rfl (by kernel_rfl) (fun _ => by kernel_rfl) ?_
      refine told_pure (some 10) (.bool false) rfl (by kernel_rfl) (fun _ => by kernel_rfl) ?_
      refine told_pure (some 11) (.pointer (some ⟨w.heap.size, 0, none⟩)) rfl (by kernel_rfl) (fun _ => by kernel_rfl) ?_
      refine told_load (some 12) ⟨w.heap.size, 0, none⟩ (.int .i64 x.r) rfl (by kernel_rfl) (fun _ => by kernel_rfl) (fun _ hS => atB hS d0) ?_
      refine told_pure (some 13) (.pointer (some ⟨w.heap.size + 1, 0, none⟩)) rfl (by kernel_rfl) (fun _ => by kernel_rfl) ?_
      refine told_load (some 14) ⟨w.heap.size + 1, 0, none⟩ (.int .i64 y.r) rfl (by kernel_rfl) (fun _ => by kernel_rfl) (fun _ hS => atB hS d2) ?_
      refine told_is (some 15) (.bool (x.r == y.r)) (.bool false) (by rw [g1]) rfl (by kernel_rfl) (fun _ => by kernel_rfl) ?_
      refine told_pure (some 16) (.bool false) rfl (by kernel_rfl) (fun _ => by kernel_rfl) ?_
      refine told_skip (some 17) rfl (by kernel_rfl) ?_
      refine told_skip (some 18) rfl (by kernel_rfl) ?_
      refine told_skip (some 19) rfl (by kernel_rfl) ?_
      refine told_skip (some 20) rfl (by kernel_rfl) ?_
      refine told_skip (some 21) rfl (by kernel_rfl) ?_
      refine told_skip (some 22) rfl (by kernel_rfl) ?_
      refine told_skip (some 23) rfl (by kernel_rfl) ?_
      refine told_skip (some 24) rfl (by kernel_rfl) ?_
      refine told_skip (some 25) rfl (by kernel_rfl) ?_
      refine told_skip (some 26) rfl (by kernel_rfl) ?_
      refine told_skip (some 27) rfl (by kernel_rfl) ?_
      refine told_pure (some 28) (.bool false) rfl (by kernel_rfl) (fun _ => by kernel_rfl) ?_
      refine told_pure (some 29) (.bool false) rfl (by kernel_rfl) (fun _ => by kernel_rfl) ?_
      refine told_pure (some 4) (.bool false) rfl (by kernel_rfl) (fun _ => by kernel_rfl) ?_
      refine told_nil ?_
      intro W2 hS2
      simp only [Act.put, List.setIfInBounds_toArray, List.set_cons_zero, List.set_cons_succ]
      have HB2 : Hid (Below w.heap.size w W2) := HBH.out.trans (Below.mono hS2 HBH.out.size)
      clear hS2 d0 d1 d2 d3 e0 e1
      go_wp2
      go_ret
      exact ⟨retV_f HF.out, HB2.out⟩

set_option maxRecDepth 20000 in
set_option maxHeartbeats 4000000 in
theorem swap_c (X : List Jt) (i k : Nat) (x y : Jt) (w : World) (R B : Nat) (mv fv : Value) (p : Option Addr) (n c : Nat) (hn : n ≤ 4000) (hx : X[i]? = some x) (hy : X[k]? = some y) (S : HqS w R B mv fv X p n c) :
    Calls Try.prog 86 #[.pointer (some ⟨R, 2, none⟩), .int .i64 i, .int .i64 k] w fun e w' => e = .returned (.tuple #[]) ∧ HqS w' R B mv fv ((X.set i y).set k x) p n c ∧ Fr8 R (.slice p n c) w w' := by
  have HS : Hid (HqS w R B mv fv X p n c) := S
  have hiX : i < X.length := (List.getElem?_eq_some_iff.1 hx).1
  have hjX : k < X.length := (List.getElem?_eq_some_iff.1 hy).1
  have hin : i < n := by rw [← S.len]; exact hiX
  have hjn : k < n := by rw [← S.len]; exact hjX
  obtain ⟨g, rfl, hgw, hBg, hnc, hgR, hcl⟩ := S.items (by omega)
  have hin' : (i : Int) < n := by omega
  have hjn' : (k : Int) < n := by omega
  have HO0 : Hid (w.drew.ownsRow B 112 2 (.slice (some ⟨g, 0, none⟩) n c) n (rJ X)) := own_bel S.own (Below.refl _ _).drew (Nat.le_refl _)
  have SD := S.bel (w' := w.drew) (Below.refl _ _).drew
  have hsl := SD.cells.2.2.2
  have hcx : ∀ j u, ([.int .i64 x.r, .pointer (some ⟨x.b, 0, none⟩)] : List Value)[j]? = some u → w.drew.cell? ((⟨g, i * 2, none⟩ : Addr).add j) = some u := hcl i x hx
  have hcy : ∀ j u, ([.int .i64 y.r, .pointer (some ⟨y.b, 0, none⟩)] : List Value)[j]? = some u → w.drew.cell? ((⟨g, k * 2, none⟩ : Addr).add j) = some u := hcl k y hy
  have HXY : Hid (X[i]? = some x ∧ X[k]? = some y) := ⟨hx, hy⟩
  clear S SD hcl hx hy
  go_enter Try.func86, Try.ntmps86
  go_upto_region 0 with fail
  refine wp_region_L [⟨25, fun W => W.cell? ⟨R, 3, none⟩ = some (.slice (some ⟨g, 0, none⟩) n c)⟩, ⟨25, fun W => W.cell? ⟨R, 3, none⟩ = some (.slice (some ⟨g, 0, none⟩) n c)⟩, ⟨25, fun W => W.cell? ⟨R, 3, none⟩ = some (.slice (some ⟨g, 0, none⟩) n c)⟩, ⟨25, fun W => ∀ j u, ([.int .i64 y.r, .pointer (some ⟨y.b, 0, none⟩)] : List Value)[j]? = some u → W.cell? ((⟨g, k * 2, none⟩ : Addr).add j) = some u⟩, ⟨25, fun W => W.cell? ⟨R, 3, none⟩ = some (.slice (some ⟨g, 0, none⟩) n c)⟩, ⟨25, fun W => ∀ j u, ([.int .i64 x.r, .pointer (some ⟨x.b, 0, none⟩)] : List Value)[j]? = some u → W.cell? ((⟨g, i * 2, none⟩ : Addr).add j) = some u⟩] (by kernel_rfl) (fun f hf => by
      simp only [List.mem_cons, List.not_mem_nil, or_false] at hf
      rcases hf with rfl | rfl | rfl | rfl | rfl | rfl
      · exact hsl
      · exact hsl
      · exact hsl
      · exact hcy
      · exact hsl
      · exact hcx
      ) ?_
  refine At.take 0 (some 6) (.pointer (some ⟨R, 2, none⟩)) rfl rfl (by kernel_rfl) (by kernel_rfl) (by kernel_rfl) (by kernel_rfl) (fun _ _ _ h => h) (yl_pure (by kernel_rfl) (fun _ => by kernel_rfl)) ?_
  refine At.take 1 (some 7) (.pointer (some ⟨R, 2, none⟩)) rfl rfl (by kernel_rfl) (by kernel_rfl) (by kernel_rfl) (by kernel_rfl) (fun _ _ _ h => h) (yl_pure (by kernel_rfl) (fun _ => by kernel_rfl)) ?_
  refine At.take 2 (some 8) (.pointer (some ⟨R, 3, none⟩)) rfl rfl (by kernel_rfl) (by kernel_rfl) (by kernel_rfl) (by kernel_rfl) (fun _ _ _ h => h) (yl_pure (by kernel_rfl) (fun _ => by kernel_rfl)) ?_
  refine At.take 3 (some 9) (.slice (some ⟨g, 0, none⟩) n c) rfl rfl (by kernel_rfl) (by kernel_rfl) (by kernel_rfl) (by kernel_rfl) (fun _ _ _ h => h) (yl_load 25 ⟨R, 3, none⟩ (.slice (some ⟨g, 0, none⟩) n c) (List.mem_cons_self) [24, 25] (by kernel_rfl) rfl (by kernel_rfl) (fun _ => by kernel_rfl)) ?_
  refine At.take 4 (some 10) (.int .i64 (i : Int)) rfl rfl (by kernel_rfl) (by kernel_rfl) (by kernel_rfl) (by kernel_rfl) (fun _ _ _ h => h) (yl_pure (by kernel_rfl) (fun _ => by kernel_rfl)) ?_
  refine At.take 5 (some 11) (.pointer (some ⟨R, 2, none⟩)) rfl rfl (by kernel_rfl) (by kernel_rfl) (by kernel_rfl) (by kernel_rfl) (fun _ _ _ h => h) (yl_pure (by kernel_rfl) (fun _ => by kernel_rfl)) ?_
  refine At.take 6 (some 12) (.pointer (some ⟨R, 2, none⟩)) rfl rfl (by kernel_rfl) (by kernel_rfl) (by kernel_rfl) (by kernel_rfl) (fun _ _ _ h => h) (yl_pure (by kernel_rfl) (fun _ => by kernel_rfl)) ?_
  refine At.take 7 (some 13) (.pointer (some ⟨R, 3, none⟩)) rfl rfl (by kernel_rfl) (by kernel_rfl) (by kernel_rfl) (by kernel_rfl) (fun _ _ _ h => h) (yl_pure (by kernel_rfl) (fun _ => by kernel_rfl)) ?_
  refine At.take 8 (some 14) (.slice (some ⟨g, 0, none⟩) n c) rfl rfl (by kernel_rfl) (by kernel_rfl) (by kernel_rfl) (by kernel_rfl) (fun _ _ _ h => h) (yl_load 25 ⟨R, 3, none⟩ (.slice (some ⟨g, 0, none⟩) n c) (List.mem_cons_of_mem _ (List.mem_cons_self)) [24, 25] (by kernel_rfl) rfl (by kernel_rfl) (fun _ => by kernel_rfl)) ?_
  refine At.take 9 (some 15) (.int .i64 (k : Int)) rfl rfl (by kernel_rfl) (by kernel_rfl) (by kernel_rfl) (by kernel_rfl) (fun _ _ _ h => h) (yl_pure (by kernel_rfl) (fun _ => by kernel_rfl)) ?_
  refine At.take 10 (some 16) (.pointer (some ⟨R, 2, none⟩)) rfl rfl (by kernel_rfl) (by kernel_rfl) (by kernel_rfl) (by kernel_rfl) (fun _ _ _ h => h) (yl_pure (by kernel_rfl) (fun _ => by kernel_rfl)) ?_
  refine At.take 11 (some 17) (.pointer (some ⟨R, 2, none⟩)) rfl rfl (by kernel_rfl) (by kernel_rfl) (by kernel_rfl) (by kernel_rfl) (fun _ _ _ h => h) (yl_pure (by kernel_rfl) (fun _ => by kernel_rfl)) ?_
  refine At.take 12 (some 18) (.pointer (some ⟨R, 3, none⟩)) rfl rfl (by kernel_rfl) (by kernel_rfl) (by kernel_rfl) (by kernel_rfl) (fun _ _ _ h => h) (yl_pure (by kernel_rfl) (fun _ => by kernel_rfl)) ?_
  refine At.take 13 (some 19) (.slice (some ⟨g, 0, none⟩) n c) rfl rfl (by kernel_rfl) (by kernel_rfl) (by kernel_rfl) (by kernel_rfl) (fun _ _ _ h => h) (yl_load 25 ⟨R, 3, none⟩ (.slice (some ⟨g, 0, none⟩) n c) (List.mem_cons_of_mem _ (List.mem_cons_of_mem _ (List.mem_cons_self))) [15, 16, 24, 25] (by kernel_rfl) rfl (by kernel_rfl) (fun _ => by kernel_rfl)) ?_
  refine At.take 14 (some 20) (.int .i64 (k : Int)) rfl rfl (by kernel_rfl) (by kernel_rfl) (by kernel_rfl) (by kernel_rfl) (fun _ _ _ h => h) (yl_pure (by kernel_rfl) (fun _ => by kernel_rfl)) ?_
  refine At.take 15 (some 21) (.pointer (some ⟨g, k * 2, none⟩)) rfl rfl (by kernel_rfl) (by kernel_rfl) (by kernel_rfl) (by kernel_rfl) (fun _ _ _ h => h) (yl_pure (by kernel_rfl) (fun w => by go_simp)) ?_
  refine At.take 16 (some 22) (.agg #[.int .i64 y.r, .pointer (some ⟨y.b, 0, none⟩)]) rfl rfl (by kernel_rfl) (by kernel_rfl) (by kernel_rfl) (by kernel_rfl) (fun _ _ _ h => h) (yl_loads 25 ⟨g, k * 2, none⟩ [.int .i64 y.r, .pointer (some ⟨y.b, 0, none⟩)] (List.mem_cons_of_mem _ (List.mem_cons_of_mem _ (List.mem_cons_of_mem _ (List.mem_cons_self)))) [24, 25] (by kernel_rfl) rfl (by kernel_rfl) (fun _ => by kernel_rfl)) ?_
  refine At.take 17 (some 23) (.pointer (some ⟨R, 2, none⟩)) rfl rfl (by kernel_rfl) (by kernel_rfl) (by kernel_rfl) (by kernel_rfl) (fun _ _ _ h => h) (yl_pure (by kernel_rfl) (fun _ => by kernel_rfl)) ?_
  refine At.take 18 (some 24) (.pointer (some ⟨R, 2, none⟩)) rfl rfl (by kernel_rfl) (by kernel_rfl) (by kernel_rfl) (by kernel_rfl) (fun _ _ _ h => h) (yl_pure (by kernel_rfl) (fun _ => by kernel_rfl)) ?_
  refine At.take 19 (some 25) (.pointer (some ⟨R, 3, none⟩)) rfl rfl (by kernel_rfl) (by kernel_rfl) (by kernel_rfl) (by kernel_rfl) (fun _ _ _ h => h) (yl_pure (by kernel_rfl) (fun _ => by kernel_rfl)) ?_
  refine At.take 20 (some 26) (.slice (some ⟨g, 0, none⟩) n c) rfl rfl (by kernel_rfl) (by kernel_rfl) (by kernel_rfl) (by kernel_rfl) (fun _ _ _ h => h) (yl_load 25 ⟨R, 3, none⟩ (.slice (some ⟨g, 0, none⟩) n c) (List.mem_cons_of_mem _ (List.mem_cons_of_mem _ (List.mem_cons_of_mem _ (List.mem_cons_of_mem _ (List.mem_cons_self))))) [22, 23, 24, 25] (by kernel_rfl) rfl (by kernel_rfl) (fun _ => by kernel_rfl)) ?_
  refine At.take 21 (some 27) (.int .i64 (i : Int)) rfl rfl (by kernel_rfl) (by kernel_rfl) (by kernel_rfl) (by kernel_rfl) (fun _ _ _ h => h) (yl_pure (by kernel_rfl) (fun _ => by kernel_rfl)) ?_
  refine At.take 22 (some 28) (.pointer (some ⟨g, i * 2, none⟩)) rfl rfl (by kernel_rfl) (by kernel_rfl) (by kernel_rfl) (by kernel_rfl) (fun _ _ _ h => h) (yl_pure (by kernel_rfl) (fun w => by go_simp)) ?_
  refine At.take 23 (some 29) (.agg #[.int .i64 x.r, .pointer (some ⟨x.b, 0, none⟩)]) rfl rfl (by kernel_rfl) (by kernel_rfl) (by kernel_rfl) (by kernel_rfl) (fun _ _ _ h => h) (yl_loads 25 ⟨g, i * 2, none⟩ [.int .i64 x.r, .pointer (some ⟨x.b, 0, none⟩)] (List.mem_cons_of_mem _ (List.mem_cons_of_mem _ (List.mem_cons_of_mem _ (List.mem_cons_of_mem _ (List.mem_cons_of_mem _ (List.mem_cons_self)))))) [24, 25] (by kernel_rfl) rfl (by kernel_rfl) (fun _ => by kernel_rfl)) ?_
  refine At.take 24 (some 30) (.pointer (some ⟨g, i * 2, none⟩)) rfl rfl (by kernel_rfl) (by kernel_rfl) (by kernel_rfl) (by kernel_rfl) (fun _ _ _ h => h) (yl_pure (by kernel_rfl) (fun w => by go_simp)) ?_
  refine At.step 25 none rfl rfl (by kernel_rfl) (by kernel_rfl) (fun u W => u = undef ∧ W = w.drew.setCells g (i * 2) (cJ y)) (gives_storesO (b := g) (off := i * 2) (cs := cJ y) (fun _ => by kernel_rfl) (cJ_one y) (own_there HO0.out (i * 2) 2 (by omega))) ?_
  rintro u WA ⟨rfl, hWA⟩
  have HO1 : Hid (WA.ownsRow B 112 2 (.slice (some ⟨g, 0, none⟩) n c) n (rJ (X.set i y))) := by rw [hWA]; exact own_two HO0.out hiX
  refine ⟨held_cons (.inl (by kernel_rfl)) (held_cons (.inl (by kernel_rfl)) (held_cons (.inl (by kernel_rfl)) (held_cons (.inl (by kernel_rfl)) (held_cons (.inl (by kernel_rfl)) (held_cons (.inl (by kernel_rfl)) (held_nil)))))), ?_⟩
  refine At.take 26 (some 31) (.pointer (some ⟨g, k * 2, none⟩)) rfl rfl (by kernel_rfl) (by kernel_rfl) (by kernel_rfl) (by kernel_rfl) (fun _ _ _ h => h) (yl_pure (by kernel_rfl) (fun w => by go_simp)) ?_
  refine At.step 27 none rfl rfl (by kernel_rfl) (by kernel_rfl) (fun u W => u = undef ∧ W = WA.setCells g (k * 2) (cJ x)) (gives_storesO (b := g) (off := k * 2) (cs := cJ x) (fun _ => by kernel_rfl) (cJ_one x) (own_there HO1.out (k * 2) 2 (by omega))) ?_
  rintro u WE ⟨rfl, hWE⟩
  refine ⟨held_cons (.inl (by kernel_rfl)) (held_cons (.inl (by kernel_rfl)) (held_cons (.inl (by kernel_rfl)) (held_cons (.inl (by kernel_rfl)) (held_cons (.inl (by kernel_rfl)) (held_cons (.inl (by kernel_rfl)) (held_nil)))))), ?_⟩
  refine At.done (by kernel_rfl) ?_
  simp only [Act.put, List.setIfInBounds_toArray, List.set_cons_zero, List.set_cons_succ]
  have HF : Hid (HqS WE R B mv fv ((X.set i y).set k x) (some ⟨g, 0, none⟩) n c) := by
    have S := HS.out
    have hne : ∀ cs o W b, b ≠ g → (World.setCells W g o cs).heap[b]? = W.heap[b]? := fun cs o W b hk => setCells_block g cs o W b hk
    refine ⟨?_, ?_, by simp [S.len], fun z hz => ?_⟩
    · rw [hWE, hne _ _ _ _ (Ne.symm hgR), hWA, hne _ _ _ _ (Ne.symm hgR)]
      exact S.row
    · rw [hWE]; exact own_two HO1.out (by simpa using hjX)
    · have hz' : z ∈ X := ((swp_set HXY.out.1 HXY.out.2).mem hiX hjX z).1 hz
      obtain ⟨t, p1, p2, hs⟩ := S.ats z hz'
      have hzg : z.b ≠ g := fun e => kind_ne S.own hs (by decide) (by rw [e]; rfl)
      exact ⟨t, p1, p2, by rw [hWE, hne _ _ _ _ hzg, hWA, hne _ _ _ _ hzg]; exact hs⟩
  have HG : Hid (Fr8 R (.slice (some ⟨g, 0, none⟩) n c) w WE) := by rw [hWE, hWA]; exact ((Fr8.of_bel (Below.refl _ _).drew).setCells _ _).setCells _ _
  clear hWE hWA HO1 HO0
  go_wp2
  go_end0
  exact ⟨rfl, HF.out, HG.out⟩

end Go.Proofs.Ytdggkcohidijcaa
