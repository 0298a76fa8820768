/- Which joint merges first; two that change places. -/
import Derived.Test.YtdggkcohidijcaaH8Mem
import Derived.Test.YtdggkcohidijcaaVcOk
import Derived.Test.YtdggkcohidijcaaRgCut
import Derived.Maps.AppendAt
namespace Go.Proofs.Ytdggkcohidijcaa
open Go.RowKit
set_option linter.unusedVariables false
set_option linter.unusedSimpArgs false

set_option maxRecDepth 20000 in
set_option maxHeartbeats 4000000 in
theorem sooner_c (x y : Jt) (w : World) (hx : w.cell? ⟨x.b, 1, none⟩ = some (.int .i64 x.a)) (hy : w.cell? ⟨y.b, 1, none⟩ = some (.int .i64 y.a)) :
    Calls Try.prog 72 #[.agg #[.int .i64 x.r, .pointer (some ⟨x.b, 0, none⟩)], .agg #[.int .i64 y.r, .pointer (some ⟨y.b, 0, none⟩)]] w fun e w' => e = .returned (.bool (decide (ltJ x y))) ∧ Below w.heap.size w w' := by
  obtain ⟨W1, hW1⟩ : ∃ W, W = (w.alloc (.cells #[.int .i64 x.r, .pointer (some ⟨x.b, 0, none⟩)] 112)).alloc (.cells #[.int .i64 y.r, .pointer (some ⟨y.b, 0, none⟩)] 112) := ⟨_, rfl⟩
  have HW1 : Hid ((w.alloc (.cells #[.int .i64 x.r, .pointer (some ⟨x.b, 0, none⟩)] 112)).alloc (.cells #[.int .i64 y.r, .pointer (some ⟨y.b, 0, none⟩)] 112) = W1) := hW1.symm
  have HB : Below w.heap.size w W1 := by rw [hW1]; exact ((Below.refl _ _).alloc (Nat.le_refl _) _).alloc (by simp) _
  have HBH : Hid (Below w.heap.size w W1) := HB
  have e0 : W1.cell? ⟨x.b, 1, none⟩ = some (.int .i64 x.a) := by rw [HB.cell (by exact World.block_lt_of_cell? w _ hx)]; exact hx
  have e1 : W1.cell? ⟨y.b, 1, none⟩ = some (.int .i64 y.a) := by rw [HB.cell (by exact World.block_lt_of_cell? w _ hy)]; exact hy
  obtain ⟨d0, d1⟩ := box2 (show W1.heap[w.heap.size]? = some (.cells #[.int .i64 x.r, .pointer (some ⟨x.b, 0, none⟩)] 112) by rw [hW1, Below.heap_alloc _ _ _ (by simp)]; exact alloc_last _ _)
  obtain ⟨d2, d3⟩ := box2 (show W1.heap[w.heap.size + 1]? = some (.cells #[.int .i64 y.r, .pointer (some ⟨y.b, 0, none⟩)] 112) by
    rw [hW1]
    have := alloc_last (w.alloc (.cells #[.int .i64 x.r, .pointer (some ⟨x.b, 0, none⟩)] 112)) (.cells #[.int .i64 y.r, .pointer (some ⟨y.b, 0, none⟩)] 112)
    rw [World.size_alloc] at this
    exact this)
  clear hW1 hx hy HB
  by_cases g0 : x.r < y.r
  · have HF : Hid (ltJ x y) := .inl g0
    go_enter Try.func72, Try.ntmps72
    go_upto_region 1 with fail
    rw [HW1.out]
    refine wp_region_told (fun W => Below W1.heap.size W1 W) (by kernel_rfl) (by kernel_rfl) ((Below.refl W1.heap.size W1).drew) ?_
    refine told_pure (some 5) (.pointer (some ⟨w.heap.size, 0, none⟩)) rfl (by kernel_rfl) (fun _ => by kernel_rfl) ?_
    refine told_load (some 6) ⟨w.heap.size, 0, none⟩ (.int .i64 x.r) rfl (by kernel_rfl) (fun _ => by kernel_rfl) (fun _ hS => atB hS d0) ?_
    refine told_pure (some 7) (.pointer (some ⟨w.heap.size + 1, 0, none⟩)) rfl (by kernel_rfl) (fun _ => by kernel_rfl) ?_
    refine told_load (some 8) ⟨w.heap.size + 1, 0, none⟩ (.int .i64 y.r) rfl (by kernel_rfl) (fun _ => by kernel_rfl) (fun _ hS => atB hS d2) ?_
    refine told_is (some 9) (.bool (decide (x.r < y.r))) (.bool true) (by rw [decide_eq_true g0]) rfl (by kernel_rfl) (fun _ => by kernel_rfl) ?_
    refine told_pure (some 10) (.bool true) rfl (by kernel_rfl) (fun _ => by kernel_rfl) ?_
    refine told_skip (some 11) rfl (by kernel_rfl) ?_
    refine told_skip (some 12) rfl (by kernel_rfl) ?_
    refine told_skip (some 13) rfl (by kernel_rfl) ?_
    refine told_skip (some 14) rfl (by kernel_rfl) ?_
    refine told_skip (some 15) rfl (by kernel_rfl) ?_
    refine told_skip (some 16) rfl (by kernel_rfl) ?_
    refine told_skip (some 17) rfl (by kernel_rfl) ?_
    refine told_skip (some 18) rfl (by kernel_rfl) ?_
    refine told_skip (some 19) rfl (by kernel_rfl) ?_
    refine told_skip (some 20) rfl (by kernel_rfl) ?_
    refine told_skip (some 21) rfl (by kernel_rfl) ?_
    refine told_skip (some 22) rfl (by kernel_rfl) ?_
    refine told_skip (some 23) rfl (by kernel_rfl) ?_
    refine told_skip (some 24) rfl (by kernel_rfl) ?_
    refine told_skip (some 25) rfl (by kernel_rfl) ?_
    refine told_skip (some 26) rfl (by kernel_rfl) ?_
    refine told_skip (some 27) rfl (by kernel_rfl) ?_
    refine told_skip (some 28) rfl (by kernel_rfl) ?_
    refine told_pure (some 29) (.bool true) rfl (by kernel_rfl) (fun _ => by kernel_rfl) ?_
    refine told_pure (some 4) (.bool true) rfl (by kernel_rfl) (fun _ => by kernel_rfl) ?_
    refine told_nil ?_
    intro W2 hS2
    simp only [Act.put, List.setIfInBounds_toArray, List.set_cons_zero, List.set_cons_succ]
    have HB2 : Hid (Below w.heap.size w W2) := HBH.out.trans (Below.mono hS2 HBH.out.size)
    clear hS2 d0 d1 d2 d3 e0 e1
    go_wp2
    go_ret
    exact ⟨retV_t HF.out, HB2.out⟩
  · by_cases g1' : x.r = y.r
    · have g1 : (x.r == y.r) = true := by simp [g1']
      by_cases g2 : x.a < y.a
      · have HF : Hid (ltJ x y) := .inr ⟨g1', g2⟩
        clear g1'
        go_enter Try.func72, Try.ntmps72
        go_upto_region 1 with fail
        rw [HW1.out]
        refine wp_region_told (fun W => Below W1.heap.size W1 W) (by kernel_rfl) (by kernel_rfl) ((Below.refl W1.heap.size W1).drew) ?_
        refine told_pure (some 5) (.pointer (some ⟨w.heap.size, 0, none⟩)) rfl (by kernel_rfl) (fun _ => by kernel_rfl) ?_
        refine told_load (some 6) ⟨w.heap.size, 0, none⟩ (.int .i64 x.r) rfl (by kernel_rfl) (fun _ => by kernel_rfl) (fun _ hS => atB hS d0) ?_
        refine told_pure (some 7) (.pointer (some ⟨w.heap.size + 1, 0, none⟩)) rfl (by kernel_rfl) (fun _ => by kernel_rfl) ?_
        refine told_load (some 8) ⟨w.heap.size + 1, 0, none⟩ (.int .i64 y.r) rfl (by kernel_rfl) (fun _ => by kernel_rfl) (fun _ hS => atB hS d2) ?_
        refine told_is (some 9) (.bool (decide (x.r < y.r))) (.bool false) (by rw [decide_eq_false g0]) rfl (by kernel_rfl) (fun _ => by kernel_rfl) ?_
        refine told_pure (some 10) (.bool false) rfl (by kernel_rfl) (fun _ => by kernel_rfl) ?_
        refine told_pure (some 11) (.pointer (some ⟨w.heap.size, 0, none⟩)) rfl (by kernel_rfl) (fun _ => by kernel_rfl) ?_
        refine told_load (some 12) ⟨w.heap.size, 0, none⟩ (.int .i64 x.r) rfl (by kernel_rfl) (fun _ => by kernel_rfl) (fun _ hS => atB hS d0) ?_
        refine told_pure (some 13) (.pointer (some ⟨w.heap.size + 1, 0, none⟩)) rfl (by kernel_rfl) (fun _ => by kernel_rfl) ?_
        refine told_load (some 14) ⟨w.heap.size + 1, 0, none⟩ (.int .i64 y.r) rfl (by kernel_rfl) (fun _ => by kernel_rfl) (fun _ hS => atB hS d2) ?_
        refine told_is (some 15) (.bool (x.r == y.r)) (.bool true) (by rw [g1]) rfl (by kernel_rfl) (fun _ => by kernel_rfl) ?_
        refine told_pure (some 16) (.bool true) rfl (by kernel_rfl) (fun _ => by kernel_rfl) ?_
        refine told_pure (some 17) (.pointer (some ⟨w.heap.size, 1, none⟩)) rfl (by kernel_rfl) (fun _ => by kernel_rfl) ?_
        refine told_load (some 18) ⟨w.heap.size, 1, none⟩ (.pointer (some ⟨x.b, 0, none⟩)) rfl (by kernel_rfl) (fun _ => by kernel_rfl) (fun _ hS => atB hS d1) ?_
        refine told_pure (some 19) (.pointer (some ⟨x.b, 0, none⟩)) rfl (by kernel_rfl) (fun _ => by kernel_rfl) ?_
        refine told_pure (some 20) (.pointer (some ⟨x.b, 1, none⟩)) rfl (by kernel_rfl) (fun _ => by kernel_rfl) ?_
        refine told_load (some 21) ⟨x.b, 1, none⟩ (.int .i64 x.a) rfl (by kernel_rfl) (fun _ => by kernel_rfl) (fun _ hS => atB hS e0) ?_
        refine told_pure (some 22) (.pointer (some ⟨w.heap.size + 1, 1, none⟩)) rfl (by kernel_rfl) (fun _ => by kernel_rfl) ?_
        refine told_load (some 23) ⟨w.heap.size + 1, 1, none⟩ (.pointer (some ⟨y.b, 0, none⟩)) rfl (by kernel_rfl) (fun _ => by kernel_rfl) (fun _ hS => atB hS d3) ?_
        refine told_pure (some 24) (.pointer (some ⟨y.b, 0, none⟩)) rfl (by kernel_rfl) (fun _ => by kernel_rfl) ?_
        refine told_pure (some 25) (.pointer (some ⟨y.b, 1, none⟩)) rfl (by kernel_rfl) (fun _ => by kernel_rfl) ?_
        refine told_load (some 26) ⟨y.b, 1, none⟩ (.int .i64 y.a) rfl (by kernel_rfl) (fun _ => by kernel_rfl) (fun _ hS => atB hS e1) ?_
        refine told_is (some 27) (.bool (decide (x.a < y.a))) (.bool true) (by rw [decide_eq_true g2]) rfl (by kernel_rfl) (fun _ => by kernel_rfl) ?_
        refine told_pure (some 28) (.bool true) rfl (by kernel_rfl) (fun _ => by kernel_rfl) ?_
        refine told_pure (some 29) (.bool true) rfl (by kernel_rfl) (fun _ => by kernel_rfl) ?_
        refine told_pure (some 4) (.bool true) rfl (by kernel_rfl) (fun _ => by kernel_rfl) ?_
        refine told_nil ?_
        intro W2 hS2
        simp only [Act.put, List.setIfInBounds_toArray, List.set_cons_zero, List.set_cons_succ]
        have HB2 : Hid (Below w.heap.size w W2) := HBH.out.trans (Below.mono hS2 HBH.out.size)
        clear hS2 d0 d1 d2 d3 e0 e1
        go_wp2
        go_ret
        exact ⟨retV_t HF.out, HB2.out⟩
      · have HF : Hid (¬ ltJ x y) := fun h => h.elim g0 fun h => g2 h.2
        clear g1'
        go_enter Try.func72, Try.ntmps72
        go_upto_region 1 with fail
        rw [HW1.out]
        refine wp_region_told (fun W => Below W1.heap.size W1 W) (by kernel_rfl) (by kernel_rfl) ((Below.refl W1.heap.size W1).drew) ?_
        refine told_pure (some 5) (.pointer (some ⟨w.heap.size, 0, none⟩)) rfl (by kernel_rfl) (fun _ => by kernel_rfl) ?_
        refine told_load (some 6) ⟨w.heap.size, 0, none⟩ (.int .i64 x.r) rfl (by kernel_rfl) (fun _ => by kernel_rfl) (fun _ hS => atB hS d0) ?_
        refine told_pure (some 7) (.pointer (some ⟨w.heap.size + 1, 0, none⟩)) rfl (by kernel_rfl) (fun _ => by kernel_rfl) ?_
        refine told_load (some 8) ⟨w.heap.size + 1, 0, none⟩ (.int .i64 y.r) rfl (by kernel_rfl) (fun _ => by kernel_rfl) (fun _ hS => atB hS d2) ?_
        refine told_is (some 9) (.bool (decide (x.r < y.r))) (.bool false) (by rw [decide_eq_false g0]) rfl (by kernel_rfl) (fun _ => by kernel_rfl) ?_
        refine told_pure (some 10) (.bool false) rfl (by kernel_rfl) (fun _ => by kernel_rfl) ?_
        refine told_pure (some 11) (.pointer (some ⟨w.heap.size, 0, none⟩)) rfl (by kernel_rfl) (fun _ => by kernel_rfl) ?_
        refine told_load (some 12) ⟨w.heap.size, 0, none⟩ (.int .i64 x.r) rfl (by kernel_rfl) (fun _ => by kernel_rfl) (fun _ hS => atB hS d0) ?_
        refine told_pure (some 13) (.pointer (some ⟨w.heap.size + 1, 0, none⟩)) rfl (by kernel_rfl) (fun _ => by kernel_rfl) ?_
        refine told_load (some 14) ⟨w.heap.size + 1, 0, none⟩ (.int .i64 y.r) rfl (by kernel_rfl) (fun _ => by kernel_rfl) (fun _ hS => atB hS d2) ?_
        refine told_is (some 15) (.bool (x.r == y.r)) (.bool true) (by rw [g1]) rfl (by kernel_rfl) (fun _ => by kernel_rfl) ?_
        refine told_pure (some 16) (.bool true) rfl (by kernel_rfl) (fun _ => by kernel_rfl) ?_
        refine told_pure (some 17) (.pointer (some ⟨w.heap.size, 1, none⟩)) rfl (by kernel_rfl) (fun _ => by kernel_rfl) ?_
        refine told_load (some 18) ⟨w.heap.size, 1, none⟩ (.pointer (some ⟨x.b, 0, none⟩)) rfl (by kernel_rfl) (fun _ => by kernel_rfl) (fun _ hS => atB hS d1) ?_
        refine told_pure (some 19) (.pointer (some ⟨x.b, 0, none⟩)) rfl (by kernel_rfl) (fun _ => by kernel_rfl) ?_
        refine told_pure (some 20) (.pointer (some ⟨x.b, 1, none⟩)) rfl (by kernel_rfl) (fun _ => by kernel_rfl) ?_
        refine told_load (some 21) ⟨x.b, 1, none⟩ (.int .i64 x.a) rfl (by kernel_rfl) (fun _ => by kernel_rfl) (fun _ hS => atB hS e0) ?_
        refine told_pure (some 22) (.pointer (some ⟨w.heap.size + 1, 1, none⟩)) rfl (by kernel_rfl) (fun _ => by kernel_rfl) ?_
        refine told_load (some 23) ⟨w.heap.size + 1, 1, none⟩ (.pointer (some ⟨y.b, 0, none⟩)) rfl (by kernel_rfl) (fun _ => by kernel_rfl) (fun _ hS => atB hS d3) ?_
        refine told_pure (some 24) (.pointer (some ⟨y.b, 0, none⟩)) rfl (by kernel_rfl) (fun _ => by kernel_rfl) ?_
        refine told_pure (some 25) (.pointer (some ⟨y.b, 1, none⟩)) rfl (by kernel_rfl) (fun _ => by kernel_rfl) ?_
        refine told_load (some 26) ⟨y.b, 1, none⟩ (.int .i64 y.a) rfl (by kernel_rfl) (fun _ => by kernel_rfl) (fun _ hS => atB hS e1) ?_
        refine told_is (some 27) (.bool (decide (x.a < y.a))) (.bool false) (by rw [decide_eq_false g2]) rfl (by kernel_rfl) (fun _ => by kernel_rfl) ?_
        refine told_pure (some 28) (.bool false) rfl (by kernel_rfl) (fun _ => by kernel_rfl) ?_
        refine told_pure (some 29) (.bool false) rfl (by kernel_rfl) (fun _ => by kernel_rfl) ?_
        refine told_pure (some 4) (.bool false) rfl (by kernel_rfl) (fun _ => by kernel_rfl) ?_
        refine told_nil ?_
        intro W2 hS2
        simp only [Act.put, List.setIfInBounds_toArray, List.set_cons_zero, List.set_cons_succ]
        have HB2 : Hid (Below w.heap.size w W2) := HBH.out.trans (Below.mono hS2 HBH.out.size)
        clear hS2 d0 d1 d2 d3 e0 e1
        go_wp2
        go_ret
        exact ⟨retV_f HF.out, HB2.out⟩
    · have g1 : (x.r == y.r) = false := by simp [g1']
      have HF : Hid (¬ ltJ x y) := fun h => h.elim g0 fun h => g1' h.1
      clear g1'
      go_enter Try.func72, Try.ntmps72
      go_upto_region 1 with fail
      rw [HW1.out]
      refine wp_region_told (fun W => Below W1.heap.size W1 W) (by kernel_rfl) (by kernel_rfl) ((Below.refl W1.heap.size W1).drew) ?_
      refine told_pure (some 5) (.pointer (some ⟨w.heap.size, 0, none⟩)) rfl (by kernel_rfl) (fun _ => by kernel_rfl) ?_
      refine told_load (some 6) ⟨w.heap.size, 0, none⟩ (.int .i64 x.r) rfl (by kernel_rfl) (fun _ => by kernel_rfl) (fun _ hS => atB hS d0) ?_
      refine told_pure (some 7) (.pointer (some ⟨w.heap.size + 1, 0, none⟩)) rfl (by kernel_rfl) (fun _ => by kernel_rfl) ?_
      refine told_load (some 8) ⟨w.heap.size + 1, 0, none⟩ (.int .i64 y.r) rfl (by kernel_rfl) (fun _ => by kernel_rfl) (fun _ hS => atB hS d2) ?_
      refine told_is (some 9) (.bool (decide (x.r < y.r))) (.bool false) (by rw [decide_eq_false g0]) rfl (by kernel_rfl) (fun _ => by kernel_rfl) ?_
      refine told_pure (some 10) (.bool false) rfl (by kernel_rfl) (fun _ => by kernel_rfl) ?_
      refine told_pure (some 11) (.pointer (some ⟨w.heap.size, 0, none⟩)) rfl (by kernel_rfl) (fun _ => by kernel_rfl) ?_
      refine told_load (some 12) ⟨w.heap.size, 0, none⟩ (.int .i64 x.r) rfl (by kernel_rfl) (fun _ => by kernel_rfl) (fun _ hS => atB hS d0) ?_
      refine told_pure (some 13) (.pointer (some ⟨w.heap.size + 1, 0, none⟩)) rfl (by kernel_rfl) (fun _ => by kernel_rfl) ?_
      refine told_load (some 14) ⟨w.heap.size + 1, 0, none⟩ (.int .i64 y.r) rfl (by kernel_rfl) (fun _ => by kernel_rfl) (fun _ hS => atB hS d2) ?_
      refine told_is (some 15) (.bool (x.r == y.r)) (.bool false) (by rw [g1]) rfl (by kernel_rfl) (fun _ => by kernel_rfl) ?_
      refine told_pure (some 16) (.bool false) rfl (by kernel_rfl) (fun _ => by kernel_rfl) ?_
      refine told_skip (some 17) rfl (by kernel_rfl) ?_
      refine told_skip (some 18) rfl (by kernel_rfl) ?_
      refine told_skip (some 19) rfl (by kernel_rfl) ?_
      refine told_skip (some 20) rfl (by kernel_rfl) ?_
      refine told_skip (some 21) rfl (by kernel_rfl) ?_
      refine told_skip (some 22) rfl (by kernel_rfl) ?_
      refine told_skip (some 23) rfl (by kernel_rfl) ?_
      refine told_skip (some 24) rfl (by kernel_rfl) ?_
      refine told_skip (some 25) rfl (by kernel_rfl) ?_
      refine told_skip (some 26) rfl (by kernel_rfl) ?_
      refine told_skip (some 27) rfl (by kernel_rfl) ?_
      refine told_pure (some 28) (.bool false) rfl (by kernel_rfl) (fun _ => by kernel_rfl) ?_
      refine told_pure (some 29) (.bool false) rfl (by kernel_rfl) (fun _ => by kernel_rfl) ?_
      refine told_pure (some 4) (.bool false) rfl (by kernel_rfl) (fun _ => by kernel_rfl) ?_
      refine told_nil ?_
      intro W2 hS2
      simp only [Act.put, List.setIfInBounds_toArray, List.set_cons_zero, List.set_cons_succ]
      have HB2 : Hid (Below w.heap.size w W2) := HBH.out.trans (Below.mono hS2 HBH.out.size)
      clear hS2 d0 d1 d2 d3 e0 e1
      go_wp2
      go_ret
      exact ⟨retV_f HF.out, HB2.out⟩

set_option maxRecDepth 20000 in
set_option maxHeartbeats 4000000 in
theorem swap_c (X : List Jt) (i k : Nat) (x y : Jt) (w : World) (R B : Nat) (mv fv : Value) (p : Option Addr) (n c : Nat) (hn : n ≤ 4000) (hx : X[i]? = some x) (hy : X[k]? = some y) (S : HqS w R B mv fv X p n c) :
    Calls Try.prog 86 #[.pointer (some ⟨R, 2, none⟩), .int .i64 i, .int .i64 k] w fun e w' => e = .returned (.tuple #[]) ∧ HqS w' R B mv fv ((X.set i y).set k x) p n c ∧ Fr8 R (.slice p n c) w w' := by
  have HS : Hid (HqS w R B mv fv X p n c) := S
  have hiX : i < X.length := (List.getElem?_eq_some_iff.1 hx).1
  have hjX : k < X.length := (List.getElem?_eq_some_iff.1 hy).1
  have hin : i < n := by rw [← S.len]; exact hiX
  have hjn : k < n := by rw [← S.len]; exact hjX
  obtain ⟨g, rfl, hgw, hBg, hnc, hgR, hcl⟩ := S.items (by omega)
  have hin' : (i : Int) < n := by omega
  have hjn' : (k : Int) < n := by omega
  have HO0 : Hid (w.drew.ownsRow B 112 2 (.slice (some ⟨g, 0, none⟩) n c) n (rJ X)) := own_bel S.own (Below.refl _ _).drew (Nat.le_refl _)
  have SD := S.bel (w' := w.drew) (Below.refl _ _).drew
  have hsl := SD.cells.2.2.2
  have hcx : ∀ j u, ([.int .i64 x.r, .pointer (some ⟨x.b, 0, none⟩)] : List Value)[j]? = some u → w.drew.cell? ((⟨g, i * 2, none⟩ : Addr).add j) = some u := hcl i x hx
  have hcy : ∀ j u, ([.int .i64 y.r, .pointer (some ⟨y.b, 0, none⟩)] : List Value)[j]? = some u → w.drew.cell? ((⟨g, k * 2, none⟩ : Addr).add j) = some u := hcl k y hy
  have HXY : Hid (X[i]? = some x ∧ X[k]? = some y) := ⟨hx, hy⟩
  clear S SD hcl hx hy
  go_enter Try.func86, Try.ntmps86
  go_upto_region 0 with fail
  refine wp_region_L [⟨25, fun W => W.cell? ⟨R, 3, none⟩ = some (.slice (some ⟨g, 0, none⟩) n c)⟩, ⟨25, fun W => W.cell? ⟨R, 3, none⟩ = some (.slice (some ⟨g, 0, none⟩) n c)⟩, ⟨25, fun W => W.cell? ⟨R, 3, none⟩ = some (.slice (some ⟨g, 0, none⟩) n c)⟩, ⟨25, fun W => ∀ j u, ([.int .i64 y.r, .pointer (some ⟨y.b, 0, none⟩)] : List Value)[j]? = some u → W.cell? ((⟨g, k * 2, none⟩ : Addr).add j) = some u⟩, ⟨25, fun W => W.cell? ⟨R, 3, none⟩ = some (.slice (some ⟨g, 0, none⟩) n c)⟩, ⟨25, fun W => ∀ j u, ([.int .i64 x.r, .pointer (some ⟨x.b, 0, none⟩)] : List Value)[j]? = some u → W.cell? ((⟨g, i * 2, none⟩ : Addr).add j) = some u⟩] (by kernel_rfl) (fun f hf => by
      simp only [List.mem_cons, List.not_mem_nil, or_false] at hf
      rcases hf with rfl | rfl | rfl | rfl | rfl | rfl
      · exact hsl
      · exact hsl
      · exact hsl
      · exact hcy
      · exact hsl
      · exact hcx
      ) ?_
  refine At.take 0 (some 6) (.pointer (some ⟨R, 2, none⟩)) rfl rfl (by kernel_rfl) (by kernel_rfl) (by kernel_rfl) (by kernel_rfl) (fun _ _ _ h => h) (yl_pure (by kernel_rfl) (fun _ => by kernel_rfl)) ?_
  refine At.take 1 (some 7) (.pointer (some ⟨R, 2, none⟩)) rfl rfl (by kernel_rfl) (by kernel_rfl) (by kernel_rfl) (by kernel_rfl) (fun _ _ _ h => h) (yl_pure (by kernel_rfl) (fun _ => by kernel_rfl)) ?_
  refine At.take 2 (some 8) (.pointer (some ⟨R, 3, none⟩)) rfl rfl (by kernel_rfl) (by kernel_rfl) (by kernel_rfl) (by kernel_rfl) (fun _ _ _ h => h) (yl_pure (by kernel_rfl) (fun _ => by kernel_rfl)) ?_
  refine At.take 3 (some 9) (.slice (some ⟨g, 0, none⟩) n c) rfl rfl (by kernel_rfl) (by kernel_rfl) (by kernel_rfl) (by kernel_rfl) (fun _ _ _ h => h) (yl_load 25 ⟨R, 3, none⟩ (.slice (some ⟨g, 0, none⟩) n c) (List.mem_cons_self) [24, 25] (by kernel_rfl) rfl (by kernel_rfl) (fun _ => by kernel_rfl)) ?_
  refine At.take 4 (some 10) (.int .i64 (i : Int)) rfl rfl (by kernel_rfl) (by kernel_rfl) (by kernel_rfl) (by kernel_rfl) (fun _ _ _ h => h) (yl_pure (by kernel_rfl) (fun _ => by kernel_rfl)) ?_
  refine At.take 5 (some 11) (.pointer (some ⟨R, 2, none⟩)) rfl rfl (by kernel_rfl) (by kernel_rfl) (by kernel_rfl) (by kernel_rfl) (fun _ _ _ h => h) (yl_pure (by kernel_rfl) (fun _ => by kernel_rfl)) ?_
  refine At.take 6 (some 12) (.pointer (some ⟨R, 2, none⟩)) rfl rfl (by kernel_rfl) (by kernel_rfl) (by kernel_rfl) (by kernel_rfl) (fun _ _ _ h => h) (yl_pure (by kernel_rfl) (fun _ => by kernel_rfl)) ?_
  refine At.take 7 (some 13) (.pointer (some ⟨R, 3, none⟩)) rfl rfl (by kernel_rfl) (by kernel_rfl) (by kernel_rfl) (by kernel_rfl) (fun _ _ _ h => h) (yl_pure (by kernel_rfl) (fun _ => by kernel_rfl)) ?_
  refine At.take 8 (some 14) (.slice (some ⟨g, 0, none⟩) n c) rfl rfl (by kernel_rfl) (by kernel_rfl) (by kernel_rfl) (by kernel_rfl) (fun _ _ _ h => h) (yl_load 25 ⟨R, 3, none⟩ (.slice (some ⟨g, 0, none⟩) n c) (List.mem_cons_of_mem _ (List.mem_cons_self)) [24, 25] (by kernel_rfl) rfl (by kernel_rfl) (fun _ => by kernel_rfl)) ?_
  refine At.take 9 (some 15) (.int .i64 (k : Int)) rfl rfl (by kernel_rfl) (by kernel_rfl) (by kernel_rfl) (by kernel_rfl) (fun _ _ _ h => h) (yl_pure (by kernel_rfl) (fun _ => by kernel_rfl)) ?_
  refine At.take 10 (some 16) (.pointer (some ⟨R, 2, none⟩)) rfl rfl (by kernel_rfl) (by kernel_rfl) (by kernel_rfl) (by kernel_rfl) (fun _ _ _ h => h) (yl_pure (by kernel_rfl) (fun _ => by kernel_rfl)) ?_
  refine At.take 11 (some 17) (.pointer (some ⟨R, 2, none⟩)) rfl rfl (by kernel_rfl) (by kernel_rfl) (by kernel_rfl) (by kernel_rfl) (fun _ _ _ h => h) (yl_pure (by kernel_rfl) (fun _ => by kernel_rfl)) ?_
  refine At.take 12 (some 18) (.pointer (some ⟨R, 3, none⟩)) rfl rfl (by kernel_rfl) (by kernel_rfl) (by kernel_rfl) (by kernel_rfl) (fun _ _ _ h => h) (yl_pure (by kernel_rfl) (fun _ => by kernel_rfl)) ?_
  refine At.take 13 (some 19) (.slice (some ⟨g, 0, none⟩) n c) rfl rfl (by kernel_rfl) (by kernel_rfl) (by kernel_rfl) (by kernel_rfl) (fun _ _ _ h => h) (yl_load 25 ⟨R, 3, none⟩ (.slice (some ⟨g, 0, none⟩) n c) (List.mem_cons_of_mem _ (List.mem_cons_of_mem _ (List.mem_cons_self))) [15, 16, 24, 25] (by kernel_rfl) rfl (by kernel_rfl) (fun _ => by kernel_rfl)) ?_
  refine At.take 14 (some 20) (.int .i64 (k : Int)) rfl rfl (by kernel_rfl) (by kernel_rfl) (by kernel_rfl) (by kernel_rfl) (fun _ _ _ h => h) (yl_pure (by kernel_rfl) (fun _ => by kernel_rfl)) ?_
  refine At.take 15 (some 21) (.pointer (some ⟨g, k * 2, none⟩)) rfl rfl (by kernel_rfl) (by kernel_rfl) (by kernel_rfl) (by kernel_rfl) (fun _ _ _ h => h) (yl_pure (by kernel_rfl) (fun w => by go_simp)) ?_
  refine At.take 16 (some 22) (.agg #[.int .i64 y.r, .pointer (some ⟨y.b, 0, none⟩)]) rfl rfl (by kernel_rfl) (by kernel_rfl) (by kernel_rfl) (by kernel_rfl) (fun _ _ _ h => h) (yl_loads 25 ⟨g, k * 2, none⟩ [.int .i64 y.r, .pointer (some ⟨y.b, 0, none⟩)] (List.mem_cons_of_mem _ (List.mem_cons_of_mem _ (List.mem_cons_of_mem _ (List.mem_cons_self)))) [24, 25] (by kernel_rfl) rfl (by kernel_rfl) (fun _ => by kernel_rfl)) ?_
  refine At.take 17 (some 23) (.pointer (some ⟨R, 2, none⟩)) rfl rfl (by kernel_rfl) (by kernel_rfl) (by kernel_rfl) (by kernel_rfl) (fun _ _ _ h => h) (yl_pure (by kernel_rfl) (fun _ => by kernel_rfl)) ?_
  refine At.take 18 (some 24) (.pointer (some ⟨R, 2, none⟩)) rfl rfl (by kernel_rfl) (by kernel_rfl) (by kernel_rfl) (by kernel_rfl) (fun _ _ _ h => h) (yl_pure (by kernel_rfl) (fun _ => by kernel_rfl)) ?_
  refine At.take 19 (some 25) (.pointer (some ⟨R, 3, none⟩)) rfl rfl (by kernel_rfl) (by kernel_rfl) (by kernel_rfl) (by kernel_rfl) (fun _ _ _ h => h) (yl_pure (by kernel_rfl) (fun _ => by kernel_rfl)) ?_
  refine At.take 20 (some 26) (.slice (some ⟨g, 0, none⟩) n c) rfl rfl (by kernel_rfl) (by kernel_rfl) (by kernel_rfl) (by kernel_rfl) (fun _ _ _ h => h) (yl_load 25 ⟨R, 3, none⟩ (.slice (some ⟨g, 0, none⟩) n c) (List.mem_cons_of_mem _ (List.mem_cons_of_mem _ (List.mem_cons_of_mem _ (List.mem_cons_of_mem _ (List.mem_cons_self))))) [22, 23, 24, 25] (by kernel_rfl) rfl (by kernel_rfl) (fun _ => by kernel_rfl)) ?_
  refine At.take 21 (some 27) (.int .i64 (i : Int)) rfl rfl (by kernel_rfl) (by kernel_rfl) (by kernel_rfl) (by kernel_rfl) (fun _ _ _ h => h) (yl_pure (by kernel_rfl) (fun _ => by kernel_rfl)) ?_
  refine At.take 22 (some 28) (.pointer (some ⟨g, i * 2, none⟩)) rfl rfl (by kernel_rfl) (by kernel_rfl) (by kernel_rfl) (by kernel_rfl) (fun _ _ _ h => h) (yl_pure (by kernel_rfl) (fun w => by go_simp)) ?_
  refine At.take 23 (some 29) (.agg #[.int .i64 x.r, .pointer (some ⟨x.b, 0, none⟩)]) rfl rfl (by kernel_rfl) (by kernel_rfl) (by kernel_rfl) (by kernel_rfl) (fun _ _ _ h => h) (yl_loads 25 ⟨g, i * 2, none⟩ [.int .i64 x.r, .pointer (some ⟨x.b, 0, none⟩)] (List.mem_cons_of_mem _ (List.mem_cons_of_mem _ (List.mem_cons_of_mem _ (List.mem_cons_of_mem _ (List.mem_cons_of_mem _ (List.mem_cons_self)))))) [24, 25] (by kernel_rfl) rfl (by kernel_rfl) (fun _ => by kernel_rfl)) ?_
  refine At.take 24 (some 30) (.pointer (some ⟨g, i * 2, none⟩)) rfl rfl (by kernel_rfl) (by kernel_rfl) (by kernel_rfl) (by kernel_rfl) (fun _ _ _ h => h) (yl_pure (by kernel_rfl) (fun w => by go_simp)) ?_
  refine At.step 25 none rfl rfl (by kernel_rfl) (by kernel_rfl) (fun u W => u = undef ∧ W = w.drew.setCells g (i * 2) (cJ y)) (gives_storesO (b := g) (off := i * 2) (cs := cJ y) (fun _ => by kernel_rfl) (cJ_one y) (own_there HO0.out (i * 2) 2 (by omega))) ?_
  rintro u WA ⟨rfl, hWA⟩
  have HO1 : Hid (WA.ownsRow B 112 2 (.slice (some ⟨g, 0, none⟩) n c) n (rJ (X.set i y))) := by rw [hWA]; exact own_two HO0.out hiX
  refine ⟨held_cons (.inl (by kernel_rfl)) (held_cons (.inl (by kernel_rfl)) (held_cons (.inl (by kernel_rfl)) (held_cons (.inl (by kernel_rfl)) (held_cons (.inl (by kernel_rfl)) (held_cons (.inl (by kernel_rfl)) (held_nil)))))), ?_⟩
  refine At.take 26 (some 31) (.pointer (some ⟨g, k * 2, none⟩)) rfl rfl (by kernel_rfl) (by kernel_rfl) (by kernel_rfl) (by kernel_rfl) (fun _ _ _ h => h) (yl_pure (by kernel_rfl) (fun w => by go_simp)) ?_
  refine At.step 27 none rfl rfl (by kernel_rfl) (by kernel_rfl) (fun u W => u = undef ∧ W = WA.setCells g (k * 2) (cJ x)) (gives_storesO (b := g) (off := k * 2) (cs := cJ x) (fun _ => by kernel_rfl) (cJ_one x) (own_there HO1.out (k * 2) 2 (by omega))) ?_
  rintro u WE ⟨rfl, hWE⟩
  refine ⟨held_cons (.inl (by kernel_rfl)) (held_cons (.inl (by kernel_rfl)) (held_cons (.inl (by kernel_rfl)) (held_cons (.inl (by kernel_rfl)) (held_cons (.inl (by kernel_rfl)) (held_cons (.inl (by kernel_rfl)) (held_nil)))))), ?_⟩
  refine At.done (by kernel_rfl) ?_
  simp only [Act.put, List.setIfInBounds_toArray, List.set_cons_zero, List.set_cons_succ]
  have HF : Hid (HqS WE R B mv fv ((X.set i y).set k x) (some ⟨g, 0, none⟩) n c) := by
    have S := HS.out
    have hne : ∀ cs o W b, b ≠ g → (World.setCells W g o cs).heap[b]? = W.heap[b]? := fun cs o W b hk => setCells_block g cs o W b hk
    refine ⟨?_, ?_, by simp [S.len], fun z hz => ?_⟩
    · rw [hWE, hne _ _ _ _ (Ne.symm hgR), hWA, hne _ _ _ _ (Ne.symm hgR)]
      exact S.row
    · rw [hWE]; exact own_two HO1.out (by simpa using hjX)
    · have hz' : z ∈ X := ((swp_set HXY.out.1 HXY.out.2).mem hiX hjX z).1 hz
      obtain ⟨t, p1, p2, hs⟩ := S.ats z hz'
      have hzg : z.b ≠ g := fun e => kind_ne S.own hs (by decide) (by rw [e]; rfl)
      exact ⟨t, p1, p2, by rw [hWE, hne _ _ _ _ hzg, hWA, hne _ _ _ _ hzg]; exact hs⟩
  have HG : Hid (Fr8 R (.slice (some ⟨g, 0, none⟩) n c) w WE) := by rw [hWE, hWA]; exact ((Fr8.of_bel (Below.refl _ _).drew).setCells _ _).setCells _ _
  clear hWE hWA HO1 HO0
  go_wp2
  go_end0
  exact ⟨rfl, HF.out, HG.out⟩

end Go.Proofs.Ytdggkcohidijcaa

/- An item that sinks. -/
namespace Go.Proofs.Ytdggkcohidijcaa
open Go.RowKit
set_option linter.unusedVariables false
set_option linter.unusedSimpArgs false

theorem hide8 {p : Prop} (h : p) : Hid p := h

set_option maxRecDepth 20000 in
set_option maxHeartbeats 4000000 in
theorem sink_c (X : List Jt) (w : World) (R B : Nat) (mv fv : Value) (p : Option Addr) (n c : Nat) (hn : n ≤ 4000) (S : HqS w R B mv fv X p n c) (hd : DnI X 0) :
    Calls Try.prog 87 #[.pointer (some ⟨R, 2, none⟩)] w fun e w' => e = .returned (.tuple #[]) ∧ ∃ Y, HqS w' R B mv fv Y p n c ∧ HpOk Y ∧ (∀ z, z ∈ Y ↔ z ∈ X) ∧ Fr8 R (.slice p n c) w w' := by
  have HS : Hid (HqS w R B mv fv X p n c) := S
  have HD : Hid (DnI X 0) := hd
  have hn' : (n : Int) ≤ 4000 := by omega
  have hsl0 := S.cells.2.2.2
  clear S hd
  go_enter Try.func87, Try.ntmps87
  go_wp2_with fail
  clear hsl0
  go_loopw [2, 3] (fun av bv wr => ∃ (Y : List Jt) (a b : Nat), av = .int .i64 (a : Int) ∧ bv = .int .i64 (b : Int) ∧ Hid (b = 2 * a + 1) ∧ a ≤ 4000 ∧ Hid (HqS wr R B mv fv Y p n c) ∧ Hid (DnI Y a) ∧ Hid (∀ z, z ∈ Y ↔ z ∈ X) ∧ Hid (Fr8 R (.slice p n c) w wr)) (fun av _ _ => n - (intOf av).toNat)
  case atStart => exact ⟨X, 0, 1, rfl, rfl, hide8 rfl, by omega, HS, HD, fun z => Iff.rfl, Fr8.refl _ _ _⟩
  case round =>
    clear HS HD
    obtain ⟨Y, a, b, rfl, rfl, HB0, ha, S, HD, HM, HF⟩ := hrel
    have hsl := S.out.cells.2.2.2
    have hless := S.out.cells.2.2.1
    by_cases hbn : b < n
    rotate_left
    · have HK : Hid (HpOk Y) := dn_none (c := a) (by have := HB0.out; rw [S.out.len]; omega) HD.out
      have hbn' : ¬ (b : Int) < n := by omega
      clear hbn
      go_wp2
      go_end0
      exact ⟨rfl, Y, S.out, HK.out, HM.out, HF.out⟩
    have hbn' : (b : Int) < n := by omega
    have han : a < n := by have := HB0.out; omega
    have han' : (a : Int) < n := by omega
    obtain ⟨g, rfl, hgw, hBg, hnc, hgR, hcl⟩ := S.out.items (by omega)
    obtain ⟨xa, hxa⟩ : ∃ x, Y[a]? = some x := ⟨_, List.getElem?_eq_getElem (by rw [S.out.len]; exact han)⟩
    obtain ⟨xb, hxb⟩ : ∃ x, Y[b]? = some x := ⟨_, List.getElem?_eq_getElem (by rw [S.out.len]; exact hbn)⟩
    obtain ⟨d, hd⟩ : ∃ d, b + 1 = d := ⟨_, rfl⟩
    have e1 : IntKind.i64.wrap ((b : Int) + 1) = (d : Int) := by rw [IntWalk.i64_in _ (by omega)]; omega
    have hca := hcl a xa hxa
    have hcb := hcl b xb hxb
    have HXa : Hid (Y[a]? = some xa) := hxa
    have HXb : Hid (Y[b]? = some xb) := hxb
    have HBA : Hid (b = 2 * a + 1 ∧ b + 1 = d) := ⟨HB0.out, hd⟩
    clear hd hbn
    have HBN : Hid (b < n) := by show _ < _; omega
    have hma := List.mem_of_getElem? hxa
    have hmb := List.mem_of_getElem? hxb
    clear hxa hxb
    go_upto_region 4 with fail
    by_cases hdn : d < n
    rotate_left
    · have hmin : Hid (∀ i x, 0 < i → (i - 1) / 2 = a → Y[i]? = some x → leJ xb x) := fun i x hi hp hx => by
        have hil := (List.getElem?_eq_some_iff.1 hx).1
        rw [S.out.len] at hil
        have : i = b := by have := HBA.out; omega
        rw [this, HXb.out] at hx
        cases hx
        exact leJ_refl _
      have hdn' : ¬ (d : Int) < n := by omega
      refine wp_region_told (fun W => Below wr.heap.size wr W) (by kernel_rfl) (by kernel_rfl) ((Below.refl wr.heap.size wr).drew) ?_
      refine told_pure (some 14) (.int .i64 (b : Int)) rfl (by kernel_rfl) (fun _ => by kernel_rfl) ?_
      refine told_is (some 15) (.int .i64 (IntKind.i64.wrap ((b : Int) + 1))) (.int .i64 (d : Int)) (by rw [e1]) rfl (by kernel_rfl) (fun _ => by kernel_rfl) ?_
      refine told_pure (some 16) (.pointer (some ⟨R, 2, none⟩)) rfl (by kernel_rfl) (fun _ => by kernel_rfl) ?_
      refine told_pure (some 17) (.pointer (some ⟨R, 2, none⟩)) rfl (by kernel_rfl) (fun _ => by kernel_rfl) ?_
      refine told_pure (some 18) (.pointer (some ⟨R, 3, none⟩)) rfl (by kernel_rfl) (fun _ => by kernel_rfl) ?_
      refine told_load (some 19) ⟨R, 3, none⟩ (.slice (some ⟨g, 0, none⟩) n c) rfl (by kernel_rfl) (fun _ => by kernel_rfl) (fun _ hS => atB hS hsl) ?_
      refine told_pure (some 20) (.int .i64 (n : Int)) rfl (by kernel_rfl) (fun _ => by kernel_rfl) ?_
      refine told_is (some 21) (.bool (decide ((d : Int) < (n : Int)))) (.bool false) (by rw [decide_eq_false hdn']) rfl (by kernel_rfl) (fun _ => by kernel_rfl) ?_
      refine told_pure (some 22) (.bool false) rfl (by kernel_rfl) (fun _ => by kernel_rfl) ?_
      refine told_skip (some 23) rfl (by kernel_rfl) ?_
      refine told_skip (some 24) rfl (by kernel_rfl) ?_
      refine told_skip (some 25) rfl (by kernel_rfl) ?_
      refine told_skip (some 26) rfl (by kernel_rfl) ?_
      refine told_skip (some 27) rfl (by kernel_rfl) ?_
      refine told_skip (some 28) rfl (by kernel_rfl) ?_
      refine told_skip (some 29) rfl (by kernel_rfl) ?_
      refine told_skip (some 30) rfl (by kernel_rfl) ?_
      refine told_skip (some 31) rfl (by kernel_rfl) ?_
      refine told_skip (some 32) rfl (by kernel_rfl) ?_
      refine told_skip (some 33) rfl (by kernel_rfl) ?_
      refine told_skip (some 34) rfl (by kernel_rfl) ?_
      refine told_skip (some 35) rfl (by kernel_rfl) ?_
      refine told_skip (some 36) rfl (by kernel_rfl) ?_
      refine told_skip (some 37) rfl (by kernel_rfl) ?_
      refine told_skip (some 38) rfl (by kernel_rfl) ?_
      refine told_skip (some 39) rfl (by kernel_rfl) ?_
      refine told_skip (some 40) rfl (by kernel_rfl) ?_
      refine told_skip (some 41) rfl (by kernel_rfl) ?_
      refine told_skip (some 42) rfl (by kernel_rfl) ?_
      refine told_pure (some 43) (.bool false) rfl (by kernel_rfl) (fun _ => by kernel_rfl) ?_
      refine told_nil ?_
      intro W2 hS2
      simp only [Act.put, List.setIfInBounds_toArray, List.set_cons_zero, List.set_cons_succ]
      have S2 : Hid (HqS W2 R B mv fv Y (some ⟨g, 0, none⟩) n c) := S.out.bel hS2
      have HF2 : Hid (Fr8 R (.slice (some ⟨g, 0, none⟩) n c) w W2) := HF.out.bel hS2
      have hsl2 := S2.out.cells.2.2.2
      have hless2 := S2.out.cells.2.2.1
      have hca2 := fun j u hj => atB hS2 (hca j u hj)
      have hcm2 := fun j u hj => atB hS2 (hcb j u hj)
      clear hS2
      go_upto_region 6 with fail
      by_cases hlm : ltJ xb xa
      · refine wp_region_told (fun W => Below W2.heap.size W2 W) (by kernel_rfl) (by kernel_rfl) ((Below.refl W2.heap.size W2).drew) ?_
        refine told_pure (some 46) (.pointer (some ⟨R, 2, none⟩)) rfl (by kernel_rfl) (fun _ => by kernel_rfl) ?_
        refine told_pure (some 47) (.pointer (some ⟨R, 2, none⟩)) rfl (by kernel_rfl) (fun _ => by kernel_rfl) ?_
        refine told_pure (some 48) (.pointer (some ⟨R, 2, none⟩)) rfl (by kernel_rfl) (fun _ => by kernel_rfl) ?_
        refine told_load (some 49) ⟨R, 2, none⟩ ((.func (.func 72) #[] #[])) rfl (by kernel_rfl) (fun _ => by kernel_rfl) (fun _ hS => atB hS hless2) ?_
        refine told_pure (some 50) (.pointer (some ⟨R, 2, none⟩)) rfl (by kernel_rfl) (fun _ => by kernel_rfl) ?_
        refine told_pure (some 51) (.pointer (some ⟨R, 2, none⟩)) rfl (by kernel_rfl) (fun _ => by kernel_rfl) ?_
        refine told_pure (some 52) (.pointer (some ⟨R, 3, none⟩)) rfl (by kernel_rfl) (fun _ => by kernel_rfl) ?_
        refine told_load (some 53) ⟨R, 3, none⟩ (.slice (some ⟨g, 0, none⟩) n c) rfl (by kernel_rfl) (fun _ => by kernel_rfl) (fun _ hS => atB hS hsl2) ?_
        refine told_pure (some 54) (.int .i64 (b : Int)) rfl (by kernel_rfl) (fun _ => by kernel_rfl) ?_
        refine told_pure (some 55) (.pointer (some ⟨g, b * 2, none⟩)) rfl (by kernel_rfl) (fun w => by go_simp) ?_
        refine told_loads (some 56) ⟨g, b * 2, none⟩ [.int .i64 xb.r, .pointer (some ⟨xb.b, 0, none⟩)] rfl (by kernel_rfl) (fun _ => by kernel_rfl) (fun W hS j u hj => atB hS (hcm2 j u hj)) ?_
        refine told_pure (some 57) (.pointer (some ⟨R, 2, none⟩)) rfl (by kernel_rfl) (fun _ => by kernel_rfl) ?_
        refine told_pure (some 58) (.pointer (some ⟨R, 2, none⟩)) rfl (by kernel_rfl) (fun _ => by kernel_rfl) ?_
        refine told_pure (some 59) (.pointer (some ⟨R, 3, none⟩)) rfl (by kernel_rfl) (fun _ => by kernel_rfl) ?_
        refine told_load (some 60) ⟨R, 3, none⟩ (.slice (some ⟨g, 0, none⟩) n c) rfl (by kernel_rfl) (fun _ => by kernel_rfl) (fun _ hS => atB hS hsl2) ?_
        refine told_pure (some 61) (.int .i64 (a : Int)) rfl (by kernel_rfl) (fun _ => by kernel_rfl) ?_
        refine told_pure (some 62) (.pointer (some ⟨g, a * 2, none⟩)) rfl (by kernel_rfl) (fun w => by go_simp) ?_
        refine told_loads (some 63) ⟨g, a * 2, none⟩ [.int .i64 xa.r, .pointer (some ⟨xa.b, 0, none⟩)] rfl (by kernel_rfl) (fun _ => by kernel_rfl) (fun W hS j u hj => atB hS (hca2 j u hj)) ?_
        refine told_call (some 64) (.bool true) 72 #[.agg #[.int .i64 xb.r, .pointer (some ⟨xb.b, 0, none⟩)], .agg #[.int .i64 xa.r, .pointer (some ⟨xa.b, 0, none⟩)]] rfl (by kernel_rfl) (fun _ => by kernel_rfl) (fun W hS => below_S ((sooner_c xb xa W (Sym.cell ((S2.out.bel hS).ats _ hmb)) (Sym.cell ((S2.out.bel hS).ats _ hma))).mono fun e w' ⟨he, hb⟩ => ⟨by rw [he, decide_eq_true hlm], hb⟩) hS) ?_
        refine told_pure (some 65) (.bool false) rfl (by kernel_rfl) (fun _ => by kernel_rfl) ?_
        refine told_nil ?_
        intro W3 hS3
        simp only [Act.put, List.setIfInBounds_toArray, List.set_cons_zero, List.set_cons_succ]
        have S3 : Hid (HqS W3 R B mv fv Y (some ⟨g, 0, none⟩) n c) := S2.out.bel hS3
        have HF3 : Hid (Fr8 R (.slice (some ⟨g, 0, none⟩) n c) w W3) := HF2.out.bel hS3
        clear hS3 hsl hless hsl2 hless2 hca hcb hca2 hcm2
        go_wp2_with fail
        refine (swap_c Y a b xa xb W3 R B mv fv _ n c hn HXa.out HXb.out S3.out).mono ?_
        rintro e W4 ⟨rfl, hS4, hf4⟩
        have S4 : Hid (HqS W4 R B mv fv ((Y.set a xb).set b xa) (some ⟨g, 0, none⟩) n c) := hS4
        have HF4 : Hid (Fr8 R (.slice (some ⟨g, 0, none⟩) n c) w W4) := HF3.out.trans (Nxt8.refl _ _) hf4
        have hsw := swp_set HXa.out HXb.out
        have HD4 : Hid (DnI ((Y.set a xb).set b xa) b) := dn_step (by have := HBA.out; omega) (by have := HBA.out; omega) HXa.out HXb.out hlm hmin.out hsw HD.out
        have HM4 : Hid (∀ z, z ∈ (Y.set a xb).set b xa ↔ z ∈ X) := fun z => (hsw.mem (List.getElem?_eq_some_iff.1 HXa.out).1 (List.getElem?_eq_some_iff.1 HXb.out).1 z).trans (HM.out z)
        obtain ⟨m2, hm2⟩ : ∃ m2, 2 * b + 1 = m2 := ⟨_, rfl⟩
        have ew0 : IntKind.i64.wrap (2 * (b : Int)) = 2 * (b : Int) := IntWalk.i64_in _ (by omega)
        have ew1 : IntKind.i64.wrap (2 * (b : Int) + 1) = (m2 : Int) := by rw [IntWalk.i64_in _ (by omega)]; omega
        have HM2 : Hid (m2 = 2 * b + 1) := hm2.symm
        clear hm2
        have hmle : b ≤ 4000 := by omega
        have hma2 : a < b := by have := HBA.out; omega
        have hmn4 : b < n := by have := HBA.out; have := HBN.out; omega
        clear hsw hS4 hf4 hlm
        go_wp2
        go_roundw
        case rel => exact ⟨_, b, m2, rfl, by go_num, HM2, hmle, S4, HD4, HM4, HF4⟩
        case measure => simp [intOf] <;> omega
      · have HK : Hid (HpOk Y) := dn_done HXa.out (fun i x hi hp hx => leJ_trans hlm (hmin.out i x hi hp hx)) HD.out
        refine wp_region_told (fun W => Below W2.heap.size W2 W) (by kernel_rfl) (by kernel_rfl) ((Below.refl W2.heap.size W2).drew) ?_
        refine told_pure (some 46) (.pointer (some ⟨R, 2, none⟩)) rfl (by kernel_rfl) (fun _ => by kernel_rfl) ?_
        refine told_pure (some 47) (.pointer (some ⟨R, 2, none⟩)) rfl (by kernel_rfl) (fun _ => by kernel_rfl) ?_
        refine told_pure (some 48) (.pointer (some ⟨R, 2, none⟩)) rfl (by kernel_rfl) (fun _ => by kernel_rfl) ?_
        refine told_load (some 49) ⟨R, 2, none⟩ ((.func (.func 72) #[] #[])) rfl (by kernel_rfl) (fun _ => by kernel_rfl) (fun _ hS => atB hS hless2) ?_
        refine told_pure (some 50) (.pointer (some ⟨R, 2, none⟩)) rfl (by kernel_rfl) (fun _ => by kernel_rfl) ?_
        refine told_pure (some 51) (.pointer (some ⟨R, 2, none⟩)) rfl (by kernel_rfl) (fun _ => by kernel_rfl) ?_
        refine told_pure (some 52) (.pointer (some ⟨R, 3, none⟩)) rfl (by kernel_rfl) (fun _ => by kernel_rfl) ?_
        refine told_load (some 53) ⟨R, 3, none⟩ (.slice (some ⟨g, 0, none⟩) n c) rfl (by kernel_rfl) (fun _ => by kernel_rfl) (fun _ hS => atB hS hsl2) ?_
        refine told_pure (some 54) (.int .i64 (b : Int)) rfl (by kernel_rfl) (fun _ => by kernel_rfl) ?_
        refine told_pure (some 55) (.pointer (some ⟨g, b * 2, none⟩)) rfl (by kernel_rfl) (fun w => by go_simp) ?_
        refine told_loads (some 56) ⟨g, b * 2, none⟩ [.int .i64 xb.r, .pointer (some ⟨xb.b, 0, none⟩)] rfl (by kernel_rfl) (fun _ => by kernel_rfl) (fun W hS j u hj => atB hS (hcm2 j u hj)) ?_
        refine told_pure (some 57) (.pointer (some ⟨R, 2, none⟩)) rfl (by kernel_rfl) (fun _ => by kernel_rfl) ?_
        refine told_pure (some 58) (.pointer (some ⟨R, 2, none⟩)) rfl (by kernel_rfl) (fun _ => by kernel_rfl) ?_
        refine told_pure (some 59) (.pointer (some ⟨R, 3, none⟩)) rfl (by kernel_rfl) (fun _ => by kernel_rfl) ?_
        refine told_load (some 60) ⟨R, 3, none⟩ (.slice (some ⟨g, 0, none⟩) n c) rfl (by kernel_rfl) (fun _ => by kernel_rfl) (fun _ hS => atB hS hsl2) ?_
        refine told_pure (some 61) (.int .i64 (a : Int)) rfl (by kernel_rfl) (fun _ => by kernel_rfl) ?_
        refine told_pure (some 62) (.pointer (some ⟨g, a * 2, none⟩)) rfl (by kernel_rfl) (fun w => by go_simp) ?_
        refine told_loads (some 63) ⟨g, a * 2, none⟩ [.int .i64 xa.r, .pointer (some ⟨xa.b, 0, none⟩)] rfl (by kernel_rfl) (fun _ => by kernel_rfl) (fun W hS j u hj => atB hS (hca2 j u hj)) ?_
        refine told_call (some 64) (.bool false) 72 #[.agg #[.int .i64 xb.r, .pointer (some ⟨xb.b, 0, none⟩)], .agg #[.int .i64 xa.r, .pointer (some ⟨xa.b, 0, none⟩)]] rfl (by kernel_rfl) (fun _ => by kernel_rfl) (fun W hS => below_S ((sooner_c xb xa W (Sym.cell ((S2.out.bel hS).ats _ hmb)) (Sym.cell ((S2.out.bel hS).ats _ hma))).mono fun e w' ⟨he, hb⟩ => ⟨by rw [he, decide_eq_false hlm], hb⟩) hS) ?_
        refine told_pure (some 65) (.bool true) rfl (by kernel_rfl) (fun _ => by kernel_rfl) ?_
        refine told_nil ?_
        intro W3 hS3
        simp only [Act.put, List.setIfInBounds_toArray, List.set_cons_zero, List.set_cons_succ]
        have S3 : Hid (HqS W3 R B mv fv Y (some ⟨g, 0, none⟩) n c) := S2.out.bel hS3
        have HF3 : Hid (Fr8 R (.slice (some ⟨g, 0, none⟩) n c) w W3) := HF2.out.bel hS3
        clear hS3 hsl hless hsl2 hless2 hca hcb hca2 hcm2
        go_wp2
        (try simp only [Exit.inBlock, Exit.then])
        refine bodyPost_ret (results_none rfl _ _ _) rfl ?_
        exact ⟨rfl, Y, S3.out, HK.out, HM.out, HF3.out⟩
    · obtain ⟨xd, hxd⟩ : ∃ x, Y[d]? = some x := ⟨_, List.getElem?_eq_getElem (by rw [S.out.len]; exact hdn)⟩
      have hcd := hcl d xd hxd
      have hmd := List.mem_of_getElem? hxd
      have hdn' : (d : Int) < n := by omega
      have HXd : Hid (Y[d]? = some xd) := hxd
      clear hxd
      have HCH : Hid (∀ i x, 0 < i → (i - 1) / 2 = a → Y[i]? = some x → x = xb ∨ x = xd) := fun i x hi hp hx => by
        have : i = b ∨ i = d := by have := HBA.out; omega
        rcases this with h | h
        · rw [h, HXb.out] at hx; cases hx; exact .inl rfl
        · rw [h, HXd.out] at hx; cases hx; exact .inr rfl
      by_cases hlt : ltJ xd xb
      · have hmin : Hid (∀ i x, 0 < i → (i - 1) / 2 = a → Y[i]? = some x → leJ xd x) := fun i x hi hp hx => by
          rcases HCH.out i x hi hp hx with rfl | rfl
          · exact leJ_lt hlt
          · exact leJ_refl _
        refine wp_region_told (fun W => Below wr.heap.size wr W) (by kernel_rfl) (by kernel_rfl) ((Below.refl wr.heap.size wr).drew) ?_
        refine told_pure (some 14) (.int .i64 (b : Int)) rfl (by kernel_rfl) (fun _ => by kernel_rfl) ?_
        refine told_is (some 15) (.int .i64 (IntKind.i64.wrap ((b : Int) + 1))) (.int .i64 (d : Int)) (by rw [e1]) rfl (by kernel_rfl) (fun _ => by kernel_rfl) ?_
        refine told_pure (some 16) (.pointer (some ⟨R, 2, none⟩)) rfl (by kernel_rfl) (fun _ => by kernel_rfl) ?_
        refine told_pure (some 17) (.pointer (some ⟨R, 2, none⟩)) rfl (by kernel_rfl) (fun _ => by kernel_rfl) ?_
        refine told_pure (some 18) (.pointer (some ⟨R, 3, none⟩)) rfl (by kernel_rfl) (fun _ => by kernel_rfl) ?_
        refine told_load (some 19) ⟨R, 3, none⟩ (.slice (some ⟨g, 0, none⟩) n c) rfl (by kernel_rfl) (fun _ => by kernel_rfl) (fun _ hS => atB hS hsl) ?_
        refine told_pure (some 20) (.int .i64 (n : Int)) rfl (by kernel_rfl) (fun _ => by kernel_rfl) ?_
        refine told_is (some 21) (.bool (decide ((d : Int) < (n : Int)))) (.bool true) (by rw [decide_eq_true hdn']) rfl (by kernel_rfl) (fun _ => by kernel_rfl) ?_
        refine told_pure (some 22) (.bool true) rfl (by kernel_rfl) (fun _ => by kernel_rfl) ?_
        refine told_pure (some 23) (.pointer (some ⟨R, 2, none⟩)) rfl (by kernel_rfl) (fun _ => by kernel_rfl) ?_
        refine told_pure (some 24) (.pointer (some ⟨R, 2, none⟩)) rfl (by kernel_rfl) (fun _ => by kernel_rfl) ?_
        refine told_pure (some 25) (.pointer (some ⟨R, 2, none⟩)) rfl (by kernel_rfl) (fun _ => by kernel_rfl) ?_
        refine told_load (some 26) ⟨R, 2, none⟩ ((.func (.func 72) #[] #[])) rfl (by kernel_rfl) (fun _ => by kernel_rfl) (fun _ hS => atB hS hless) ?_
        refine told_pure (some 27) (.pointer (some ⟨R, 2, none⟩)) rfl (by kernel_rfl) (fun _ => by kernel_rfl) ?_
        refine told_pure (some 28) (.pointer (some ⟨R, 2, none⟩)) rfl (by kernel_rfl) (fun _ => by kernel_rfl) ?_
        refine told_pure (some 29) (.pointer (some ⟨R, 3, none⟩)) rfl (by kernel_rfl) (fun _ => by kernel_rfl) ?_
        refine told_load (some 30) ⟨R, 3, none⟩ (.slice (some ⟨g, 0, none⟩) n c) rfl (by kernel_rfl) (fun _ => by kernel_rfl) (fun _ hS => atB hS hsl) ?_
        refine told_pure (some 31) (.int .i64 (b : Int)) rfl (by kernel_rfl) (fun _ => by kernel_rfl) ?_
        refine told_is (some 32) (.int .i64 (IntKind.i64.wrap ((b : Int) + 1))) (.int .i64 (d : Int)) (by rw [e1]) rfl (by kernel_rfl) (fun _ => by kernel_rfl) ?_
        refine told_pure (some 33) (.pointer (some ⟨g, d * 2, none⟩)) rfl (by kernel_rfl) (fun w => by go_simp) ?_
        refine told_loads (some 34) ⟨g, d * 2, none⟩ [.int .i64 xd.r, .pointer (some ⟨xd.b, 0, none⟩)] rfl (by kernel_rfl) (fun _ => by kernel_rfl) (fun W hS j u hj => atB hS (hcd j u hj)) ?_
        refine told_pure (some 35) (.pointer (some ⟨R, 2, none⟩)) rfl (by kernel_rfl) (fun _ => by kernel_rfl) ?_
        refine told_pure (some 36) (.pointer (some ⟨R, 2, none⟩)) rfl (by kernel_rfl) (fun _ => by kernel_rfl) ?_
        refine told_pure (some 37) (.pointer (some ⟨R, 3, none⟩)) rfl (by kernel_rfl) (fun _ => by kernel_rfl) ?_
        refine told_load (some 38) ⟨R, 3, none⟩ (.slice (some ⟨g, 0, none⟩) n c) rfl (by kernel_rfl) (fun _ => by kernel_rfl) (fun _ hS => atB hS hsl) ?_
        refine told_pure (some 39) (.int .i64 (b : Int)) rfl (by kernel_rfl) (fun _ => by kernel_rfl) ?_
        refine told_pure (some 40) (.pointer (some ⟨g, b * 2, none⟩)) rfl (by kernel_rfl) (fun w => by go_simp) ?_
        refine told_loads (some 41) ⟨g, b * 2, none⟩ [.int .i64 xb.r, .pointer (some ⟨xb.b, 0, none⟩)] rfl (by kernel_rfl) (fun _ => by kernel_rfl) (fun W hS j u hj => atB hS (hcb j u hj)) ?_
        refine told_call (some 42) (.bool true) 72 #[.agg #[.int .i64 xd.r, .pointer (some ⟨xd.b, 0, none⟩)], .agg #[.int .i64 xb.r, .pointer (some ⟨xb.b, 0, none⟩)]] rfl (by kernel_rfl) (fun _ => by kernel_rfl) (fun W hS => below_S ((sooner_c xd xb W (Sym.cell ((S.out.bel hS).ats _ hmd)) (Sym.cell ((S.out.bel hS).ats _ hmb))).mono fun e w' ⟨he, hb⟩ => ⟨by rw [he, decide_eq_true hlt], hb⟩) hS) ?_
        refine told_pure (some 43) (.bool true) rfl (by kernel_rfl) (fun _ => by kernel_rfl) ?_
        refine told_nil ?_
        intro W2 hS2
        simp only [Act.put, List.setIfInBounds_toArray, List.set_cons_zero, List.set_cons_succ]
        have S2 : Hid (HqS W2 R B mv fv Y (some ⟨g, 0, none⟩) n c) := S.out.bel hS2
        have HF2 : Hid (Fr8 R (.slice (some ⟨g, 0, none⟩) n c) w W2) := HF.out.bel hS2
        have hsl2 := S2.out.cells.2.2.2
        have hless2 := S2.out.cells.2.2.1
        have hca2 := fun j u hj => atB hS2 (hca j u hj)
        have hcm2 := fun j u hj => atB hS2 (hcd j u hj)
        clear hS2
        go_upto_region 6 with fail
        by_cases hlm : ltJ xd xa
        · refine wp_region_told (fun W => Below W2.heap.size W2 W) (by kernel_rfl) (by kernel_rfl) ((Below.refl W2.heap.size W2).drew) ?_
          refine told_pure (some 46) (.pointer (some ⟨R, 2, none⟩)) rfl (by kernel_rfl) (fun _ => by kernel_rfl) ?_
          refine told_pure (some 47) (.pointer (some ⟨R, 2, none⟩)) rfl (by kernel_rfl) (fun _ => by kernel_rfl) ?_
          refine told_pure (some 48) (.pointer (some ⟨R, 2, none⟩)) rfl (by kernel_rfl) (fun _ => by kernel_rfl) ?_
          refine told_load (some 49) ⟨R, 2, none⟩ ((.func (.func 72) #[] #[])) rfl (by kernel_rfl) (fun _ => by kernel_rfl) (fun _ hS => atB hS hless2) ?_
          refine told_pure (some 50) (.pointer (some ⟨R, 2, none⟩)) rfl (by kernel_rfl) (fun _ => by kernel_rfl) ?_
          refine told_pure (some 51) (.pointer (some ⟨R, 2, none⟩)) rfl (by kernel_rfl) (fun _ => by kernel_rfl) ?_
          refine told_pure (some 52) (.pointer (some ⟨R, 3, none⟩)) rfl (by kernel_rfl) (fun _ => by kernel_rfl) ?_
          refine told_load (some 53) ⟨R, 3, none⟩ (.slice (some ⟨g, 0, none⟩) n c) rfl (by kernel_rfl) (fun _ => by kernel_rfl) (fun _ hS => atB hS hsl2) ?_
          refine told_pure (some 54) (.int .i64 (d : Int)) rfl (by kernel_rfl) (fun _ => by kernel_rfl) ?_
          refine told_pure (some 55) (.pointer (some ⟨g, d * 2, none⟩)) rfl (by kernel_rfl) (fun w => by go_simp) ?_
          refine told_loads (some 56) ⟨g, d * 2, none⟩ [.int .i64 xd.r, .pointer (some ⟨xd.b, 0, none⟩)] rfl (by kernel_rfl) (fun _ => by kernel_rfl) (fun W hS j u hj => atB hS (hcm2 j u hj)) ?_
          refine told_pure (some 57) (.pointer (some ⟨R, 2, none⟩)) rfl (by kernel_rfl) (fun _ => by kernel_rfl) ?_
          refine told_pure (some 58) (.pointer (some ⟨R, 2, none⟩)) rfl (by kernel_rfl) (fun _ => by kernel_rfl) ?_
          refine told_pure (some 59) (.pointer (some ⟨R, 3, none⟩)) rfl (by kernel_rfl) (fun _ => by kernel_rfl) ?_
          refine told_load (some 60) ⟨R, 3, none⟩ (.slice (some ⟨g, 0, none⟩) n c) rfl (by kernel_rfl) (fun _ => by kernel_rfl) (fun _ hS => atB hS hsl2) ?_
          refine told_pure (some 61) (.int .i64 (a : Int)) rfl (by kernel_rfl) (fun _ => by kernel_rfl) ?_
          refine told_pure (some 62) (.pointer (some ⟨g, a * 2, none⟩)) rfl (by kernel_rfl) (fun w => by go_simp) ?_
          refine told_loads (some 63) ⟨g, a * 2, none⟩ [.int .i64 xa.r, .pointer (some ⟨xa.b, 0, none⟩)] rfl (by kernel_rfl) (fun _ => by kernel_rfl) (fun W hS j u hj => atB hS (hca2 j u hj)) ?_
          refine told_call (some 64) (.bool true) 72 #[.agg #[.int .i64 xd.r, .pointer (some ⟨xd.b, 0, none⟩)], .agg #[.int .i64 xa.r, .pointer (some ⟨xa.b, 0, none⟩)]] rfl (by kernel_rfl) (fun _ => by kernel_rfl) (fun W hS => below_S ((sooner_c xd xa W (Sym.cell ((S2.out.bel hS).ats _ hmd)) (Sym.cell ((S2.out.bel hS).ats _ hma))).mono fun e w' ⟨he, hb⟩ => ⟨by rw [he, decide_eq_true hlm], hb⟩) hS) ?_
          refine told_pure (some 65) (.bool false) rfl (by kernel_rfl) (fun _ => by kernel_rfl) ?_
          refine told_nil ?_
          intro W3 hS3
          simp only [Act.put, List.setIfInBounds_toArray, List.set_cons_zero, List.set_cons_succ]
          have S3 : Hid (HqS W3 R B mv fv Y (some ⟨g, 0, none⟩) n c) := S2.out.bel hS3
          have HF3 : Hid (Fr8 R (.slice (some ⟨g, 0, none⟩) n c) w W3) := HF2.out.bel hS3
          clear hS3 hsl hless hsl2 hless2 hca hcb hca2 hcm2
          go_wp2_with fail
          refine (swap_c Y a d xa xd W3 R B mv fv _ n c hn HXa.out HXd.out S3.out).mono ?_
          rintro e W4 ⟨rfl, hS4, hf4⟩
          have S4 : Hid (HqS W4 R B mv fv ((Y.set a xd).set d xa) (some ⟨g, 0, none⟩) n c) := hS4
          have HF4 : Hid (Fr8 R (.slice (some ⟨g, 0, none⟩) n c) w W4) := HF3.out.trans (Nxt8.refl _ _) hf4
          have hsw := swp_set HXa.out HXd.out
          have HD4 : Hid (DnI ((Y.set a xd).set d xa) d) := dn_step (by have := HBA.out; omega) (by have := HBA.out; omega) HXa.out HXd.out hlm hmin.out hsw HD.out
          have HM4 : Hid (∀ z, z ∈ (Y.set a xd).set d xa ↔ z ∈ X) := fun z => (hsw.mem (List.getElem?_eq_some_iff.1 HXa.out).1 (List.getElem?_eq_some_iff.1 HXd.out).1 z).trans (HM.out z)
          obtain ⟨m2, hm2⟩ : ∃ m2, 2 * d + 1 = m2 := ⟨_, rfl⟩
          have ew0 : IntKind.i64.wrap (2 * (d : Int)) = 2 * (d : Int) := IntWalk.i64_in _ (by omega)
          have ew1 : IntKind.i64.wrap (2 * (d : Int) + 1) = (m2 : Int) := by rw [IntWalk.i64_in _ (by omega)]; omega
          have HM2 : Hid (m2 = 2 * d + 1) := hm2.symm
          clear hm2
          have hmle : d ≤ 4000 := by omega
          have hma2 : a < d := by have := HBA.out; omega
          have hmn4 : d < n := by have := HBA.out; have := HBN.out; omega
          clear hsw hS4 hf4 hlm
          go_wp2
          go_roundw
          case rel => exact ⟨_, d, m2, rfl, by go_num, HM2, hmle, S4, HD4, HM4, HF4⟩
          case measure => simp [intOf] <;> omega
        · have HK : Hid (HpOk Y) := dn_done HXa.out (fun i x hi hp hx => leJ_trans hlm (hmin.out i x hi hp hx)) HD.out
          refine wp_region_told (fun W => Below W2.heap.size W2 W) (by kernel_rfl) (by kernel_rfl) ((Below.refl W2.heap.size W2).drew) ?_
          refine told_pure (some 46) (.pointer (some ⟨R, 2, none⟩)) rfl (by kernel_rfl) (fun _ => by kernel_rfl) ?_
          refine told_pure (some 47) (.pointer (some ⟨R, 2, none⟩)) rfl (by kernel_rfl) (fun _ => by kernel_rfl) ?_
          refine told_pure (some 48) (.pointer (some ⟨R, 2, none⟩)) rfl (by kernel_rfl) (fun _ => by kernel_rfl) ?_
          refine told_load (some 49) ⟨R, 2, none⟩ ((.func (.func 72) #[] #[])) rfl (by kernel_rfl) (fun _ => by kernel_rfl) (fun _ hS => atB hS hless2) ?_
          refine told_pure (some 50) (.pointer (some ⟨R, 2, none⟩)) rfl (by kernel_rfl) (fun _ => by kernel_rfl) ?_
          refine told_pure (some 51) (.pointer (some ⟨R, 2, none⟩)) rfl (by kernel_rfl) (fun _ => by kernel_rfl) ?_
          refine told_pure (some 52) (.pointer (some ⟨R, 3, none⟩)) rfl (by kernel_rfl) (fun _ => by kernel_rfl) ?_
          refine told_load (some 53) ⟨R, 3, none⟩ (.slice (some ⟨g, 0, none⟩) n c) rfl (by kernel_rfl) (fun _ => by kernel_rfl) (fun _ hS => atB hS hsl2) ?_
          refine told_pure (some 54) (.int .i64 (d : Int)) rfl (by kernel_rfl) (fun _ => by kernel_rfl) ?_
          refine told_pure (some 55) (.pointer (some ⟨g, d * 2, none⟩)) rfl (by kernel_rfl) (fun w => by go_simp) ?_
          refine told_loads (some 56) ⟨g, d * 2, none⟩ [.int .i64 xd.r, .pointer (some ⟨xd.b, 0, none⟩)] rfl (by kernel_rfl) (fun _ => by kernel_rfl) (fun W hS j u hj => atB hS (hcm2 j u hj)) ?_
          refine told_pure (some 57) (.pointer (some ⟨R, 2, none⟩)) rfl (by kernel_rfl) (fun _ => by kernel_rfl) ?_
          refine told_pure (some 58) (.pointer (some ⟨R, 2, none⟩)) rfl (by kernel_rfl) (fun _ => by kernel_rfl) ?_
          refine told_pure (some 59) (.pointer (some ⟨R, 3, none⟩)) rfl (by kernel_rfl) (fun _ => by kernel_rfl) ?_
          refine told_load (some 60) ⟨R, 3, none⟩ (.slice (some ⟨g, 0, none⟩) n c) rfl (by kernel_rfl) (fun _ => by kernel_rfl) (fun _ hS => atB hS hsl2) ?_
          refine told_pure (some 61) (.int .i64 (a : Int)) rfl (by kernel_rfl) (fun _ => by kernel_rfl) ?_
          refine told_pure (some 62) (.pointer (some ⟨g, a * 2, none⟩)) rfl (by kernel_rfl) (fun w => by go_simp) ?_
          refine told_loads (some 63) ⟨g, a * 2, none⟩ [.int .i64 xa.r, .pointer (some ⟨xa.b, 0, none⟩)] rfl (by kernel_rfl) (fun _ => by kernel_rfl) (fun W hS j u hj => atB hS (hca2 j u hj)) ?_
          refine told_call (some 64) (.bool false) 72 #[.agg #[.int .i64 xd.r, .pointer (some ⟨xd.b, 0, none⟩)], .agg #[.int .i64 xa.r, .pointer (some ⟨xa.b, 0, none⟩)]] rfl (by kernel_rfl) (fun _ => by kernel_rfl) (fun W hS => below_S ((sooner_c xd xa W (Sym.cell ((S2.out.bel hS).ats _ hmd)) (Sym.cell ((S2.out.bel hS).ats _ hma))).mono fun e w' ⟨he, hb⟩ => ⟨by rw [he, decide_eq_false hlm], hb⟩) hS) ?_
          refine told_pure (some 65) (.bool true) rfl (by kernel_rfl) (fun _ => by kernel_rfl) ?_
          refine told_nil ?_
          intro W3 hS3
          simp only [Act.put, List.setIfInBounds_toArray, List.set_cons_zero, List.set_cons_succ]
          have S3 : Hid (HqS W3 R B mv fv Y (some ⟨g, 0, none⟩) n c) := S2.out.bel hS3
          have HF3 : Hid (Fr8 R (.slice (some ⟨g, 0, none⟩) n c) w W3) := HF2.out.bel hS3
          clear hS3 hsl hless hsl2 hless2 hca hcb hca2 hcm2
          go_wp2
          (try simp only [Exit.inBlock, Exit.then])
          refine bodyPost_ret (results_none rfl _ _ _) rfl ?_
          exact ⟨rfl, Y, S3.out, HK.out, HM.out, HF3.out⟩
      · have hmin : Hid (∀ i x, 0 < i → (i - 1) / 2 = a → Y[i]? = some x → leJ xb x) := fun i x hi hp hx => by
          rcases HCH.out i x hi hp hx with rfl | rfl
          · exact leJ_refl _
          · exact hlt
        refine wp_region_told (fun W => Below wr.heap.size wr W) (by kernel_rfl) (by kernel_rfl) ((Below.refl wr.heap.size wr).drew) ?_
        refine told_pure (some 14) (.int .i64 (b : Int)) rfl (by kernel_rfl) (fun _ => by kernel_rfl) ?_
        refine told_is (some 15) (.int .i64 (IntKind.i64.wrap ((b : Int) + 1))) (.int .i64 (d : Int)) (by rw [e1]) rfl (by kernel_rfl) (fun _ => by kernel_rfl) ?_
        refine told_pure (some 16) (.pointer (some ⟨R, 2, none⟩)) rfl (by kernel_rfl) (fun _ => by kernel_rfl) ?_
        refine told_pure (some 17) (.pointer (some ⟨R, 2, none⟩)) rfl (by kernel_rfl) (fun _ => by kernel_rfl) ?_
        refine told_pure (some 18) (.pointer (some ⟨R, 3, none⟩)) rfl (by kernel_rfl) (fun _ => by kernel_rfl) ?_
        refine told_load (some 19) ⟨R, 3, none⟩ (.slice (some ⟨g, 0, none⟩) n c) rfl (by kernel_rfl) (fun _ => by kernel_rfl) (fun _ hS => atB hS hsl) ?_
        refine told_pure (some 20) (.int .i64 (n : Int)) rfl (by kernel_rfl) (fun _ => by kernel_rfl) ?_
        refine told_is (some 21) (.bool (decide ((d : Int) < (n : Int)))) (.bool true) (by rw [decide_eq_true hdn']) rfl (by kernel_rfl) (fun _ => by kernel_rfl) ?_
        refine told_pure (some 22) (.bool true) rfl (by kernel_rfl) (fun _ => by kernel_rfl) ?_
        refine told_pure (some 23) (.pointer (some ⟨R, 2, none⟩)) rfl (by kernel_rfl) (fun _ => by kernel_rfl) ?_
        refine told_pure (some 24) (.pointer (some ⟨R, 2, none⟩)) rfl (by kernel_rfl) (fun _ => by kernel_rfl) ?_
        refine told_pure (some 25) (.pointer (some ⟨R, 2, none⟩)) rfl (by kernel_rfl) (fun _ => by kernel_rfl) ?_
        refine told_load (some 26) ⟨R, 2, none⟩ ((.func (.func 72) #[] #[])) rfl (by kernel_rfl) (fun _ => by kernel_rfl) (fun _ hS => atB hS hless) ?_
        refine told_pure (some 27) (.pointer (some ⟨R, 2, none⟩)) rfl (by kernel_rfl) (fun _ => by kernel_rfl) ?_
        refine told_pure (some 28) (.pointer (some ⟨R, 2, none⟩)) rfl (by kernel_rfl) (fun _ => by kernel_rfl) ?_
        refine told_pure (some 29) (.pointer (some ⟨R, 3, none⟩)) rfl (by kernel_rfl) (fun _ => by kernel_rfl) ?_
        refine told_load (some 30) ⟨R, 3, none⟩ (.slice (some ⟨g, 0, none⟩) n c) rfl (by kernel_rfl) (fun _ => by kernel_rfl) (fun _ hS => atB hS hsl) ?_
        refine told_pure (some 31) (.int .i64 (b : Int)) rfl (by kernel_rfl) (fun _ => by kernel_rfl) ?_
        refine told_is (some 32) (.int .i64 (IntKind.i64.wrap ((b : Int) + 1))) (.int .i64 (d : Int)) (by rw [e1]) rfl (by kernel_rfl) (fun _ => by kernel_rfl) ?_
        refine told_pure (some 33) (.pointer (some ⟨g, d * 2, none⟩)) rfl (by kernel_rfl) (fun w => by go_simp) ?_
        refine told_loads (some 34) ⟨g, d * 2, none⟩ [.int .i64 xd.r, .pointer (some ⟨xd.b, 0, none⟩)] rfl (by kernel_rfl) (fun _ => by kernel_rfl) (fun W hS j u hj => atB hS (hcd j u hj)) ?_
        refine told_pure (some 35) (.pointer (some ⟨R, 2, none⟩)) rfl (by kernel_rfl) (fun _ => by kernel_rfl) ?_
        refine told_pure (some 36) (.pointer (some ⟨R, 2, none⟩)) rfl (by kernel_rfl) (fun _ => by kernel_rfl) ?_
        refine told_pure (some 37) (.pointer (some ⟨R, 3, none⟩)) rfl (by kernel_rfl) (fun _ => by kernel_rfl) ?_
        refine told_load (some 38) ⟨R, 3, none⟩ (.slice (some ⟨g, 0, none⟩) n c) rfl (by kernel_rfl) (fun _ => by kernel_rfl) (fun _ hS => atB hS hsl) ?_
        refine told_pure (some 39) (.int .i64 (b : Int)) rfl (by kernel_rfl) (fun _ => by kernel_rfl) ?_
        refine told_pure (some 40) (.pointer (some ⟨g, b * 2, none⟩)) rfl (by kernel_rfl) (fun w => by go_simp) ?_
        refine told_loads (some 41) ⟨g, b * 2, none⟩ [.int .i64 xb.r, .pointer (some ⟨xb.b, 0, none⟩)] rfl (by kernel_rfl) (fun _ => by kernel_rfl) (fun W hS j u hj => atB hS (hcb j u hj)) ?_
        refine told_call (some 42) (.bool false) 72 #[.agg #[.int .i64 xd.r, .pointer (some ⟨xd.b, 0, none⟩)], .agg #[.int .i64 xb.r, .pointer (some ⟨xb.b, 0, none⟩)]] rfl (by kernel_rfl) (fun _ => by kernel_rfl) (fun W hS => below_S ((sooner_c xd xb W (Sym.cell ((S.out.bel hS).ats _ hmd)) (Sym.cell ((S.out.bel hS).ats _ hmb))).mono fun e w' ⟨he, hb⟩ => ⟨by rw [he, decide_eq_false hlt], hb⟩) hS) ?_
        refine told_pure (some 43) (.bool false) rfl (by kernel_rfl) (fun _ => by kernel_rfl) ?_
        refine told_nil ?_
        intro W2 hS2
        simp only [Act.put, List.setIfInBounds_toArray, List.set_cons_zero, List.set_cons_succ]
        have S2 : Hid (HqS W2 R B mv fv Y (some ⟨g, 0, none⟩) n c) := S.out.bel hS2
        have HF2 : Hid (Fr8 R (.slice (some ⟨g, 0, none⟩) n c) w W2) := HF.out.bel hS2
        have hsl2 := S2.out.cells.2.2.2
        have hless2 := S2.out.cells.2.2.1
        have hca2 := fun j u hj => atB hS2 (hca j u hj)
        have hcm2 := fun j u hj => atB hS2 (hcb j u hj)
        clear hS2
        go_upto_region 6 with fail
        by_cases hlm : ltJ xb xa
        · refine wp_region_told (fun W => Below W2.heap.size W2 W) (by kernel_rfl) (by kernel_rfl) ((Below.refl W2.heap.size W2).drew) ?_
          refine told_pure (some 46) (.pointer (some ⟨R, 2, none⟩)) rfl (by kernel_rfl) (fun _ => by kernel_rfl) ?_
          refine told_pure (some 47) (.pointer (some ⟨R, 2, none⟩)) rfl (by kernel_rfl) (fun _ => by kernel_rfl) ?_
          refine told_pure (some 48) (.pointer (some ⟨R, 2, none⟩)) rfl (by kernel_rfl) (fun _ => by kernel_rfl) ?_
          refine told_load (some 49) ⟨R, 2, none⟩ ((.func (.func 72) #[] #[])) rfl (by kernel_rfl) (fun _ => by kernel_rfl) (fun _ hS => atB hS hless2) ?_
          refine told_pure (some 50) (.pointer (some ⟨R, 2, none⟩)) rfl (by kernel_rfl) (fun _ => by kernel_rfl) ?_
          refine told_pure (some 51) (.pointer (some ⟨R, 2, none⟩)) rfl (by kernel_rfl) (fun _ => by kernel_rfl) ?_
          refine told_pure (some 52) (.pointer (some ⟨R, 3, none⟩)) rfl (by kernel_rfl) (fun _ => by kernel_rfl) ?_
          refine told_load (some 53) ⟨R, 3, none⟩ (.slice (some ⟨g, 0, none⟩) n c) rfl (by kernel_rfl) (fun _ => by kernel_rfl) (fun _ hS => atB hS hsl2) ?_
          refine told_pure (some 54) (.int .i64 (b : Int)) rfl (by kernel_rfl) (fun _ => by kernel_rfl) ?_
          refine told_pure (some 55) (.pointer (some ⟨g, b * 2, none⟩)) rfl (by kernel_rfl) (fun w => by go_simp) ?_
          refine told_loads (some 56) ⟨g, b * 2, none⟩ [.int .i64 xb.r, .pointer (some ⟨xb.b, 0, none⟩)] rfl (by kernel_rfl) (fun _ => by kernel_rfl) (fun W hS j u hj => atB hS (hcm2 j u hj)) ?_
          refine told_pure (some 57) (.pointer (some ⟨R, 2, none⟩)) rfl (by kernel_rfl) (fun _ => by kernel_rfl) ?_
          refine told_pure (some 58) (.pointer (some ⟨R, 2, none⟩)) rfl (by kernel_rfl) (fun _ => by kernel_rfl) ?_
          refine told_pure (some 59) (.pointer (some ⟨R, 3, none⟩)) rfl (by kernel_rfl) (fun _ => by kernel_rfl) ?_
          refine told_load (some 60) ⟨R, 3, none⟩ (.slice (some ⟨g, 0, none⟩) n c) rfl (by kernel_rfl) (fun _ => by kernel_rfl) (fun _ hS => atB hS hsl2) ?_
          refine told_pure (some 61) (.int .i64 (a : Int)) rfl (by kernel_rfl) (fun _ => by kernel_rfl) ?_
          refine told_pure (some 62) (.pointer (some ⟨g, a * 2, none⟩)) rfl (by kernel_rfl) (fun w => by go_simp) ?_
          refine told_loads (some 63) ⟨g, a * 2, none⟩ [.int .i64 xa.r, .pointer (some ⟨xa.b, 0, none⟩)] rfl (by kernel_rfl) (fun _ => by kernel_rfl) (fun W hS j u hj => atB hS (hca2 j u hj)) ?_
          refine told_call (some 64) (.bool true) 72 #[.agg #[.int .i64 xb.r, .pointer (some ⟨xb.b, 0, none⟩)], .agg #[.int .i64 xa.r, .pointer (some ⟨xa.b, 0, none⟩)]] rfl (by kernel_rfl) (fun _ => by kernel_rfl) (fun W hS => below_S ((sooner_c xb xa W (Sym.cell ((S2.out.bel hS).ats _ hmb)) (Sym.cell ((S2.out.bel hS).ats _ hma))).mono fun e w' ⟨he, hb⟩ => ⟨by rw [he, decide_eq_true hlm], hb⟩) hS) ?_
          refine told_pure (some 65) (.bool false) rfl (by kernel_rfl) (fun _ => by kernel_rfl) ?_
          refine told_nil ?_
          intro W3 hS3
          simp only [Act.put, List.setIfInBounds_toArray, List.set_cons_zero, List.set_cons_succ]
          have S3 : Hid (HqS W3 R B mv fv Y (some ⟨g, 0, none⟩) n c) := S2.out.bel hS3
          have HF3 : Hid (Fr8 R (.slice (some ⟨g, 0, none⟩) n c) w W3) := HF2.out.bel hS3
          clear hS3 hsl hless hsl2 hless2 hca hcb hca2 hcm2
          go_wp2_with fail
          refine (swap_c Y a b xa xb W3 R B mv fv _ n c hn HXa.out HXb.out S3.out).mono ?_
          rintro e W4 ⟨rfl, hS4, hf4⟩
          have S4 : Hid (HqS W4 R B mv fv ((Y.set a xb).set b xa) (some ⟨g, 0, none⟩) n c) := hS4
          have HF4 : Hid (Fr8 R (.slice (some ⟨g, 0, none⟩) n c) w W4) := HF3.out.trans (Nxt8.refl _ _) hf4
          have hsw := swp_set HXa.out HXb.out
          have HD4 : Hid (DnI ((Y.set a xb).set b xa) b) := dn_step (by have := HBA.out; omega) (by have := HBA.out; omega) HXa.out HXb.out hlm hmin.out hsw HD.out
          have HM4 : Hid (∀ z, z ∈ (Y.set a xb).set b xa ↔ z ∈ X) := fun z => (hsw.mem (List.getElem?_eq_some_iff.1 HXa.out).1 (List.getElem?_eq_some_iff.1 HXb.out).1 z).trans (HM.out z)
          obtain ⟨m2, hm2⟩ : ∃ m2, 2 * b + 1 = m2 := ⟨_, rfl⟩
          have ew0 : IntKind.i64.wrap (2 * (b : Int)) = 2 * (b : Int) := IntWalk.i64_in _ (by omega)
          have ew1 : IntKind.i64.wrap (2 * (b : Int) + 1) = (m2 : Int) := by rw [IntWalk.i64_in _ (by omega)]; omega
          have HM2 : Hid (m2 = 2 * b + 1) := hm2.symm
          clear hm2
          have hmle : b ≤ 4000 := by omega
          have hma2 : a < b := by have := HBA.out; omega
          have hmn4 : b < n := by have := HBA.out; have := HBN.out; omega
          clear hsw hS4 hf4 hlm
          go_wp2
          go_roundw
          case rel => exact ⟨_, b, m2, rfl, by go_num, HM2, hmle, S4, HD4, HM4, HF4⟩
          case measure => simp [intOf] <;> omega
        · have HK : Hid (HpOk Y) := dn_done HXa.out (fun i x hi hp hx => leJ_trans hlm (hmin.out i x hi hp hx)) HD.out
          refine wp_region_told (fun W => Below W2.heap.size W2 W) (by kernel_rfl) (by kernel_rfl) ((Below.refl W2.heap.size W2).drew) ?_
          refine told_pure (some 46) (.pointer (some ⟨R, 2, none⟩)) rfl (by kernel_rfl) (fun _ => by kernel_rfl) ?_
          refine told_pure (some 47) (.pointer (some ⟨R, 2, none⟩)) rfl (by kernel_rfl) (fun _ => by kernel_rfl) ?_
          refine told_pure (some 48) (.pointer (some ⟨R, 2, none⟩)) rfl (by kernel_rfl) (fun _ => by kernel_rfl) ?_
          refine told_load (some 49) ⟨R, 2, none⟩ ((.func (.func 72) #[] #[])) rfl (by kernel_rfl) (fun _ => by kernel_rfl) (fun _ hS => atB hS hless2) ?_
          refine told_pure (some 50) (.pointer (some ⟨R, 2, none⟩)) rfl (by kernel_rfl) (fun _ => by kernel_rfl) ?_
          refine told_pure (some 51) (.pointer (some ⟨R, 2, none⟩)) rfl (by kernel_rfl) (fun _ => by kernel_rfl) ?_
          refine told_pure (some 52) (.pointer (some ⟨R, 3, none⟩)) rfl (by kernel_rfl) (fun _ => by kernel_rfl) ?_
          refine told_load (some 53) ⟨R, 3, none⟩ (.slice (some ⟨g, 0, none⟩) n c) rfl (by kernel_rfl) (fun _ => by kernel_rfl) (fun _ hS => atB hS hsl2) ?_
          refine told_pure (some 54) (.int .i64 (b : Int)) rfl (by kernel_rfl) (fun _ => by kernel_rfl) ?_
          refine told_pure (some 55) (.pointer (some ⟨g, b * 2, none⟩)) rfl (by kernel_rfl) (fun w => by go_simp) ?_
          refine told_loads (some 56) ⟨g, b * 2, none⟩ [.int .i64 xb.r, .pointer (some ⟨xb.b, 0, none⟩)] rfl (by kernel_rfl) (fun _ => by kernel_rfl) (fun W hS j u hj => atB hS (hcm2 j u hj)) ?_
          refine told_pure (some 57) (.pointer (some ⟨R, 2, none⟩)) rfl (by kernel_rfl) (fun _ => by kernel_rfl) ?_
          refine told_pure (some 58) (.pointer (some ⟨R, 2, none⟩)) rfl (by kernel_rfl) (fun _ => by kernel_rfl) ?_
          refine told_pure (some 59) (.pointer (some ⟨R, 3, none⟩)) rfl (by kernel_rfl) (fun _ => by kernel_rfl) ?_
          refine told_load (some 60) ⟨R, 3, none⟩ (.slice (some ⟨g, 0, none⟩) n c) rfl (by kernel_rfl) (fun _ => by kernel_rfl) (fun _ hS => atB hS hsl2) ?_
          refine told_pure (some 61) (.int .i64 (a : Int)) rfl (by kernel_rfl) (fun _ => by kernel_rfl) ?_
          refine told_pure (some 62) (.pointer (some ⟨g, a * 2, none⟩)) rfl (by kernel_rfl) (fun w => by go_simp) ?_
          refine told_loads (some 63) ⟨g, a * 2, none⟩ [.int .i64 xa.r, .pointer (some ⟨xa.b, 0, none⟩)] rfl (by kernel_rfl) (fun _ => by kernel_rfl) (fun W hS j u hj => atB hS (hca2 j u hj)) ?_
          refine told_call (some 64) (.bool false) 72 #[.agg #[.int .i64 xb.r, .pointer (some ⟨xb.b, 0, none⟩)], .agg #[.int .i64 xa.r, .pointer (some ⟨xa.b, 0, none⟩)]] rfl (by kernel_rfl) (fun _ => by kernel_rfl) (fun W hS => below_S ((sooner_c xb xa W (Sym.cell ((S2.out.bel hS).ats _ hmb)) (Sym.cell ((S2.out.bel hS).ats _ hma))).mono fun e w' ⟨he, hb⟩ => ⟨by rw [he, decide_eq_false hlm], hb⟩) hS) ?_
          refine told_pure (some 65) (.bool true) rfl (by kernel_rfl) (fun _ => by kernel_rfl) ?_
          refine told_nil ?_
          intro W3 hS3
          simp only [Act.put, List.setIfInBounds_toArray, List.set_cons_zero, List.set_cons_succ]
          have S3 : Hid (HqS W3 R B mv fv Y (some ⟨g, 0, none⟩) n c) := S2.out.bel hS3
          have HF3 : Hid (Fr8 R (.slice (some ⟨g, 0, none⟩) n c) w W3) := HF2.out.bel hS3
          clear hS3 hsl hless hsl2 hless2 hca hcb hca2 hcm2
          go_wp2
          (try simp only [Exit.inBlock, Exit.then])
          refine bodyPost_ret (results_none rfl _ _ _) rfl ?_
          exact ⟨rfl, Y, S3.out, HK.out, HM.out, HF3.out⟩

end Go.Proofs.Ytdggkcohidijcaa

/- The least item is handed out. -/
namespace Go.Proofs.Ytdggkcohidijcaa
open Go.RowKit
set_option linter.unusedVariables false
set_option linter.unusedSimpArgs false

/-- The beginning of a row is a row. -/
theorem own_pre {w : World} {base : Nat} {e : TypeId} {size m n g c : Nat} {xs : List Value} (h : w.ownsRow base e size (.slice (some ⟨g, 0, none⟩) n c) n xs) (hm : m ≤ n) : w.ownsRow base e size (.slice (some ⟨g, 0, none⟩) m c) m (xs.take (m * size)) := by
  obtain ⟨h1, ⟨hv, _⟩ | ⟨g2, cap, cur, hv, hg, hh, h3, h4, h5, h6⟩⟩ := h
  · cases hv
  · simp only [Value.slice.injEq, Option.some.injEq, Addr.mk.injEq, and_true, true_and] at hv
    obtain ⟨rfl, rfl⟩ := hv
    have hmn : m * size ≤ n * size := Nat.mul_le_mul_right _ hm
    refine ⟨by rw [List.length_take, h1]; omega, .inr ⟨g, c, cur, rfl, hg, hh, by omega, h4, h5, ?_⟩⟩
    rw [← h6, List.take_take]
    congr 1
    omega

theorem set2J {w : World} {b : Nat} {a0 a1 : Value} {t : TypeId} (h : w.heap[b]? = some (.cells #[a0, a1] t)) (u v : Value) : ((w.setCell ⟨b, 0, none⟩ u).setCell ⟨b, 1, none⟩ v).heap[b]? = some (.cells #[u, v] t) := by
  simp only [World.setCell, Array.getElem?_modify, if_true, h]
  rfl

theorem frz2J {w : World} {b : Nat} {a0 a1 : Value} {t : TypeId} (h : w.heap[b]? = some (.cells #[a0, a1] t)) (o : Nat) : w.frozen? ⟨b, o, none⟩ = false := by
  simp [World.frozen?, h]

/-- The items of a row are told anew. -/
theorem HqS.lay {w : World} {R B : Nat} {mv fv : Value} {X Y : List Jt} {p p' : Option Addr} {n n' c c' : Nat} (S : HqS w R B mv fv X p n c) (hY : w.ownsRow B 112 2 (.slice p' n' c') n' (rJ Y)) (hl : Y.length = n') (hm : ∀ z ∈ Y, Sym w z.b z.a) : HqS (w.setCell ⟨R, 3, none⟩ (.slice p' n' c')) R B mv fv Y p' n' c' := by
  have hne := kind_ne hY S.row (by decide)
  refine ⟨?_, ?_, hl, fun z hz => ?_⟩
  · simp only [World.setCell, Array.getElem?_modify, if_true, S.row]
    rfl
  · obtain ⟨h1, ⟨hv, h2⟩ | ⟨g, cp, cur, hv, hg, hh, r⟩⟩ := hY
    · exact ⟨h1, .inl ⟨hv, h2⟩⟩
    · refine ⟨h1, .inr ⟨g, cp, cur, hv, hg, ?_, r⟩⟩
      rw [Below.heap_setCell _ _ _ _ (fun e => hne (by rw [hv]; exact congrArg some e))]
      exact hh
  · obtain ⟨t, q1, q2, hs⟩ := hm z hz
    exact ⟨t, q1, q2, by rw [Below.heap_setCell _ _ _ _ (fun e => by rw [show z.b = R from e, S.row] at hs; simp at hs)]; exact hs⟩

theorem Fr8.setR {R : Nat} {v : Value} {w w' : World} (h : Fr8 R v w w') (o : Nat) (u : Value) : Fr8 R v w (w'.setCell ⟨R, o, none⟩ u) :=
  ⟨h.os, h.tape, h.output, by have := h.size; simpa [World.setCell] using this, fun k hk h1 h2 => by rw [Below.heap_setCell _ _ _ _ (by exact h1)]; exact h.block k hk h1 h2⟩

set_option maxRecDepth 20000 in
set_option maxHeartbeats 4000000 in
theorem pop_none (X : List Jt) (w : World) (R B : Nat) (mv fv : Value) (p : Option Addr) (c : Nat) (S : HqS w R B mv fv X p 0 c) :
    Calls Try.prog 74 #[.pointer (some ⟨R, 2, none⟩)] w fun e w' => e = .returned (.tuple #[.agg #[.int .i64 0, .pointer none], .bool false]) ∧ Below w.heap.size w w' := by
  have HS : Hid (HqS w R B mv fv X p 0 c) := S
  have hRw : R < w.heap.size := lt_of_some S.row
  clear S
  go_enter Try.func74, Try.ntmps74
  go_upto_region 2 with fail
  refine wp_genW (fun W => Hid (W.heap[w.heap.size]? = some (.cells #[.int .i64 0, .pointer none] 112)) ∧ Hid (W.heap[w.heap.size + 1]? = some (.cells #[.int .i64 0, .pointer none] 112)) ∧ Hid (Below w.heap.size w W)) ⟨by rw [Below.heap_alloc _ _ _ (by simp)]; exact alloc_last _ _, by
    have := alloc_last (w.alloc (.cells #[.int .i64 0, .pointer none] 112)) (.cells #[.int .i64 0, .pointer none] 112)
    rw [World.size_alloc] at this
    exact this, ((Below.refl _ _).alloc (Nat.le_refl _) _).alloc (by simp) _⟩ ?_
  rintro W0 ⟨HA, HB, HW⟩
  have S0 := HS.out.bel HW.out
  have hsl := S0.cells.2.2.2
  obtain ⟨a0, a1⟩ := box2 HA.out
  obtain ⟨b0, b1⟩ := box2 HB.out
  have fzA := frz2J HA.out
  have z := box2 (set2J HA.out (.int .i64 0) (.pointer none))
  obtain ⟨z0, z1⟩ := z
  have HF : Hid (Below w.heap.size w ((W0.setCell ⟨w.heap.size, 0, none⟩ (.int .i64 0)).setCell ⟨w.heap.size, 1, none⟩ (.pointer none))) := (HW.out.setCell (Nat.le_refl _) _).setCell (Nat.le_refl _) _
  clear S0
  go_wp2
  exact bodyPost_ret (v := .tuple #[.agg #[.int .i64 0, .pointer none], .bool false]) (by simp [results, Try.results74, go_sem, z0, z1]) rfl ⟨rfl, HF.out⟩

set_option maxRecDepth 20000 in
set_option maxHeartbeats 4000000 in
theorem pop_some (X : List Jt) (w : World) (R B : Nat) (mv fv : Value) (p : Option Addr) (m c : Nat) (hn : m + 1 ≤ 4000) (S : HqS w R B mv fv X p (m + 1) c) (hk : HpOk X) :
    Calls Try.prog 74 #[.pointer (some ⟨R, 2, none⟩)] w fun e w' => ∃ x0 Y, X[0]? = some x0 ∧ e = .returned (.tuple #[.agg #[.int .i64 x0.r, .pointer (some ⟨x0.b, 0, none⟩)], .bool true]) ∧ HqS w' R B mv fv Y p m c ∧ HpOk Y ∧ (∀ z ∈ Y, z ∈ X) ∧ (∀ z ∈ X, z = x0 ∨ z ∈ Y) ∧ Fr8 R (.slice p (m + 1) c) w w' := by
  have HS : Hid (HqS w R B mv fv X p (m + 1) c) := S
  have HK : Hid (HpOk X) := hk
  have hRw : R < w.heap.size := lt_of_some S.row
  obtain ⟨n, hnm⟩ : ∃ n, m + 1 = n := ⟨_, rfl⟩
  have HNM : Hid (m + 1 = n) := hnm
  rw [hnm] at S hn HS ⊢
  have hmn : m < n := by omega
  obtain ⟨g, rfl, hgw, hBg, hnc, hgR, hcl⟩ := S.items (by omega)
  obtain ⟨x0, hx0⟩ : ∃ x, X[0]? = some x := ⟨_, List.getElem?_eq_getElem (by rw [S.len]; omega)⟩
  obtain ⟨xm, hxm⟩ : ∃ x, X[m]? = some x := ⟨_, List.getElem?_eq_getElem (by rw [S.len]; omega)⟩
  have HX0 : Hid (X[0]? = some x0) := hx0
  have HXm : Hid (X[m]? = some xm) := hxm
  have HXL : Hid (X.length = m + 1) := by rw [← hnm] at S; exact S.len
  have hc0 := hcl 0 x0 hx0 0 _ rfl
  have hc1 := hcl 0 x0 hx0 1 _ rfl
  rw [Addr.add_mid, Nat.zero_mul, Nat.zero_add] at hc0 hc1
  have hmi : (0 : Int) ≤ (m : Int) := by omega
  have hmc : (m : Int) ≤ (c : Int) := by omega
  have e5 : IntKind.i64.wrap ((n : Int) - 1) = (m : Int) := by rw [IntWalk.i64_in _ (by omega)]; omega
  have hnz : ((n : Int) == 0) = false := by rw [beq_eq_false_iff_ne]; omega
  have hnp : (0 : Int) < (n : Int) := by omega
  have hgA : ¬ g = w.heap.size + 1 := by omega
  have hRA : ¬ R = w.heap.size + 1 := by omega
  clear S hk hcl hx0 hxm hnm
  go_enter Try.func74, Try.ntmps74
  go_upto_region 2 with fail
  refine wp_genW (fun W => Hid (W.heap[w.heap.size]? = some (.cells #[.int .i64 0, .pointer none] 112)) ∧ Hid (W.heap[w.heap.size + 1]? = some (.cells #[.int .i64 0, .pointer none] 112)) ∧ Hid (Below w.heap.size w W)) ⟨by rw [Below.heap_alloc _ _ _ (by simp)]; exact alloc_last _ _, by
    have := alloc_last (w.alloc (.cells #[.int .i64 0, .pointer none] 112)) (.cells #[.int .i64 0, .pointer none] 112)
    rw [World.size_alloc] at this
    exact this, ((Below.refl _ _).alloc (Nat.le_refl _) _).alloc (by simp) _⟩ ?_
  rintro W0 ⟨HA, HB, HW⟩
  have S0 := HS.out.bel HW.out
  have hsl := S0.cells.2.2.2
  obtain ⟨b0, b1⟩ := box2 HB.out
  have fzB := frz2J HB.out
  have k0 : W0.cell? ⟨g, 0, none⟩ = some (.int .i64 x0.r) := by rw [HW.out.cell (by exact hgw)]; exact hc0
  have k1 : W0.cell? ⟨g, 1, none⟩ = some (.pointer (some ⟨x0.b, 0, none⟩)) := by rw [HW.out.cell (by exact hgw)]; exact hc1
  clear hc0 hc1 S0
  go_upto_region 5 with fail
  refine wp_genW (fun W => Hid (W.heap[w.heap.size]? = some (.cells #[.int .i64 0, .pointer none] 112)) ∧ Hid (W.heap[w.heap.size + 1]? = some (.cells #[.int .i64 x0.r, .pointer (some ⟨x0.b, 0, none⟩)] 112)) ∧ Hid (Below w.heap.size w W)) ⟨by rw [Below.heap_setCell _ _ _ _ (by show w.heap.size ≠ w.heap.size + 1; omega), Below.heap_setCell _ _ _ _ (by show w.heap.size ≠ w.heap.size + 1; omega)]; exact HA.out, set2J HB.out _ _, (HW.out.setCell (by show w.heap.size ≤ w.heap.size + 1; omega) _).setCell (by show w.heap.size ≤ w.heap.size + 1; omega) _⟩ ?_
  clear hsl b0 b1 fzB k0 k1 HA HB HW
  rintro W1 ⟨HA, HB, HW⟩
  have S1 : Hid (HqS W1 R B mv fv X (some ⟨g, 0, none⟩) n c) := HS.out.bel HW.out
  have hsl := S1.out.cells.2.2.2
  go_wp2_with fail
  refine Calls.mono (swap_c X 0 m x0 xm W1 R B mv fv _ n c hn HX0.out HXm.out S1.out) ?_
  rintro e W2 ⟨rfl, hS2, hf2⟩
  clear hsl
  have hsw := swp_set HX0.out HXm.out
  obtain ⟨Y, hY⟩ : ∃ Y, (X.set 0 xm).set m x0 = Y := ⟨_, rfl⟩
  rw [hY] at hS2 hsw
  have HSW : Hid (Swp X Y 0 m) := hsw
  have S2 : Hid (HqS W2 R B mv fv Y (some ⟨g, 0, none⟩) n c) := hS2
  have HF2 : Hid (Fr8 R (.slice (some ⟨g, 0, none⟩) n c) W1 W2) := hf2
  have hlA1 := lt_of_some HA.out
  have hlB1 := lt_of_some HB.out
  have HA2 : Hid (W2.heap[w.heap.size]? = some (.cells #[.int .i64 0, .pointer none] 112)) := (hf2.block _ hlA1 (by omega) (by intro e; simp only [Value.ownBlock, Option.some.injEq] at e; omega)).trans HA.out
  have HB2 : Hid (W2.heap[w.heap.size + 1]? = some (.cells #[.int .i64 x0.r, .pointer (some ⟨x0.b, 0, none⟩)] 112)) := (hf2.block _ hlB1 (by omega) (by intro e; simp only [Value.ownBlock, Option.some.injEq] at e; omega)).trans HB.out
  have hsl := S2.out.cells.2.2.2
  have hfz := S2.out.frz
  clear hS2 hf2 hsw hY
  go_upto_region 8 with fail
  refine wp_genW (fun W => Hid (W.heap[w.heap.size]? = some (.cells #[.int .i64 0, .pointer none] 112)) ∧ Hid (W.heap[w.heap.size + 1]? = some (.cells #[.int .i64 x0.r, .pointer (some ⟨x0.b, 0, none⟩)] 112)) ∧ Hid (HqS W R B mv fv (Y.take m) (some ⟨g, 0, none⟩) m c) ∧ Hid (Fr8 R (.slice (some ⟨g, 0, none⟩) n c) w W)) ⟨by rw [Below.heap_setCell _ _ _ _ (by show w.heap.size ≠ R; omega)]; exact HA2.out, by rw [Below.heap_setCell _ _ _ _ (by show w.heap.size + 1 ≠ R; omega)]; exact HB2.out, ?_, ((Fr8.of_bel HW.out).trans (Nxt8.refl _ _) HF2.out).setR _ _⟩ ?_
  · have hYl : Y.length = n := S2.out.len
    have ho := own_pre S2.out.own (Nat.le_of_lt hmn)
    rw [← rJ_take Y m (by omega)] at ho
    exact S2.out.lay ho (by rw [List.length_take]; omega) (fun z hz => S2.out.ats z (List.mem_of_mem_take hz))
  clear hsl hfz HA2 HB2 HA HB
  rintro W3 ⟨HA, HB, S3, HF3⟩
  have HD3 : Hid (DnI (Y.take m) 0) := dn_start HXL.out HSW.out HK.out
  go_wp2_with fail
  refine (sink_c (Y.take m) W3 R B mv fv _ m c (by omega) S3.out HD3.out).mono ?_
  rintro e W4 ⟨rfl, Z, hS4, hk4, hm4, hf4⟩
  have S4 : Hid (HqS W4 R B mv fv Z (some ⟨g, 0, none⟩) m c) := hS4
  have HK4 : Hid (HpOk Z) := hk4
  have hpm := pop_mem HXL.out HX0.out HSW.out
  have HM1 : Hid (∀ z ∈ Z, z ∈ X) := fun z hz => hpm.1 z ((hm4 z).1 hz)
  have HM2 : Hid (∀ z ∈ X, z = x0 ∨ z ∈ Z) := fun z hz => (hpm.2 z hz).imp id (fun h => (hm4 z).2 h)
  have HF4 : Hid (Fr8 R (.slice (some ⟨g, 0, none⟩) n c) w W4) := HF3.out.trans (v' := .slice (some ⟨g, 0, none⟩) m c) (fun k hk => .inl hk) hf4
  have HA4 : Hid (W4.heap[w.heap.size]? = some (.cells #[.int .i64 0, .pointer none] 112)) := (hf4.block _ (lt_of_some HA.out) (by omega) (by intro e; simp only [Value.ownBlock, Option.some.injEq] at e; omega)).trans HA.out
  have HB4 : Hid (W4.heap[w.heap.size + 1]? = some (.cells #[.int .i64 x0.r, .pointer (some ⟨x0.b, 0, none⟩)] 112)) := (hf4.block _ (lt_of_some HB.out) (by omega) (by intro e; simp only [Value.ownBlock, Option.some.injEq] at e; omega)).trans HB.out
  clear hS4 hk4 hm4 hf4 hpm HA HB
  obtain ⟨a0, a1⟩ := box2 HA4.out
  obtain ⟨b0, b1⟩ := box2 HB4.out
  have fzA := frz2J HA4.out
  obtain ⟨z0, z1⟩ := box2 (set2J HA4.out (.int .i64 x0.r) (.pointer (some ⟨x0.b, 0, none⟩)))
  have hgA' : ¬ g = w.heap.size := by omega
  have HE : Hid (HqS ((W4.setCell ⟨w.heap.size, 0, none⟩ (.int .i64 x0.r)).setCell ⟨w.heap.size, 1, none⟩ (.pointer (some ⟨x0.b, 0, none⟩))) R B mv fv Z (some ⟨g, 0, none⟩) m c) := by
    have key : ∀ W, HqS W R B mv fv Z (some ⟨g, 0, none⟩) m c → ∀ (o : Nat) (u : Value), (∀ z ∈ Z, z.b ≠ w.heap.size) → HqS (W.setCell ⟨w.heap.size, o, none⟩ u) R B mv fv Z (some ⟨g, 0, none⟩) m c := fun W S o u hz => by
      refine ⟨by rw [Below.heap_setCell _ _ _ _ (by show R ≠ w.heap.size; omega)]; exact S.row, ?_, S.len, fun z hzz => ?_⟩
      · obtain ⟨h1, ⟨hv, _⟩ | ⟨g2, cp, cur, hv, hg2, hh, r⟩⟩ := S.own
        · cases hv
        · simp only [Value.slice.injEq, Option.some.injEq, Addr.mk.injEq, and_true, true_and] at hv
          obtain ⟨rfl, rfl⟩ := hv
          exact ⟨h1, .inr ⟨g, c, cur, rfl, hg2, by rw [Below.heap_setCell _ _ _ _ (by show g ≠ w.heap.size; omega)]; exact hh, r⟩⟩
      · obtain ⟨t, q1, q2, hs⟩ := S.ats z hzz
        exact ⟨t, q1, q2, by rw [Below.heap_setCell _ _ _ _ (by exact hz z hzz)]; exact hs⟩
    have hz : ∀ z ∈ Z, z.b ≠ w.heap.size := fun z hzz e => by
      obtain ⟨t, q1, q2, hs⟩ := S4.out.ats z hzz
      rw [e, HA4.out] at hs
      simp at hs
    exact key _ (key _ S4.out 0 _ hz) 1 _ hz
  have HFE : Hid (Fr8 R (.slice (some ⟨g, 0, none⟩) n c) w ((W4.setCell ⟨w.heap.size, 0, none⟩ (.int .i64 x0.r)).setCell ⟨w.heap.size, 1, none⟩ (.pointer (some ⟨x0.b, 0, none⟩)))) :=
    ⟨HF4.out.os, HF4.out.tape, HF4.out.output, by have := HF4.out.size; simpa [World.setCell] using this, fun k hk h1 h2 => by rw [Below.heap_setCell _ _ _ _ (by show k ≠ w.heap.size; omega), Below.heap_setCell _ _ _ _ (by show k ≠ w.heap.size; omega)]; exact HF4.out.block k hk h1 h2⟩
  go_wp2
  exact bodyPost_ret (v := .tuple #[.agg #[.int .i64 x0.r, .pointer (some ⟨x0.b, 0, none⟩)], .bool true]) (by simp [results, Try.results74, go_sem, z0, z1]) rfl ⟨x0, Z, HX0.out, rfl, HE.out, HK4.out, HM1.out, HM2.out, HFE.out⟩

end Go.Proofs.Ytdggkcohidijcaa

/- An item is pushed. -/
namespace Go.Proofs.Ytdggkcohidijcaa
open Go.RowKit
set_option linter.unusedVariables false
set_option linter.unusedSimpArgs false

theorem infoJ : (Try.prog.info? 112).map (fun i => (i.zero, i.size, i.bytes)) = some (some (.agg #[.int .i64 0, .pointer none]), 2, 16) := by kernel_rfl

/-- The items of a row are told anew: whatever they were. -/
theorem lay8 {w : World} {R B : Nat} {mv fv v0 : Value} {Y : List Jt} {p' : Option Addr} {n' c' : Nat} (hrow : w.heap[R]? = some (.cells #[mv, fv, (.func (.func 72) #[] #[]), v0] 107)) (hY : w.ownsRow B 112 2 (.slice p' n' c') n' (rJ Y)) (hl : Y.length = n') (hm : ∀ z ∈ Y, Sym w z.b z.a) : HqS (w.setCell ⟨R, 3, none⟩ (.slice p' n' c')) R B mv fv Y p' n' c' := by
  have hne := kind_ne hY hrow (by decide)
  refine ⟨?_, ?_, hl, fun z hz => ?_⟩
  · simp only [World.setCell, Array.getElem?_modify, if_true, hrow]
    rfl
  · obtain ⟨h1, ⟨hv, h2⟩ | ⟨g, cp, cur, hv, hg, hh, r⟩⟩ := hY
    · exact ⟨h1, .inl ⟨hv, h2⟩⟩
    · refine ⟨h1, .inr ⟨g, cp, cur, hv, hg, ?_, r⟩⟩
      rw [Below.heap_setCell _ _ _ _ (fun e => hne (by rw [hv]; exact congrArg some e))]
      exact hh
  · obtain ⟨t, q1, q2, hs⟩ := hm z hz
    exact ⟨t, q1, q2, by rw [Below.heap_setCell _ _ _ _ (fun e => by rw [show z.b = R from e, hrow] at hs; simp at hs)]; exact hs⟩

theorem Sym.grown {w w' : World} {b : Nat} {a : Int} {base : Nat} {size m : Nat} {v : Value} {xs : List Value} (h : Sym w b a) (ho : w.ownsRow base 112 size v m xs) (hg : w.grownBy w' v.ownBlock) : Sym w' b a := by
  obtain ⟨t, q1, q2, hs⟩ := h
  exact ⟨t, q1, q2, (hg.block _ (lt_of_some hs) (fun e => kind_ne ho hs (by decide) e.symm)).trans hs⟩

theorem Sym.bel {w w' : World} {b : Nat} {a : Int} (h : Sym w b a) (hb : Below w.heap.size w w') : Sym w' b a := by
  obtain ⟨t, q1, q2, hs⟩ := h
  exact ⟨t, q1, q2, (hb.block _ (lt_of_some hs)).trans hs⟩

set_option maxRecDepth 20000 in
set_option maxHeartbeats 4000000 in
theorem cell_two_newJ (w : World) (a b : Value) (t : TypeId) : ∀ j u, ([a, b] : List Value)[j]? = some u → (w.alloc (.cells #[a, b] t)).cell? ((⟨w.heap.size, 0, none⟩ : Addr).add j) = some u := fun j u h => by
  rw [Addr.add_mid, Nat.zero_add]
  simp only [World.cell?, alloc_last]
  simpa using h

set_option maxRecDepth 20000 in
set_option maxHeartbeats 4000000 in
theorem push_c (X : List Jt) (x : Jt) (w : World) (R B : Nat) (mv fv : Value) (p : Option Addr) (n c : Nat) (hn : n + 1 ≤ 4000) (S : HqS w R B mv fv X p n c) (hk : HpOk X) (hx : Sym w x.b x.a) (hBw : B ≤ w.heap.size) :
    Calls Try.prog 85 #[.pointer (some ⟨R, 2, none⟩), .agg #[.int .i64 x.r, .pointer (some ⟨x.b, 0, none⟩)]] w fun e w' => e = .returned (.tuple #[]) ∧ ∃ Y p' c', HqS w' R B mv fv Y p' (n + 1) c' ∧ HpOk Y ∧ (∀ z, z ∈ Y ↔ z ∈ X ∨ z = x) ∧ Fr8 R (.slice p n c) w w' ∧ Nxt8 w (.slice p n c) (.slice p' (n + 1) c') := by
  have HS : Hid (HqS w R B mv fv X p n c) := S
  have HK : Hid (HpOk X) := hk
  have HXS : Hid (Sym w x.b x.a) := hx
  obtain ⟨i0, hi, hz0, hz1, hz2⟩ := info_parts infoJ
  have hXl : X.length = n := S.len
  have HXL : Hid (X.length = n) := hXl
  obtain ⟨W0, hW0⟩ : ∃ W, W = w.alloc (.cells #[.int .i64 x.r, .pointer (some ⟨x.b, 0, none⟩)] 112) := ⟨_, rfl⟩
  have HWW : Hid (w.alloc (.cells #[.int .i64 x.r, .pointer (some ⟨x.b, 0, none⟩)] 112) = W0) := hW0.symm
  have HW0 : Hid (Below w.heap.size w W0) := by rw [hW0]; exact (Below.refl _ _).alloc (Nat.le_refl _) _
  have hxD : ∀ j u, ([.int .i64 x.r, .pointer (some ⟨x.b, 0, none⟩)] : List Value)[j]? = some u → W0.drew.cell? ((⟨w.heap.size, 0, none⟩ : Addr).add j) = some u := by rw [hW0]; exact cell_two_newJ w _ _ _
  have hslD := (HS.out.bel HW0.out.drew).cells.2.2.2
  clear S hk hx hW0 hXl
  go_enter Try.func85, Try.ntmps85
  go_upto_region 1 with fail
  rw [HWW.out]
  refine wp_region_L [⟨7, fun W => W.cell? ⟨R, 3, none⟩ = some (.slice p n c)⟩, ⟨6, fun W => ∀ j u, ([.int .i64 x.r, .pointer (some ⟨x.b, 0, none⟩)] : List Value)[j]? = some u → W.cell? ((⟨w.heap.size, 0, none⟩ : Addr).add j) = some u⟩] (by kernel_rfl) (fun f hf => by
      simp only [List.mem_cons, List.not_mem_nil, or_false] at hf
      rcases hf with rfl | rfl
      · exact hslD
      · exact hxD
      ) ?_
  refine At.take 0 (some 5) (.pointer (some ⟨R, 2, none⟩)) rfl rfl (by kernel_rfl) (by kernel_rfl) (by kernel_rfl) (by kernel_rfl) (fun _ _ _ h => h) (yl_pure (by kernel_rfl) (fun _ => by kernel_rfl)) ?_
  refine At.take 1 (some 6) (.pointer (some ⟨R, 2, none⟩)) rfl rfl (by kernel_rfl) (by kernel_rfl) (by kernel_rfl) (by kernel_rfl) (fun _ _ _ h => h) (yl_pure (by kernel_rfl) (fun _ => by kernel_rfl)) ?_
  refine At.take 2 (some 7) (.pointer (some ⟨R, 2, none⟩)) rfl rfl (by kernel_rfl) (by kernel_rfl) (by kernel_rfl) (by kernel_rfl) (fun _ _ _ h => h) (yl_pure (by kernel_rfl) (fun _ => by kernel_rfl)) ?_
  refine At.take 3 (some 8) (.pointer (some ⟨R, 3, none⟩)) rfl rfl (by kernel_rfl) (by kernel_rfl) (by kernel_rfl) (by kernel_rfl) (fun _ _ _ h => h) (yl_pure (by kernel_rfl) (fun _ => by kernel_rfl)) ?_
  refine At.take 4 (some 9) (.slice p n c) rfl rfl (by kernel_rfl) (by kernel_rfl) (by kernel_rfl) (by kernel_rfl) (fun _ _ _ h => h) (yl_load 7 ⟨R, 3, none⟩ (.slice p n c) (List.mem_cons_self) [7] (by kernel_rfl) rfl (by kernel_rfl) (fun _ => by kernel_rfl)) ?_
  refine At.take 5 (some 10) (.agg #[.int .i64 x.r, .pointer (some ⟨x.b, 0, none⟩)]) rfl rfl (by kernel_rfl) (by kernel_rfl) (by kernel_rfl) (by kernel_rfl) (fun _ _ _ h => h) (yl_loads 6 ⟨w.heap.size, 0, none⟩ [.int .i64 x.r, .pointer (some ⟨x.b, 0, none⟩)] (List.mem_cons_of_mem _ (List.mem_cons_self)) [6] (by kernel_rfl) rfl (by kernel_rfl) (fun _ => by kernel_rfl)) ?_
  refine At.step 6 (some 11) rfl rfl (by kernel_rfl) (by kernel_rfl) (fun u W => u = .slice (some ⟨W0.drew.heap.size, 0, none⟩) 1 1 ∧ W = W0.drew.alloc (.cells #[.int .i64 x.r, .pointer (some ⟨x.b, 0, none⟩)] 112)) (gives_run (by kernel_rfl)) ?_
  rintro u WB ⟨rfl, hWB⟩
  have hbB : Below w.heap.size w WB := by rw [hWB]; exact (HW0.out.drew).alloc HW0.out.size _
  have SB := HS.out.bel hbB
  have hnb : ∀ j u, ([.int .i64 x.r, .pointer (some ⟨x.b, 0, none⟩)] : List Value)[j]? = some u → WB.cell? ((⟨W0.drew.heap.size, 0, none⟩ : Addr).add j) = some u := by rw [hWB]; exact cell_two_newJ _ _ _ _
  refine ⟨held_cons (.inr ((SB.cells.2.2.2))) (held_cons (.inl (by kernel_rfl)) (held_nil)), ?_⟩
  obtain ⟨v', WC, hrun, hown, hgrow, _, hblk⟩ := run_append_own_at (P := Try.prog) WB B 102 102 112 i0 (.agg #[.int .i64 0, .pointer none]) 2 16 Try.underlying102 hi hz0 hz1 hz2 rfl (by decide) (.slice p n c) n (rJ X) SB.own ⟨W0.drew.heap.size, 0, none⟩ 1 1 [.int .i64 x.r, .pointer (some ⟨x.b, 0, none⟩)] rfl hnb (cJ_one x) (by unfold maxLen; omega) (by omega) (Nat.le_trans hBw hbB.size)
  obtain ⟨p2, c2, rfl⟩ := own_sliceV hown
  refine At.step 7 (some 12) rfl rfl (by kernel_rfl) (by kernel_rfl) (fun u W => u = .slice p2 (n + 1) c2 ∧ W = WC) (gives_append (fun _ => by kernel_rfl) hrun) ?_
  rintro u WC' ⟨rfl, hWC⟩
  subst hWC
  have hrowC : WC'.heap[R]? = some (.cells #[mv, fv, (.func (.func 72) #[] #[]), .slice p n c] 107) := (hgrow.block _ (lt_of_some SB.row) (fun e => kind_ne SB.own SB.row (by decide) e.symm)).trans SB.row
  have hslC : WC'.cell? ⟨R, 3, none⟩ = some (.slice p n c) := by simp [World.cell?, hrowC]
  have hfzC : WC'.frozen? ⟨R, 3, none⟩ = false := by simp [World.frozen?, hrowC]
  refine ⟨held_cons (.inl (by kernel_rfl)) (held_cons (.inl (by kernel_rfl)) (held_nil)), ?_⟩
  refine At.take 8 (some 13) (.pointer (some ⟨R, 2, none⟩)) rfl rfl (by kernel_rfl) (by kernel_rfl) (by kernel_rfl) (by kernel_rfl) (fun _ _ _ h => h) (yl_pure (by kernel_rfl) (fun _ => by kernel_rfl)) ?_
  refine At.take 9 (some 14) (.pointer (some ⟨R, 3, none⟩)) rfl rfl (by kernel_rfl) (by kernel_rfl) (by kernel_rfl) (by kernel_rfl) (fun _ _ _ h => h) (yl_pure (by kernel_rfl) (fun _ => by kernel_rfl)) ?_
  refine At.step 10 none rfl rfl (by kernel_rfl) (by kernel_rfl) (fun u W => u = undef ∧ W = WC'.setCell ⟨R, 3, none⟩ (.slice p2 (n + 1) c2)) (gives_store (p := ⟨R, 3, none⟩) (x := .slice p2 (n + 1) c2) (y := .slice p n c) (fun _ => by kernel_rfl) (by rfl) hslC hfzC) ?_
  rintro u WE ⟨rfl, hWE⟩
  refine ⟨held_cons (.inl (by kernel_rfl)) (held_cons (.inl (by kernel_rfl)) (held_nil)), ?_⟩
  refine At.done (by kernel_rfl) ?_
  simp only [Act.put, List.setIfInBounds_toArray, List.set_cons_zero, List.set_cons_succ]
  have HSE : Hid (HqS WE R B mv fv (X ++ [x]) p2 (n + 1) c2) := by
    rw [hWE]
    refine lay8 hrowC ?_ (by rw [List.length_append, HXL.out]; rfl) (fun z hz => ?_)
    · rw [rJ_one]; exact hown
    · rcases List.mem_append.1 hz with h | h
      · exact (SB.ats z h).grown SB.own hgrow
      · rw [List.mem_singleton.1 h]; exact (HXS.out.bel hbB).grown SB.own hgrow
  have HFE : Hid (Fr8 R (.slice p n c) w WE) := by
    rw [hWE]
    have h1 : Fr8 R (.slice p n c) w WC' := ⟨hgrow.os.trans hbB.os, hgrow.tape.trans hbB.tape, hgrow.output.trans hbB.output, Nat.le_trans hbB.size hgrow.size, fun k hk h1 h2 => (hgrow.block k (Nat.lt_of_lt_of_le hk hbB.size) (fun e => h2 e.symm)).trans (hbB.block k hk)⟩
    exact h1.setR _ _
  have HNE : Hid (Nxt8 w (.slice p n c) (.slice p2 (n + 1) c2)) := fun k hk => by
    rcases hblk with h | h
    · exact .inl (by rw [← h]; exact hk)
    · rw [h] at hk
      simp only [Option.some.injEq] at hk
      have := hbB.size
      exact .inr (by omega)
  have HUE : Hid (UpI (X ++ [x]) n) := by have := up_start x HK.out; rw [HXL.out] at this; exact this
  have HME : Hid (∀ z, z ∈ X ++ [x] ↔ z ∈ X ∨ z = x) := fun z => by rw [List.mem_append, List.mem_singleton]
  clear hWE hrowC hslC hfzC hown hgrow hblk hrun hnb hbB SB hWB hxD hslD hi hz0 hz1 hz2
  obtain ⟨N, hN⟩ : ∃ N, n + 1 = N := ⟨_, rfl⟩
  have HNN : Hid (n + 1 = N) := hN
  rw [hN] at HSE HNE ⊢
  have hnN : n < N := by omega
  have hN4 : N ≤ 4000 := by omega
  have hN4' : (N : Int) ≤ 4000 := by omega
  have e5 : IntKind.i64.wrap ((N : Int) - 1) = (n : Int) := by rw [IntWalk.i64_in _ (by omega)]; omega
  have hsl := HSE.out.cells.2.2.2
  clear hN
  go_wp2_with fail
  clear hsl e5
  go_loopw [4] (fun av wr => ∃ (Y : List Jt) (a : Nat), av = .int .i64 (a : Int) ∧ a < N ∧ Hid (HqS wr R B mv fv Y p2 N c2) ∧ Hid (UpI Y a) ∧ Hid (∀ z, z ∈ Y ↔ z ∈ X ∨ z = x) ∧ Hid (Fr8 R (.slice p n c) w wr)) (fun av _ => (intOf av).toNat)
  case atStart => exact ⟨_, n, rfl, hnN, HSE, HUE, HME, HFE⟩
  case round =>
    clear HSE HUE HME HFE
    obtain ⟨Y, a, rfl, ha, S, HU, HM, HF⟩ := hrel
    rcases Nat.eq_zero_or_pos a with h0 | h0
    · subst h0
      have HKK : Hid (HpOk Y) := up_top HU.out
      have hz0 : ¬ ((0 : Nat) : Int) > 0 := by omega
      go_upto_region 3 with fail
      refine wp_region_told (fun W => Below wr.heap.size wr W) (by kernel_rfl) (by kernel_rfl) ((Below.refl wr.heap.size wr).drew) ?_
      refine told_pure (some 21) (.int .i64 (((0 : Nat) : Int))) rfl (by kernel_rfl) (fun _ => by kernel_rfl) ?_
      refine told_is (some 22) (.bool (decide (((0 : Nat) : Int) > 0))) (.bool false) (by rw [decide_eq_false hz0]) rfl (by kernel_rfl) (fun _ => by kernel_rfl) ?_
      refine told_pure (some 23) (.bool false) rfl (by kernel_rfl) (fun _ => by kernel_rfl) ?_
      refine told_skip (some 24) rfl (by kernel_rfl) ?_
      refine told_skip (some 25) rfl (by kernel_rfl) ?_
      refine told_skip (some 26) rfl (by kernel_rfl) ?_
      refine told_skip (some 27) rfl (by kernel_rfl) ?_
      refine told_skip (some 28) rfl (by kernel_rfl) ?_
      refine told_skip (some 29) rfl (by kernel_rfl) ?_
      refine told_skip (some 30) rfl (by kernel_rfl) ?_
      refine told_skip (some 31) rfl (by kernel_rfl) ?_
      refine told_skip (some 32) rfl (by kernel_rfl) ?_
      refine told_skip (some 33) rfl (by kernel_rfl) ?_
      refine told_skip (some 34) rfl (by kernel_rfl) ?_
      refine told_skip (some 35) rfl (by kernel_rfl) ?_
      refine told_skip (some 36) rfl (by kernel_rfl) ?_
      refine told_skip (some 37) rfl (by kernel_rfl) ?_
      refine told_skip (some 38) rfl (by kernel_rfl) ?_
      refine told_skip (some 39) rfl (by kernel_rfl) ?_
      refine told_skip (some 40) rfl (by kernel_rfl) ?_
      refine told_skip (some 41) rfl (by kernel_rfl) ?_
      refine told_skip (some 42) rfl (by kernel_rfl) ?_
      refine told_skip (some 43) rfl (by kernel_rfl) ?_
      refine told_skip (some 44) rfl (by kernel_rfl) ?_
      refine told_pure (some 45) (.bool false) rfl (by kernel_rfl) (fun _ => by kernel_rfl) ?_
      refine told_nil ?_
      intro W2 hS2
      simp only [Act.put, List.setIfInBounds_toArray, List.set_cons_zero, List.set_cons_succ]
      have S2 : Hid (HqS W2 R B mv fv Y p2 N c2) := S.out.bel hS2
      have HF2 : Hid (Fr8 R (.slice p n c) w W2) := HF.out.bel hS2
      clear hS2
      go_wp2
      go_end0
      refine ⟨rfl, Y, p2, c2, ?_⟩
      rw [HNN.out]
      exact ⟨S2.out, HKK.out, HM.out, HF2.out, HNE.out⟩
    obtain ⟨m, rfl⟩ : ∃ m, a = m + 1 := ⟨a - 1, by omega⟩
    obtain ⟨q, hq⟩ : ∃ q, m / 2 = q := ⟨_, rfl⟩
    have HQ : Hid (q = (m + 1 - 1) / 2 ∧ q ≤ m) := ⟨by omega, by omega⟩
    have hqm : q < N := by omega
    have hap : ((m + 1 : Nat) : Int) > 0 := by omega
    have e1 : IntKind.i64.wrap (((m + 1 : Nat) : Int) - 1) = (m : Int) := by rw [IntWalk.i64_in _ (by omega)]; omega
    have e2 : (m : Int) / 2 = (q : Int) := by omega
    have e3 : IntKind.i64.wrap (q : Int) = (q : Int) := IntWalk.i64_in _ (by omega)
    have hap' : (0 : Int) < ((m + 1 : Nat) : Int) := by omega
    obtain ⟨A, hA⟩ : ∃ A, m + 1 = A := ⟨_, rfl⟩
    have HAA : Hid (m + 1 = A) := hA
    rw [hA] at ha HU HQ hap hap' e1 ⊢
    obtain ⟨g, hp2, hgw, hBg, hnc, hgR, hcl⟩ := S.out.items (by omega)
    subst hp2
    obtain ⟨xa, hxa⟩ : ∃ x, Y[A]? = some x := ⟨_, List.getElem?_eq_getElem (by rw [S.out.len]; omega)⟩
    obtain ⟨xq, hxq⟩ : ∃ x, Y[q]? = some x := ⟨_, List.getElem?_eq_getElem (by rw [S.out.len]; omega)⟩
    have HXa : Hid (Y[A]? = some xa) := hxa
    have HXq : Hid (Y[q]? = some xq) := hxq
    have hca := hcl A xa hxa
    have hcq := hcl q xq hxq
    have hma := List.mem_of_getElem? hxa
    have hmq := List.mem_of_getElem? hxq
    have hsl := S.out.cells.2.2.2
    have hless := S.out.cells.2.2.1
    have haN : (A : Int) < N := by omega
    have hqN : (q : Int) < N := by omega
    clear hcl hxa hxq h0 hA hq
    go_upto_region 3 with fail
    by_cases hlt : ltJ xa xq
    · skip
      refine wp_region_told (fun W => Below wr.heap.size wr W) (by kernel_rfl) (by kernel_rfl) ((Below.refl wr.heap.size wr).drew) ?_
      refine told_pure (some 21) (.int .i64 ((A : Int))) rfl (by kernel_rfl) (fun _ => by kernel_rfl) ?_
      refine told_is (some 22) (.bool (decide ((A : Int) > 0))) (.bool true) (by rw [decide_eq_true hap]) rfl (by kernel_rfl) (fun _ => by kernel_rfl) ?_
      refine told_pure (some 23) (.bool true) rfl (by kernel_rfl) (fun _ => by kernel_rfl) ?_
      refine told_pure (some 24) (.pointer (some ⟨R, 2, none⟩)) rfl (by kernel_rfl) (fun _ => by kernel_rfl) ?_
      refine told_pure (some 25) (.pointer (some ⟨R, 2, none⟩)) rfl (by kernel_rfl) (fun _ => by kernel_rfl) ?_
      refine told_pure (some 26) (.pointer (some ⟨R, 2, none⟩)) rfl (by kernel_rfl) (fun _ => by kernel_rfl) ?_
      refine told_load (some 27) ⟨R, 2, none⟩ ((.func (.func 72) #[] #[])) rfl (by kernel_rfl) (fun _ => by kernel_rfl) (fun _ hS => atB hS hless) ?_
      refine told_pure (some 28) (.pointer (some ⟨R, 2, none⟩)) rfl (by kernel_rfl) (fun _ => by kernel_rfl) ?_
      refine told_pure (some 29) (.pointer (some ⟨R, 2, none⟩)) rfl (by kernel_rfl) (fun _ => by kernel_rfl) ?_
      refine told_pure (some 30) (.pointer (some ⟨R, 3, none⟩)) rfl (by kernel_rfl) (fun _ => by kernel_rfl) ?_
      refine told_load (some 31) ⟨R, 3, none⟩ (.slice (some ⟨g, 0, none⟩) N c2) rfl (by kernel_rfl) (fun _ => by kernel_rfl) (fun _ hS => atB hS hsl) ?_
      refine told_pure (some 32) (.int .i64 ((A : Int))) rfl (by kernel_rfl) (fun _ => by kernel_rfl) ?_
      refine told_pure (some 33) (.pointer (some ⟨g, A * 2, none⟩)) rfl (by kernel_rfl) (fun w => by go_simp) ?_
      refine told_loads (some 34) ⟨g, A * 2, none⟩ [.int .i64 xa.r, .pointer (some ⟨xa.b, 0, none⟩)] rfl (by kernel_rfl) (fun _ => by kernel_rfl) (fun W hS j u hj => atB hS (hca j u hj)) ?_
      refine told_pure (some 35) (.pointer (some ⟨R, 2, none⟩)) rfl (by kernel_rfl) (fun _ => by kernel_rfl) ?_
      refine told_pure (some 36) (.pointer (some ⟨R, 2, none⟩)) rfl (by kernel_rfl) (fun _ => by kernel_rfl) ?_
      refine told_pure (some 37) (.pointer (some ⟨R, 3, none⟩)) rfl (by kernel_rfl) (fun _ => by kernel_rfl) ?_
      refine told_load (some 38) ⟨R, 3, none⟩ (.slice (some ⟨g, 0, none⟩) N c2) rfl (by kernel_rfl) (fun _ => by kernel_rfl) (fun _ hS => atB hS hsl) ?_
      refine told_pure (some 39) (.int .i64 ((A : Int))) rfl (by kernel_rfl) (fun _ => by kernel_rfl) ?_
      refine told_is (some 40) (.int .i64 (IntKind.i64.wrap ((A : Int) - 1))) (.int .i64 (m : Int)) (by rw [e1]) rfl (by kernel_rfl) (fun _ => by kernel_rfl) ?_
      refine told_pure (some 41) (.int .i64 (q : Int)) rfl (by kernel_rfl) (fun w => by go_simp) ?_
      refine told_pure (some 42) (.pointer (some ⟨g, q * 2, none⟩)) rfl (by kernel_rfl) (fun w => by go_simp) ?_
      refine told_loads (some 43) ⟨g, q * 2, none⟩ [.int .i64 xq.r, .pointer (some ⟨xq.b, 0, none⟩)] rfl (by kernel_rfl) (fun _ => by kernel_rfl) (fun W hS j u hj => atB hS (hcq j u hj)) ?_
      refine told_call (some 44) (.bool true) 72 #[.agg #[.int .i64 xa.r, .pointer (some ⟨xa.b, 0, none⟩)], .agg #[.int .i64 xq.r, .pointer (some ⟨xq.b, 0, none⟩)]] rfl (by kernel_rfl) (fun _ => by kernel_rfl) (fun W hS => below_S ((sooner_c xa xq W (Sym.cell ((S.out.bel hS).ats _ hma)) (Sym.cell ((S.out.bel hS).ats _ hmq))).mono fun e w' ⟨he, hb⟩ => ⟨by rw [he, decide_eq_true hlt], hb⟩) hS) ?_
      refine told_pure (some 45) (.bool true) rfl (by kernel_rfl) (fun _ => by kernel_rfl) ?_
      refine told_nil ?_
      intro W2 hS2
      simp only [Act.put, List.setIfInBounds_toArray, List.set_cons_zero, List.set_cons_succ]
      have S2 : Hid (HqS W2 R B mv fv Y (some ⟨g, 0, none⟩) N c2) := S.out.bel hS2
      have HF2 : Hid (Fr8 R (.slice p n c) w W2) := HF.out.bel hS2
      clear hS2 hca hcq hsl hless
      go_wp2_with fail
      refine (swap_c Y A q xa xq W2 R B mv fv _ N c2 hN4 HXa.out HXq.out S2.out).mono ?_
      rintro e W3 ⟨rfl, hS3, hf3⟩
      have S3 : Hid (HqS W3 R B mv fv ((Y.set A xq).set q xa) (some ⟨g, 0, none⟩) N c2) := hS3
      have HF3 : Hid (Fr8 R (.slice p n c) w W3) := HF2.out.trans HNE.out hf3
      have hsw := swp_set HXa.out HXq.out
      have HU3 : Hid (UpI ((Y.set A xq).set q xa) q) := by
        have e : (A - 1) / 2 = q := by have := HQ.out.1; omega
        have h := up_step (by omega) HXa.out (by rw [e]; exact HXq.out) hlt (by rw [e]; exact hsw) HU.out
        rw [e] at h
        exact h
      have HM3 : Hid (∀ z, z ∈ (Y.set A xq).set q xa ↔ z ∈ X ∨ z = x) := fun z => (hsw.mem (List.getElem?_eq_some_iff.1 HXa.out).1 (List.getElem?_eq_some_iff.1 HXq.out).1 z).trans (HM.out z)
      have hqA : q < A := by have := HQ.out.2; have := HAA.out; omega
      clear hS3 hf3 hsw hlt
      go_wp2
      go_roundw
      case rel => first | exact ⟨_, q, by go_num, hqm, S3, HU3, HM3, HF3⟩ | ((repeat apply Exists.intro); exact ⟨⟨_, q, rfl, hqm, S3, HU3, HM3, HF3⟩, rfl⟩) | ((repeat apply Exists.intro); exact ⟨⟨_, q, by go_num, hqm, S3, HU3, HM3, HF3⟩, rfl⟩)
      case measure => simp [intOf] <;> omega
    · skip
      refine wp_region_told (fun W => Below wr.heap.size wr W) (by kernel_rfl) (by kernel_rfl) ((Below.refl wr.heap.size wr).drew) ?_
      refine told_pure (some 21) (.int .i64 ((A : Int))) rfl (by kernel_rfl) (fun _ => by kernel_rfl) ?_
      refine told_is (some 22) (.bool (decide ((A : Int) > 0))) (.bool true) (by rw [decide_eq_true hap]) rfl (by kernel_rfl) (fun _ => by kernel_rfl) ?_
      refine told_pure (some 23) (.bool true) rfl (by kernel_rfl) (fun _ => by kernel_rfl) ?_
      refine told_pure (some 24) (.pointer (some ⟨R, 2, none⟩)) rfl (by kernel_rfl) (fun _ => by kernel_rfl) ?_
      refine told_pure (some 25) (.pointer (some ⟨R, 2, none⟩)) rfl (by kernel_rfl) (fun _ => by kernel_rfl) ?_
      refine told_pure (some 26) (.pointer (some ⟨R, 2, none⟩)) rfl (by kernel_rfl) (fun _ => by kernel_rfl) ?_
      refine told_load (some 27) ⟨R, 2, none⟩ ((.func (.func 72) #[] #[])) rfl (by kernel_rfl) (fun _ => by kernel_rfl) (fun _ hS => atB hS hless) ?_
      refine told_pure (some 28) (.pointer (some ⟨R, 2, none⟩)) rfl (by kernel_rfl) (fun _ => by kernel_rfl) ?_
      refine told_pure (some 29) (.pointer (some ⟨R, 2, none⟩)) rfl (by kernel_rfl) (fun _ => by kernel_rfl) ?_
      refine told_pure (some 30) (.pointer (some ⟨R, 3, none⟩)) rfl (by kernel_rfl) (fun _ => by kernel_rfl) ?_
      refine told_load (some 31) ⟨R, 3, none⟩ (.slice (some ⟨g, 0, none⟩) N c2) rfl (by kernel_rfl) (fun _ => by kernel_rfl) (fun _ hS => atB hS hsl) ?_
      refine told_pure (some 32) (.int .i64 ((A : Int))) rfl (by kernel_rfl) (fun _ => by kernel_rfl) ?_
      refine told_pure (some 33) (.pointer (some ⟨g, A * 2, none⟩)) rfl (by kernel_rfl) (fun w => by go_simp) ?_
      refine told_loads (some 34) ⟨g, A * 2, none⟩ [.int .i64 xa.r, .pointer (some ⟨xa.b, 0, none⟩)] rfl (by kernel_rfl) (fun _ => by kernel_rfl) (fun W hS j u hj => atB hS (hca j u hj)) ?_
      refine told_pure (some 35) (.pointer (some ⟨R, 2, none⟩)) rfl (by kernel_rfl) (fun _ => by kernel_rfl) ?_
      refine told_pure (some 36) (.pointer (some ⟨R, 2, none⟩)) rfl (by kernel_rfl) (fun _ => by kernel_rfl) ?_
      refine told_pure (some 37) (.pointer (some ⟨R, 3, none⟩)) rfl (by kernel_rfl) (fun _ => by kernel_rfl) ?_
      refine told_load (some 38) ⟨R, 3, none⟩ (.slice (some ⟨g, 0, none⟩) N c2) rfl (by kernel_rfl) (fun _ => by kernel_rfl) (fun _ hS => atB hS hsl) ?_
      refine told_pure (some 39) (.int .i64 ((A : Int))) rfl (by kernel_rfl) (fun _ => by kernel_rfl) ?_
      refine told_is (some 40) (.int .i64 (IntKind.i64.wrap ((A : Int) - 1))) (.int .i64 (m : Int)) (by rw [e1]) rfl (by kernel_rfl) (fun _ => by kernel_rfl) ?_
      refine told_pure (some 41) (.int .i64 (q : Int)) rfl (by kernel_rfl) (fun w => by go_simp) ?_
      refine told_pure (some 42) (.pointer (some ⟨g, q * 2, none⟩)) rfl (by kernel_rfl) (fun w => by go_simp) ?_
      refine told_loads (some 43) ⟨g, q * 2, none⟩ [.int .i64 xq.r, .pointer (some ⟨xq.b, 0, none⟩)] rfl (by kernel_rfl) (fun _ => by kernel_rfl) (fun W hS j u hj => atB hS (hcq j u hj)) ?_
      refine told_call (some 44) (.bool false) 72 #[.agg #[.int .i64 xa.r, .pointer (some ⟨xa.b, 0, none⟩)], .agg #[.int .i64 xq.r, .pointer (some ⟨xq.b, 0, none⟩)]] rfl (by kernel_rfl) (fun _ => by kernel_rfl) (fun W hS => below_S ((sooner_c xa xq W (Sym.cell ((S.out.bel hS).ats _ hma)) (Sym.cell ((S.out.bel hS).ats _ hmq))).mono fun e w' ⟨he, hb⟩ => ⟨by rw [he, decide_eq_false hlt], hb⟩) hS) ?_
      refine told_pure (some 45) (.bool false) rfl (by kernel_rfl) (fun _ => by kernel_rfl) ?_
      refine told_nil ?_
      intro W2 hS2
      simp only [Act.put, List.setIfInBounds_toArray, List.set_cons_zero, List.set_cons_succ]
      have S2 : Hid (HqS W2 R B mv fv Y (some ⟨g, 0, none⟩) N c2) := S.out.bel hS2
      have HF2 : Hid (Fr8 R (.slice p n c) w W2) := HF.out.bel hS2
      clear hS2 hca hcq hsl hless
      have HKK : Hid (HpOk Y) := up_done HXa.out (by have e : (A - 1) / 2 = q := by { have := HQ.out.1; omega }
                                                     rw [e]; exact HXq.out) hlt HU.out
      clear hlt
      go_wp2
      go_end0
      refine ⟨rfl, Y, (some ⟨g, 0, none⟩), c2, ?_⟩
      rw [HNN.out]
      exact ⟨S2.out, HKK.out, HM.out, HF2.out, HNE.out⟩

end Go.Proofs.Ytdggkcohidijcaa

/- A row of symbols in memory. -/
namespace Go.Proofs.Ytdggkcohidijcaa
open Go.RowKit
set_option linter.unusedVariables false
set_option linter.unusedSimpArgs false

/-- A symbol: its block, its token, its place. -/
structure Sy where
  b : Nat
  tok : Int
  pl : Int

def ptrO : Option Sy → Value
  | some y => .pointer (some ⟨y.b, 0, none⟩)
  | none => .pointer none

def prvV (l : List Sy) : Nat → Value
  | 0 => .pointer none
  | i + 1 => ptrO l[i]?

def LiveAt (w : World) (l : List Sy) : Prop := ∀ (i : Nat) (y : Sy), l[i]? = some y → w.heap[y.b]? = some (.cells #[.int .i64 y.tok, .int .i64 y.pl, prvV l i, ptrO l[i + 1]?] 109)

def Mono8 (l : List Sy) : Prop := ∀ (i j : Nat) (x y : Sy), i < j → l[i]? = some x → l[j]? = some y → x.b < y.b ∧ x.pl < y.pl

/-- A joint's symbol lives, or has nothing behind it. -/
def JOk (w : World) (l : List Sy) (x : Jt) : Prop := 0 ≤ x.r ∧ ((∃ (i : Nat) (y : Sy), l[i]? = some y ∧ y.b = x.b ∧ y.pl = x.a) ∨ ∃ (t : Int) (p : Value), w.heap[x.b]? = some (.cells #[.int .i64 t, .int .i64 x.a, p, .pointer none] 109))

theorem JOk.sym {w : World} {l : List Sy} {x : Jt} (h : JOk w l x) (hl : LiveAt w l) : Sym w x.b x.a := by
  rcases h.2 with ⟨i, y, h1, h2, h3⟩ | ⟨t, p, h1⟩
  · rw [← h2, ← h3]; exact ⟨_, _, _, hl i y h1⟩
  · exact ⟨t, p, _, h1⟩

structure RowS (w : World) (R B : Nat) (mp : Option Addr) (mc : Nat) (M : List S_Pair) (l : List Sy) (X : List Jt) (p : Option Addr) (n c : Nat) (C : Nat → Prop) : Prop where
  q : HqS w R B (.slice mp M.length mc) (ptrO l[0]?) X p n c
  live : LiveAt w l
  mono : Mono8 l
  hp : HpOk X
  jok : ∀ x ∈ X, JOk w l x
  cov : ∀ (i : Nat) (y z : Sy) (r : Int), C i → l[i]? = some y → l[i + 1]? = some z → 0 ≤ r → IsFst M y.tok z.tok r → ⟨r, y.b, y.pl⟩ ∈ X
  mrow : RowR w (.slice mp M.length mc) M.length 2 (rPair M)
  bR : B ≤ R
  bl : ∀ y ∈ l, B ≤ y.b
  bm : ∀ (b off : Nat), mp = some ⟨b, off, none⟩ → 0 < M.length → b < B

section
variable {w w' W : World} {R B : Nat} {mp : Option Addr} {mc : Nat} {M : List S_Pair} {l l' : List Sy} {X Y : List Jt} {p p' : Option Addr} {n n' c c' : Nat} {C C' : Nat → Prop}

theorem ptrO_none {o : Option Sy} (h : o = none) : ptrO o = .pointer none := by rw [h]; rfl
theorem ptrO_some {o : Option Sy} {y : Sy} (h : o = some y) : ptrO o = .pointer (some ⟨y.b, 0, none⟩) := by rw [h]; rfl

theorem RowS.bel (S : RowS w R B mp mc M l X p n c C) (h : Below w.heap.size w w') : RowS w' R B mp mc M l X p n c C :=
  ⟨S.q.bel h, fun i y hy => (h.block _ (lt_of_some (S.live i y hy))).trans (S.live i y hy), S.mono, S.hp, fun x hx => ⟨(S.jok x hx).1, (S.jok x hx).2.imp id (fun ⟨t, p, h1⟩ => ⟨t, p, (h.block _ (lt_of_some h1)).trans h1⟩)⟩, S.cov, S.mrow.keep h (Nat.le_refl _), S.bR, S.bl, S.bm⟩

/-- Live blocks are told apart. -/
theorem Mono8.inj (h : Mono8 l) {i j : Nat} {x y : Sy} (hx : l[i]? = some x) (hy : l[j]? = some y) (e : x.b = y.b) : i = j := by
  rcases Nat.lt_trichotomy i j with h1 | h1 | h1
  · have := (h i j x y h1 hx hy).1; omega
  · exact h1
  · have := (h j i y x h1 hy hx).1; omega

theorem sym_fr {b : Nat} {a : Int} {v : Value} {base : Nat} {size m : Nat} {xs : List Value} {v0 v1 v2 v3 : Value} (h : Sym w b a) (hf : Fr8 R v w w') (ho : w.ownsRow base 112 size v m xs) (hR : w.heap[R]? = some (.cells #[v0, v1, v2, v3] 107)) : Sym w' b a := by
  obtain ⟨t, q1, q2, hs⟩ := h
  exact ⟨t, q1, q2, (hf.block _ (lt_of_some hs) (fun e => by rw [e, hR] at hs; simp at hs) (kind_ne ho hs (by decide))).trans hs⟩

theorem blk_fr {b : Nat} {cs : Array Value} {v : Value} {base : Nat} {size m : Nat} {xs : List Value} {v0 v1 v2 v3 : Value} (hs : w.heap[b]? = some (.cells cs 109)) (hf : Fr8 R v w w') (ho : w.ownsRow base 112 size v m xs) (hR : w.heap[R]? = some (.cells #[v0, v1, v2, v3] 107)) : w'.heap[b]? = some (.cells cs 109) :=
  (hf.block _ (lt_of_some hs) (fun e => by rw [e, hR] at hs; simp at hs) (kind_ne ho hs (by decide))).trans hs

theorem row_low {m : Nat} {xs : List Value} (h : RowR w (.slice mp m mc) m 2 xs) (hb : Below B w w') (hm : ∀ (b off : Nat), mp = some ⟨b, off, none⟩ → 0 < m → b < B) : RowR w' (.slice mp m mc) m 2 xs := by
  obtain ⟨h1, p, cap, hv, hc⟩ := h
  simp only [Value.slice.injEq, true_and] at hv
  obtain ⟨rfl, rfl⟩ := hv
  refine ⟨h1, mp, mc, rfl, fun j hj => ?_⟩
  obtain ⟨b, off, e, hlt, hcell⟩ := hc j hj
  exact ⟨b, off, e, Nat.lt_of_lt_of_le hlt hb.size, by rw [hb.cell (by exact hm b off e (by omega))]; exact hcell⟩

/-- The queue turned: the row is as it was. -/
theorem RowS.fr (S : RowS w R B mp mc M l X p n c C) (hf : Fr8 R (.slice p n c) w w') (hB : B ≤ w.heap.size) (hq : HqS w' R B (.slice mp M.length mc) (ptrO l[0]?) Y p' n' c') (hk : HpOk Y) (hj : ∀ z ∈ Y, JOk w l z) (hc : ∀ (i : Nat) (y z : Sy) (r : Int), C' i → l[i]? = some y → l[i + 1]? = some z → 0 ≤ r → IsFst M y.tok z.tok r → ⟨r, y.b, y.pl⟩ ∈ Y) : RowS w' R B mp mc M l Y p' n' c' C' := by
  refine ⟨hq, fun i y hy => blk_fr (S.live i y hy) hf S.q.own S.q.row, S.mono, hk, fun x hx => ⟨(hj x hx).1, (hj x hx).2.imp id (fun ⟨t, p, h1⟩ => ⟨t, p, blk_fr h1 hf S.q.own S.q.row⟩)⟩, hc, ?_, S.bR, S.bl, S.bm⟩
  exact row_low S.mrow (hf.below S.bR (fun k hk => (S.q.own.lt k hk).1) hB) S.bm
end

end Go.Proofs.Ytdggkcohidijcaa

/- Two symbols have become one. -/
namespace Go.Proofs.Ytdggkcohidijcaa
open Go.RowKit
set_option linter.unusedVariables false
set_option linter.unusedSimpArgs false

/-- Where two have become one. -/
def Mrg8 (l l' : List Sy) (i : Nat) (y : Sy) (t : Int) : Prop := ∀ j, l'[j]? = if j < i then l[j]? else if j = i then some ⟨y.b, t, y.pl⟩ else l[j + 1]?

theorem mrg_is {l : List Sy} {i : Nat} {y z : Sy} (hy : l[i]? = some y) (hz : l[i + 1]? = some z) (t : Int) : Mrg8 l (l.take i ++ ⟨y.b, t, y.pl⟩ :: l.drop (i + 2)) i y t := by
  have hi := (List.getElem?_eq_some_iff.1 hz).1
  have hl : (l.take i).length = i := by rw [List.length_take]; omega
  intro j
  by_cases h1 : j < i
  · rw [if_pos h1, List.getElem?_append_left (by omega), List.getElem?_take_of_lt h1]
  · rw [if_neg h1, List.getElem?_append_right (by omega), hl]
    by_cases h2 : j = i
    · rw [if_pos h2, h2, Nat.sub_self]; rfl
    · rw [if_neg h2]
      obtain ⟨d, rfl⟩ : ∃ d, j = i + 1 + d := ⟨j - i - 1, by omega⟩
      rw [show i + 1 + d - i = d + 1 by omega, List.getElem?_cons_succ, List.getElem?_drop]
      congr 1
      omega

theorem Mrg8.mono {l l' : List Sy} {i : Nat} {y : Sy} {t : Int} (h : Mrg8 l l' i y t) (hy : l[i]? = some y) (hm : Mono8 l) : Mono8 l' := by
  have key : ∀ (j : Nat) (x : Sy), l'[j]? = some x → ∃ (k : Nat) (x0 : Sy), l[k]? = some x0 ∧ x0.b = x.b ∧ x0.pl = x.pl ∧ ((j ≤ i ∧ k = j) ∨ (i < j ∧ k = j + 1)) := by
    intro j x hx
    rw [h j] at hx
    by_cases h1 : j < i
    · rw [if_pos h1] at hx; exact ⟨j, x, hx, rfl, rfl, .inl ⟨by omega, rfl⟩⟩
    · rw [if_neg h1] at hx
      by_cases h2 : j = i
      · rw [if_pos h2] at hx; cases hx; exact ⟨i, y, hy, rfl, rfl, .inl ⟨by omega, h2.symm⟩⟩
      · rw [if_neg h2] at hx; exact ⟨j + 1, x, hx, rfl, rfl, .inr ⟨by omega, rfl⟩⟩
  intro a b x x2 hab hx hx2
  obtain ⟨k, u, hu, e1, e2, h1⟩ := key a x hx
  obtain ⟨k2, u2, hu2, e3, e4, h2⟩ := key b x2 hx2
  have := hm k k2 u u2 (by omega) hu hu2
  rw [e1, e2, e3, e4] at this
  exact this

/-- Two symbols have become one: the row behind the stores. -/
theorem join_row {w W : World} {R B : Nat} {mp : Option Addr} {mc : Nat} {M : List S_Pair} {l l' : List Sy} {X : List Jt} {p : Option Addr} {n c : Nat} {i : Nat} {y z : Sy} {t : Int} {C : Nat → Prop} (S : RowS w R B mp mc M l X p n c C) (hC : ∀ j, j ≠ i → C j) (hy : l[i]? = some y) (hz : l[i + 1]? = some z) (hM : Mrg8 l l' i y t)
    (hs : w.heap.size ≤ W.heap.size) (hbel : Below B w W)
    (hWy : W.heap[y.b]? = some (.cells #[.int .i64 t, .int .i64 y.pl, prvV l i, ptrO l[i + 2]?] 109))
    (hWz : ∃ (t0 : Int) (p0 : Value), W.heap[z.b]? = some (.cells #[.int .i64 t0, .int .i64 z.pl, p0, .pointer none] 109))
    (hWu : ∀ u, l[i + 2]? = some u → W.heap[u.b]? = some (.cells #[.int .i64 u.tok, .int .i64 u.pl, .pointer (some ⟨y.b, 0, none⟩), ptrO l[i + 3]?] 109))
    (hoth : ∀ k, k < w.heap.size → k ≠ y.b → k ≠ z.b → (∀ u, l[i + 2]? = some u → k ≠ u.b) → W.heap[k]? = w.heap[k]?) :
    RowS W R B mp mc M l' X p n c (fun j => j ≠ i ∧ j + 1 ≠ i) := by
  have hrow : W.heap[R]? = w.heap[R]? := hoth R (lt_of_some S.q.row) (fun e => by have := S.live i y hy; rw [← e, S.q.row] at this; simp at this) (fun e => by have := S.live _ z hz; rw [← e, S.q.row] at this; simp at this) (fun u hu e => by have := S.live _ u hu; rw [← e, S.q.row] at this; simp at this)
  have hJ : ∀ x ∈ X, JOk W l' x := by
    intro x hx
    refine ⟨(S.jok x hx).1, ?_⟩
    have hlv : ∀ (k : Nat) (v : Sy), l[k]? = some v → v.b = x.b → v.pl = x.a → k ≠ i + 1 → ∃ (k : Nat) (v : Sy), l'[k]? = some v ∧ v.b = x.b ∧ v.pl = x.a := by
      intro k v hv e1 e2 hk
      rcases Nat.lt_trichotomy k i with h | h | h
      · exact ⟨k, v, by rw [hM k, if_pos h]; exact hv, e1, e2⟩
      · subst h
        rw [hy] at hv; cases hv
        exact ⟨k, ⟨y.b, t, y.pl⟩, by rw [hM k, if_neg (by omega), if_pos rfl], e1, e2⟩
      · exact ⟨k - 1, v, by rw [hM (k - 1), if_neg (by omega), if_neg (by omega), show k - 1 + 1 = k by omega]; exact hv, e1, e2⟩
    rcases (S.jok x hx).2 with ⟨k, v, hv, e1, e2⟩ | ⟨t1, p1, h1⟩
    · by_cases hk : k = i + 1
      · subst hk
        rw [hz] at hv; cases hv
        obtain ⟨t0, p0, h0⟩ := hWz
        exact .inr ⟨t0, p0, by rw [← e1, ← e2]; exact h0⟩
      · exact .inl (hlv k v hv e1 e2 hk)
    · have hpl : ∀ (k : Nat) (v : Sy), l[k]? = some v → v.b = x.b → v.pl = x.a := fun k v hv e => by
        have := S.live k v hv
        rw [e, h1] at this
        simp only [Option.some.injEq, Obj.cells.injEq, Array.mk.injEq, List.cons.injEq, Value.int.injEq, true_and] at this
        exact this.1.2.1.symm
      by_cases h2 : x.b = y.b
      · exact .inl (hlv i y hy h2.symm (hpl i y hy h2.symm) (by omega))
      · by_cases h3 : x.b = z.b
        · obtain ⟨t0, p0, h0⟩ := hWz
          exact .inr ⟨t0, p0, by rw [h3, ← hpl (i + 1) z hz h3.symm]; exact h0⟩
        · by_cases h4 : ∃ u, l[i + 2]? = some u ∧ x.b = u.b
          · obtain ⟨u, hu, e⟩ := h4
            exact .inl (hlv (i + 2) u hu e.symm (hpl _ u hu e.symm) (by omega))
          · exact .inr ⟨t1, p1, (hoth _ (lt_of_some h1) h2 h3 (fun u hu e => h4 ⟨u, hu, e⟩)).trans h1⟩
  have hLv : LiveAt W l' := by
    intro j v hv
    have hpr : ∀ (k : Nat), k ≠ i + 1 → k ≠ i → ∀ u, l[k]? = some u → (∀ u2, l[i + 2]? = some u2 → u.b ≠ u2.b) → W.heap[u.b]? = w.heap[u.b]? := fun k h1 h2 u hu h3 =>
      hoth _ (lt_of_some (S.live k u hu)) (fun e => h2 (S.mono.inj hu hy e)) (fun e => h1 (S.mono.inj hu hz e)) h3
    rw [hM j] at hv
    by_cases h1 : j < i
    · rw [if_pos h1] at hv
      rw [hpr j (by omega) (by omega) v hv (fun u2 hu2 e => by have := S.mono.inj hv hu2 e; omega), S.live j v hv]
      have e1 : prvV l' j = prvV l j := by
        cases j with
        | zero => rfl
        | succ k => show ptrO l'[k]? = ptrO l[k]?; rw [hM k, if_pos (by omega)]
      have e2 : ptrO l'[j + 1]? = ptrO l[j + 1]? := by
        rw [hM (j + 1)]
        by_cases h2 : j + 1 < i
        · rw [if_pos h2]
        · have h3 : j + 1 = i := by omega
          rw [if_neg h2, if_pos h3, h3, hy]
          rfl
      rw [e1, e2]
    · rw [if_neg h1] at hv
      by_cases h2 : j = i
      · rw [if_pos h2] at hv; cases hv
        subst h2
        rw [hWy]
        have e1 : prvV l' j = prvV l j := by
          cases j with
          | zero => rfl
          | succ k => show ptrO l'[k]? = ptrO l[k]?; rw [hM k, if_pos (by omega)]
        have e2 : l'[j + 1]? = l[j + 2]? := by rw [hM (j + 1), if_neg (by omega), if_neg (by omega)]
        rw [e1, e2]
      · rw [if_neg h2] at hv
        have e2 : l'[j + 1]? = l[j + 2]? := by rw [hM (j + 1), if_neg (by omega), if_neg (by omega)]
        by_cases h3 : j = i + 1
        · subst h3
          rw [hWu v hv, e2]
          have e1 : prvV l' (i + 1) = .pointer (some ⟨y.b, 0, none⟩) := by
            show ptrO l'[i]? = _
            rw [hM i, if_neg (by omega), if_pos rfl]
            rfl
          rw [e1]
        · rw [hpr (j + 1) (by omega) (by omega) v hv (fun u2 hu2 e => by have := S.mono.inj hv hu2 e; omega), S.live (j + 1) v hv, e2]
          have e1 : prvV l' j = prvV l (j + 1) := by
            cases j with
            | zero => omega
            | succ k => show ptrO l'[k]? = ptrO l[k + 1]?; rw [hM k, if_neg (by omega), if_neg (by omega)]
          rw [e1]
  refine ⟨⟨?_, ?_, S.q.len, fun x hx => (hJ x hx).sym hLv⟩, hLv, hM.mono hy S.mono, S.hp, hJ, ?_, row_low S.mrow hbel S.bm, S.bR, ?_, S.bm⟩
  · rw [hrow, S.q.row]
    have e : ptrO l'[0]? = ptrO l[0]? := by
      rw [hM 0]
      by_cases h1 : 0 < i
      · rw [if_pos h1]
      · have h2 : i = 0 := by omega
        subst h2
        rw [if_neg (by omega), if_pos rfl, hy]
        rfl
    rw [e]
  · obtain ⟨h1, ⟨hv, h2⟩ | ⟨g, cp, cur, hv, hg, hh, r⟩⟩ := S.q.own
    · exact ⟨h1, .inl ⟨hv, h2⟩⟩
    · have hk : ∀ (k : Nat) (v : Sy), l[k]? = some v → g ≠ v.b := fun k v hv' e => kind_ne S.q.own (S.live k v hv') (by decide) (by rw [hv, ← e]; rfl)
      exact ⟨h1, .inr ⟨g, cp, cur, hv, hg, by rw [hoth g (lt_of_some hh) (hk i y hy) (hk _ z hz) (fun u hu => hk _ u hu)]; exact hh, r⟩⟩
  · intro j v v2 r hj hv hv2 hr hf
    rw [hM j] at hv
    rw [hM (j + 1)] at hv2
    by_cases h1 : j < i
    · rw [if_pos h1] at hv
      rw [if_pos (by omega)] at hv2
      exact S.cov j v v2 r (hC j (by omega)) hv hv2 hr hf
    · rw [if_neg h1, if_neg hj.1] at hv
      rw [if_neg (by omega), if_neg (by omega)] at hv2
      exact S.cov (j + 1) v v2 r (hC _ (by omega)) hv hv2 hr hf
  · intro v hv
    obtain ⟨j, hj⟩ := List.mem_iff_getElem?.1 hv
    rw [hM j] at hj
    by_cases h1 : j < i
    · rw [if_pos h1] at hj; exact S.bl v (List.mem_of_getElem? hj)
    · rw [if_neg h1] at hj
      by_cases h2 : j = i
      · rw [if_pos h2] at hj; cases hj; exact S.bl y (List.mem_of_getElem? hy)
      · rw [if_neg h2] at hj; exact S.bl v (List.mem_of_getElem? hj)

end Go.Proofs.Ytdggkcohidijcaa

/- Joints are offered. -/
namespace Go.Proofs.Ytdggkcohidijcaa
open Go.RowKit
set_option linter.unusedVariables false
set_option linter.unusedSimpArgs false

theorem isFst_upto (L : List S_Pair) (a b : Int) : ∀ n, n ≤ L.length → (∃ k, k < n ∧ IsFst L a b (k : Int)) ∨ ∀ q, q < n → ∀ h' : q < L.length, ¬ (L[q].f0 = a ∧ L[q].f1 = b)
  | 0, _ => .inr fun q h => absurd h (by omega)
  | n + 1, hn => by
    rcases isFst_upto L a b n (by omega) with ⟨k, hk, h⟩ | h
    · exact .inl ⟨k, by omega, h⟩
    · by_cases hm : L[n].f0 = a ∧ L[n].f1 = b
      · exact .inl ⟨n, by omega, .inl ⟨n, rfl, by omega, hm, h⟩⟩
      · refine .inr fun q hq h' => ?_
        rcases Nat.lt_or_ge q n with h1 | h1
        · exact h q h1 h'
        · have : q = n := by omega
          subst this
          exact hm

theorem isFst_ex (L : List S_Pair) (a b : Int) : ∃ i, IsFst L a b i := by
  rcases isFst_upto L a b L.length (Nat.le_refl _) with ⟨k, _, h⟩ | h
  · exact ⟨_, h⟩
  · exact ⟨-1, .inr ⟨rfl, fun q h' => h q h' h'⟩⟩

theorem placeI_c (L : List S_Pair) (v : Value) (a b i : Int) (hi : IsFst L a b i) (w : World) (hn : L.length ≤ 1048576) (hr : RowR w v L.length 2 (rPair L)) :
    Calls Try.prog 88 #[v, .agg #[.int .i64 a, .int .i64 b]] w fun e w' => e = .returned (.int .i64 i) ∧ Below w.heap.size w w' :=
  (placeP_c L v a b w hn hr).mono fun e w' ⟨j, he, hj, hb⟩ => by
    obtain rfl := isFst_one hi hj
    exact ⟨he, hb⟩

theorem rank_nil (R : Nat) (w : World) : Calls Try.prog 75 #[.pointer (some ⟨R, 0, none⟩), .pointer none] w fun e w' => e = .returned (.int .i64 (-1)) ∧ w' = w := by
  go_enter Try.func75, Try.ntmps75
  go_wp2
  go_ret
  exact ⟨rfl, rfl⟩

theorem cell4 {w : World} {b : Nat} {a0 a1 a2 a3 : Value} {t : TypeId} (h : w.heap[b]? = some (.cells #[a0, a1, a2, a3] t)) : w.cell? ⟨b, 0, none⟩ = some a0 ∧ w.cell? ⟨b, 1, none⟩ = some a1 ∧ w.cell? ⟨b, 2, none⟩ = some a2 ∧ w.cell? ⟨b, 3, none⟩ = some a3 := by
  simp [World.cell?, h]

theorem rank_last (R b : Nat) (w : World) (t a : Int) (pv : Value) (h : w.heap[b]? = some (.cells #[.int .i64 t, .int .i64 a, pv, .pointer none] 109)) : Calls Try.prog 75 #[.pointer (some ⟨R, 0, none⟩), .pointer (some ⟨b, 0, none⟩)] w fun e w' => e = .returned (.int .i64 (-1)) ∧ w' = w := by
  obtain ⟨c0, c1, c2, c3⟩ := cell4 h
  clear h
  go_enter Try.func75, Try.ntmps75
  go_wp2
  go_ret
  exact ⟨rfl, rfl⟩

set_option maxRecDepth 20000 in
set_option maxHeartbeats 4000000 in
theorem rank_two (R b b2 : Nat) (w : World) (M : List S_Pair) (mp : Option Addr) (mc : Nat) (t a t2 i : Int) (pv x1 x2 x3 : Value) (hi : IsFst M t t2 i) (hn : M.length ≤ 1048576) (hr : RowR w (.slice mp M.length mc) M.length 2 (rPair M))
    (hm : w.cell? ⟨R, 0, none⟩ = some (.slice mp M.length mc)) (h : w.heap[b]? = some (.cells #[.int .i64 t, .int .i64 a, pv, .pointer (some ⟨b2, 0, none⟩)] 109)) (h2 : w.heap[b2]? = some (.cells #[.int .i64 t2, x1, x2, x3] 109)) :
    Calls Try.prog 75 #[.pointer (some ⟨R, 0, none⟩), .pointer (some ⟨b, 0, none⟩)] w fun e w' => e = .returned (.int .i64 i) ∧ Below w.heap.size w w' := by
  obtain ⟨c0, c1, c2, c3⟩ := cell4 h
  obtain ⟨d0, _, _, _⟩ := cell4 h2
  have HI : Hid (IsFst M t t2 i) := hi
  have HN : Hid (M.length ≤ 1048576) := hn
  have HR : Hid (RowR w (.slice mp M.length mc) M.length 2 (rPair M)) := hr
  have hm0 := hm
  clear h h2 hi hn hr hm
  go_enter Try.func75, Try.ntmps75
  go_upto_region 3 with fail
  refine wp_region_told (fun W => Below w.heap.size w W) (by kernel_rfl) (by kernel_rfl) ((Below.refl w.heap.size w).drew) ?_
  refine told_pure (some 14) (.pointer (some ⟨R, 0, none⟩)) rfl (by kernel_rfl) (fun _ => by kernel_rfl) ?_
  refine told_pure (some 15) (.pointer (some ⟨R, 0, none⟩)) rfl (by kernel_rfl) (fun _ => by kernel_rfl) ?_
  refine told_pure (some 16) (.pointer (some ⟨R, 0, none⟩)) rfl (by kernel_rfl) (fun _ => by kernel_rfl) ?_
  refine told_load (some 17) ⟨R, 0, none⟩ (.slice mp M.length mc) rfl (by kernel_rfl) (fun _ => by kernel_rfl) (fun _ hS => atB hS hm0) ?_
  refine told_pure (some 18) (.pointer (some ⟨b, 0, none⟩)) rfl (by kernel_rfl) (fun _ => by kernel_rfl) ?_
  refine told_pure (some 19) (.pointer (some ⟨b, 0, none⟩)) rfl (by kernel_rfl) (fun _ => by kernel_rfl) ?_
  refine told_pure (some 20) (.pointer (some ⟨b, 0, none⟩)) rfl (by kernel_rfl) (fun _ => by kernel_rfl) ?_
  refine told_load (some 21) ⟨b, 0, none⟩ (.int .i64 t) rfl (by kernel_rfl) (fun _ => by kernel_rfl) (fun _ hS => atB hS c0) ?_
  refine told_pure (some 22) (.pointer (some ⟨b, 0, none⟩)) rfl (by kernel_rfl) (fun _ => by kernel_rfl) ?_
  refine told_pure (some 23) (.pointer (some ⟨b, 0, none⟩)) rfl (by kernel_rfl) (fun _ => by kernel_rfl) ?_
  refine told_pure (some 24) (.pointer (some ⟨b, 3, none⟩)) rfl (by kernel_rfl) (fun _ => by kernel_rfl) ?_
  refine told_load (some 25) ⟨b, 3, none⟩ (.pointer (some ⟨b2, 0, none⟩)) rfl (by kernel_rfl) (fun _ => by kernel_rfl) (fun _ hS => atB hS c3) ?_
  refine told_pure (some 26) (.pointer (some ⟨b2, 0, none⟩)) rfl (by kernel_rfl) (fun _ => by kernel_rfl) ?_
  refine told_pure (some 27) (.pointer (some ⟨b2, 0, none⟩)) rfl (by kernel_rfl) (fun _ => by kernel_rfl) ?_
  refine told_load (some 28) ⟨b2, 0, none⟩ (.int .i64 t2) rfl (by kernel_rfl) (fun _ => by kernel_rfl) (fun _ hS => atB hS d0) ?_
  refine told_pure (some 29) (.agg #[.int .i64 t, .int .i64 t2]) rfl (by kernel_rfl) (fun _ => by kernel_rfl) ?_
  refine told_call (some 30) (.int .i64 i) 88 #[.slice mp M.length mc, .agg #[.int .i64 t, .int .i64 t2]] rfl (by kernel_rfl) (fun _ => by kernel_rfl) (fun W hS => below_S (placeI_c M _ t t2 i HI.out W HN.out (HR.out.keep hS (Nat.le_refl _))) hS) ?_
  refine told_pure (some 4) (.int .i64 i) rfl (by kernel_rfl) (fun _ => by kernel_rfl) ?_
  refine told_nil ?_
  intro W2 hS2
  simp only [Act.put, List.setIfInBounds_toArray, List.set_cons_zero, List.set_cons_succ]
  have HB : Hid (Below w.heap.size w W2) := hS2
  clear hS2 c0 c1 c2 c3 d0 hm0
  go_wp2
  go_ret
  exact ⟨rfl, HB.out⟩

/-- What a symbol and the one behind it merge by, of a row in memory: -1 where none. -/
def RkAt (M : List S_Pair) (l : List Sy) (i : Nat) (y : Sy) (r : Int) : Prop := match l[i + 1]? with
  | some z => IsFst M y.tok z.tok r
  | none => r = -1

theorem rkAt_ex (M : List S_Pair) (l : List Sy) (i : Nat) (y : Sy) : ∃ r, RkAt M l i y r := by
  unfold RkAt
  rcases l[i + 1]? with _ | z
  · exact ⟨_, rfl⟩
  · exact isFst_ex M _ _

theorem rank_live {w : World} {R B : Nat} {mp : Option Addr} {mc : Nat} {M : List S_Pair} {l : List Sy} {X : List Jt} {p : Option Addr} {n c : Nat} {C : Nat → Prop} (S : RowS w R B mp mc M l X p n c C) (hn : M.length ≤ 1048576) {i : Nat} {y : Sy} {r : Int} (hy : l[i]? = some y) (hr : RkAt M l i y r) : Calls Try.prog 75 #[.pointer (some ⟨R, 0, none⟩), .pointer (some ⟨y.b, 0, none⟩)] w fun e w' => e = .returned (.int .i64 r) ∧ Below w.heap.size w w' := by
  unfold RkAt at hr
  have h := S.live i y hy
  rcases hz : l[i + 1]? with _ | z
  · rw [hz] at hr h
    have hr' : r = -1 := hr
    subst hr'
    exact (rank_last R y.b w _ _ _ h).mono fun e w' ⟨he, hw⟩ => ⟨he, by rw [hw]; exact Below.refl _ _⟩
  · rw [hz] at hr h
    exact rank_two R y.b z.b w M mp mc _ _ _ r _ _ _ _ hr hn S.mrow S.q.cells.1 h (S.live _ z hz)

/-- The cover, with one place more. -/
theorem cov_more {M : List S_Pair} {l : List Sy} {X Y : List Jt} {C : Nat → Prop} {i : Nat} {y : Sy} {r : Int} (hc : ∀ (i : Nat) (y z : Sy) (r : Int), C i → l[i]? = some y → l[i + 1]? = some z → 0 ≤ r → IsFst M y.tok z.tok r → ⟨r, y.b, y.pl⟩ ∈ X) (hy : l[i]? = some y) (hr : RkAt M l i y r) (hX : ∀ x ∈ X, x ∈ Y) (hm : 0 ≤ r → ⟨r, y.b, y.pl⟩ ∈ Y) :
    ∀ (j : Nat) (v z : Sy) (s : Int), (C j ∨ j = i) → l[j]? = some v → l[j + 1]? = some z → 0 ≤ s → IsFst M v.tok z.tok s → ⟨s, v.b, v.pl⟩ ∈ Y := by
  intro j v z s hj hv hz hs hf
  rcases hj with hj | rfl
  · exact hX _ (hc j v z s hj hv hz hs hf)
  · rw [hy] at hv; cases hv
    unfold RkAt at hr
    rw [hz] at hr
    obtain rfl := isFst_one hf hr
    exact hm hs

set_option maxRecDepth 20000 in
set_option maxHeartbeats 4000000 in
theorem offer_c {w : World} {R B : Nat} {mp : Option Addr} {mc : Nat} {M : List S_Pair} {l : List Sy} {X : List Jt} {p : Option Addr} {n c : Nat} {C : Nat → Prop} (S : RowS w R B mp mc M l X p n c C) (hM : M.length ≤ 1048576) (hn : n + 1 ≤ 4000) (hB : B ≤ w.heap.size) {i : Nat} {y : Sy} (hy : l[i]? = some y) :
    Calls Try.prog 73 #[.pointer (some ⟨R, 0, none⟩), .pointer (some ⟨y.b, 0, none⟩)] w fun e w' => e = .returned (.tuple #[]) ∧ ∃ X' p' n' c', RowS w' R B mp mc M l X' p' n' c' (fun j => C j ∨ j = i) ∧ n' ≤ n + 1 ∧ Fr8 R (.slice p n c) w w' := by
  have HS : Hid (RowS w R B mp mc M l X p n c C) := S
  have HY : Hid (l[i]? = some y) := hy
  have HM : Hid (M.length ≤ 1048576) := hM
  obtain ⟨r, hr⟩ := rkAt_ex M l i y
  have HR : Hid (RkAt M l i y r) := hr
  clear S hy hM hr
  go_enter Try.func73, Try.ntmps73
  go_wp2_with fail
  refine (rank_live HS.out HM.out HY.out HR.out).mono ?_
  rintro e w1 ⟨rfl, b1⟩
  have HB1 : Hid (Below w.heap.size w w1) := b1
  have HS1 : Hid (RowS w1 R B mp mc M l X p n c C) := HS.out.bel b1
  clear b1
  by_cases h0 : 0 ≤ r
  · go_wp2_with fail
    refine (push_c X ⟨r, y.b, y.pl⟩ w1 R B (.slice mp M.length mc) (ptrO l[0]?) p n c hn HS1.out.q HS1.out.hp ⟨_, _, _, HS1.out.live i y HY.out⟩ (Nat.le_trans hB HB1.out.size)).mono ?_
    rintro e w2 ⟨rfl, Y, p', c', hq, hk, hm, hf, _⟩
    have HF : Hid (Fr8 R (.slice p n c) w w2) := (Fr8.of_bel HB1.out).trans (Nxt8.refl _ _) hf
    have HE : Hid (RowS w2 R B mp mc M l Y p' (n + 1) c' (fun j => C j ∨ j = i)) := HS1.out.fr hf (Nat.le_trans hB HB1.out.size) hq hk (fun z hz => by
      rcases (hm z).1 hz with h | h
      · exact HS1.out.jok z h
      · rw [h]; exact ⟨h0, .inl ⟨i, y, HY.out, rfl, rfl⟩⟩) (cov_more HS1.out.cov HY.out HR.out (fun x hx => (hm x).2 (.inl hx)) (fun _ => (hm _).2 (.inr rfl)))
    clear hq hk hm hf
    go_wp2
    go_end0
    exact ⟨rfl, Y, p', n + 1, c', HE.out, Nat.le_refl _, HF.out⟩
  · have HE : Hid (RowS w1 R B mp mc M l X p n c (fun j => C j ∨ j = i)) := ⟨HS1.out.q, HS1.out.live, HS1.out.mono, HS1.out.hp, HS1.out.jok, cov_more HS1.out.cov HY.out HR.out (fun x hx => hx) (fun h => absurd h h0), HS1.out.mrow, HS1.out.bR, HS1.out.bl, HS1.out.bm⟩
    go_wp2
    go_end0
    exact ⟨rfl, X, p, n, c, HE.out, Nat.le_succ _, Fr8.of_bel HB1.out⟩

theorem offer_nil (R : Nat) (w : World) : Calls Try.prog 73 #[.pointer (some ⟨R, 0, none⟩), .pointer none] w fun e w' => e = .returned (.tuple #[]) ∧ w' = w := by
  go_enter Try.func73, Try.ntmps73
  go_wp2_with fail
  refine (rank_nil R w).mono ?_
  rintro e wz ⟨rfl, hw⟩
  replace hw := hw.symm
  subst hw
  go_wp2
  go_end0
  exact ⟨rfl, rfl⟩

end Go.Proofs.Ytdggkcohidijcaa

/- Two symbols become one: the walk. -/
namespace Go.Proofs.Ytdggkcohidijcaa
open Go.RowKit
set_option linter.unusedVariables false
set_option linter.unusedSimpArgs false

/-- But for these blocks all is as it was. -/
structure OthK (K : Nat → Prop) (w W : World) : Prop where
  os : W.os = w.os
  tape : W.tape = w.tape
  output : W.output = w.output
  size : W.heap.size = w.heap.size
  block : ∀ k, ¬ K k → W.heap[k]? = w.heap[k]?

theorem OthK.refl (K : Nat → Prop) (w : World) : OthK K w w := ⟨rfl, rfl, rfl, rfl, fun _ _ => rfl⟩
theorem OthK.set {K : Nat → Prop} {w W : World} (h : OthK K w W) (a : Addr) (v : Value) (ha : K a.block) : OthK K w (W.setCell a v) :=
  ⟨h.os, h.tape, h.output, by rw [← h.size]; simp [World.setCell], fun k hk => by rw [Below.heap_setCell _ _ _ _ (fun e => hk (by rw [e]; exact ha))]; exact h.block k hk⟩
theorem OthK.drew {K : Nat → Prop} {w W : World} (h : OthK K w W) : OthK K w W.drew := ⟨h.os, h.tape, h.output, h.size, h.block⟩

theorem set_at {w : World} {b q : Nat} {cs : Array Value} {t : TypeId} (h : w.heap[b]? = some (.cells cs t)) (v : Value) : (w.setCell ⟨b, q, none⟩ v).heap[b]? = some (.cells (cs.setIfInBounds q v) t) := by
  simp only [World.setCell, Array.getElem?_modify, if_true, h]
  rfl
theorem set_off {w : World} {b q k : Nat} {o : Option Obj} (h : w.heap[k]? = o) (v : Value) (hk : k ≠ b) : (w.setCell ⟨b, q, none⟩ v).heap[k]? = o := by
  rw [Below.heap_setCell _ _ _ _ hk]; exact h
theorem frz_cells {w : World} {b : Nat} {cs : Array Value} {t : TypeId} (h : w.heap[b]? = some (.cells cs t)) (o : Nat) : w.frozen? ⟨b, o, none⟩ = false := by simp [World.frozen?, h]

theorem RowS.weak {w : World} {R B : Nat} {mp : Option Addr} {mc : Nat} {M : List S_Pair} {l : List Sy} {X : List Jt} {p : Option Addr} {n c : Nat} {C : Nat → Prop} {C' : Nat → Prop} (S : RowS w R B mp mc M l X p n c C) (h : ∀ j, C' j → C j) : RowS w R B mp mc M l X p n c C' :=
  ⟨S.q, S.live, S.mono, S.hp, S.jok, fun i y z r hi => S.cov i y z r (h i hi), S.mrow, S.bR, S.bl, S.bm⟩

set_option maxRecDepth 20000 in
set_option maxHeartbeats 8000000 in
theorem join_c {w : World} {R B : Nat} {mp : Option Addr} {mc : Nat} {M : List S_Pair} {l : List Sy} {X : List Jt} {p : Option Addr} {n c : Nat} {C : Nat → Prop} (S : RowS w R B mp mc M l X p n c C) (hM : M.length ≤ 1048576) (hn : n + 2 ≤ 4000) (hB : B ≤ w.heap.size) {i : Nat} {y z : Sy} {r : Int} (hC : ∀ j, j ≠ i → C j) (hy : l[i]? = some y) (hz : l[i + 1]? = some z) (h0 : 0 ≤ r) (h1 : r ≤ 1048576) :
    Calls Try.prog 76 #[.pointer (some ⟨R, 0, none⟩), .agg #[.int .i64 r, .pointer (some ⟨y.b, 0, none⟩)]] w fun e w' => e = .returned (.tuple #[]) ∧ Below B w w' ∧ ∃ l' X' p' n' c', Mrg8 l l' i y (256 + r) ∧ l'.length + 1 = l.length ∧ n' ≤ n + 2 ∧ RowS w' R B mp mc M l' X' p' n' c' (fun _ => True) := by
  have HY : Hid (l[i]? = some y) := hy
  have HZ : Hid (l[i + 1]? = some z) := hz
  have HM : Hid (M.length ≤ 1048576) := hM
  have ew : IntKind.i64.wrap (256 + r) = 256 + r := IntWalk.i64_in _ (by omega)
  obtain ⟨W0, hW0⟩ : ∃ W, W = w.alloc (.cells #[.int .i64 r, .pointer (some ⟨y.b, 0, none⟩)] 112) := ⟨_, rfl⟩
  have HW0 : Hid (w.alloc (.cells #[.int .i64 r, .pointer (some ⟨y.b, 0, none⟩)] 112) = W0) := hW0.symm
  have hb0 : Below w.heap.size w W0 := by rw [hW0]; exact (Below.refl _ _).alloc (Nat.le_refl _) _
  have HJ : Hid (W0.heap[w.heap.size]? = some (.cells #[.int .i64 r, .pointer (some ⟨y.b, 0, none⟩)] 112)) := by rw [hW0]; exact alloc_last _ _
  have S0 : Hid (RowS W0 R B mp mc M l X p n c C) := S.bel hb0
  have HB0 : Hid (Below B w W0) := hb0.mono hB
  have HBY : Hid (B ≤ y.b) := S.bl y (List.mem_of_getElem? hy)
  have HBZ : Hid (B ≤ z.b) := S.bl z (List.mem_of_getElem? hz)
  have HJN : Hid ((Value.slice p n c).ownBlock = some w.heap.size → False) := fun e => by have := (S.q.own.lt _ e).2; omega
  have HLL : Hid ((l.take i ++ ⟨y.b, 256 + r, y.pl⟩ :: l.drop (i + 2)).length + 1 = l.length) := by
    have := (List.getElem?_eq_some_iff.1 hz).1
    show _ = _
    rw [List.length_append, List.length_take, List.length_cons, List.length_drop]
    omega
  have HBO : Hid (∀ (K : Nat → Prop) (W : World), OthK K W0 W → (∀ k, K k → B ≤ k) → Below B W0 W) := fun K W h hk => ⟨h.os, h.tape, h.output, Nat.le_of_eq h.size.symm, fun k hkB => h.block k (fun hK => by have := hk k hK; omega)⟩
  have HCC : Hid (∀ j, j ≠ i → C j) := hC
  clear S hy hz hM hW0 hb0 hC
  rcases hu : l[i + 2]? with _ | u
  · have HU : Hid (l[i + 2]? = none) := hu
    clear hu
    have HYb : Hid (W0.heap[y.b]? = some (.cells #[.int .i64 y.tok, .int .i64 y.pl, prvV l i, .pointer (some ⟨z.b, 0, none⟩)] 109)) := by have h := S0.out.live i y HY.out; rw [ptrO_some HZ.out] at h; exact h
    have HZb : Hid (W0.heap[z.b]? = some (.cells #[.int .i64 z.tok, .int .i64 z.pl, .pointer (some ⟨y.b, 0, none⟩), .pointer none] 109)) := by
      have h := S0.out.live (i + 1) z HZ.out
      rw [show prvV l (i + 1) = .pointer (some ⟨y.b, 0, none⟩) from ptrO_some HY.out, show ptrO l[i + 1 + 1]? = .pointer none from ptrO_none HU.out] at h
      exact h
    have nyz : y.b ≠ z.b := fun e => by have := S0.out.mono.inj HY.out HZ.out e; omega
    have nyj : y.b ≠ w.heap.size := fun e => by have := HYb.out; rw [e, HJ.out] at this; simp at this
    have nzj : z.b ≠ w.heap.size := fun e => by have := HZb.out; rw [e, HJ.out] at this; simp at this
    obtain ⟨j0, j1⟩ := box2 HJ.out
    obtain ⟨y0, y1, y2, y3⟩ := cell4 HYb.out
    have yfz := frz_cells HYb.out
    go_enter Try.func76, Try.ntmps76
    go_upto_region 1 with fail
    rw [HW0.out]
    go_upto_region 3 with fail
    refine wp_genW (fun W => Hid (W.heap[y.b]? = some (.cells #[.int .i64 (256 + r), .int .i64 y.pl, prvV l i, .pointer (some ⟨z.b, 0, none⟩)] 109)) ∧ Hid (W.heap[z.b]? = some (.cells #[.int .i64 z.tok, .int .i64 z.pl, .pointer (some ⟨y.b, 0, none⟩), .pointer none] 109)) ∧ Hid (W.heap[w.heap.size]? = some (.cells #[.int .i64 r, .pointer (some ⟨y.b, 0, none⟩)] 112)) ∧ Hid (OthK (fun k => k = y.b ∨ k = z.b) W0 W)) ⟨set_at HYb.out _, set_off HZb.out _ (Ne.symm nyz), set_off HJ.out _ (Ne.symm nyj), (OthK.refl _ _).set _ _ (.inl rfl)⟩ ?_
    clear j0 j1 y0 y1 y2 y3 yfz
    rintro W1 ⟨GY, GZ, GJ, GO⟩
    obtain ⟨j0, j1⟩ := box2 GJ.out
    obtain ⟨y0, y1, y2, y3⟩ := cell4 GY.out
    obtain ⟨z0, z1, z2, z3⟩ := cell4 GZ.out
    have yfz := frz_cells GY.out
    refine wp_region_L [⟨8, fun W => W.cell? ⟨w.heap.size, 1, none⟩ = some (.pointer (some ⟨y.b, 0, none⟩))⟩, ⟨8, fun W => W.cell? ⟨z.b, 3, none⟩ = some (.pointer none)⟩] (by kernel_rfl) (fun f hf => by
        simp only [List.mem_cons, List.not_mem_nil, or_false] at hf
        rcases hf with rfl | rfl
        · exact j1
        · exact z3
        ) ?_
    refine At.take 0 (some 17) (.pointer (some ⟨w.heap.size, 1, none⟩)) rfl rfl (by kernel_rfl) (by kernel_rfl) (by kernel_rfl) (by kernel_rfl) (fun _ _ _ h => h) (yl_pure (by kernel_rfl) (fun _ => by kernel_rfl)) ?_
    refine At.take 1 (some 18) (.pointer (some ⟨y.b, 0, none⟩)) rfl rfl (by kernel_rfl) (by kernel_rfl) (by kernel_rfl) (by kernel_rfl) (fun _ _ _ h => h) (yl_load 8 ⟨w.heap.size, 1, none⟩ (.pointer (some ⟨y.b, 0, none⟩)) (List.mem_cons_self) [6, 7, 8] (by kernel_rfl) rfl (by kernel_rfl) (fun _ => by kernel_rfl)) ?_
    refine At.take 2 (some 19) (.pointer (some ⟨z.b, 0, none⟩)) rfl rfl (by kernel_rfl) (by kernel_rfl) (by kernel_rfl) (by kernel_rfl) (fun _ _ _ h => h) (yl_pure (by kernel_rfl) (fun _ => by kernel_rfl)) ?_
    refine At.take 3 (some 20) (.pointer (some ⟨z.b, 0, none⟩)) rfl rfl (by kernel_rfl) (by kernel_rfl) (by kernel_rfl) (by kernel_rfl) (fun _ _ _ h => h) (yl_pure (by kernel_rfl) (fun _ => by kernel_rfl)) ?_
    refine At.take 4 (some 21) (.pointer (some ⟨z.b, 3, none⟩)) rfl rfl (by kernel_rfl) (by kernel_rfl) (by kernel_rfl) (by kernel_rfl) (fun _ _ _ h => h) (yl_pure (by kernel_rfl) (fun _ => by kernel_rfl)) ?_
    refine At.take 5 (some 22) (.pointer none) rfl rfl (by kernel_rfl) (by kernel_rfl) (by kernel_rfl) (by kernel_rfl) (fun _ _ _ h => h) (yl_load 8 ⟨z.b, 3, none⟩ (.pointer none) (List.mem_cons_of_mem _ (List.mem_cons_self)) [6, 7, 8] (by kernel_rfl) rfl (by kernel_rfl) (fun _ => by kernel_rfl)) ?_
    refine At.take 6 (some 23) (.pointer (some ⟨y.b, 0, none⟩)) rfl rfl (by kernel_rfl) (by kernel_rfl) (by kernel_rfl) (by kernel_rfl) (fun _ _ _ h => h) (yl_pure (by kernel_rfl) (fun _ => by kernel_rfl)) ?_
    refine At.take 7 (some 24) (.pointer (some ⟨y.b, 3, none⟩)) rfl rfl (by kernel_rfl) (by kernel_rfl) (by kernel_rfl) (by kernel_rfl) (fun _ _ _ h => h) (yl_pure (by kernel_rfl) (fun _ => by kernel_rfl)) ?_
    refine At.step 8 none rfl rfl (by kernel_rfl) (by kernel_rfl) (fun vv W => vv = undef ∧ W = W1.drew.setCell ⟨y.b, 3, none⟩ (.pointer none)) (gives_store (p := ⟨y.b, 3, none⟩) (x := .pointer none) (y := .pointer (some ⟨z.b, 0, none⟩)) (fun _ => by kernel_rfl) (by rfl) y3 (yfz _)) ?_
    rintro uu WE ⟨rfl, hWE⟩
    refine ⟨held_cons (.inl (by kernel_rfl)) (held_cons (.inl (by kernel_rfl)) (held_nil)), ?_⟩
    refine At.done (by kernel_rfl) ?_
    simp only [Act.put, List.setIfInBounds_toArray, List.set_cons_zero, List.set_cons_succ]
    have FY : Hid (WE.heap[y.b]? = some (.cells #[.int .i64 (256 + r), .int .i64 y.pl, prvV l i, .pointer none] 109)) := by rw [hWE]; exact set_at GY.out _
    have FZ : Hid (WE.heap[z.b]? = some (.cells #[.int .i64 z.tok, .int .i64 z.pl, .pointer (some ⟨y.b, 0, none⟩), .pointer none] 109)) := by rw [hWE]; exact set_off GZ.out _ (Ne.symm nyz)
    have FJ : Hid (WE.heap[w.heap.size]? = some (.cells #[.int .i64 r, .pointer (some ⟨y.b, 0, none⟩)] 112)) := by rw [hWE]; exact set_off GJ.out _ (Ne.symm nyj)
    have FO : Hid (OthK (fun k => k = y.b ∨ k = z.b) W0 WE) := by rw [hWE]; exact GO.out.drew.set _ _ (.inl rfl)
    clear hWE j0 j1 y0 y1 y2 y3 z0 z1 z2 z3 yfz GY GZ GJ GO
    obtain ⟨z0, z1, z2, z3⟩ := cell4 FZ.out
    have zfz := frz_cells FZ.out
    go_upto_region 7 with fail
    refine wp_genW (fun W => Hid (RowS W R B mp mc M (l.take i ++ ⟨y.b, 256 + r, y.pl⟩ :: l.drop (i + 2)) X p n c (fun j => j ≠ i ∧ j + 1 ≠ i)) ∧ Hid (W.heap[w.heap.size]? = some (.cells #[.int .i64 r, .pointer (some ⟨y.b, 0, none⟩)] 112)) ∧ Hid (Below B w W)) ⟨?_, set_off FJ.out _ (Ne.symm nzj), ?_⟩ ?_
    · have hB2 : Below B W0 _ := HBO.out _ _ (FO.out.set ⟨z.b, 3, none⟩ (.pointer none) (.inr rfl)) (fun k hk => by rcases hk with rfl | rfl <;> first | exact HBY.out | exact HBZ.out)
      have hO := FO.out.set ⟨z.b, 3, none⟩ (.pointer none) (.inr rfl)
      refine join_row S0.out HCC.out HY.out HZ.out (mrg_is HY.out HZ.out _) (Nat.le_of_eq hO.size.symm) hB2 ?_ ⟨_, _, set_at FZ.out _⟩ (fun u' hu' => ?_) (fun k _ h1 h2 h3 => hO.block k (fun hk => ?_))
      · rw [show ptrO l[i + 2]? = .pointer none from ptrO_none HU.out]
        exact set_off FY.out _ nyz
      · rw [HU.out] at hu'; cases hu'
      · rcases hk with h | h
        · exact h1 h
        · exact h2 h
    · exact HB0.out.trans (HBO.out _ _ (FO.out.set ⟨z.b, 3, none⟩ (.pointer none) (.inr rfl)) (fun k hk => by rcases hk with rfl | rfl <;> first | exact HBY.out | exact HBZ.out))
    clear z0 z1 z2 z3 zfz
    rintro W2 ⟨S2, GJ, GB⟩
    have HM2 : Hid (Mrg8 l (l.take i ++ ⟨y.b, 256 + r, y.pl⟩ :: l.drop (i + 2)) i y (256 + r)) := mrg_is HY.out HZ.out _
    generalize l.take i ++ ⟨y.b, 256 + r, y.pl⟩ :: l.drop (i + 2) = l' at S2 HM2 HLL
    have HYI : Hid (l'[i]? = some ⟨y.b, 256 + r, y.pl⟩) := by have := HM2.out i; rw [if_neg (by omega), if_pos rfl] at this; exact this
    obtain ⟨j0, j1⟩ := box2 GJ.out
    obtain ⟨y0, y1, y2, y3⟩ := cell4 (S2.out.live i _ HYI.out)
    rcases i with _ | k
    · have y2' : W2.cell? ⟨y.b, 2, none⟩ = some (.pointer none) := y2
      clear y2
      go_wp2_with fail
      refine (offer_nil R W2).mono ?_
      rintro e wz ⟨rfl, hw⟩
      replace hw := hw.symm
      subst hw
      have Sx := S2
      have GJx := GJ
      have GBx := GB
      have hnx : n + 1 ≤ 4000 := by omega
      clear j0 j1 y0 y1 y2' y3
      have HB2 : Hid (B ≤ W2.heap.size) := Nat.le_trans hB GBx.out.size
      obtain ⟨j0, j1⟩ := box2 GJx.out
      go_wp2_with fail
      refine (offer_c Sx.out HM.out hnx HB2.out HYI.out).mono ?_
      rintro e W4 ⟨rfl, X4, p4, n4, c4, hS4, hn4, hf4⟩
      have HB4 : Hid (Below B w W4) := GBx.out.trans (hf4.below Sx.out.bR (fun k hk => (Sx.out.q.own.lt k hk).1) HB2.out)
      have S4 : Hid (RowS W4 R B mp mc M l' X4 p4 n4 c4 (fun _ => True)) := hS4.weak (fun j _ => by {first | omega | (by_cases h : j = 0 <;> by_cases h2 : j = k <;> omega)})
      have HN4 : Hid (n4 ≤ n + 2) := by show _ ≤ _; omega
      clear hS4 hn4 hf4 j0 j1
      go_wp2
      go_end0
      exact ⟨rfl, HB4.out, l', X4, p4, n4, c4, HM2.out, HLL.out, HN4.out, S4.out⟩
    · obtain ⟨v, hv⟩ : ∃ v, l'[k]? = some v := ⟨_, List.getElem?_eq_getElem (by have := (List.getElem?_eq_some_iff.1 HYI.out).1; omega)⟩
      have y2' : W2.cell? ⟨y.b, 2, none⟩ = some (.pointer (some ⟨v.b, 0, none⟩)) := by
        have h := y2
        rw [show prvV l' (k + 1) = .pointer (some ⟨v.b, 0, none⟩) from ptrO_some hv] at h
        exact h
      have HV : Hid (l'[k]? = some v) := hv
      clear y2 hv
      go_wp2_with fail
      refine (offer_c S2.out HM.out (by omega) (Nat.le_trans hB GB.out.size) HV.out).mono ?_
      rintro e W3 ⟨rfl, X3, p3, n3, c3, hS3, hn3, hf3⟩
      have Sx : Hid (RowS W3 R B mp mc M l' X3 p3 n3 c3 (fun j => (j ≠ k + 1 ∧ j + 1 ≠ k + 1) ∨ j = k)) := hS3
      have hnx : n3 + 1 ≤ 4000 := by omega
      have GBx : Hid (Below B w W3) := GB.out.trans (hf3.below S2.out.bR (fun q hq => (S2.out.q.own.lt q hq).1) (Nat.le_trans hB GB.out.size))
      have GJx : Hid (W3.heap[w.heap.size]? = some (.cells #[.int .i64 r, .pointer (some ⟨y.b, 0, none⟩)] 112)) := by
        refine (hf3.block _ (lt_of_some GJ.out) (fun e => ?_) (fun e => ?_)).trans GJ.out
        · have := S2.out.q.row
          rw [← e, GJ.out] at this
          simp at this
        · have := (HJN.out e)
          exact this
      clear hS3 hf3 j0 j1 y0 y1 y2' y3
      have HB2 : Hid (B ≤ W3.heap.size) := Nat.le_trans hB GBx.out.size
      obtain ⟨j0, j1⟩ := box2 GJx.out
      go_wp2_with fail
      refine (offer_c Sx.out HM.out hnx HB2.out HYI.out).mono ?_
      rintro e W4 ⟨rfl, X4, p4, n4, c4, hS4, hn4, hf4⟩
      have HB4 : Hid (Below B w W4) := GBx.out.trans (hf4.below Sx.out.bR (fun k hk => (Sx.out.q.own.lt k hk).1) HB2.out)
      have S4 : Hid (RowS W4 R B mp mc M l' X4 p4 n4 c4 (fun _ => True)) := hS4.weak (fun j _ => by {first | omega | (by_cases h : j = k + 1 <;> by_cases h2 : j = k <;> omega)})
      have HN4 : Hid (n4 ≤ n + 2) := by show _ ≤ _; omega
      clear hS4 hn4 hf4 j0 j1
      go_wp2
      go_end0
      exact ⟨rfl, HB4.out, l', X4, p4, n4, c4, HM2.out, HLL.out, HN4.out, S4.out⟩
  · have HU : Hid (l[i + 2]? = some u) := hu
    clear hu
    have HYb : Hid (W0.heap[y.b]? = some (.cells #[.int .i64 y.tok, .int .i64 y.pl, prvV l i, .pointer (some ⟨z.b, 0, none⟩)] 109)) := by have h := S0.out.live i y HY.out; rw [ptrO_some HZ.out] at h; exact h
    have HZb : Hid (W0.heap[z.b]? = some (.cells #[.int .i64 z.tok, .int .i64 z.pl, .pointer (some ⟨y.b, 0, none⟩), .pointer (some ⟨u.b, 0, none⟩)] 109)) := by
      have h := S0.out.live (i + 1) z HZ.out
      rw [show prvV l (i + 1) = .pointer (some ⟨y.b, 0, none⟩) from ptrO_some HY.out, show ptrO l[i + 1 + 1]? = .pointer (some ⟨u.b, 0, none⟩) from ptrO_some HU.out] at h
      exact h
    have HUb : Hid (W0.heap[u.b]? = some (.cells #[.int .i64 u.tok, .int .i64 u.pl, .pointer (some ⟨z.b, 0, none⟩), ptrO l[i + 3]?] 109)) := by
      have h := S0.out.live (i + 2) u HU.out
      rw [show prvV l (i + 2) = .pointer (some ⟨z.b, 0, none⟩) from ptrO_some HZ.out] at h
      exact h
    have nyu : y.b ≠ u.b := fun e => by have := S0.out.mono.inj HY.out HU.out e; omega
    have nzu : z.b ≠ u.b := fun e => by have := S0.out.mono.inj HZ.out HU.out e; omega
    have nju : u.b ≠ w.heap.size := fun e => by have := HUb.out; rw [e, HJ.out] at this; simp at this
    have nyz : y.b ≠ z.b := fun e => by have := S0.out.mono.inj HY.out HZ.out e; omega
    have nyj : y.b ≠ w.heap.size := fun e => by have := HYb.out; rw [e, HJ.out] at this; simp at this
    have nzj : z.b ≠ w.heap.size := fun e => by have := HZb.out; rw [e, HJ.out] at this; simp at this
    obtain ⟨j0, j1⟩ := box2 HJ.out
    obtain ⟨y0, y1, y2, y3⟩ := cell4 HYb.out
    have yfz := frz_cells HYb.out
    go_enter Try.func76, Try.ntmps76
    go_upto_region 1 with fail
    rw [HW0.out]
    go_upto_region 3 with fail
    refine wp_genW (fun W => Hid (W.heap[y.b]? = some (.cells #[.int .i64 (256 + r), .int .i64 y.pl, prvV l i, .pointer (some ⟨z.b, 0, none⟩)] 109)) ∧ Hid (W.heap[z.b]? = some (.cells #[.int .i64 z.tok, .int .i64 z.pl, .pointer (some ⟨y.b, 0, none⟩), .pointer (some ⟨u.b, 0, none⟩)] 109)) ∧ Hid (W.heap[u.b]? = some (.cells #[.int .i64 u.tok, .int .i64 u.pl, .pointer (some ⟨z.b, 0, none⟩), ptrO l[i + 3]?] 109)) ∧ Hid (W.heap[w.heap.size]? = some (.cells #[.int .i64 r, .pointer (some ⟨y.b, 0, none⟩)] 112)) ∧ Hid (OthK (fun k => k = y.b ∨ k = z.b ∨ k = u.b) W0 W)) ⟨set_at HYb.out _, set_off HZb.out _ (Ne.symm nyz), set_off HUb.out _ (Ne.symm nyu), set_off HJ.out _ (Ne.symm nyj), (OthK.refl _ _).set _ _ (.inl rfl)⟩ ?_
    clear j0 j1 y0 y1 y2 y3 yfz
    rintro W1 ⟨GY, GZ, GU, GJ, GO⟩
    obtain ⟨j0, j1⟩ := box2 GJ.out
    obtain ⟨y0, y1, y2, y3⟩ := cell4 GY.out
    obtain ⟨z0, z1, z2, z3⟩ := cell4 GZ.out
    have yfz := frz_cells GY.out
    refine wp_region_L [⟨8, fun W => W.cell? ⟨w.heap.size, 1, none⟩ = some (.pointer (some ⟨y.b, 0, none⟩))⟩, ⟨8, fun W => W.cell? ⟨z.b, 3, none⟩ = some (.pointer (some ⟨u.b, 0, none⟩))⟩] (by kernel_rfl) (fun f hf => by
        simp only [List.mem_cons, List.not_mem_nil, or_false] at hf
        rcases hf with rfl | rfl
        · exact j1
        · exact z3
        ) ?_
    refine At.take 0 (some 17) (.pointer (some ⟨w.heap.size, 1, none⟩)) rfl rfl (by kernel_rfl) (by kernel_rfl) (by kernel_rfl) (by kernel_rfl) (fun _ _ _ h => h) (yl_pure (by kernel_rfl) (fun _ => by kernel_rfl)) ?_
    refine At.take 1 (some 18) (.pointer (some ⟨y.b, 0, none⟩)) rfl rfl (by kernel_rfl) (by kernel_rfl) (by kernel_rfl) (by kernel_rfl) (fun _ _ _ h => h) (yl_load 8 ⟨w.heap.size, 1, none⟩ (.pointer (some ⟨y.b, 0, none⟩)) (List.mem_cons_self) [6, 7, 8] (by kernel_rfl) rfl (by kernel_rfl) (fun _ => by kernel_rfl)) ?_
    refine At.take 2 (some 19) (.pointer (some ⟨z.b, 0, none⟩)) rfl rfl (by kernel_rfl) (by kernel_rfl) (by kernel_rfl) (by kernel_rfl) (fun _ _ _ h => h) (yl_pure (by kernel_rfl) (fun _ => by kernel_rfl)) ?_
    refine At.take 3 (some 20) (.pointer (some ⟨z.b, 0, none⟩)) rfl rfl (by kernel_rfl) (by kernel_rfl) (by kernel_rfl) (by kernel_rfl) (fun _ _ _ h => h) (yl_pure (by kernel_rfl) (fun _ => by kernel_rfl)) ?_
    refine At.take 4 (some 21) (.pointer (some ⟨z.b, 3, none⟩)) rfl rfl (by kernel_rfl) (by kernel_rfl) (by kernel_rfl) (by kernel_rfl) (fun _ _ _ h => h) (yl_pure (by kernel_rfl) (fun _ => by kernel_rfl)) ?_
    refine At.take 5 (some 22) (.pointer (some ⟨u.b, 0, none⟩)) rfl rfl (by kernel_rfl) (by kernel_rfl) (by kernel_rfl) (by kernel_rfl) (fun _ _ _ h => h) (yl_load 8 ⟨z.b, 3, none⟩ (.pointer (some ⟨u.b, 0, none⟩)) (List.mem_cons_of_mem _ (List.mem_cons_self)) [6, 7, 8] (by kernel_rfl) rfl (by kernel_rfl) (fun _ => by kernel_rfl)) ?_
    refine At.take 6 (some 23) (.pointer (some ⟨y.b, 0, none⟩)) rfl rfl (by kernel_rfl) (by kernel_rfl) (by kernel_rfl) (by kernel_rfl) (fun _ _ _ h => h) (yl_pure (by kernel_rfl) (fun _ => by kernel_rfl)) ?_
    refine At.take 7 (some 24) (.pointer (some ⟨y.b, 3, none⟩)) rfl rfl (by kernel_rfl) (by kernel_rfl) (by kernel_rfl) (by kernel_rfl) (fun _ _ _ h => h) (yl_pure (by kernel_rfl) (fun _ => by kernel_rfl)) ?_
    refine At.step 8 none rfl rfl (by kernel_rfl) (by kernel_rfl) (fun vv W => vv = undef ∧ W = W1.drew.setCell ⟨y.b, 3, none⟩ (.pointer (some ⟨u.b, 0, none⟩))) (gives_store (p := ⟨y.b, 3, none⟩) (x := .pointer (some ⟨u.b, 0, none⟩)) (y := .pointer (some ⟨z.b, 0, none⟩)) (fun _ => by kernel_rfl) (by rfl) y3 (yfz _)) ?_
    rintro uu WE ⟨rfl, hWE⟩
    refine ⟨held_cons (.inl (by kernel_rfl)) (held_cons (.inl (by kernel_rfl)) (held_nil)), ?_⟩
    refine At.done (by kernel_rfl) ?_
    simp only [Act.put, List.setIfInBounds_toArray, List.set_cons_zero, List.set_cons_succ]
    have FY : Hid (WE.heap[y.b]? = some (.cells #[.int .i64 (256 + r), .int .i64 y.pl, prvV l i, .pointer (some ⟨u.b, 0, none⟩)] 109)) := by rw [hWE]; exact set_at GY.out _
    have FZ : Hid (WE.heap[z.b]? = some (.cells #[.int .i64 z.tok, .int .i64 z.pl, .pointer (some ⟨y.b, 0, none⟩), .pointer (some ⟨u.b, 0, none⟩)] 109)) := by rw [hWE]; exact set_off GZ.out _ (Ne.symm nyz)
    have FU : Hid (WE.heap[u.b]? = some (.cells #[.int .i64 u.tok, .int .i64 u.pl, .pointer (some ⟨z.b, 0, none⟩), ptrO l[i + 3]?] 109)) := by rw [hWE]; exact set_off GU.out _ (Ne.symm nyu)
    have FJ : Hid (WE.heap[w.heap.size]? = some (.cells #[.int .i64 r, .pointer (some ⟨y.b, 0, none⟩)] 112)) := by rw [hWE]; exact set_off GJ.out _ (Ne.symm nyj)
    have FO : Hid (OthK (fun k => k = y.b ∨ k = z.b ∨ k = u.b) W0 WE) := by rw [hWE]; exact GO.out.drew.set _ _ (.inl rfl)
    clear hWE j0 j1 y0 y1 y2 y3 z0 z1 z2 z3 yfz GY GZ GU GJ GO
    obtain ⟨z0, z1, z2, z3⟩ := cell4 FZ.out
    go_upto_region 5 with fail
    obtain ⟨j0, j1⟩ := box2 FJ.out
    obtain ⟨u0, u1, u2, u3⟩ := cell4 FU.out
    have ufz := frz_cells FU.out
    refine wp_region_L [⟨8, fun W => W.cell? ⟨z.b, 3, none⟩ = some (.pointer (some ⟨u.b, 0, none⟩))⟩, ⟨8, fun W => W.cell? ⟨w.heap.size, 1, none⟩ = some (.pointer (some ⟨y.b, 0, none⟩))⟩] (by kernel_rfl) (fun f hf => by
        simp only [List.mem_cons, List.not_mem_nil, or_false] at hf
        rcases hf with rfl | rfl
        · exact z3
        · exact j1
        ) ?_
    refine At.take 0 (some 30) (.pointer (some ⟨z.b, 0, none⟩)) rfl rfl (by kernel_rfl) (by kernel_rfl) (by kernel_rfl) (by kernel_rfl) (fun _ _ _ h => h) (yl_pure (by kernel_rfl) (fun _ => by kernel_rfl)) ?_
    refine At.take 1 (some 31) (.pointer (some ⟨z.b, 0, none⟩)) rfl rfl (by kernel_rfl) (by kernel_rfl) (by kernel_rfl) (by kernel_rfl) (fun _ _ _ h => h) (yl_pure (by kernel_rfl) (fun _ => by kernel_rfl)) ?_
    refine At.take 2 (some 32) (.pointer (some ⟨z.b, 3, none⟩)) rfl rfl (by kernel_rfl) (by kernel_rfl) (by kernel_rfl) (by kernel_rfl) (fun _ _ _ h => h) (yl_pure (by kernel_rfl) (fun _ => by kernel_rfl)) ?_
    refine At.take 3 (some 33) (.pointer (some ⟨u.b, 0, none⟩)) rfl rfl (by kernel_rfl) (by kernel_rfl) (by kernel_rfl) (by kernel_rfl) (fun _ _ _ h => h) (yl_load 8 ⟨z.b, 3, none⟩ (.pointer (some ⟨u.b, 0, none⟩)) (List.mem_cons_self) [6, 7, 8] (by kernel_rfl) rfl (by kernel_rfl) (fun _ => by kernel_rfl)) ?_
    refine At.take 4 (some 34) (.pointer (some ⟨w.heap.size, 1, none⟩)) rfl rfl (by kernel_rfl) (by kernel_rfl) (by kernel_rfl) (by kernel_rfl) (fun _ _ _ h => h) (yl_pure (by kernel_rfl) (fun _ => by kernel_rfl)) ?_
    refine At.take 5 (some 35) (.pointer (some ⟨y.b, 0, none⟩)) rfl rfl (by kernel_rfl) (by kernel_rfl) (by kernel_rfl) (by kernel_rfl) (fun _ _ _ h => h) (yl_load 8 ⟨w.heap.size, 1, none⟩ (.pointer (some ⟨y.b, 0, none⟩)) (List.mem_cons_of_mem _ (List.mem_cons_self)) [6, 7, 8] (by kernel_rfl) rfl (by kernel_rfl) (fun _ => by kernel_rfl)) ?_
    refine At.take 6 (some 36) (.pointer (some ⟨u.b, 0, none⟩)) rfl rfl (by kernel_rfl) (by kernel_rfl) (by kernel_rfl) (by kernel_rfl) (fun _ _ _ h => h) (yl_pure (by kernel_rfl) (fun _ => by kernel_rfl)) ?_
    refine At.take 7 (some 37) (.pointer (some ⟨u.b, 2, none⟩)) rfl rfl (by kernel_rfl) (by kernel_rfl) (by kernel_rfl) (by kernel_rfl) (fun _ _ _ h => h) (yl_pure (by kernel_rfl) (fun _ => by kernel_rfl)) ?_
    refine At.step 8 none rfl rfl (by kernel_rfl) (by kernel_rfl) (fun vv W => vv = undef ∧ W = WE.drew.setCell ⟨u.b, 2, none⟩ (.pointer (some ⟨y.b, 0, none⟩))) (gives_store (p := ⟨u.b, 2, none⟩) (x := .pointer (some ⟨y.b, 0, none⟩)) (y := .pointer (some ⟨z.b, 0, none⟩)) (fun _ => by kernel_rfl) (by rfl) u2 (ufz _)) ?_
    rintro uu WF ⟨rfl, hWF⟩
    refine ⟨held_cons (.inl (by kernel_rfl)) (held_cons (.inl (by kernel_rfl)) (held_nil)), ?_⟩
    refine At.done (by kernel_rfl) ?_
    simp only [Act.put, List.setIfInBounds_toArray, List.set_cons_zero, List.set_cons_succ]
    have EY : Hid (WF.heap[y.b]? = some (.cells #[.int .i64 (256 + r), .int .i64 y.pl, prvV l i, .pointer (some ⟨u.b, 0, none⟩)] 109)) := by rw [hWF]; exact set_off FY.out _ nyu
    have EZ : Hid (WF.heap[z.b]? = some (.cells #[.int .i64 z.tok, .int .i64 z.pl, .pointer (some ⟨y.b, 0, none⟩), .pointer (some ⟨u.b, 0, none⟩)] 109)) := by rw [hWF]; exact set_off FZ.out _ nzu
    have EU : Hid (WF.heap[u.b]? = some (.cells #[.int .i64 u.tok, .int .i64 u.pl, .pointer (some ⟨y.b, 0, none⟩), ptrO l[i + 3]?] 109)) := by rw [hWF]; exact set_at FU.out _
    have EJ : Hid (WF.heap[w.heap.size]? = some (.cells #[.int .i64 r, .pointer (some ⟨y.b, 0, none⟩)] 112)) := by rw [hWF]; exact set_off FJ.out _ (Ne.symm nju)
    have EO : Hid (OthK (fun k => k = y.b ∨ k = z.b ∨ k = u.b) W0 WF) := by rw [hWF]; exact FO.out.drew.set _ _ (.inr (.inr rfl))
    clear hWF j0 j1 u0 u1 u2 u3 ufz z0 z1 z2 z3 FY FZ FU FJ FO
    obtain ⟨z0, z1, z2, z3⟩ := cell4 EZ.out
    have zfz := frz_cells EZ.out
    go_upto_region 7 with fail
    refine wp_genW (fun W => Hid (RowS W R B mp mc M (l.take i ++ ⟨y.b, 256 + r, y.pl⟩ :: l.drop (i + 2)) X p n c (fun j => j ≠ i ∧ j + 1 ≠ i)) ∧ Hid (W.heap[w.heap.size]? = some (.cells #[.int .i64 r, .pointer (some ⟨y.b, 0, none⟩)] 112)) ∧ Hid (Below B w W)) ⟨?_, set_off EJ.out _ (Ne.symm nzj), ?_⟩ ?_
    · have hB2 : Below B W0 _ := HBO.out _ _ (EO.out.set ⟨z.b, 3, none⟩ (.pointer none) (.inr (.inl rfl))) (fun k hk => by rcases hk with rfl | rfl | rfl <;> first | exact HBY.out | exact HBZ.out | exact S0.out.bl u (List.mem_of_getElem? HU.out))
      have hO := EO.out.set ⟨z.b, 3, none⟩ (.pointer none) (.inr (.inl rfl))
      refine join_row S0.out HCC.out HY.out HZ.out (mrg_is HY.out HZ.out _) (Nat.le_of_eq hO.size.symm) hB2 ?_ ⟨_, _, set_at EZ.out _⟩ (fun u' hu' => ?_) (fun k _ h1 h2 h3 => hO.block k (fun hk => ?_))
      · rw [show ptrO l[i + 2]? = .pointer (some ⟨u.b, 0, none⟩) from ptrO_some HU.out]
        exact set_off EY.out _ nyz
      · rw [HU.out] at hu'; cases hu'
        exact set_off EU.out _ (Ne.symm nzu)
      · rcases hk with h | h | h
        · exact h1 h
        · exact h2 h
        · exact h3 u HU.out h
    · exact HB0.out.trans (HBO.out _ _ (EO.out.set ⟨z.b, 3, none⟩ (.pointer none) (.inr (.inl rfl))) (fun k hk => by rcases hk with rfl | rfl | rfl <;> first | exact HBY.out | exact HBZ.out | exact S0.out.bl u (List.mem_of_getElem? HU.out)))
    clear z0 z1 z2 z3 zfz
    rintro W2 ⟨S2, GJ, GB⟩
    have HM2 : Hid (Mrg8 l (l.take i ++ ⟨y.b, 256 + r, y.pl⟩ :: l.drop (i + 2)) i y (256 + r)) := mrg_is HY.out HZ.out _
    generalize l.take i ++ ⟨y.b, 256 + r, y.pl⟩ :: l.drop (i + 2) = l' at S2 HM2 HLL
    have HYI : Hid (l'[i]? = some ⟨y.b, 256 + r, y.pl⟩) := by have := HM2.out i; rw [if_neg (by omega), if_pos rfl] at this; exact this
    obtain ⟨j0, j1⟩ := box2 GJ.out
    obtain ⟨y0, y1, y2, y3⟩ := cell4 (S2.out.live i _ HYI.out)
    rcases i with _ | k
    · have y2' : W2.cell? ⟨y.b, 2, none⟩ = some (.pointer none) := y2
      clear y2
      go_wp2_with fail
      refine (offer_nil R W2).mono ?_
      rintro e wz ⟨rfl, hw⟩
      replace hw := hw.symm
      subst hw
      have Sx := S2
      have GJx := GJ
      have GBx := GB
      have hnx : n + 1 ≤ 4000 := by omega
      clear j0 j1 y0 y1 y2' y3
      have HB2 : Hid (B ≤ W2.heap.size) := Nat.le_trans hB GBx.out.size
      obtain ⟨j0, j1⟩ := box2 GJx.out
      go_wp2_with fail
      refine (offer_c Sx.out HM.out hnx HB2.out HYI.out).mono ?_
      rintro e W4 ⟨rfl, X4, p4, n4, c4, hS4, hn4, hf4⟩
      have HB4 : Hid (Below B w W4) := GBx.out.trans (hf4.below Sx.out.bR (fun k hk => (Sx.out.q.own.lt k hk).1) HB2.out)
      have S4 : Hid (RowS W4 R B mp mc M l' X4 p4 n4 c4 (fun _ => True)) := hS4.weak (fun j _ => by {first | omega | (by_cases h : j = 0 <;> by_cases h2 : j = k <;> omega)})
      have HN4 : Hid (n4 ≤ n + 2) := by show _ ≤ _; omega
      clear hS4 hn4 hf4 j0 j1
      go_wp2
      go_end0
      exact ⟨rfl, HB4.out, l', X4, p4, n4, c4, HM2.out, HLL.out, HN4.out, S4.out⟩
    · obtain ⟨v, hv⟩ : ∃ v, l'[k]? = some v := ⟨_, List.getElem?_eq_getElem (by have := (List.getElem?_eq_some_iff.1 HYI.out).1; omega)⟩
      have y2' : W2.cell? ⟨y.b, 2, none⟩ = some (.pointer (some ⟨v.b, 0, none⟩)) := by
        have h := y2
        rw [show prvV l' (k + 1) = .pointer (some ⟨v.b, 0, none⟩) from ptrO_some hv] at h
        exact h
      have HV : Hid (l'[k]? = some v) := hv
      clear y2 hv
      go_wp2_with fail
      refine (offer_c S2.out HM.out (by omega) (Nat.le_trans hB GB.out.size) HV.out).mono ?_
      rintro e W3 ⟨rfl, X3, p3, n3, c3, hS3, hn3, hf3⟩
      have Sx : Hid (RowS W3 R B mp mc M l' X3 p3 n3 c3 (fun j => (j ≠ k + 1 ∧ j + 1 ≠ k + 1) ∨ j = k)) := hS3
      have hnx : n3 + 1 ≤ 4000 := by omega
      have GBx : Hid (Below B w W3) := GB.out.trans (hf3.below S2.out.bR (fun q hq => (S2.out.q.own.lt q hq).1) (Nat.le_trans hB GB.out.size))
      have GJx : Hid (W3.heap[w.heap.size]? = some (.cells #[.int .i64 r, .pointer (some ⟨y.b, 0, none⟩)] 112)) := by
        refine (hf3.block _ (lt_of_some GJ.out) (fun e => ?_) (fun e => ?_)).trans GJ.out
        · have := S2.out.q.row
          rw [← e, GJ.out] at this
          simp at this
        · have := (HJN.out e)
          exact this
      clear hS3 hf3 j0 j1 y0 y1 y2' y3
      have HB2 : Hid (B ≤ W3.heap.size) := Nat.le_trans hB GBx.out.size
      obtain ⟨j0, j1⟩ := box2 GJx.out
      go_wp2_with fail
      refine (offer_c Sx.out HM.out hnx HB2.out HYI.out).mono ?_
      rintro e W4 ⟨rfl, X4, p4, n4, c4, hS4, hn4, hf4⟩
      have HB4 : Hid (Below B w W4) := GBx.out.trans (hf4.below Sx.out.bR (fun k hk => (Sx.out.q.own.lt k hk).1) HB2.out)
      have S4 : Hid (RowS W4 R B mp mc M l' X4 p4 n4 c4 (fun _ => True)) := hS4.weak (fun j _ => by {first | omega | (by_cases h : j = k + 1 <;> by_cases h2 : j = k <;> omega)})
      have HN4 : Hid (n4 ≤ n + 2) := by show _ ≤ _; omega
      clear hS4 hn4 hf4 j0 j1
      go_wp2
      go_end0
      exact ⟨rfl, HB4.out, l', X4, p4, n4, c4, HM2.out, HLL.out, HN4.out, S4.out⟩

end Go.Proofs.Ytdggkcohidijcaa

/- The pair that merges next. -/
namespace Go.Proofs.Ytdggkcohidijcaa
open Go.RowKit
set_option linter.unusedVariables false
set_option linter.unusedSimpArgs false

/-- How many items the queue of a row has. -/
def lenAt (w : World) (R : Nat) : Nat := match w.cell? ⟨R, 3, none⟩ with
  | some (.slice _ n _) => n
  | _ => 0

theorem lenAt_row {w : World} {R B : Nat} {mp : Option Addr} {mc : Nat} {M : List S_Pair} {l : List Sy} {X : List Jt} {p : Option Addr} {n c : Nat} {C : Nat → Prop} (S : RowS w R B mp mc M l X p n c C) : lenAt w R = n := by unfold lenAt; rw [S.q.cells.2.2.2]

def NoPair (M : List S_Pair) (l : List Sy) : Prop := ∀ (i : Nat) (y z : Sy) (r : Int), l[i]? = some y → l[i + 1]? = some z → IsFst M y.tok z.tok r → r < 0

/-- The pair at place i, of number r, is the one that merges next. -/
def Best (M : List S_Pair) (l : List Sy) (i : Nat) (r : Int) : Prop := 0 ≤ r ∧ ∀ (j : Nat) (y z : Sy) (s : Int), l[j]? = some y → l[j + 1]? = some z → IsFst M y.tok z.tok s → 0 ≤ s → r < s ∨ (r = s ∧ i ≤ j)

theorem RowS.recov {w : World} {R B : Nat} {mp : Option Addr} {mc : Nat} {M : List S_Pair} {l : List Sy} {X : List Jt} {p : Option Addr} {n c : Nat} {C : Nat → Prop} {C' : Nat → Prop} (S : RowS w R B mp mc M l X p n c C) (h : ∀ (i : Nat) (y z : Sy) (r : Int), C' i → l[i]? = some y → l[i + 1]? = some z → 0 ≤ r → IsFst M y.tok z.tok r → ⟨r, y.b, y.pl⟩ ∈ X) : RowS w R B mp mc M l X p n c C' :=
  ⟨S.q, S.live, S.mono, S.hp, S.jok, h, S.mrow, S.bR, S.bl, S.bm⟩

def NxR (w : World) (R B : Nat) (mp : Option Addr) (mc : Nat) (M : List S_Pair) (l : List Sy) (n : Nat) (e : Ending) (w' : World) : Prop :=
  Below B w w' ∧ ((e = .returned (.bool false) ∧ NoPair M l ∧ ∃ X' p' c', RowS w' R B mp mc M l X' p' 0 c' (fun _ => True)) ∨
    ∃ (i : Nat) (y z : Sy) (r : Int) (l' : List Sy) (X' : List Jt) (p' : Option Addr) (n' c' : Nat), e = .returned (.bool true) ∧ l[i]? = some y ∧ l[i + 1]? = some z ∧ IsFst M y.tok z.tok r ∧ Best M l i r ∧ Mrg8 l l' i y (256 + r) ∧ l'.length + 1 = l.length ∧ RowS w' R B mp mc M l' X' p' n' c' (fun _ => True) ∧ n' + 2 * l'.length ≤ n + 2 * l.length)

set_option maxRecDepth 20000 in
set_option maxHeartbeats 8000000 in
theorem mergeNext_c {w : World} {R B : Nat} {mp : Option Addr} {mc : Nat} {M : List S_Pair} {l : List Sy} {X : List Jt} {p : Option Addr} {n c : Nat} {C : Nat → Prop} (S : RowS w R B mp mc M l X p n c (fun _ => True)) (hM : M.length ≤ 1048576) (hn : n + 2 * l.length ≤ 3900) (hB : B ≤ w.heap.size) :
    Calls Try.prog 49 #[.pointer (some ⟨R, 0, none⟩)] w (NxR w R B mp mc M l n) := by
  have HS : Hid (RowS w R B mp mc M l X p n c (fun _ => True)) := S
  have HM : Hid (M.length ≤ 1048576) := hM
  clear S hM
  go_enter Try.func49, Try.ntmps49
  go_wp2_with fail
  go_loopw [] (fun wr => ∃ (Y : List Jt) (p2 : Option Addr) (n2 c2 : Nat), Hid (RowS wr R B mp mc M l Y p2 n2 c2 (fun _ => True)) ∧ n2 ≤ n ∧ Hid (Below B w wr)) (fun wr => lenAt wr R)
  case atStart => exact ⟨X, p, n, c, HS, Nat.le_refl _, (Below.refl _ _).mono hB⟩
  case round =>
    clear HS
    obtain ⟨X, p, n2, c, S, hn2, HB⟩ := hrel
    have HBS0 : Hid (B ≤ wr.heap.size) := Nat.le_trans hB HB.out.size
    have HLN : Hid (lenAt wr R = n2) := lenAt_row S.out
    rcases n2 with _ | m
    · go_wp2_with fail
      refine (pop_none X wr R B _ _ p c S.out.q).mono ?_
      rintro e W1 ⟨rfl, b1⟩
      have S1 : Hid (RowS W1 R B mp mc M l X p 0 c (fun _ => True)) := S.out.bel b1
      have HB1 : Hid (Below B w W1) := HB.out.trans (b1.mono HBS0.out)
      have HNP : Hid (NoPair M l) := fun i y z r hy hz hf => by
        rcases Int.lt_or_le r 0 with h | h
        · exact h
        · have hx := S.out.cov i y z r trivial hy hz h hf
          have : X = [] := List.eq_nil_of_length_eq_zero S.out.q.len
          rw [this] at hx
          cases hx
      have HBS1 : Hid (B ≤ W1.heap.size) := Nat.le_trans HBS0.out b1.size
      clear b1
      go_upto_region 2 with fail
      refine wp_genW (fun W => Hid (RowS W R B mp mc M l X p 0 c (fun _ => True)) ∧ Hid (Below B w W)) ⟨S1.out.bel ((Below.refl _ _).alloc (Nat.le_refl _) _), HB1.out.trans (((Below.refl _ _).alloc (Nat.le_refl _) _).mono HBS1.out)⟩ ?_
      rintro W2 ⟨S2, HB2⟩
      go_wp2
      go_ret
      exact ⟨HB2.out, .inl ⟨rfl, HNP.out, X, p, c, S2.out⟩⟩
    · go_wp2_with fail
      refine (pop_some X wr R B _ _ p m c (by omega) S.out.q S.out.hp).mono ?_
      rintro e W1 ⟨x0, Y, hx0, rfl, hq, hk, hm1, hm2, hf⟩
      have HX0 : Hid (X[0]? = some x0) := hx0
      have S1 : Hid (RowS W1 R B mp mc M l Y p m c (fun j => ∀ y, l[j]? = some y → y.b ≠ x0.b)) := S.out.fr hf HBS0.out hq hk (fun z hz => S.out.jok z (hm1 z hz)) (fun i y z r hC hy hz hr hf' => by
        rcases hm2 _ (S.out.cov i y z r trivial hy hz hr hf') with h | h
        · exact absurd (by rw [← h]) (hC y hy)
        · exact h)
      have HM2 : Hid (∀ z ∈ X, z = x0 ∨ z ∈ Y) := hm2
      have HB1 : Hid (Below B w W1) := HB.out.trans (hf.below S.out.bR (fun k hk => (S.out.q.own.lt k hk).1) HBS0.out)
      have HBS1 : Hid (B ≤ W1.heap.size) := Nat.le_trans hB HB1.out.size
      have HMIN : Hid (∀ x ∈ X, leJ x0 x) := fun x hx => by
        obtain ⟨k, hk'⟩ := List.mem_iff_getElem?.1 hx
        exact hp_min S.out.hp hx0 k x hk'
      have HJ0 : Hid (JOk wr l x0) := S.out.jok x0 (List.mem_of_getElem? hx0)
      have HBE : Hid (∀ (b : Nat) (cs : Array Value), wr.heap[b]? = some (.cells cs 109) → W1.heap[b]? = some (.cells cs 109)) := fun b cs h => blk_fr h hf S.out.q.own S.out.q.row
      obtain ⟨bx, hbx⟩ : ∃ bx, W1.heap.size = bx := ⟨_, rfl⟩
      have HBX : Hid (W1.heap.size = bx) := hbx
      clear hx0 hq hk hm1 hm2 hf hbx
      go_upto_region 2 with fail
      rw [HBX.out]
      refine wp_genW (fun W => Hid (RowS W R B mp mc M l Y p m c (fun j => ∀ y, l[j]? = some y → y.b ≠ x0.b)) ∧ Hid (Below B w W) ∧ Hid (W.heap[bx]? = some (.cells #[.int .i64 x0.r, .pointer (some ⟨x0.b, 0, none⟩)] 112)) ∧ Hid (Below W1.heap.size W1 W)) ⟨S1.out.bel ((Below.refl _ _).alloc (Nat.le_refl _) _), HB1.out.trans (((Below.refl _ _).alloc (Nat.le_refl _) _).mono HBS1.out), by rw [← HBX.out]; exact alloc_last _ _, (Below.refl _ _).alloc (Nat.le_refl _) _⟩ ?_
      rintro W2 ⟨S2, HB2, HX2, HW12⟩
      have HBS : Hid (B ≤ W2.heap.size) := Nat.le_trans hB HB2.out.size
      obtain ⟨b0, b1⟩ := box2 HX2.out
      rcases HJ0.out.2 with ⟨i, y, hy, hyb, hya⟩ | ⟨t, pv, hd⟩
      · obtain ⟨r, hr⟩ := rkAt_ex M l i y
        have HY : Hid (l[i]? = some y) := hy
        have HYB : Hid (y.b = x0.b ∧ y.pl = x0.a) := ⟨hyb, hya⟩
        have HR : Hid (RkAt M l i y r) := hr
        have HCON : Hid (∀ W : World, Below W2.heap.size W2 W → Calls Try.prog 75 #[.pointer (some ⟨R, 0, none⟩), .pointer (some ⟨x0.b, 0, none⟩)] W fun e w' => e = .returned (.int .i64 r) ∧ Below W.heap.size W w') := fun W hS => by rw [← HYB.out.1]; exact rank_live (S2.out.bel hS) HM.out HY.out HR.out
        clear hy hyb hya hr
        by_cases heq' : r = x0.r
        · have heq : (r == x0.r) = true := by simp [heq']
          have HEQ : Hid (r = x0.r) := heq'
          clear heq'
          go_upto_region 4 with fail
          refine wp_region_told (fun W => Below W2.heap.size W2 W) (by kernel_rfl) (by kernel_rfl) ((Below.refl W2.heap.size W2).drew) ?_
          refine told_pure (some 14) (.pointer (some ⟨R, 0, none⟩)) rfl (by kernel_rfl) (fun _ => by kernel_rfl) ?_
          refine told_pure (some 15) (.pointer (some ⟨bx, 1, none⟩)) rfl (by kernel_rfl) (fun _ => by kernel_rfl) ?_
          refine told_load (some 16) ⟨bx, 1, none⟩ (.pointer (some ⟨x0.b, 0, none⟩)) rfl (by kernel_rfl) (fun _ => by kernel_rfl) (fun _ hS => atB hS b1) ?_
          refine told_call (some 17) (.int .i64 r) 75 #[.pointer (some ⟨R, 0, none⟩), .pointer (some ⟨x0.b, 0, none⟩)] rfl (by kernel_rfl) (fun _ => by kernel_rfl) (fun W hS => below_S (HCON.out W hS) hS) ?_
          refine told_pure (some 18) (.pointer (some ⟨bx, 0, none⟩)) rfl (by kernel_rfl) (fun _ => by kernel_rfl) ?_
          refine told_load (some 19) ⟨bx, 0, none⟩ (.int .i64 x0.r) rfl (by kernel_rfl) (fun _ => by kernel_rfl) (fun _ hS => atB hS b0) ?_
          refine told_is (some 20) (.bool (r == x0.r)) (.bool true) (by rw [heq]) rfl (by kernel_rfl) (fun _ => by kernel_rfl) ?_
          refine told_nil ?_
          intro W3 hS3
          simp only [Act.put, List.setIfInBounds_toArray, List.set_cons_zero, List.set_cons_succ]
          have S3 : Hid (RowS W3 R B mp mc M l Y p m c (fun j => ∀ y, l[j]? = some y → y.b ≠ x0.b)) := S2.out.bel hS3
          have HB3 : Hid (Below B w W3) := HB2.out.trans (hS3.mono HBS.out)
          have HX3 : Hid (W3.heap[bx]? = some (.cells #[.int .i64 x0.r, .pointer (some ⟨x0.b, 0, none⟩)] 112)) := (hS3.block _ (lt_of_some HX2.out)).trans HX2.out
          have HBS3 : Hid (B ≤ W3.heap.size) := Nat.le_trans HBS.out hS3.size
          clear hS3 b0 b1
          obtain ⟨b0, b1⟩ := box2 HX3.out
          have hr0 : 0 ≤ r := by rw [HEQ.out]; exact HJ0.out.1
          obtain ⟨z, hz⟩ : ∃ z, l[i + 1]? = some z := by
            have := HR.out
            unfold RkAt at this
            rcases hz : l[i + 1]? with _ | z
            · rw [hz] at this; have h : r = -1 := this; omega
            · exact ⟨z, rfl⟩
          have HZ : Hid (l[i + 1]? = some z) := hz
          have HF : Hid (IsFst M y.tok z.tok r) := by
            have := HR.out
            unfold RkAt at this
            rw [hz] at this
            exact this
          have hrM : r ≤ 1048576 := by
            rcases HF.out with ⟨k, rfl, hk, _⟩ | ⟨h, _⟩
            · have := HM.out; omega
            · omega
          have HBEST : Hid (Best M l i r) := ⟨hr0, fun j v v2 s hv hv2 hf hs => by
            have hx := S.out.cov j v v2 s trivial hv hv2 hs hf
            have hle := (leJ_iff _ _).1 (HMIN.out _ hx)
            have e1 : x0.r = r := HEQ.out.symm
            have e2 : x0.a = y.pl := HYB.out.2.symm
            rw [e1, e2] at hle
            rcases hle with h | ⟨h, h2⟩
            · exact .inl h
            · refine .inr ⟨h, ?_⟩
              rcases Nat.lt_or_ge j i with h3 | h3
              · have h4 := (S.out.mono j i v y h3 hv HY.out).2
                have h5 : y.pl ≤ v.pl := h2
                omega
              · exact h3⟩
          clear hz heq
          go_wp2_with fail
          rw [← HEQ.out, ← HYB.out.1]
          refine (join_c S3.out HM.out (by omega) HBS3.out (i := i) (fun j hj y' hy' e => hj (S3.out.mono.inj hy' HY.out (e.trans HYB.out.1.symm))) HY.out HZ.out hr0 hrM).mono ?_
          rintro e W4 ⟨rfl, b4, l', X', p', n', c', hmg, hll, hn', S4⟩
          have HRES : Hid (NxR w R B mp mc M l n (.returned (.bool true)) W4) := ⟨HB3.out.trans b4, .inr ⟨i, y, z, r, l', X', p', n', c', rfl, HY.out, HZ.out, HF.out, HBEST.out, hmg, hll, S4, by omega⟩⟩
          clear b4 hmg hll hn' S4 b0 b1
          go_wp2
          go_ret
          exact HRES.out
        · have heq : (r == x0.r) = false := by simp [heq']
          have HST : Hid (∀ (j : Nat) (v z : Sy) (s : Int), True → l[j]? = some v → l[j + 1]? = some z → 0 ≤ s → IsFst M v.tok z.tok s → ⟨s, v.b, v.pl⟩ ∈ Y) := fun j v z s _ hv hz hs hf => by
            rcases HM2.out _ (S.out.cov j v z s trivial hv hz hs hf) with h | h
            · have e1 : v.b = x0.b := by rw [← h]
              have e2 : s = x0.r := by rw [← h]
              have hji : j = i := S.out.mono.inj hv HY.out (e1.trans HYB.out.1.symm)
              subst hji
              have := HR.out
              unfold RkAt at this
              rw [hz] at this
              have hvy : v = y := by have := HY.out; rw [hv] at this; exact Option.some.inj this
              rw [hvy] at hf
              exact absurd ((isFst_one this hf).trans e2) heq'
            · exact h
          clear heq'
          go_upto_region 4 with fail
          refine wp_region_told (fun W => Below W2.heap.size W2 W) (by kernel_rfl) (by kernel_rfl) ((Below.refl W2.heap.size W2).drew) ?_
          refine told_pure (some 14) (.pointer (some ⟨R, 0, none⟩)) rfl (by kernel_rfl) (fun _ => by kernel_rfl) ?_
          refine told_pure (some 15) (.pointer (some ⟨bx, 1, none⟩)) rfl (by kernel_rfl) (fun _ => by kernel_rfl) ?_
          refine told_load (some 16) ⟨bx, 1, none⟩ (.pointer (some ⟨x0.b, 0, none⟩)) rfl (by kernel_rfl) (fun _ => by kernel_rfl) (fun _ hS => atB hS b1) ?_
          refine told_call (some 17) (.int .i64 r) 75 #[.pointer (some ⟨R, 0, none⟩), .pointer (some ⟨x0.b, 0, none⟩)] rfl (by kernel_rfl) (fun _ => by kernel_rfl) (fun W hS => below_S (HCON.out W hS) hS) ?_
          refine told_pure (some 18) (.pointer (some ⟨bx, 0, none⟩)) rfl (by kernel_rfl) (fun _ => by kernel_rfl) ?_
          refine told_load (some 19) ⟨bx, 0, none⟩ (.int .i64 x0.r) rfl (by kernel_rfl) (fun _ => by kernel_rfl) (fun _ hS => atB hS b0) ?_
          refine told_is (some 20) (.bool (r == x0.r)) (.bool false) (by rw [heq]) rfl (by kernel_rfl) (fun _ => by kernel_rfl) ?_
          refine told_nil ?_
          intro W3 hS3
          simp only [Act.put, List.setIfInBounds_toArray, List.set_cons_zero, List.set_cons_succ]
          have S3 : Hid (RowS W3 R B mp mc M l Y p m c (fun _ => True)) := S2.out.bel hS3 |>.recov HST.out
          have HB3 : Hid (Below B w W3) := HB2.out.trans (hS3.mono HBS.out)
          clear hS3 b0 b1
          go_wp2
          go_roundw
          case rel => exact ⟨Y, p, m, c, S3, by omega, HB3⟩
          case measure => rw [HLN.out, lenAt_row S3.out]; omega
      · have hd1 := HBE.out _ _ hd
        have hd2 := (HW12.out.block _ (lt_of_some hd1)).trans hd1
        have HD : Hid (W2.heap[x0.b]? = some (.cells #[.int .i64 t, .int .i64 x0.a, pv, .pointer none] 109)) := hd2
        have heq : ((-1 : Int) == x0.r) = false := by rw [beq_eq_false_iff_ne]; have := HJ0.out.1; omega
        have HST : Hid (∀ (j : Nat) (v z : Sy) (s : Int), True → l[j]? = some v → l[j + 1]? = some z → 0 ≤ s → IsFst M v.tok z.tok s → ⟨s, v.b, v.pl⟩ ∈ Y) := fun j v z s _ hv hz hs hf => by
          rcases HM2.out _ (S.out.cov j v z s trivial hv hz hs hf) with h | h
          · have e1 : v.b = x0.b := by rw [← h]
            have h3 := S.out.live j v hv
            rw [e1, hd, hz] at h3
            simp [ptrO] at h3
          · exact h
        have HCON : Hid (∀ W : World, Below W2.heap.size W2 W → Calls Try.prog 75 #[.pointer (some ⟨R, 0, none⟩), .pointer (some ⟨x0.b, 0, none⟩)] W fun e w' => e = .returned (.int .i64 (-1)) ∧ Below W.heap.size W w') := fun W hS => (rank_last R x0.b W t _ pv ((hS.block _ (lt_of_some HD.out)).trans HD.out)).mono fun e w' ⟨he, hw⟩ => ⟨he, by rw [hw]; exact Below.refl _ _⟩
        clear hd hd1 hd2
        go_upto_region 4 with fail
        refine wp_region_told (fun W => Below W2.heap.size W2 W) (by kernel_rfl) (by kernel_rfl) ((Below.refl W2.heap.size W2).drew) ?_
        refine told_pure (some 14) (.pointer (some ⟨R, 0, none⟩)) rfl (by kernel_rfl) (fun _ => by kernel_rfl) ?_
        refine told_pure (some 15) (.pointer (some ⟨bx, 1, none⟩)) rfl (by kernel_rfl) (fun _ => by kernel_rfl) ?_
        refine told_load (some 16) ⟨bx, 1, none⟩ (.pointer (some ⟨x0.b, 0, none⟩)) rfl (by kernel_rfl) (fun _ => by kernel_rfl) (fun _ hS => atB hS b1) ?_
        refine told_call (some 17) (.int .i64 (-1)) 75 #[.pointer (some ⟨R, 0, none⟩), .pointer (some ⟨x0.b, 0, none⟩)] rfl (by kernel_rfl) (fun _ => by kernel_rfl) (fun W hS => below_S (HCON.out W hS) hS) ?_
        refine told_pure (some 18) (.pointer (some ⟨bx, 0, none⟩)) rfl (by kernel_rfl) (fun _ => by kernel_rfl) ?_
        refine told_load (some 19) ⟨bx, 0, none⟩ (.int .i64 x0.r) rfl (by kernel_rfl) (fun _ => by kernel_rfl) (fun _ hS => atB hS b0) ?_
        refine told_is (some 20) (.bool ((-1) == x0.r)) (.bool false) (by rw [heq]) rfl (by kernel_rfl) (fun _ => by kernel_rfl) ?_
        refine told_nil ?_
        intro W3 hS3
        simp only [Act.put, List.setIfInBounds_toArray, List.set_cons_zero, List.set_cons_succ]
        have S3 : Hid (RowS W3 R B mp mc M l Y p m c (fun _ => True)) := S2.out.bel hS3 |>.recov HST.out
        have HB3 : Hid (Below B w W3) := HB2.out.trans (hS3.mono HBS.out)
        clear hS3 b0 b1
        go_wp2
        go_roundw
        case rel => exact ⟨Y, p, m, c, S3, by omega, HB3⟩
        case measure => rw [HLN.out, lenAt_row S3.out]; omega


end Go.Proofs.Ytdggkcohidijcaa

/- A row of tokens. -/
namespace Go.Proofs.Ytdggkcohidijcaa
open Go.RowKit
set_option linter.unusedVariables false
set_option linter.unusedSimpArgs false

/-- One more symbol behind the last one. -/
theorem snoc_row {w : World} {R B : Nat} {mp : Option Addr} {mc : Nat} {M : List S_Pair} {l : List Sy} {X : List Jt} {p : Option Addr} {n c : Nat} {C : Nat → Prop} {W : World} {m : Nat} {y : Sy} {t a : Int} {s : Nat} (S : RowS w R B mp mc M l X p n c (fun _ => True)) (hs : w.heap.size = s) (hB : B ≤ s) (hl : l.length = m + 1) (hy : l[m]? = some y) (ha : ∀ x ∈ l, x.pl < a)
    (hb : Below B w W) (hy2 : W.heap[y.b]? = some (.cells #[.int .i64 y.tok, .int .i64 y.pl, prvV l m, .pointer (some ⟨s, 0, none⟩)] 109)) (hs2 : W.heap[s]? = some (.cells #[.int .i64 t, .int .i64 a, .pointer (some ⟨y.b, 0, none⟩), .pointer none] 109))
    (hoth : ∀ k, k < w.heap.size → k ≠ y.b → W.heap[k]? = w.heap[k]?) : RowS W R B mp mc M (l ++ [⟨s, t, a⟩]) X p n c (fun j => j ≠ m) := by
  have hlt : ∀ x ∈ l, x.b < s := fun x hx => by
    obtain ⟨k, hk⟩ := List.mem_iff_getElem?.1 hx
    have := lt_of_some (S.live k x hk)
    omega
  have hat : ∀ (j : Nat) (v : Sy), (l ++ [⟨s, t, a⟩])[j]? = some v → (j < m + 1 ∧ l[j]? = some v) ∨ (j = m + 1 ∧ v = ⟨s, t, a⟩) := fun j v hv => by
    rcases Nat.lt_or_ge j l.length with h | h
    · rw [List.getElem?_append_left h] at hv; exact .inl ⟨by omega, hv⟩
    · rw [List.getElem?_append_right h] at hv
      have hj : j - l.length = 0 := by
        rcases Nat.eq_zero_or_pos (j - l.length) with h2 | h2
        · exact h2
        · rw [List.getElem?_eq_none (by simp; omega)] at hv; cases hv
      rw [hj] at hv
      exact .inr ⟨by omega, (Option.some.inj hv).symm⟩
  have hpre : ∀ j, j < m + 1 → (l ++ [⟨s, t, a⟩])[j]? = l[j]? := fun j hj => List.getElem?_append_left (by omega)
  have hlast : (l ++ [⟨s, t, a⟩])[m + 1]? = some ⟨s, t, a⟩ := by rw [List.getElem?_append_right (by omega), hl, Nat.sub_self]; rfl
  have hprv : ∀ j, j ≤ m + 1 → prvV (l ++ [⟨s, t, a⟩]) j = prvV l j := fun j hj => by
    cases j with
    | zero => rfl
    | succ k => show ptrO (l ++ [⟨s, t, a⟩])[k]? = ptrO l[k]?; rw [hpre k (by omega)]
  have hne : ∀ k v, l[k]? = some v → k ≠ m → v.b ≠ y.b := fun k v hv hk e => hk (S.mono.inj hv hy e)
  have hLv : LiveAt W (l ++ [⟨s, t, a⟩]) := by
    intro j v hv
    rcases hat j v hv with ⟨h1, h2⟩ | ⟨rfl, rfl⟩
    · rw [hprv j (by omega)]
      by_cases hj : j = m
      · subst hj
        rw [hy] at h2; cases h2
        rw [hlast]
        exact hy2
      · rw [hpre (j + 1) (by omega), hoth v.b (lt_of_some (S.live j v h2)) (hne j v h2 hj)]
        exact S.live j v h2
    · rw [hprv (m + 1) (Nat.le_refl _), List.getElem?_eq_none (by rw [List.length_append, hl]; simp)]
      show W.heap[s]? = some (.cells #[.int .i64 t, .int .i64 a, ptrO l[m]?, .pointer none] 109)
      rw [hy]
      exact hs2
  have hJ : ∀ x ∈ X, JOk W (l ++ [⟨s, t, a⟩]) x := fun x hx => by
    refine ⟨(S.jok x hx).1, ?_⟩
    rcases (S.jok x hx).2 with ⟨k, v, hv, e1, e2⟩ | ⟨t1, p1, h1⟩
    · exact .inl ⟨k, v, by rw [hpre k (by have := (List.getElem?_eq_some_iff.1 hv).1; omega)]; exact hv, e1, e2⟩
    · by_cases h2 : x.b = y.b
      · have h3 := S.live m y hy
        rw [← h2, h1] at h3
        simp only [Option.some.injEq, Obj.cells.injEq, Array.mk.injEq, List.cons.injEq, Value.int.injEq, true_and] at h3
        exact .inl ⟨m, y, by rw [hpre m (by omega)]; exact hy, h2.symm, h3.1.2.1.symm⟩
      · exact .inr ⟨t1, p1, (hoth _ (lt_of_some h1) h2).trans h1⟩
  have hRy : R ≠ y.b := fun e => by have := S.live m y hy; rw [← e, S.q.row] at this; simp at this
  refine ⟨⟨?_, ?_, S.q.len, fun x hx => (hJ x hx).sym hLv⟩, hLv, ?_, S.hp, hJ, ?_, row_low S.mrow hb S.bm, S.bR, ?_, S.bm⟩
  · rw [hoth R (lt_of_some S.q.row) hRy, hpre 0 (by omega)]
    exact S.q.row
  · obtain ⟨h1, ⟨hv, h2⟩ | ⟨g, cp, cur, hv, hg, hh, r⟩⟩ := S.q.own
    · exact ⟨h1, .inl ⟨hv, h2⟩⟩
    · exact ⟨h1, .inr ⟨g, cp, cur, hv, hg, by rw [hoth g (lt_of_some hh) (fun e => kind_ne S.q.own (S.live m y hy) (by decide) (by rw [hv, ← e]; rfl))]; exact hh, r⟩⟩
  · intro j k v v2 hjk hv hv2
    rcases hat j v hv with ⟨h1, h2⟩ | ⟨h1, h2⟩ <;> rcases hat k v2 hv2 with ⟨h3, h4⟩ | ⟨h3, h4⟩
    · exact S.mono j k v v2 hjk h2 h4
    · rw [h4]; exact ⟨hlt v (List.mem_of_getElem? h2), ha v (List.mem_of_getElem? h2)⟩
    · omega
    · omega
  · intro j v v2 r hj hv hv2 hr hf
    rcases hat (j + 1) v2 hv2 with ⟨h1, h2⟩ | ⟨h1, h2⟩
    · rw [hpre j (by omega)] at hv
      exact S.cov j v v2 r trivial hv h2 hr hf
    · exact absurd (by omega) hj
  · intro v hv
    rcases List.mem_append.1 hv with h | h
    · exact S.bl v h
    · rw [List.mem_singleton.1 h]; exact hB

/-- The first symbol. -/
theorem one_row {w W : World} {R B : Nat} {mp : Option Addr} {mc : Nat} {M : List S_Pair} {X : List Jt} {p : Option Addr} {n c : Nat} {t a : Int} {s : Nat} (S : RowS w R B mp mc M [] X p n c (fun _ => True)) (hX : X = []) (hB : B ≤ s) (hb : Below B w W)
    (hR : W.heap[R]? = some (.cells #[.slice mp M.length mc, .pointer (some ⟨s, 0, none⟩), (.func (.func 72) #[] #[]), .slice p n c] 107)) (hs2 : W.heap[s]? = some (.cells #[.int .i64 t, .int .i64 a, .pointer none, .pointer none] 109)) (ho : W.ownsRow B 112 2 (.slice p n c) n (rJ X)) : RowS W R B mp mc M [⟨s, t, a⟩] X p n c (fun _ => True) := by
  have hat : ∀ (j : Nat) (v : Sy), ([⟨s, t, a⟩] : List Sy)[j]? = some v → j = 0 ∧ v = ⟨s, t, a⟩ := fun j v hv => by
    rcases j with _ | j
    · exact ⟨rfl, (Option.some.inj hv).symm⟩
    · simp at hv
  subst hX
  refine ⟨⟨hR, ho, S.q.len, fun x hx => by cases hx⟩, ?_, ?_, S.hp, (fun x hx => by cases hx), ?_, row_low S.mrow hb S.bm, S.bR, ?_, S.bm⟩
  · intro j v hv
    obtain ⟨rfl, rfl⟩ := hat j v hv
    exact hs2
  · intro j k v v2 hjk hv hv2
    have := (hat j v hv).1
    have := (hat k v2 hv2).1
    omega
  · intro j v v2 r _ hv hv2
    have := (hat (j + 1) v2 hv2).1
    omega
  · intro v hv
    rw [List.mem_singleton.1 hv]; exact hB

set_option maxRecDepth 20000 in
set_option maxHeartbeats 8000000 in
theorem rowOf_c (M : List S_Pair) (mp : Option Addr) (mc : Nat) (ts : List Int) (q : Option Addr) (cq : Nat) (w : World) (hM : M.length ≤ 1048576) (ht : ts.length ≤ 1000) (hm : RowR w (.slice mp M.length mc) M.length 2 (rPair M)) (hts : IR w (.slice q ts.length cq) ts) :
    Calls Try.prog 47 #[.slice mp M.length mc, .slice q ts.length cq] w fun e w' => ∃ (R : Nat) (l : List Sy) (X : List Jt) (p : Option Addr) (n c : Nat), e = .returned (.pointer (some ⟨R, 0, none⟩)) ∧ l.map Sy.tok = ts ∧ RowS w' R w.heap.size mp mc M l X p n c (fun _ => True) ∧ n ≤ ts.length ∧ Below w.heap.size w w' := by
  have HM : Hid (M.length ≤ 1048576) := hM
  have HT : Hid (IR w (.slice q ts.length cq) ts) := hts
  have HR : Hid (RowR w (.slice mp M.length mc) M.length 2 (rPair M)) := hm
  obtain ⟨B, hB⟩ : ∃ B, w.heap.size = B := ⟨_, rfl⟩
  have HB : Hid (w.heap.size = B) := hB
  have hBM : ∀ b off, mp = some ⟨b, off, none⟩ → 0 < M.length → b < B := fun b off e h => by
    obtain ⟨b', off', c', hv, hb, _⟩ := hm.some h (by decide)
    simp only [Value.slice.injEq, true_and] at hv
    rw [hv.1] at e
    simp only [Option.some.injEq, Addr.mk.injEq, and_true] at e
    omega
  have HBM : Hid (∀ b off, mp = some ⟨b, off, none⟩ → 0 < M.length → b < B) := hBM
  have hts' : (ts.length : Int) ≤ 1000 := by omega
  clear hM hts hm hB hBM
  go_enter Try.func47, Try.ntmps47
  go_upto_region 2 with fail
  rw [HB.out]
  refine wp_genW (fun W => Hid (RowS W B B mp mc M [] [] none 0 0 (fun _ => True)) ∧ Hid (Below B w W)) ⟨?_, by rw [← HB.out]; exact (Below.refl _ _).alloc (Nat.le_refl _) _⟩ ?_
  · refine ⟨⟨?_, World.ownsRow_nil _ _ _ _, rfl, fun x hx => by cases hx⟩, (fun i y h => by simp at h), (fun i j x y _ h => by simp at h), (fun i x y _ h => by simp at h), (fun x hx => by cases hx), (fun i y z r _ h => by simp at h), ?_, Nat.le_refl _, (fun y hy => by cases hy), HBM.out⟩
    · rw [← HB.out]; exact alloc_last _ _
    · exact HR.out.keep ((Below.refl _ _).alloc (Nat.le_refl _) _) (Nat.le_refl _)
  rintro W0 ⟨S0, HB0⟩
  go_wp2_with fail
  go_loopw [6, 16] (fun lv iv wr => ∃ (k : Nat) (l : List Sy) (X : List Jt) (p : Option Addr) (n c : Nat), iv = .int .i64 (k : Int) ∧ k ≤ ts.length ∧ lv = prvV l k ∧ Hid (l.length = k) ∧ Hid (l.map Sy.tok = ts.take k) ∧ Hid (∀ x ∈ l, x.pl < (k : Int)) ∧ Hid (RowS wr B B mp mc M l X p n c (fun _ => True)) ∧ n ≤ k ∧ Hid (Below B w wr)) (fun _ iv _ => ts.length - (intOf iv).toNat)
  case atStart => exact ⟨0, [], [], none, 0, 0, rfl, Nat.zero_le _, rfl, rfl, rfl, (fun x hx => by cases hx), S0, Nat.le_refl _, HB0⟩
  case round =>
    clear S0 HB0
    obtain ⟨k, l, X, p, n, c, rfl, hk, hlv, HLL, HTK, HPL, S, hnk, HBr⟩ := hrel
    subst hlv
    by_cases hlt : k < ts.length
    rotate_left
    · have hke : k = ts.length := by omega
      have HMAP : Hid (l.map Sy.tok = ts) := by have := HTK.out; rw [hke, List.take_length] at this; exact this
      subst hke
      go_wp2
      go_ret
      exact ⟨B, l, X, p, n, c, rfl, HMAP.out, by rw [HB.out]; exact S.out, hnk, by rw [HB.out]; exact HBr.out⟩
    have hlt' : (k : Int) < ts.length := by omega
    obtain ⟨tb, off, rfl, htb, htc⟩ := HT.out.cells (by omega)
    have c0 : wr.cell? ⟨tb, off + k, none⟩ = some (.int .i64 ts[k]) := by rw [HBr.out.cell (by rw [← HB.out]; exact htb)]; exact htc k hlt
    have HTK2 : Hid (ts.take (k + 1) = ts.take k ++ [ts[k]]) := take_snoc ts k hlt
    clear htc
    generalize ts[k] = t at c0 HTK2
    have hBw : B ≤ wr.heap.size := by have := HBr.out.size; have := HB.out; omega
    obtain ⟨s, hs⟩ : ∃ s, wr.heap.size = s := ⟨_, rfl⟩
    have HS : Hid (wr.heap.size = s) := hs
    have hBs : B ≤ s := by omega
    clear hs
    rcases k with _ | m
    · rw [show prvV l 0 = .pointer none from rfl]
      replace c0 : wr.cell? ⟨tb, off, none⟩ = some (.int .i64 t) := c0
      go_upto_region 7 with fail
      rw [HS.out]
      refine wp_genW (fun W => Hid (W.heap[s]? = some (.cells #[.int .i64 t, .int .i64 ((0 : Nat) : Int), .pointer none, .pointer none] 109)) ∧ Hid (Below wr.heap.size wr W)) ⟨by rw [← HS.out]; exact alloc_last _ _, (Below.refl _ _).alloc (Nat.le_refl _) _⟩ ?_
      clear c0
      rintro W1 ⟨HX1, HW1⟩
      have S1 : Hid (RowS W1 B B mp mc M l X p n c (fun _ => True)) := S.out.bel HW1.out
      have HB1 : Hid (Below B w W1) := HBr.out.trans (HW1.out.mono hBw)
      have HPL2 : Hid (∀ x ∈ l ++ [(⟨s, t, ((0 : Nat) : Int)⟩ : Sy)], x.pl < ((0 + 1 : Nat) : Int)) := fun x hx => by
        rcases List.mem_append.1 hx with h | h
        · have := HPL.out x h; omega
        · rw [List.mem_singleton.1 h]; show ((0 : Nat) : Int) < _; omega
      have HMAP2 : Hid ((l ++ [(⟨s, t, ((0 : Nat) : Int)⟩ : Sy)]).map Sy.tok = ts.take (0 + 1)) := by show _ = _; rw [List.map_append, HTK.out, HTK2.out]; rfl
      have HLL2 : Hid ((l ++ [(⟨s, t, ((0 : Nat) : Int)⟩ : Sy)]).length = 0 + 1) := by show _ = _; rw [List.length_append, HLL.out]; rfl
      have hl0 : l = [] := List.eq_nil_of_length_eq_zero HLL.out
      subst hl0
      have hn0 : n = 0 := by omega
      subst hn0
      have HXN : Hid (X = []) := List.eq_nil_of_length_eq_zero S1.out.q.len
      have y1 := S1.out.q.cells.2.1
      have yf := S1.out.q.frz
      have HsB : Hid (s ≠ B) := fun e => by have h1 := lt_of_some S.out.q.row; have := HS.out; omega
      have HE : Hid (RowS (W1.setCell ⟨B, 1, none⟩ (.pointer (some ⟨s, 0, none⟩))) B B mp mc M [⟨s, t, ((0 : Nat) : Int)⟩] X p 0 c (fun _ => True)) := by
        refine one_row S1.out HXN.out hBs ((Below.refl B W1).setCell (by exact Nat.le_refl B) _) (set_at S1.out.q.row _) (set_off HX1.out _ HsB.out) ?_
        obtain ⟨h1, ⟨hv, h2⟩ | ⟨g, cp, cur, hv, hg, hh, r⟩⟩ := S1.out.q.own
        · exact ⟨h1, .inl ⟨hv, h2⟩⟩
        · exact ⟨h1, .inr ⟨g, cp, cur, hv, hg, set_off hh _ (fun e => kind_ne S1.out.q.own S1.out.q.row (by decide) (by rw [hv, ← e]; rfl)), r⟩⟩
      have HBE : Hid (Below B w (W1.setCell ⟨B, 1, none⟩ (.pointer (some ⟨s, 0, none⟩)))) := HB1.out.setCell (Nat.le_refl _) _
      go_wp2
      go_roundw
      case rel => exact ⟨1, [⟨s, t, ((0 : Nat) : Int)⟩], X, p, 0, c, by go_num, by omega, rfl, rfl, HMAP2, HPL2, HE, by omega, HBE⟩
      case measure => simp [intOf]; omega
    · obtain ⟨y, hy⟩ : ∃ y, l[m]? = some y := ⟨_, List.getElem?_eq_getElem (by have := HLL.out; omega)⟩
      have HY : Hid (l[m]? = some y) := hy
      rw [show prvV l (m + 1) = .pointer (some ⟨y.b, 0, none⟩) from ptrO_some hy]
      go_upto_region 7 with fail
      rw [HS.out]
      refine wp_genW (fun W => Hid (W.heap[s]? = some (.cells #[.int .i64 t, .int .i64 ((m + 1 : Nat) : Int), .pointer (some ⟨y.b, 0, none⟩), .pointer none] 109)) ∧ Hid (Below wr.heap.size wr W)) ⟨by rw [← HS.out]; exact alloc_last _ _, (Below.refl _ _).alloc (Nat.le_refl _) _⟩ ?_
      clear c0
      rintro W1 ⟨HX1, HW1⟩
      have S1 : Hid (RowS W1 B B mp mc M l X p n c (fun _ => True)) := S.out.bel HW1.out
      have HB1 : Hid (Below B w W1) := HBr.out.trans (HW1.out.mono hBw)
      have HPL2 : Hid (∀ x ∈ l ++ [(⟨s, t, ((m + 1 : Nat) : Int)⟩ : Sy)], x.pl < ((m + 1 + 1 : Nat) : Int)) := fun x hx => by
        rcases List.mem_append.1 hx with h | h
        · have := HPL.out x h; omega
        · rw [List.mem_singleton.1 h]; show ((m + 1 : Nat) : Int) < _; omega
      have HMAP2 : Hid ((l ++ [(⟨s, t, ((m + 1 : Nat) : Int)⟩ : Sy)]).map Sy.tok = ts.take (m + 1 + 1)) := by show _ = _; rw [List.map_append, HTK.out, HTK2.out]; rfl
      have HLL2 : Hid ((l ++ [(⟨s, t, ((m + 1 : Nat) : Int)⟩ : Sy)]).length = m + 1 + 1) := by show _ = _; rw [List.length_append, HLL.out]; rfl
      have hlast : l[m + 1]? = none := List.getElem?_eq_none (by have := HLL.out; omega)
      have HYb : Hid (W1.heap[y.b]? = some (.cells #[.int .i64 y.tok, .int .i64 y.pl, prvV l m, .pointer none] 109)) := by
        have h := S1.out.live m y hy
        rw [ptrO_none hlast] at h
        exact h
      obtain ⟨y0, y1, y2, y3⟩ := cell4 HYb.out
      have yf := frz_cells HYb.out
      have HBY : Hid (B ≤ y.b) := S1.out.bl y (List.mem_of_getElem? hy)
      have HYS : Hid (y.b ≠ s) := fun e => by have h1 := lt_of_some (S.out.live m y hy); have := HS.out; omega
      clear hy hlast
      go_upto_region 10 with fail
      refine wp_genW (fun W => Hid (RowS W B B mp mc M (l ++ [⟨s, t, ((m + 1 : Nat) : Int)⟩]) X p n c (fun j => j ≠ m)) ∧ Hid (Below B w W) ∧ Hid (B ≤ W.heap.size)) ⟨?_, HB1.out.setCell (by exact HBY.out) _, (by show B ≤ (W1.setCell ⟨y.b, 3, none⟩ (.pointer (some ⟨s, 0, none⟩))).heap.size; simp only [World.setCell, Array.size_modify]; exact Nat.le_trans hBw HW1.out.size)⟩ ?_
      · exact snoc_row (C := fun _ => True) S.out HS.out hBs HLL.out HY.out (fun x hx => HPL.out x hx) (((HW1.out).mono hBw).setCell (by exact HBY.out) _) (set_at HYb.out _) (set_off HX1.out _ (Ne.symm HYS.out)) (fun k hk hne => set_off (HW1.out.block k hk) _ hne)
      clear y0 y1 y2 y3 yf
      rintro W2 ⟨S2, HB2, HBS2⟩
      have HY2 : Hid ((l ++ [(⟨s, t, ((m + 1 : Nat) : Int)⟩ : Sy)])[m]? = some y) := by show _ = _; rw [List.getElem?_append_left (by have := HLL.out; omega)]; exact HY.out
      have HZ2 : Hid ((l ++ [(⟨s, t, ((m + 1 : Nat) : Int)⟩ : Sy)])[m + 1]? = some ⟨s, t, ((m + 1 : Nat) : Int)⟩) := by show _ = _; rw [List.getElem?_append_right (by have := HLL.out; omega), HLL.out, Nat.sub_self]; rfl
      generalize l ++ [(⟨s, t, ((m + 1 : Nat) : Int)⟩ : Sy)] = l2 at S2 HY2 HZ2 HPL2 HMAP2 HLL2
      go_wp2_with fail
      refine (offer_c S2.out HM.out (by omega) HBS2.out HY2.out).mono ?_
      rintro e W3 ⟨rfl, X3, p3, n3, c3, hS3, hn3, hf3⟩
      have S3 : Hid (RowS W3 B B mp mc M l2 X3 p3 n3 c3 (fun _ => True)) := hS3.weak (fun j _ => by
        by_cases h : j = m
        · exact .inr h
        · exact .inl h)
      have HB3 : Hid (Below B w W3) := HB2.out.trans (hf3.below S2.out.bR (fun q hq => (S2.out.q.own.lt q hq).1) HBS2.out)
      have HLV : Hid ((Value.pointer (some ⟨s, 0, none⟩)) = prvV l2 (m + 1 + 1)) := (ptrO_some HZ2.out).symm
      clear hS3 hf3
      go_wp2
      go_roundw
      case rel => exact ⟨m + 1 + 1, l2, X3, p3, n3, c3, by go_num, by omega, HLV.out, HLL2, HMAP2, HPL2, S3, by omega, HB3⟩
      case measure => simp [intOf]; omega

end Go.Proofs.Ytdggkcohidijcaa

/- What a row of tokens tells. -/
namespace Go.Proofs.Ytdggkcohidijcaa
open Go.RowKit
set_option linter.unusedVariables false
set_option linter.unusedSimpArgs false

/-- How many symbols are left from a pointer on. -/
def leftAt (l : List Sy) (v : Value) : Nat := match v with
  | .pointer (some a) => l.length - (l.findIdx fun y => y.b == a.block)
  | _ => 0

theorem leftAt_at {l : List Sy} (h : Mono8 l) {k : Nat} {y : Sy} (hy : l[k]? = some y) : leftAt l (.pointer (some ⟨y.b, 0, none⟩)) = l.length - k := by
  have hk := (List.getElem?_eq_some_iff.1 hy).1
  have e : l[k] = y := by rw [List.getElem?_eq_getElem hk] at hy; exact Option.some.inj hy
  have hf : (l.findIdx fun z => z.b == y.b) = k := by
    refine (List.findIdx_eq hk).2 ⟨by rw [e]; exact beq_self_eq_true _, fun j hj => ?_⟩
    have := (h j k _ y hj (List.getElem?_eq_getElem (by omega)) hy).1
    rw [beq_eq_false_iff_ne]
    omega
  show l.length - (l.findIdx fun z => z.b == y.b) = _
  rw [hf]

theorem leftAt_next {l : List Sy} (h : Mono8 l) {k : Nat} : leftAt l (ptrO l[k + 1]?) ≤ l.length - (k + 1) := by
  rcases hz : l[k + 1]? with _ | z
  · exact Nat.zero_le _
  · exact Nat.le_of_eq (leftAt_at h hz)

set_option maxRecDepth 20000 in
set_option maxHeartbeats 4000000 in
theorem tell_c {w : World} {R B : Nat} {mp : Option Addr} {mc : Nat} {M : List S_Pair} {l : List Sy} {X : List Jt} {p : Option Addr} {n c : Nat} {C : Nat → Prop} (S : RowS w R B mp mc M l X p n c C) (hl : l.length ≤ 1000) :
    Calls Try.prog 50 #[.pointer (some ⟨R, 0, none⟩)] w fun e w' => ∃ v, e = .returned v ∧ IO w' w.heap.size v (l.map Sy.tok) ∧ Below w.heap.size w w' := by
  have HS : Hid (RowS w R B mp mc M l X p n c C) := S
  obtain ⟨i0, hi, hz0, hz1, hz2⟩ := info_parts infoInt
  have y1 := S.q.cells.2.1
  clear S
  go_enter Try.func50, Try.ntmps50
  go_wp2_with fail
  clear y1
  go_loopw [3, 4] (fun ov sv wr => ∃ k : Nat, k ≤ l.length ∧ sv = ptrO l[k]? ∧ Hid (wr.ownsRow w.heap.size 3 1 ov ((l.take k).map Sy.tok).length (rI ((l.take k).map Sy.tok))) ∧ Hid (Below w.heap.size w wr)) (fun _ sv wr => leftAt l sv)
  case atStart => exact ⟨0, Nat.zero_le _, rfl, World.ownsRow_nil _ _ _ _, Below.refl _ _⟩
  case round =>
    obtain ⟨k, hk, hsv, HOV, HB⟩ := hrel
    have S1 : Hid (RowS wr R B mp mc M l X p n c C) := HS.out.bel HB.out
    by_cases hlt : k < l.length
    · obtain ⟨y, hy⟩ : ∃ y, l[k]? = some y := ⟨_, List.getElem?_eq_getElem hlt⟩
      rw [ptrO_some hy] at hsv
      subst hsv
      have HTK : Hid ((l.take (k + 1)).map Sy.tok = (l.take k).map Sy.tok ++ [y.tok]) := by
        show _ = _
        rw [take_snoc l k hlt, List.map_append]
        have : l[k] = y := by rw [List.getElem?_eq_getElem hlt] at hy; exact Option.some.inj hy
        rw [this]; rfl
      have HKL : Hid (((l.take k).map Sy.tok).length ≤ 1000) := by show _ ≤ _; rw [List.length_map, List.length_take]; omega
      have hyc := S1.out.live k y hy
      obtain ⟨y0, y1, y2, y3⟩ := cell4 hyc
      have HYL : Hid (y.b < wr.heap.size) := lt_of_some hyc
      have HME : Hid (leftAt l (.pointer (some ⟨y.b, 0, none⟩)) = l.length - k) := leftAt_at S1.out.mono hy
      have HMN : Hid (leftAt l (ptrO l[k + 1]?) ≤ l.length - (k + 1)) := leftAt_next S1.out.mono
      generalize (l.take k).map Sy.tok = P at HTK HKL HOV
      have HYC : Hid (wr.heap[y.b]? = some (.cells #[.int .i64 y.tok, .int .i64 y.pl, prvV l k, ptrO l[k + 1]?] 109)) := hyc
      clear hyc hy
      have hsz1 := HB.out.size
      have hml : (1048577 : Nat) ≤ maxLen := by unfold maxLen; omega
      have hPl := HKL.out
      have hown := HOV.out
      have hyl := HYL.out
      go_wp2_with (at_builtin; refine wpList_append_own _ rfl _ _ 29 rfl w.heap.size 3 i0 (.int .i64 0) 1 8 Try.underlying29 hi hz0 hz1 hz2 rfl (by decide) _ _ _ rfl (hown.alloc _) ⟨wr.heap.size, 0, none⟩ 1 1 [.int .i64 y.tok] rfl rfl (cell_one_new _ _ _) (by intro u hu; simp at hu; subst hu; rfl) (by omega) (by omega) (by simp; omega) ?_)
      intro v' w5 hown5 hgrow _
      have R1 : w5.ownsRow w.heap.size 3 1 v' (P ++ [y.tok]).length (rI (P ++ [y.tok])) := by
        have := hown5
        unfold rI at this ⊢
        simpa using this
      have R2 := below_append HB.out (Nat.le_refl _) hown hgrow
      rw [← HTK.out] at R1
      have hg3 : w5.cell? ⟨y.b, 3, none⟩ = some (ptrO l[k + 1]?) := by
        refine hgrow.cell (by rw [World.cell?_alloc_lt _ _ ⟨y.b, 3, none⟩ hyl]; exact y3) (fun e => ?_)
        exact kind_ne (w := wr) hown HYC.out (by decide) e.symm
      clear hown5 hgrow hown y0 y1 y2 y3
      go_wp2
      go_roundw
      case rel => first | exact ⟨k + 1, by omega, rfl, R1, R2⟩ | ((repeat apply Exists.intro); exact ⟨⟨k + 1, by omega, rfl, R1, R2⟩, rfl⟩)
      case measure => have h1 := HME.out; have h2 := HMN.out; omega
    · have hke : k = l.length := by omega
      rw [ptrO_none (List.getElem?_eq_none (by omega))] at hsv
      subst hsv
      have HV : Hid (IO wr w.heap.size u3 (l.map Sy.tok)) := by
        have := HOV.out
        rw [hke, List.take_length] at this
        exact this
      clear HOV
      go_wp2
      go_ret
      exact ⟨_, rfl, HV.out, HB.out⟩

end Go.Proofs.Ytdggkcohidijcaa
