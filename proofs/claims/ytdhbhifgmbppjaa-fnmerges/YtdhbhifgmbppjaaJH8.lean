/- Which joint merges first; two that change places. -/
import Derived.Test.YtdhbhifgmbppjaaH8Mem
import Derived.Test.YtdhbhifgmbppjaaVcOk
import Derived.Test.YtdhbhifgmbppjaaJRg
import Derived.Maps.AppendAt
namespace Go.Proofs.Ytdhbhifgmbppjaa
open Go.RowKit
set_option linter.unusedVariables false
set_option linter.unusedSimpArgs false

set_option maxRecDepth 20000 in
set_option maxHeartbeats 4000000 in
theorem sooner_c (x y : Jt) (w : World) (hx : w.cell? ⟨x.b, 1, none⟩ = some (.int .i64 x.a)) (hy : w.cell? ⟨y.b, 1, none⟩ = some (.int .i64 y.a)) :
    Calls Try.prog 40 #[.agg #[.int .i64 x.r, .pointer (some ⟨x.b, 0, none⟩)], .agg #[.int .i64 y.r, .pointer (some ⟨y.b, 0, none⟩)]] w fun e w' => e = .returned (.bool (decide (ltJ x y))) ∧ Below w.heap.size w w' := by
  obtain ⟨W1, hW1⟩ : ∃ W, W = (w.alloc (.cells #[.int .i64 x.r, .pointer (some ⟨x.b, 0, none⟩)] 73)).alloc (.cells #[.int .i64 y.r, .pointer (some ⟨y.b, 0, none⟩)] 73) := ⟨_, rfl⟩
  have HW1 : Hid ((w.alloc (.cells #[.int .i64 x.r, .pointer (some ⟨x.b, 0, none⟩)] 73)).alloc (.cells #[.int .i64 y.r, .pointer (some ⟨y.b, 0, none⟩)] 73) = W1) := hW1.symm
  have HB : Below w.heap.size w W1 := by rw [hW1]; exact ((Below.refl _ _).alloc (Nat.le_refl _) _).alloc (by simp) _
  have HBH : Hid (Below w.heap.size w W1) := HB
  have e0 : W1.cell? ⟨x.b, 1, none⟩ = some (.int .i64 x.a) := by rw [HB.cell (by exact World.block_lt_of_cell? w _ hx)]; exact hx
  have e1 : W1.cell? ⟨y.b, 1, none⟩ = some (.int .i64 y.a) := by rw [HB.cell (by exact World.block_lt_of_cell? w _ hy)]; exact hy
  obtain ⟨d0, d1⟩ := box2 (show W1.heap[w.heap.size]? = some (.cells #[.int .i64 x.r, .pointer (some ⟨x.b, 0, none⟩)] 73) by rw [hW1, Below.heap_alloc _ _ _ (by simp)]; exact alloc_last _ _)
  obtain ⟨d2, d3⟩ := box2 (show W1.heap[w.heap.size + 1]? = some (.cells #[.int .i64 y.r, .pointer (some ⟨y.b, 0, none⟩)] 73) by
    rw [hW1]
    have := alloc_last (w.alloc (.cells #[.int .i64 x.r, .pointer (some ⟨x.b, 0, none⟩)] 73)) (.cells #[.int .i64 y.r, .pointer (some ⟨y.b, 0, none⟩)] 73)
    rw [World.size_alloc] at this
    exact this)
  clear hW1 hx hy HB
  by_cases g0 : x.r < y.r
  · have HF : Hid (ltJ x y) := .inl g0
    go_enter Try.func40, Try.ntmps40
    go_upto_region 1 with fail
    rw [HW1.out]
    refine wp_region_told (fun W => Below W1.heap.size W1 W) (by kernel_rfl) (by kernel_rfl) ((Below.refl W1.heap.size W1).drew) ?_
    refine told_pure (some 5) (.pointer (some ⟨w.heap.size, 0, none⟩)) rfl (by kernel_rfl) (fun _ => by kernel_rfl) ?_
    refine told_load (some 6) ⟨w.heap.size, 0, none⟩ (.int .i64 x.r) rfl (by kernel_rfl) (fun _ => by kernel_rfl) (fun _ hS => atB hS d0) ?_
    refine told_pure (some 7) (.pointer (some ⟨w.heap.size + 1, 0, none⟩)) rfl (by kernel_rfl) (fun _ => by kernel_rfl) ?_
    refine told_load (some 8) ⟨w.heap.size + 1, 0, none⟩ (.int .i64 y.r) rfl (by kernel_rfl) (fun _ => by kernel_rfl) (fun _ hS => atB hS d2) ?_
    refine told_is (some 9) (.bool (decide (x.r < y.r))) (.bool true) (by rw [decide_eq_true g0]) rfl (by kernel_rfl) (fun _ => by kernel_rfl) ?_
    refine told_pure (some 10) (.bool true) rfl (by kernel_rfl) (fun _ => by kernel_rfl) ?_
    refine told_skip (some 11) rfl (by kernel_rfl) ?_
    refine told_skip (some 12) rfl (by kernel_rfl) ?_
    refine told_skip (some 13) rfl (by kernel_rfl) ?_
    refine told_skip (some 14) rfl (by kernel_rfl) ?_
    refine told_skip (some 15) rfl (by kernel_rfl) ?_
    refine told_skip (some 16) rfl (by kernel_rfl) ?_
    refine told_skip (some 17) rfl (by kernel_rfl) ?_
    refine told_skip (some 18) rfl (by kernel_rfl) ?_
    refine told_skip (some 19) rfl (by kernel_rfl) ?_
    refine told_skip (some 20) rfl (by kernel_rfl) ?_
    refine told_skip (some 21) rfl (by kernel_rfl) ?_
    refine told_skip (some 22) rfl (by kernel_rfl) ?_
    refine told_skip (some 23) rfl (by kernel_rfl) ?_
    refine told_skip (some 24) rfl (by kernel_rfl) ?_
    refine told_skip (some 25) rfl (by kernel_rfl) ?_
    refine told_skip (some 26) rfl (by kernel_rfl) ?_
    refine told_skip (some 27) rfl (by kernel_rfl) ?_
    refine told_skip (some 28) rfl (by kernel_rfl) ?_
    refine told_pure (some 29) (.bool true) rfl (by kernel_rfl) (fun _ => by kernel_rfl) ?_
    refine told_pure (some 4) (.bool true) rfl (by kernel_rfl) (fun _ => by kernel_rfl) ?_
    refine told_nil ?_
    intro W2 hS2
    simp only [Act.put, List.setIfInBounds_toArray, List.set_cons_zero, List.set_cons_succ]
    have HB2 : Hid (Below w.heap.size w W2) := HBH.out.trans (Below.mono hS2 HBH.out.size)
    clear hS2 d0 d1 d2 d3 e0 e1
    go_wp2
    go_ret
    exact ⟨retV_t HF.out, HB2.out⟩
  · by_cases g1' : x.r = y.r
    · have g1 : (x.r == y.r) = true := by simp [g1']
      by_cases g2 : x.a < y.a
      · have HF : Hid (ltJ x y) := .inr ⟨g1', g2⟩
        clear g1'
        go_enter Try.func40, Try.ntmps40
        go_upto_region 1 with fail
        rw [HW1.out]
        refine wp_region_told (fun W => Below W1.heap.size W1 W) (by kernel_rfl) (by kernel_rfl) ((Below.refl W1.heap.size W1).drew) ?_
        refine told_pure (some 5) (.pointer (some ⟨w.heap.size, 0, none⟩)) rfl (by kernel_rfl) (fun _ => by kernel_rfl) ?_
        refine told_load (some 6) ⟨w.heap.size, 0, none⟩ (.int .i64 x.r) rfl (by kernel_rfl) (fun _ => by kernel_rfl) (fun _ hS => atB hS d0) ?_
        refine told_pure (some 7) (.pointer (some ⟨w.heap.size + 1, 0, none⟩)) rfl (by kernel_rfl) (fun _ => by kernel_rfl) ?_
        refine told_load (some 8) ⟨w.heap.size + 1, 0, none⟩ (.int .i64 y.r) rfl (by kernel_rfl) (fun _ => by kernel_rfl) (fun _ hS => atB hS d2) ?_
        refine told_is (some 9) (.bool (decide (x.r < y.r))) (.bool false) (by rw [decide_eq_false g0]) rfl (by kernel_rfl) (fun _ => by kernel_rfl) ?_
        refine told_pure (some 10) (.bool false) rfl (by kernel_rfl) (fun _ => by kernel_rfl) ?_
        refine told_pure (some 11) (.pointer (some ⟨w.heap.size, 0, none⟩)) rfl (by kernel_rfl) (fun _ => by kernel_rfl) ?_
        refine told_load (some 12) ⟨w.heap.size, 0, none⟩ (.int .i64 x.r) rfl (by kernel_rfl) (fun _ => by kernel_rfl) (fun _ hS => atB hS d0) ?_
        refine told_pure (some 13) (.pointer (some ⟨w.heap.size + 1, 0, none⟩)) rfl (by kernel_rfl) (fun _ => by kernel_rfl) ?_
        refine told_load (some 14) ⟨w.heap.size + 1, 0, none⟩ (.int .i64 y.r) rfl (by kernel_rfl) (fun _ => by kernel_rfl) (fun _ hS => atB hS d2) ?_
        refine told_is (some 15) (.bool (x.r == y.r)) (.bool true) (by rw [g1]) rfl (by kernel_rfl) (fun _ => by kernel_rfl) ?_
        refine told_pure (some 16) (.bool true) rfl (by kernel_rfl) (fun _ => by kernel_rfl) ?_
        refine told_pure (some 17) (.pointer (some ⟨w.heap.size, 1, none⟩)) rfl (by kernel_rfl) (fun _ => by kernel_rfl) ?_
        refine told_load (some 18) ⟨w.heap.size, 1, none⟩ (.pointer (some ⟨x.b, 0, none⟩)) rfl (by kernel_rfl) (fun _ => by kernel_rfl) (fun _ hS => atB hS d1) ?_
        refine told_pure (some 19) (.pointer (some ⟨x.b, 0, none⟩)) rfl (by kernel_rfl) (fun _ => by kernel_rfl) ?_
        refine told_pure (some 20) (.pointer (some ⟨x.b, 1, none⟩)) rfl (by kernel_rfl) (fun _ => by kernel_rfl) ?_
        refine told_load (some 21) ⟨x.b, 1, none⟩ (.int .i64 x.a) rfl (by kernel_rfl) (fun _ => by kernel_rfl) (fun _ hS => atB hS e0) ?_
        refine told_pure (some 22) (.pointer (some ⟨w.heap.size + 1, 1, none⟩)) rfl (by kernel_rfl) (fun _ => by kernel_rfl) ?_
        refine told_load (some 23) ⟨w.heap.size + 1, 1, none⟩ (.pointer (some ⟨y.b, 0, none⟩)) rfl (by kernel_rfl) (fun _ => by kernel_rfl) (fun _ hS => atB hS d3) ?_
        refine told_pure (some 24) (.pointer (some ⟨y.b, 0, none⟩)) rfl (by kernel_rfl) (fun _ => by kernel_rfl) ?_
        refine told_pure (some 25) (.pointer (some ⟨y.b, 1, none⟩)) rfl (by kernel_rfl) (fun _ => by kernel_rfl) ?_
        refine told_load (some 26) ⟨y.b, 1, none⟩ (.int .i64 y.a) rfl (by kernel_rfl) (fun _ => by kernel_rfl) (fun _ hS => atB hS e1) ?_
        refine told_is (some 27) (.bool (decide (x.a < y.a))) (.bool true) (by rw [decide_eq_true g2]) rfl (by kernel_rfl) (fun _ => by kernel_rfl) ?_
        refine told_pure (some 28) (.bool true) rfl (by kernel_rfl) (fun _ => by kernel_rfl) ?_
        refine told_pure (some 29) (.bool true) rfl (by kernel_rfl) (fun _ => by kernel_rfl) ?_
        refine told_pure (some 4) (.bool true) rfl (by kernel_rfl) (fun _ => by kernel_rfl) ?_
        refine told_nil ?_
        intro W2 hS2
        simp only [Act.put, List.setIfInBounds_toArray, List.set_cons_zero, List.set_cons_succ]
        have HB2 : Hid (Below w.heap.size w W2) := HBH.out.trans (Below.mono hS2 HBH.out.size)
        clear hS2 d0 d1 d2 d3 e0 e1
        go_wp2
        go_ret
        exact ⟨retV_t HF.out, HB2.out⟩
      · have HF : Hid (¬ ltJ x y) := fun h => h.elim g0 fun h => g2 h.2
        clear g1'
        go_enter Try.func40, Try.ntmps40
        go_upto_region 1 with fail
        rw [HW1.out]
        refine wp_region_told (fun W => Below W1.heap.size W1 W) (by kernel_rfl) (by kernel_rfl) ((Below.refl W1.heap.size W1).drew) ?_
        refine told_pure (some 5) (.pointer (some ⟨w.heap.size, 0, none⟩)) rfl (by kernel_rfl) (fun _ => by kernel_rfl) ?_
        refine told_load (some 6) ⟨w.heap.size, 0, none⟩ (.int .i64 x.r) rfl (by kernel_rfl) (fun _ => by kernel_rfl) (fun _ hS => atB hS d0) ?_
        refine told_pure (some 7) (.pointer (some ⟨w.heap.size + 1, 0, none⟩)) rfl (by kernel_rfl) (fun _ => by kernel_rfl) ?_
        refine told_load (some 8) ⟨w.heap.size + 1, 0, none⟩ (.int .i64 y.r) rfl (by kernel_rfl) (fun _ => by kernel_rfl) (fun _ hS => atB hS d2) ?_
        refine told_is (some 9) (.bool (decide (x.r < y.r))) (.bool false) (by rw [decide_eq_false g0]) rfl (by kernel_rfl) (fun _ => by kernel_rfl) ?_
        refine told_pure (some 10) (.bool false) rfl (by kernel_rfl) (fun _ => by kernel_rfl) ?_
        refine told_pure (some 11) (.pointer (some ⟨w.heap.size, 0, none⟩)) rfl (by kernel_rfl) (fun _ => by kernel_rfl) ?_
        refine told_load (some 12) ⟨w.heap.size, 0, none⟩ (.int .i64 x.r) rfl (by kernel_rfl) (fun _ => by kernel_rfl) (fun _ hS => atB hS d0) ?_
        refine told_pure (some 13) (.pointer (some ⟨w.heap.size + 1, 0, none⟩)) rfl (by kernel_rfl) (fun _ => by kernel_rfl) ?_
        refine told_load (some 14) ⟨w.heap.size + 1, 0, none⟩ (.int .i64 y.r) rfl (by kernel_rfl) (fun _ => by kernel_rfl) (fun _ hS => atB hS d2) ?_
        refine told_is (some 15) (.bool (x.r == y.r)) (.bool true) (by rw [g1]) rfl (by kernel_rfl) (fun _ => by kernel_rfl) ?_
        refine told_pure (some 16) (.bool true) rfl (by kernel_rfl) (fun _ => by kernel_rfl) ?_
        refine told_pure (some 17) (.pointer (some ⟨w.heap.size, 1, none⟩)) rfl (by kernel_rfl) (fun _ => by kernel_rfl) ?_
        refine told_load (some 18) ⟨w.heap.size, 1, none⟩ (.pointer (some ⟨x.b, 0, none⟩)) rfl (by kernel_rfl) (fun _ => by kernel_rfl) (fun _ hS => atB hS d1) ?_
        refine told_pure (some 19) (.pointer (some ⟨x.b, 0, none⟩)) rfl (by kernel_rfl) (fun _ => by kernel_rfl) ?_
        refine told_pure (some 20) (.pointer (some ⟨x.b, 1, none⟩)) rfl (by kernel_rfl) (fun _ => by kernel_rfl) ?_
        refine told_load (some 21) ⟨x.b, 1, none⟩ (.int .i64 x.a) rfl (by kernel_rfl) (fun _ => by kernel_rfl) (fun _ hS => atB hS e0) ?_
        refine told_pure (some 22) (.pointer (some ⟨w.heap.size + 1, 1, none⟩)) rfl (by kernel_rfl) (fun _ => by kernel_rfl) ?_
        refine told_load (some 23) ⟨w.heap.size + 1, 1, none⟩ (.pointer (some ⟨y.b, 0, none⟩)) rfl (by kernel_rfl) (fun _ => by kernel_rfl) (fun _ hS => atB hS d3) ?_
        refine told_pure (some 24) (.pointer (some ⟨y.b, 0, none⟩)) rfl (by kernel_rfl) (fun _ => by kernel_rfl) ?_
        refine told_pure (some 25) (.pointer (some ⟨y.b, 1, none⟩)) rfl (by kernel_rfl) (fun _ => by kernel_rfl) ?_
        refine told_load (some 26) ⟨y.b, 1, none⟩ (.int .i64 y.a) rfl (by kernel_rfl) (fun _ => by kernel_rfl) (fun _ hS => atB hS e1) ?_
        refine told_is (some 27) (.bool (decide (x.a < y.a))) (.bool false) (by rw [decide_eq_false g2]) rfl (by kernel_rfl) (fun _ => by kernel_rfl) ?_
        refine told_pure (some 28) (.bool false) rfl (by kernel_rfl) (fun _ => by kernel_rfl) ?_
        refine told_pure (some 29) (.bool false) rfl (by kernel_rfl) (fun _ => by kernel_rfl) ?_
        refine told_pure (some 4) (.bool false) rfl (by kernel_rfl) (fun _ => by kernel_rfl) ?_
        refine told_nil ?_
        intro W2 hS2
        simp only [Act.put, List.setIfInBounds_toArray, List.set_cons_zero, List.set_cons_succ]
        have HB2 : Hid (Below w.heap.size w W2) := HBH.out.trans (Below.mono hS2 HBH.out.size)
        clear hS2 d0 d1 d2 d3 e0 e1
        go_wp2
        go_ret
        exact ⟨retV_f HF.out, HB2.out⟩
    · have g1 : (x.r == y.r) = false := by simp [g1']
      have HF : Hid (¬ ltJ x y) := fun h => h.elim g0 fun h => g1' h.1
      clear g1'
      go_enter Try.func40, Try.ntmps40
      go_upto_region 1 with fail
      rw [HW1.out]
      refine wp_region_told (fun W => Below W1.heap.size W1 W) (by kernel_rfl) (by kernel_rfl) ((Below.refl W1.heap.size W1).drew) ?_
      refine told_pure (some 5) (.pointer (some ⟨w.heap.size, 0, none⟩)) rfl (by kernel_rfl) (fun _ => by kernel_rfl) ?_
      refine told_load (some 6) ⟨w.heap.size, 0, none⟩ (.int .i64 x.r) rfl (by kernel_rfl) (fun _ => by kernel_rfl) (fun _ hS => atB hS d0) ?_
      refine told_pure (some 7) (.pointer (some ⟨w.heap.size + 1, 0, none⟩)) rfl (by kernel_rfl) (fun _ => by kernel_rfl) ?_
      refine told_load (some 8) ⟨w.heap.size + 1, 0, none⟩ (.int .i64 y.r) rfl (by kernel_rfl) (fun _ => by kernel_rfl) (fun _ hS => atB hS d2) ?_
      refine told_is (some 9) (.bool (decide (x.r < y.r))) (.bool false) (by rw [decide_eq_false g0]) rfl (by kernel_rfl) (fun _ => by kernel_rfl) ?_
      refine told_pure (some 10) (.bool false) rfl (by kernel_rfl) (fun _ => by kernel_rfl) ?_
      refine told_pure (some 11) (.pointer (some ⟨w.heap.size, 0, none⟩)) rfl (by kernel_rfl) (fun _ => by kernel_rfl) ?_
      refine told_load (some 12) ⟨w.heap.size, 0, none⟩ (.int .i64 x.r) rfl (by kernel_rfl) (fun _ => by kernel_rfl) (fun _ hS => atB hS d0) ?_
      refine told_pure (some 13) (.pointer (some ⟨w.heap.size + 1, 0, none⟩)) rfl (by kernel_rfl) (fun _ => by kernel_rfl) ?_
      refine told_load (some 14) ⟨w.heap.size + 1, 0, none⟩ (.int .i64 y.r) rfl (by kernel_rfl) (fun _ => by kernel_rfl) (fun _ hS => atB hS d2) ?_
      refine told_is (some 15) (.bool (x.r == y.r)) (.bool false) (by rw [g1]) rfl (by kernel_rfl) (fun _ => by kernel_rfl) ?_
      refine told_pure (some 16) (.bool false) rfl (by kernel_rfl) (fun _ => by kernel_rfl) ?_
      refine told_skip (some 17) rfl (by kernel_rfl) ?_
      refine told_skip (some 18) rfl (by kernel_rfl) ?_
      refine told_skip (some 19) rfl (by kernel_rfl) ?_
      refine told_skip (some 20) rfl (by kernel_rfl) ?_
      refine told_skip (some 21) rfl (by kernel_rfl) ?_
      refine told_skip (some 22) rfl (by kernel_rfl) ?_
      refine told_skip (some 23) rfl (by kernel_rfl) ?_
      refine told_skip (some 24) rfl (by kernel_rfl) ?_
      refine told_skip (some 25) rfl (by kernel_rfl) ?_
      refine told_skip (some 26) rfl (by kernel_rfl) ?_
      refine told_skip (some 27) rfl (by kernel_rfl) ?_
      refine told_pure (some 28) (.bool false) rfl (by kernel_rfl) (fun _ => by kernel_rfl) ?_
      refine told_pure (some 29) (.bool false) rfl (by kernel_rfl) (fun _ => by kernel_rfl) ?_
      refine told_pure (some 4) (.bool false) rfl (by kernel_rfl) (fun _ => by kernel_rfl) ?_
      refine told_nil ?_
      intro W2 hS2
      simp only [Act.put, List.setIfInBounds_toArray, List.set_cons_zero, List.set_cons_succ]
      have HB2 : Hid (Below w.heap.size w W2) := HBH.out.trans (Below.mono hS2 HBH.out.size)
      clear hS2 d0 d1 d2 d3 e0 e1
      go_wp2
      go_ret
      exact ⟨retV_f HF.out, HB2.out⟩

set_option maxRecDepth 20000 in
set_option maxHeartbeats 4000000 in
theorem swap_c (X : List Jt) (i k : Nat) (x y : Jt) (w : World) (R B : Nat) (mv fv : Value) (p : Option Addr) (n c : Nat) (hn : n ≤ 4000) (hx : X[i]? = some x) (hy : X[k]? = some y) (S : HqS w R B mv fv X p n c) :
    Calls Try.prog 58 #[.pointer (some ⟨R, 2, none⟩), .int .i64 i, .int .i64 k] w fun e w' => e = .returned (.tuple #[]) ∧ HqS w' R B mv fv ((X.set i y).set k x) p n c ∧ Fr8 R (.slice p n c) w w' := by
  have HS : Hid (HqS w R B mv fv X p n c) := S
  have hiX : i < X.length := (List.getElem?_eq_some_iff.1 hx).1
  have hjX : k < X.length := (List.getElem?_eq_some_iff.1 hy).1
  have hin : i < n := by rw [← S.len]; exact hiX
  have hjn : k < n := by rw [← S.len]; exact hjX
  obtain ⟨g, rfl, hgw, hBg, hnc, hgR, hcl⟩ := S.items (by omega)
  have hin' : (i : Int) < n := by omega
  have hjn' : (k : Int) < n := by omega
  have HO0 : Hid (w.drew.ownsRow B 73 2 (.slice (some ⟨g, 0, none⟩) n c) n (rJ X)) := own_bel S.own (Below.refl _ _).drew (Nat.le_refl _)
  have SD := S.bel (w' := w.drew) (Below.refl _ _).drew
  have hsl := SD.cells.2.2.2
  have hcx : ∀ j u, ([.int .i64 x.r, .pointer (some ⟨x.b, 0, none⟩)] : List Value)[j]? = some u → w.drew.cell? ((⟨g, i * 2, none⟩ : Addr).add j) = some u := hcl i x hx
  have hcy : ∀ j u, ([.int .i64 y.r, .pointer (some ⟨y.b, 0, none⟩)] : List Value)[j]? = some u → w.drew.cell? ((⟨g, k * 2, none⟩ : Addr).add j) = some u := hcl k y hy
  have HXY : Hid (X[i]? = some x ∧ X[k]? = some y) := ⟨hx, hy⟩
  clear S SD hcl hx hy
  go_enter Try.func58, Try.ntmps58
  go_upto_region 0 with fail
  refine wp_region_L [⟨25, fun W => W.cell? ⟨R, 3, none⟩ = some (.slice (some ⟨g, 0, none⟩) n c)⟩, ⟨25, fun W => W.cell? ⟨R, 3, none⟩ = some (.slice (some ⟨g, 0, none⟩) n c)⟩, ⟨25, fun W => W.cell? ⟨R, 3, none⟩ = some (.slice (some ⟨g, 0, none⟩) n c)⟩, ⟨25, fun W => ∀ j u, ([.int .i64 y.r, .pointer (some ⟨y.b, 0, none⟩)] : List Value)[j]? = some u → W.cell? ((⟨g, k * 2, none⟩ : Addr).add j) = some u⟩, ⟨25, fun W => W.cell? ⟨R, 3, none⟩ = some (.slice (some ⟨g, 0, none⟩) n c)⟩, ⟨25, fun W => ∀ j u, ([.int .i64 x.r, .pointer (some ⟨x.b, 0, none⟩)] : List Value)[j]? = some u → W.cell? ((⟨g, i * 2, none⟩ : Addr).add j) = some u⟩] (by kernel_rfl) (fun f hf => by
      simp only [List.mem_cons, List.not_mem_nil, or_false] at hf
      rcases hf with rfl | rfl | rfl | rfl | rfl | rfl
      · exact hsl
      · exact hsl
      · exact hsl
      · exact hcy
      · exact hsl
      · exact hcx
      ) ?_
  refine At.take 0 (some 6) (.pointer (some ⟨R, 2, none⟩)) rfl rfl (by kernel_rfl) (by kernel_rfl) (by kernel_rfl) (by kernel_rfl) (fun _ _ _ h => h) (yl_pure (by kernel_rfl) (fun _ => by kernel_rfl)) ?_
  refine At.take 1 (some 7) (.pointer (some ⟨R, 2, none⟩)) rfl rfl (by kernel_rfl) (by kernel_rfl) (by kernel_rfl) (by kernel_rfl) (fun _ _ _ h => h) (yl_pure (by kernel_rfl) (fun _ => by kernel_rfl)) ?_
  refine At.take 2 (some 8) (.pointer (some ⟨R, 3, none⟩)) rfl rfl (by kernel_rfl) (by kernel_rfl) (by kernel_rfl) (by kernel_rfl) (fun _ _ _ h => h) (yl_pure (by kernel_rfl) (fun _ => by kernel_rfl)) ?_
  refine At.take 3 (some 9) (.slice (some ⟨g, 0, none⟩) n c) rfl rfl (by kernel_rfl) (by kernel_rfl) (by kernel_rfl) (by kernel_rfl) (fun _ _ _ h => h) (yl_load 25 ⟨R, 3, none⟩ (.slice (some ⟨g, 0, none⟩) n c) (List.mem_cons_self) [24, 25] (by kernel_rfl) rfl (by kernel_rfl) (fun _ => by kernel_rfl)) ?_
  refine At.take 4 (some 10) (.int .i64 (i : Int)) rfl rfl (by kernel_rfl) (by kernel_rfl) (by kernel_rfl) (by kernel_rfl) (fun _ _ _ h => h) (yl_pure (by kernel_rfl) (fun _ => by kernel_rfl)) ?_
  refine At.take 5 (some 11) (.pointer (some ⟨R, 2, none⟩)) rfl rfl (by kernel_rfl) (by kernel_rfl) (by kernel_rfl) (by kernel_rfl) (fun _ _ _ h => h) (yl_pure (by kernel_rfl) (fun _ => by kernel_rfl)) ?_
  refine At.take 6 (some 12) (.pointer (some ⟨R, 2, none⟩)) rfl rfl (by kernel_rfl) (by kernel_rfl) (by kernel_rfl) (by kernel_rfl) (fun _ _ _ h => h) (yl_pure (by kernel_rfl) (fun _ => by kernel_rfl)) ?_
  refine At.take 7 (some 13) (.pointer (some ⟨R, 3, none⟩)) rfl rfl (by kernel_rfl) (by kernel_rfl) (by kernel_rfl) (by kernel_rfl) (fun _ _ _ h => h) (yl_pure (by kernel_rfl) (fun _ => by kernel_rfl)) ?_
  refine At.take 8 (some 14) (.slice (some ⟨g, 0, none⟩) n c) rfl rfl (by kernel_rfl) (by kernel_rfl) (by kernel_rfl) (by kernel_rfl) (fun _ _ _ h => h) (yl_load 25 ⟨R, 3, none⟩ (.slice (some ⟨g, 0, none⟩) n c) (List.mem_cons_of_mem _ (List.mem_cons_self)) [24, 25] (by kernel_rfl) rfl (by kernel_rfl) (fun _ => by kernel_rfl)) ?_
  refine At.take 9 (some 15) (.int .i64 (k : Int)) rfl rfl (by kernel_rfl) (by kernel_rfl) (by kernel_rfl) (by kernel_rfl) (fun _ _ _ h => h) (yl_pure (by kernel_rfl) (fun _ => by kernel_rfl)) ?_
  refine At.take 10 (some 16) (.pointer (some ⟨R, 2, none⟩)) rfl rfl (by kernel_rfl) (by kernel_rfl) (by kernel_rfl) (by kernel_rfl) (fun _ _ _ h => h) (yl_pure (by kernel_rfl) (fun _ => by kernel_rfl)) ?_
  refine At.take 11 (some 17) (.pointer (some ⟨R, 2, none⟩)) rfl rfl (by kernel_rfl) (by kernel_rfl) (by kernel_rfl) (by kernel_rfl) (fun _ _ _ h => h) (yl_pure (by kernel_rfl) (fun _ => by kernel_rfl)) ?_
  refine At.take 12 (some 18) (.pointer (some ⟨R, 3, none⟩)) rfl rfl (by kernel_rfl) (by kernel_rfl) (by kernel_rfl) (by kernel_rfl) (fun _ _ _ h => h) (yl_pure (by kernel_rfl) (fun _ => by kernel_rfl)) ?_
  refine At.take 13 (some 19) (.slice (some ⟨g, 0, none⟩) n c) rfl rfl (by kernel_rfl) (by kernel_rfl) (by kernel_rfl) (by kernel_rfl) (fun _ _ _ h => h) (yl_load 25 ⟨R, 3, none⟩ (.slice (some ⟨g, 0, none⟩) n c) (List.mem_cons_of_mem _ (List.mem_cons_of_mem _ (List.mem_cons_self))) [15, 16, 24, 25] (by kernel_rfl) rfl (by kernel_rfl) (fun _ => by kernel_rfl)) ?_
  refine At.take 14 (some 20) (.int .i64 (k : Int)) rfl rfl (by kernel_rfl) (by kernel_rfl) (by kernel_rfl) (by kernel_rfl) (fun _ _ _ h => h) (yl_pure (by kernel_rfl) (fun _ => by kernel_rfl)) ?_
  refine At.take 15 (some 21) (.pointer (some ⟨g, k * 2, none⟩)) rfl rfl (by kernel_rfl) (by kernel_rfl) (by kernel_rfl) (by kernel_rfl) (fun _ _ _ h => h) (yl_pure (by kernel_rfl) (fun w => by go_simp)) ?_
  refine At.take 16 (some 22) (.agg #[.int .i64 y.r, .pointer (some ⟨y.b, 0, none⟩)]) rfl rfl (by kernel_rfl) (by kernel_rfl) (by kernel_rfl) (by kernel_rfl) (fun _ _ _ h => h) (yl_loads 25 ⟨g, k * 2, none⟩ [.int .i64 y.r, .pointer (some ⟨y.b, 0, none⟩)] (List.mem_cons_of_mem _ (List.mem_cons_of_mem _ (List.mem_cons_of_mem _ (List.mem_cons_self)))) [24, 25] (by kernel_rfl) rfl (by kernel_rfl) (fun _ => by kernel_rfl)) ?_
  refine At.take 17 (some 23) (.pointer (some ⟨R, 2, none⟩)) rfl rfl (by kernel_rfl) (by kernel_rfl) (by kernel_rfl) (by kernel_rfl) (fun _ _ _ h => h) (yl_pure (by kernel_rfl) (fun _ => by kernel_rfl)) ?_
  refine At.take 18 (some 24) (.pointer (some ⟨R, 2, none⟩)) rfl rfl (by kernel_rfl) (by kernel_rfl) (by kernel_rfl) (by kernel_rfl) (fun _ _ _ h => h) (yl_pure (by kernel_rfl) (fun _ => by kernel_rfl)) ?_
  refine At.take 19 (some 25) (.pointer (some ⟨R, 3, none⟩)) rfl rfl (by kernel_rfl) (by kernel_rfl) (by kernel_rfl) (by kernel_rfl) (fun _ _ _ h => h) (yl_pure (by kernel_rfl) (fun _ => by kernel_rfl)) ?_
  refine At.take 20 (some 26) (.slice (some ⟨g, 0, none⟩) n c) rfl rfl (by kernel_rfl) (by kernel_rfl) (by kernel_rfl) (by kernel_rfl) (fun _ _ _ h => h) (yl_load 25 ⟨R, 3, none⟩ (.slice (some ⟨g, 0, none⟩) n c) (List.mem_cons_of_mem _ (List.mem_cons_of_mem _ (List.mem_cons_of_mem _ (List.mem_cons_of_mem _ (List.mem_cons_self))))) [22, 23, 24, 25] (by kernel_rfl) rfl (by kernel_rfl) (fun _ => by kernel_rfl)) ?_
  refine At.take 21 (some 27) (.int .i64 (i : Int)) rfl rfl (by kernel_rfl) (by kernel_rfl) (by kernel_rfl) (by kernel_rfl) (fun _ _ _ h => h) (yl_pure (by kernel_rfl) (fun _ => by kernel_rfl)) ?_
  refine At.take 22 (some 28) (.pointer (some ⟨g, i * 2, none⟩)) rfl rfl (by kernel_rfl) (by kernel_rfl) (by kernel_rfl) (by kernel_rfl) (fun _ _ _ h => h) (yl_pure (by kernel_rfl) (fun w => by go_simp)) ?_
  refine At.take 23 (some 29) (.agg #[.int .i64 x.r, .pointer (some ⟨x.b, 0, none⟩)]) rfl rfl (by kernel_rfl) (by kernel_rfl) (by kernel_rfl) (by kernel_rfl) (fun _ _ _ h => h) (yl_loads 25 ⟨g, i * 2, none⟩ [.int .i64 x.r, .pointer (some ⟨x.b, 0, none⟩)] (List.mem_cons_of_mem _ (List.mem_cons_of_mem _ (List.mem_cons_of_mem _ (List.mem_cons_of_mem _ (List.mem_cons_of_mem _ (List.mem_cons_self)))))) [24, 25] (by kernel_rfl) rfl (by kernel_rfl) (fun _ => by kernel_rfl)) ?_
  refine At.take 24 (some 30) (.pointer (some ⟨g, i * 2, none⟩)) rfl rfl (by kernel_rfl) (by kernel_rfl) (by kernel_rfl) (by kernel_rfl) (fun _ _ _ h => h) (yl_pure (by kernel_rfl) (fun w => by go_simp)) ?_
  refine At.step 25 none rfl rfl (by kernel_rfl) (by kernel_rfl) (fun u W => u = undef ∧ W = w.drew.setCells g (i * 2) (cJ y)) (gives_storesO (b := g) (off := i * 2) (cs := cJ y) (fun _ => by kernel_rfl) (cJ_one y) (own_there HO0.out (i * 2) 2 (by omega))) ?_
  rintro u WA ⟨rfl, hWA⟩
  have HO1 : Hid (WA.ownsRow B 73 2 (.slice (some ⟨g, 0, none⟩) n c) n (rJ (X.set i y))) := by rw [hWA]; exact own_two HO0.out hiX
  refine ⟨held_cons (.inl (by kernel_rfl)) (held_cons (.inl (by kernel_rfl)) (held_cons (.inl (by kernel_rfl)) (held_cons (.inl (by kernel_rfl)) (held_cons (.inl (by kernel_rfl)) (held_cons (.inl (by kernel_rfl)) (held_nil)))))), ?_⟩
  refine At.take 26 (some 31) (.pointer (some ⟨g, k * 2, none⟩)) rfl rfl (by kernel_rfl) (by kernel_rfl) (by kernel_rfl) (by kernel_rfl) (fun _ _ _ h => h) (yl_pure (by kernel_rfl) (fun w => by go_simp)) ?_
  refine At.step 27 none rfl rfl (by kernel_rfl) (by kernel_rfl) (fun u W => u = undef ∧ W = WA.setCells g (k * 2) (cJ x)) (gives_storesO (b := g) (off := k * 2) (cs := cJ x) (fun _ => by kernel_rfl) (cJ_one x) (own_there HO1.out (k * 2) 2 (by omega))) ?_
  rintro u WE ⟨rfl, hWE⟩
  refine ⟨held_cons (.inl (by kernel_rfl)) (held_cons (.inl (by kernel_rfl)) (held_cons (.inl (by kernel_rfl)) (held_cons (.inl (by kernel_rfl)) (held_cons (.inl (by kernel_rfl)) (held_cons (.inl (by kernel_rfl)) (held_nil)))))), ?_⟩
  refine At.done (by kernel_rfl) ?_
  simp only [Act.put, List.setIfInBounds_toArray, List.set_cons_zero, List.set_cons_succ]
  have HF : Hid (HqS WE R B mv fv ((X.set i y).set k x) (some ⟨g, 0, none⟩) n c) := by
    have S := HS.out
    have hne : ∀ cs o W b, b ≠ g → (World.setCells W g o cs).heap[b]? = W.heap[b]? := fun cs o W b hk => setCells_block g cs o W b hk
    refine ⟨?_, ?_, by simp [S.len], fun z hz => ?_⟩
    · rw [hWE, hne _ _ _ _ (Ne.symm hgR), hWA, hne _ _ _ _ (Ne.symm hgR)]
      exact S.row
    · rw [hWE]; exact own_two HO1.out (by simpa using hjX)
    · have hz' : z ∈ X := ((swp_set HXY.out.1 HXY.out.2).mem hiX hjX z).1 hz
      obtain ⟨t, p1, p2, hs⟩ := S.ats z hz'
      have hzg : z.b ≠ g := fun e => kind_ne S.own hs (by decide) (by rw [e]; rfl)
      exact ⟨t, p1, p2, by rw [hWE, hne _ _ _ _ hzg, hWA, hne _ _ _ _ hzg]; exact hs⟩
  have HG : Hid (Fr8 R (.slice (some ⟨g, 0, none⟩) n c) w WE) := by rw [hWE, hWA]; exact ((Fr8.of_bel (Below.refl _ _).drew).setCells _ _).setCells _ _
  clear hWE hWA HO1 HO0
  go_wp2
  go_end0
  exact ⟨rfl, HF.out, HG.out⟩

end Go.Proofs.Ytdhbhifgmbppjaa

/- An item that sinks. -/
namespace Go.Proofs.Ytdhbhifgmbppjaa
open Go.RowKit
set_option linter.unusedVariables false
set_option linter.unusedSimpArgs false

theorem hide8 {p : Prop} (h : p) : Hid p := h

set_option maxRecDepth 20000 in
set_option maxHeartbeats 4000000 in
theorem sink_c (X : List Jt) (w : World) (R B : Nat) (mv fv : Value) (p : Option Addr) (n c : Nat) (hn : n ≤ 4000) (S : HqS w R B mv fv X p n c) (hd : DnI X 0) :
    Calls Try.prog 59 #[.pointer (some ⟨R, 2, none⟩)] w fun e w' => e = .returned (.tuple #[]) ∧ ∃ Y, HqS w' R B mv fv Y p n c ∧ HpOk Y ∧ (∀ z, z ∈ Y ↔ z ∈ X) ∧ Fr8 R (.slice p n c) w w' := by
  have HS : Hid (HqS w R B mv fv X p n c) := S
  have HD : Hid (DnI X 0) := hd
  have hn' : (n : Int) ≤ 4000 := by omega
  have hsl0 := S.cells.2.2.2
  clear S hd
  go_enter Try.func59, Try.ntmps59
  go_wp2_with fail
  clear hsl0
  go_loopw [2, 3] (fun av bv wr => ∃ (Y : List Jt) (a b : Nat), av = .int .i64 (a : Int) ∧ bv = .int .i64 (b : Int) ∧ Hid (b = 2 * a + 1) ∧ a ≤ 4000 ∧ Hid (HqS wr R B mv fv Y p n c) ∧ Hid (DnI Y a) ∧ Hid (∀ z, z ∈ Y ↔ z ∈ X) ∧ Hid (Fr8 R (.slice p n c) w wr)) (fun av _ _ => n - (intOf av).toNat)
  case atStart => exact ⟨X, 0, 1, rfl, rfl, hide8 rfl, by omega, HS, HD, fun z => Iff.rfl, Fr8.refl _ _ _⟩
  case round =>
    clear HS HD
    obtain ⟨Y, a, b, rfl, rfl, HB0, ha, S, HD, HM, HF⟩ := hrel
    have hsl := S.out.cells.2.2.2
    have hless := S.out.cells.2.2.1
    by_cases hbn : b < n
    rotate_left
    · have HK : Hid (HpOk Y) := dn_none (c := a) (by have := HB0.out; rw [S.out.len]; omega) HD.out
      have hbn' : ¬ (b : Int) < n := by omega
      clear hbn
      go_wp2
      go_end0
      exact ⟨rfl, Y, S.out, HK.out, HM.out, HF.out⟩
    have hbn' : (b : Int) < n := by omega
    have han : a < n := by have := HB0.out; omega
    have han' : (a : Int) < n := by omega
    obtain ⟨g, rfl, hgw, hBg, hnc, hgR, hcl⟩ := S.out.items (by omega)
    obtain ⟨xa, hxa⟩ : ∃ x, Y[a]? = some x := ⟨_, List.getElem?_eq_getElem (by rw [S.out.len]; exact han)⟩
    obtain ⟨xb, hxb⟩ : ∃ x, Y[b]? = some x := ⟨_, List.getElem?_eq_getElem (by rw [S.out.len]; exact hbn)⟩
    obtain ⟨d, hd⟩ : ∃ d, b + 1 = d := ⟨_, rfl⟩
    have e1 : IntKind.i64.wrap ((b : Int) + 1) = (d : Int) := by rw [IntWalk.i64_in _ (by omega)]; omega
    have hca := hcl a xa hxa
    have hcb := hcl b xb hxb
    have HXa : Hid (Y[a]? = some xa) := hxa
    have HXb : Hid (Y[b]? = some xb) := hxb
    have HBA : Hid (b = 2 * a + 1 ∧ b + 1 = d) := ⟨HB0.out, hd⟩
    clear hd hbn
    have HBN : Hid (b < n) := by show _ < _; omega
    have hma := List.mem_of_getElem? hxa
    have hmb := List.mem_of_getElem? hxb
    clear hxa hxb
    go_upto_region 4 with fail
    by_cases hdn : d < n
    rotate_left
    · have hmin : Hid (∀ i x, 0 < i → (i - 1) / 2 = a → Y[i]? = some x → leJ xb x) := fun i x hi hp hx => by
        have hil := (List.getElem?_eq_some_iff.1 hx).1
        rw [S.out.len] at hil
        have : i = b := by have := HBA.out; omega
        rw [this, HXb.out] at hx
        cases hx
        exact leJ_refl _
      have hdn' : ¬ (d : Int) < n := by omega
      refine wp_region_told (fun W => Below wr.heap.size wr W) (by kernel_rfl) (by kernel_rfl) ((Below.refl wr.heap.size wr).drew) ?_
      refine told_pure (some 14) (.int .i64 (b : Int)) rfl (by kernel_rfl) (fun _ => by kernel_rfl) ?_
      refine told_is (some 15) (.int .i64 (IntKind.i64.wrap ((b : Int) + 1))) (.int .i64 (d : Int)) (by rw [e1]) rfl (by kernel_rfl) (fun _ => by kernel_rfl) ?_
      refine told_pure (some 16) (.pointer (some ⟨R, 2, none⟩)) rfl (by kernel_rfl) (fun _ => by kernel_rfl) ?_
      refine told_pure (some 17) (.pointer (some ⟨R, 2, none⟩)) rfl (by kernel_rfl) (fun _ => by kernel_rfl) ?_
      refine told_pure (some 18) (.pointer (some ⟨R, 3, none⟩)) rfl (by kernel_rfl) (fun _ => by kernel_rfl) ?_
      refine told_load (some 19) ⟨R, 3, none⟩ (.slice (some ⟨g, 0, none⟩) n c) rfl (by kernel_rfl) (fun _ => by kernel_rfl) (fun _ hS => atB hS hsl) ?_
      refine told_pure (some 20) (.int .i64 (n : Int)) rfl (by kernel_rfl) (fun _ => by kernel_rfl) ?_
      refine told_is (some 21) (.bool (decide ((d : Int) < (n : Int)))) (.bool false) (by rw [decide_eq_false hdn']) rfl (by kernel_rfl) (fun _ => by kernel_rfl) ?_
      refine told_pure (some 22) (.bool false) rfl (by kernel_rfl) (fun _ => by kernel_rfl) ?_
      refine told_skip (some 23) rfl (by kernel_rfl) ?_
      refine told_skip (some 24) rfl (by kernel_rfl) ?_
      refine told_skip (some 25) rfl (by kernel_rfl) ?_
      refine told_skip (some 26) rfl (by kernel_rfl) ?_
      refine told_skip (some 27) rfl (by kernel_rfl) ?_
      refine told_skip (some 28) rfl (by kernel_rfl) ?_
      refine told_skip (some 29) rfl (by kernel_rfl) ?_
      refine told_skip (some 30) rfl (by kernel_rfl) ?_
      refine told_skip (some 31) rfl (by kernel_rfl) ?_
      refine told_skip (some 32) rfl (by kernel_rfl) ?_
      refine told_skip (some 33) rfl (by kernel_rfl) ?_
      refine told_skip (some 34) rfl (by kernel_rfl) ?_
      refine told_skip (some 35) rfl (by kernel_rfl) ?_
      refine told_skip (some 36) rfl (by kernel_rfl) ?_
      refine told_skip (some 37) rfl (by kernel_rfl) ?_
      refine told_skip (some 38) rfl (by kernel_rfl) ?_
      refine told_skip (some 39) rfl (by kernel_rfl) ?_
      refine told_skip (some 40) rfl (by kernel_rfl) ?_
      refine told_skip (some 41) rfl (by kernel_rfl) ?_
      refine told_skip (some 42) rfl (by kernel_rfl) ?_
      refine told_pure (some 43) (.bool false) rfl (by kernel_rfl) (fun _ => by kernel_rfl) ?_
      refine told_nil ?_
      intro W2 hS2
      simp only [Act.put, List.setIfInBounds_toArray, List.set_cons_zero, List.set_cons_succ]
      have S2 : Hid (HqS W2 R B mv fv Y (some ⟨g, 0, none⟩) n c) := S.out.bel hS2
      have HF2 : Hid (Fr8 R (.slice (some ⟨g, 0, none⟩) n c) w W2) := HF.out.bel hS2
      have hsl2 := S2.out.cells.2.2.2
      have hless2 := S2.out.cells.2.2.1
      have hca2 := fun j u hj => atB hS2 (hca j u hj)
      have hcm2 := fun j u hj => atB hS2 (hcb j u hj)
      clear hS2
      go_upto_region 6 with fail
      by_cases hlm : ltJ xb xa
      · refine wp_region_told (fun W => Below W2.heap.size W2 W) (by kernel_rfl) (by kernel_rfl) ((Below.refl W2.heap.size W2).drew) ?_
        refine told_pure (some 46) (.pointer (some ⟨R, 2, none⟩)) rfl (by kernel_rfl) (fun _ => by kernel_rfl) ?_
        refine told_pure (some 47) (.pointer (some ⟨R, 2, none⟩)) rfl (by kernel_rfl) (fun _ => by kernel_rfl) ?_
        refine told_pure (some 48) (.pointer (some ⟨R, 2, none⟩)) rfl (by kernel_rfl) (fun _ => by kernel_rfl) ?_
        refine told_load (some 49) ⟨R, 2, none⟩ ((.func (.func 40) #[] #[])) rfl (by kernel_rfl) (fun _ => by kernel_rfl) (fun _ hS => atB hS hless2) ?_
        refine told_pure (some 50) (.pointer (some ⟨R, 2, none⟩)) rfl (by kernel_rfl) (fun _ => by kernel_rfl) ?_
        refine told_pure (some 51) (.pointer (some ⟨R, 2, none⟩)) rfl (by kernel_rfl) (fun _ => by kernel_rfl) ?_
        refine told_pure (some 52) (.pointer (some ⟨R, 3, none⟩)) rfl (by kernel_rfl) (fun _ => by kernel_rfl) ?_
        refine told_load (some 53) ⟨R, 3, none⟩ (.slice (some ⟨g, 0, none⟩) n c) rfl (by kernel_rfl) (fun _ => by kernel_rfl) (fun _ hS => atB hS hsl2) ?_
        refine told_pure (some 54) (.int .i64 (b : Int)) rfl (by kernel_rfl) (fun _ => by kernel_rfl) ?_
        refine told_pure (some 55) (.pointer (some ⟨g, b * 2, none⟩)) rfl (by kernel_rfl) (fun w => by go_simp) ?_
        refine told_loads (some 56) ⟨g, b * 2, none⟩ [.int .i64 xb.r, .pointer (some ⟨xb.b, 0, none⟩)] rfl (by kernel_rfl) (fun _ => by kernel_rfl) (fun W hS j u hj => atB hS (hcm2 j u hj)) ?_
        refine told_pure (some 57) (.pointer (some ⟨R, 2, none⟩)) rfl (by kernel_rfl) (fun _ => by kernel_rfl) ?_
        refine told_pure (some 58) (.pointer (some ⟨R, 2, none⟩)) rfl (by kernel_rfl) (fun _ => by kernel_rfl) ?_
        refine told_pure (some 59) (.pointer (some ⟨R, 3, none⟩)) rfl (by kernel_rfl) (fun _ => by kernel_rfl) ?_
        refine told_load (some 60) ⟨R, 3, none⟩ (.slice (some ⟨g, 0, none⟩) n c) rfl (by kernel_rfl) (fun _ => by kernel_rfl) (fun _ hS => atB hS hsl2) ?_
        refine told_pure (some 61) (.int .i64 (a : Int)) rfl (by kernel_rfl) (fun _ => by kernel_rfl) ?_
        refine told_pure (some 62) (.pointer (some ⟨g, a * 2, none⟩)) rfl (by kernel_rfl) (fun w => by go_simp) ?_
        refine told_loads (some 63) ⟨g, a * 2, none⟩ [.int .i64 xa.r, .pointer (some ⟨xa.b, 0, none⟩)] rfl (by kernel_rfl) (fun _ => by kernel_rfl) (fun W hS j u hj => atB hS (hca2 j u hj)) ?_
        refine told_call (some 64) (.bool true) 40 #[.agg #[.int .i64 xb.r, .pointer (some ⟨xb.b, 0, none⟩)], .agg #[.int .i64 xa.r, .pointer (some ⟨xa.b, 0, none⟩)]] rfl (by kernel_rfl) (fun _ => by kernel_rfl) (fun W hS => below_S ((sooner_c xb xa W (Sym.cell ((S2.out.bel hS).ats _ hmb)) (Sym.cell ((S2.out.bel hS).ats _ hma))).mono fun e w' ⟨he, hb⟩ => ⟨by rw [he, decide_eq_true hlm], hb⟩) hS) ?_
        refine told_pure (some 65) (.bool false) rfl (by kernel_rfl) (fun _ => by kernel_rfl) ?_
        refine told_nil ?_
        intro W3 hS3
        simp only [Act.put, List.setIfInBounds_toArray, List.set_cons_zero, List.set_cons_succ]
        have S3 : Hid (HqS W3 R B mv fv Y (some ⟨g, 0, none⟩) n c) := S2.out.bel hS3
        have HF3 : Hid (Fr8 R (.slice (some ⟨g, 0, none⟩) n c) w W3) := HF2.out.bel hS3
        clear hS3 hsl hless hsl2 hless2 hca hcb hca2 hcm2
        go_wp2_with fail
        refine (swap_c Y a b xa xb W3 R B mv fv _ n c hn HXa.out HXb.out S3.out).mono ?_
        rintro e W4 ⟨rfl, hS4, hf4⟩
        have S4 : Hid (HqS W4 R B mv fv ((Y.set a xb).set b xa) (some ⟨g, 0, none⟩) n c) := hS4
        have HF4 : Hid (Fr8 R (.slice (some ⟨g, 0, none⟩) n c) w W4) := HF3.out.trans (Nxt8.refl _ _) hf4
        have hsw := swp_set HXa.out HXb.out
        have HD4 : Hid (DnI ((Y.set a xb).set b xa) b) := dn_step (by have := HBA.out; omega) (by have := HBA.out; omega) HXa.out HXb.out hlm hmin.out hsw HD.out
        have HM4 : Hid (∀ z, z ∈ (Y.set a xb).set b xa ↔ z ∈ X) := fun z => (hsw.mem (List.getElem?_eq_some_iff.1 HXa.out).1 (List.getElem?_eq_some_iff.1 HXb.out).1 z).trans (HM.out z)
        obtain ⟨m2, hm2⟩ : ∃ m2, 2 * b + 1 = m2 := ⟨_, rfl⟩
        have ew0 : IntKind.i64.wrap (2 * (b : Int)) = 2 * (b : Int) := IntWalk.i64_in _ (by omega)
        have ew1 : IntKind.i64.wrap (2 * (b : Int) + 1) = (m2 : Int) := by rw [IntWalk.i64_in _ (by omega)]; omega
        have HM2 : Hid (m2 = 2 * b + 1) := hm2.symm
        clear hm2
        have hmle : b ≤ 4000 := by omega
        have hma2 : a < b := by have := HBA.out; omega
        have hmn4 : b < n := by have := HBA.out; have := HBN.out; omega
        clear hsw hS4 hf4 hlm
        go_wp2
        go_roundw
        case rel => exact ⟨_, b, m2, rfl, by go_num, HM2, hmle, S4, HD4, HM4, HF4⟩
        case measure => simp [intOf] <;> omega
      · have HK : Hid (HpOk Y) := dn_done HXa.out (fun i x hi hp hx => leJ_trans hlm (hmin.out i x hi hp hx)) HD.out
        refine wp_region_told (fun W => Below W2.heap.size W2 W) (by kernel_rfl) (by kernel_rfl) ((Below.refl W2.heap.size W2).drew) ?_
        refine told_pure (some 46) (.pointer (some ⟨R, 2, none⟩)) rfl (by kernel_rfl) (fun _ => by kernel_rfl) ?_
        refine told_pure (some 47) (.pointer (some ⟨R, 2, none⟩)) rfl (by kernel_rfl) (fun _ => by kernel_rfl) ?_
        refine told_pure (some 48) (.pointer (some ⟨R, 2, none⟩)) rfl (by kernel_rfl) (fun _ => by kernel_rfl) ?_
        refine told_load (some 49) ⟨R, 2, none⟩ ((.func (.func 40) #[] #[])) rfl (by kernel_rfl) (fun _ => by kernel_rfl) (fun _ hS => atB hS hless2) ?_
        refine told_pure (some 50) (.pointer (some ⟨R, 2, none⟩)) rfl (by kernel_rfl) (fun _ => by kernel_rfl) ?_
        refine told_pure (some 51) (.pointer (some ⟨R, 2, none⟩)) rfl (by kernel_rfl) (fun _ => by kernel_rfl) ?_
        refine told_pure (some 52) (.pointer (some ⟨R, 3, none⟩)) rfl (by kernel_rfl) (fun _ => by kernel_rfl) ?_
        refine told_load (some 53) ⟨R, 3, none⟩ (.slice (some ⟨g, 0, none⟩) n c) rfl (by kernel_rfl) (fun _ => by kernel_rfl) (fun _ hS => atB hS hsl2) ?_
        refine told_pure (some 54) (.int .i64 (b : Int)) rfl (by kernel_rfl) (fun _ => by kernel_rfl) ?_
        refine told_pure (some 55) (.pointer (some ⟨g, b * 2, none⟩)) rfl (by kernel_rfl) (fun w => by go_simp) ?_
        refine told_loads (some 56) ⟨g, b * 2, none⟩ [.int .i64 xb.r, .pointer (some ⟨xb.b, 0, none⟩)] rfl (by kernel_rfl) (fun _ => by kernel_rfl) (fun W hS j u hj => atB hS (hcm2 j u hj)) ?_
        refine told_pure (some 57) (.pointer (some ⟨R, 2, none⟩)) rfl (by kernel_rfl) (fun _ => by kernel_rfl) ?_
        refine told_pure (some 58) (.pointer (some ⟨R, 2, none⟩)) rfl (by kernel_rfl) (fun _ => by kernel_rfl) ?_
        refine told_pure (some 59) (.pointer (some ⟨R, 3, none⟩)) rfl (by kernel_rfl) (fun _ => by kernel_rfl) ?_
        refine told_load (some 60) ⟨R, 3, none⟩ (.slice (some ⟨g, 0, none⟩) n c) rfl (by kernel_rfl) (fun _ => by kernel_rfl) (fun _ hS => atB hS hsl2) ?_
        refine told_pure (some 61) (.int .i64 (a : Int)) rfl (by kernel_rfl) (fun _ => by kernel_rfl) ?_
        refine told_pure (some 62) (.pointer (some ⟨g, a * 2, none⟩)) rfl (by kernel_rfl) (fun w => by go_simp) ?_
        refine told_loads (some 63) ⟨g, a * 2, none⟩ [.int .i64 xa.r, .pointer (some ⟨xa.b, 0, none⟩)] rfl (by kernel_rfl) (fun _ => by kernel_rfl) (fun W hS j u hj => atB hS (hca2 j u hj)) ?_
        refine told_call (some 64) (.bool false) 40 #[.agg #[.int .i64 xb.r, .pointer (some ⟨xb.b, 0, none⟩)], .agg #[.int .i64 xa.r, .pointer (some ⟨xa.b, 0, none⟩)]] rfl (by kernel_rfl) (fun _ => by kernel_rfl) (fun W hS => below_S ((sooner_c xb xa W (Sym.cell ((S2.out.bel hS).ats _ hmb)) (Sym.cell ((S2.out.bel hS).ats _ hma))).mono fun e w' ⟨he, hb⟩ => ⟨by rw [he, decide_eq_false hlm], hb⟩) hS) ?_
        refine told_pure (some 65) (.bool true) rfl (by kernel_rfl) (fun _ => by kernel_rfl) ?_
        refine told_nil ?_
        intro W3 hS3
        simp only [Act.put, List.setIfInBounds_toArray, List.set_cons_zero, List.set_cons_succ]
        have S3 : Hid (HqS W3 R B mv fv Y (some ⟨g, 0, none⟩) n c) := S2.out.bel hS3
        have HF3 : Hid (Fr8 R (.slice (some ⟨g, 0, none⟩) n c) w W3) := HF2.out.bel hS3
        clear hS3 hsl hless hsl2 hless2 hca hcb hca2 hcm2
        go_wp2
        (try simp only [Exit.inBlock, Exit.then])
        refine bodyPost_ret (results_none rfl _ _ _) rfl ?_
        exact ⟨rfl, Y, S3.out, HK.out, HM.out, HF3.out⟩
    · obtain ⟨xd, hxd⟩ : ∃ x, Y[d]? = some x := ⟨_, List.getElem?_eq_getElem (by rw [S.out.len]; exact hdn)⟩
      have hcd := hcl d xd hxd
      have hmd := List.mem_of_getElem? hxd
      have hdn' : (d : Int) < n := by omega
      have HXd : Hid (Y[d]? = some xd) := hxd
      clear hxd
      have HCH : Hid (∀ i x, 0 < i → (i - 1) / 2 = a → Y[i]? = some x → x = xb ∨ x = xd) := fun i x hi hp hx => by
        have : i = b ∨ i = d := by have := HBA.out; omega
        rcases this with h | h
        · rw [h, HXb.out] at hx; cases hx; exact .inl rfl
        · rw [h, HXd.out] at hx; cases hx; exact .inr rfl
      by_cases hlt : ltJ xd xb
      · have hmin : Hid (∀ i x, 0 < i → (i - 1) / 2 = a → Y[i]? = some x → leJ xd x) := fun i x hi hp hx => by
          rcases HCH.out i x hi hp hx with rfl | rfl
          · exact leJ_lt hlt
          · exact leJ_refl _
        refine wp_region_told (fun W => Below wr.heap.size wr W) (by kernel_rfl) (by kernel_rfl) ((Below.refl wr.heap.size wr).drew) ?_
        refine told_pure (some 14) (.int .i64 (b : Int)) rfl (by kernel_rfl) (fun _ => by kernel_rfl) ?_
        refine told_is (some 15) (.int .i64 (IntKind.i64.wrap ((b : Int) + 1))) (.int .i64 (d : Int)) (by rw [e1]) rfl (by kernel_rfl) (fun _ => by kernel_rfl) ?_
        refine told_pure (some 16) (.pointer (some ⟨R, 2, none⟩)) rfl (by kernel_rfl) (fun _ => by kernel_rfl) ?_
        refine told_pure (some 17) (.pointer (some ⟨R, 2, none⟩)) rfl (by kernel_rfl) (fun _ => by kernel_rfl) ?_
        refine told_pure (some 18) (.pointer (some ⟨R, 3, none⟩)) rfl (by kernel_rfl) (fun _ => by kernel_rfl) ?_
        refine told_load (some 19) ⟨R, 3, none⟩ (.slice (some ⟨g, 0, none⟩) n c) rfl (by kernel_rfl) (fun _ => by kernel_rfl) (fun _ hS => atB hS hsl) ?_
        refine told_pure (some 20) (.int .i64 (n : Int)) rfl (by kernel_rfl) (fun _ => by kernel_rfl) ?_
        refine told_is (some 21) (.bool (decide ((d : Int) < (n : Int)))) (.bool true) (by rw [decide_eq_true hdn']) rfl (by kernel_rfl) (fun _ => by kernel_rfl) ?_
        refine told_pure (some 22) (.bool true) rfl (by kernel_rfl) (fun _ => by kernel_rfl) ?_
        refine told_pure (some 23) (.pointer (some ⟨R, 2, none⟩)) rfl (by kernel_rfl) (fun _ => by kernel_rfl) ?_
        refine told_pure (some 24) (.pointer (some ⟨R, 2, none⟩)) rfl (by kernel_rfl) (fun _ => by kernel_rfl) ?_
        refine told_pure (some 25) (.pointer (some ⟨R, 2, none⟩)) rfl (by kernel_rfl) (fun _ => by kernel_rfl) ?_
        refine told_load (some 26) ⟨R, 2, none⟩ ((.func (.func 40) #[] #[])) rfl (by kernel_rfl) (fun _ => by kernel_rfl) (fun _ hS => atB hS hless) ?_
        refine told_pure (some 27) (.pointer (some ⟨R, 2, none⟩)) rfl (by kernel_rfl) (fun _ => by kernel_rfl) ?_
        refine told_pure (some 28) (.pointer (some ⟨R, 2, none⟩)) rfl (by kernel_rfl) (fun _ => by kernel_rfl) ?_
        refine told_pure (some 29) (.pointer (some ⟨R, 3, none⟩)) rfl (by kernel_rfl) (fun _ => by kernel_rfl) ?_
        refine told_load (some 30) ⟨R, 3, none⟩ (.slice (some ⟨g, 0, none⟩) n c) rfl (by kernel_rfl) (fun _ => by kernel_rfl) (fun _ hS => atB hS hsl) ?_
        refine told_pure (some 31) (.int .i64 (b : Int)) rfl (by kernel_rfl) (fun _ => by kernel_rfl) ?_
        refine told_is (some 32) (.int .i64 (IntKind.i64.wrap ((b : Int) + 1))) (.int .i64 (d : Int)) (by rw [e1]) rfl (by kernel_rfl) (fun _ => by kernel_rfl) ?_
        refine told_pure (some 33) (.pointer (some ⟨g, d * 2, none⟩)) rfl (by kernel_rfl) (fun w => by go_simp) ?_
        refine told_loads (some 34) ⟨g, d * 2, none⟩ [.int .i64 xd.r, .pointer (some ⟨xd.b, 0, none⟩)] rfl (by kernel_rfl) (fun _ => by kernel_rfl) (fun W hS j u hj => atB hS (hcd j u hj)) ?_
        refine told_pure (some 35) (.pointer (some ⟨R, 2, none⟩)) rfl (by kernel_rfl) (fun _ => by kernel_rfl) ?_
        refine told_pure (some 36) (.pointer (some ⟨R, 2, none⟩)) rfl (by kernel_rfl) (fun _ => by kernel_rfl) ?_
        refine told_pure (some 37) (.pointer (some ⟨R, 3, none⟩)) rfl (by kernel_rfl) (fun _ => by kernel_rfl) ?_
        refine told_load (some 38) ⟨R, 3, none⟩ (.slice (some ⟨g, 0, none⟩) n c) rfl (by kernel_rfl) (fun _ => by kernel_rfl) (fun _ hS => atB hS hsl) ?_
        refine told_pure (some 39) (.int .i64 (b : Int)) rfl (by kernel_rfl) (fun _ => by kernel_rfl) ?_
        refine told_pure (some 40) (.pointer (some ⟨g, b * 2, none⟩)) rfl (by kernel_rfl) (fun w => by go_simp) ?_
        refine told_loads (some 41) ⟨g, b * 2, none⟩ [.int .i64 xb.r, .pointer (some ⟨xb.b, 0, none⟩)] rfl (by kernel_rfl) (fun _ => by kernel_rfl) (fun W hS j u hj => atB hS (hcb j u hj)) ?_
        refine told_call (some 42) (.bool true) 40 #[.agg #[.int .i64 xd.r, .pointer (some ⟨xd.b, 0, none⟩)], .agg #[.int .i64 xb.r, .pointer (some ⟨xb.b, 0, none⟩)]] rfl (by kernel_rfl) (fun _ => by kernel_rfl) (fun W hS => below_S ((sooner_c xd xb W (Sym.cell ((S.out.bel hS).ats _ hmd)) (Sym.cell ((S.out.bel hS).ats _ hmb))).mono fun e w' ⟨he, hb⟩ => ⟨by rw [he, decide_eq_true hlt], hb⟩) hS) ?_
        refine told_pure (some 43) (.bool true) rfl (by kernel_rfl) (fun _ => by kernel_rfl) ?_
        refine told_nil ?_
        intro W2 hS2
        simp only [Act.put, List.setIfInBounds_toArray, List.set_cons_zero, List.set_cons_succ]
        have S2 : Hid (HqS W2 R B mv fv Y (some ⟨g, 0, none⟩) n c) := S.out.bel hS2
        have HF2 : Hid (Fr8 R (.slice (some ⟨g, 0, none⟩) n c) w W2) := HF.out.bel hS2
        have hsl2 := S2.out.cells.2.2.2
        have hless2 := S2.out.cells.2.2.1
        have hca2 := fun j u hj => atB hS2 (hca j u hj)
        have hcm2 := fun j u hj => atB hS2 (hcd j u hj)
        clear hS2
        go_upto_region 6 with fail
        by_cases hlm : ltJ xd xa
        · refine wp_region_told (fun W => Below W2.heap.size W2 W) (by kernel_rfl) (by kernel_rfl) ((Below.refl W2.heap.size W2).drew) ?_
          refine told_pure (some 46) (.pointer (some ⟨R, 2, none⟩)) rfl (by kernel_rfl) (fun _ => by kernel_rfl) ?_
          refine told_pure (some 47) (.pointer (some ⟨R, 2, none⟩)) rfl (by kernel_rfl) (fun _ => by kernel_rfl) ?_
          refine told_pure (some 48) (.pointer (some ⟨R, 2, none⟩)) rfl (by kernel_rfl) (fun _ => by kernel_rfl) ?_
          refine told_load (some 49) ⟨R, 2, none⟩ ((.func (.func 40) #[] #[])) rfl (by kernel_rfl) (fun _ => by kernel_rfl) (fun _ hS => atB hS hless2) ?_
          refine told_pure (some 50) (.pointer (some ⟨R, 2, none⟩)) rfl (by kernel_rfl) (fun _ => by kernel_rfl) ?_
          refine told_pure (some 51) (.pointer (some ⟨R, 2, none⟩)) rfl (by kernel_rfl) (fun _ => by kernel_rfl) ?_
          refine told_pure (some 52) (.pointer (some ⟨R, 3, none⟩)) rfl (by kernel_rfl) (fun _ => by kernel_rfl) ?_
          refine told_load (some 53) ⟨R, 3, none⟩ (.slice (some ⟨g, 0, none⟩) n c) rfl (by kernel_rfl) (fun _ => by kernel_rfl) (fun _ hS => atB hS hsl2) ?_
          refine told_pure (some 54) (.int .i64 (d : Int)) rfl (by kernel_rfl) (fun _ => by kernel_rfl) ?_
          refine told_pure (some 55) (.pointer (some ⟨g, d * 2, none⟩)) rfl (by kernel_rfl) (fun w => by go_simp) ?_
          refine told_loads (some 56) ⟨g, d * 2, none⟩ [.int .i64 xd.r, .pointer (some ⟨xd.b, 0, none⟩)] rfl (by kernel_rfl) (fun _ => by kernel_rfl) (fun W hS j u hj => atB hS (hcm2 j u hj)) ?_
          refine told_pure (some 57) (.pointer (some ⟨R, 2, none⟩)) rfl (by kernel_rfl) (fun _ => by kernel_rfl) ?_
          refine told_pure (some 58) (.pointer (some ⟨R, 2, none⟩)) rfl (by kernel_rfl) (fun _ => by kernel_rfl) ?_
          refine told_pure (some 59) (.pointer (some ⟨R, 3, none⟩)) rfl (by kernel_rfl) (fun _ => by kernel_rfl) ?_
          refine told_load (some 60) ⟨R, 3, none⟩ (.slice (some ⟨g, 0, none⟩) n c) rfl (by kernel_rfl) (fun _ => by kernel_rfl) (fun _ hS => atB hS hsl2) ?_
          refine told_pure (some 61) (.int .i64 (a : Int)) rfl (by kernel_rfl) (fun _ => by kernel_rfl) ?_
          refine told_pure (some 62) (.pointer (some ⟨g, a * 2, none⟩)) rfl (by kernel_rfl) (fun w => by go_simp) ?_
          refine told_loads (some 63) ⟨g, a * 2, none⟩ [.int .i64 xa.r, .pointer (some ⟨xa.b, 0, none⟩)] rfl (by kernel_rfl) (fun _ => by kernel_rfl) (fun W hS j u hj => atB hS (hca2 j u hj)) ?_
          refine told_call (some 64) (.bool true) 40 #[.agg #[.int .i64 xd.r, .pointer (some ⟨xd.b, 0, none⟩)], .agg #[.int .i64 xa.r, .pointer (some ⟨xa.b, 0, none⟩)]] rfl (by kernel_rfl) (fun _ => by kernel_rfl) (fun W hS => below_S ((sooner_c xd xa W (Sym.cell ((S2.out.bel hS).ats _ hmd)) (Sym.cell ((S2.out.bel hS).ats _ hma))).mono fun e w' ⟨he, hb⟩ => ⟨by rw [he, decide_eq_true hlm], hb⟩) hS) ?_
          refine told_pure (some 65) (.bool false) rfl (by kernel_rfl) (fun _ => by kernel_rfl) ?_
          refine told_nil ?_
          intro W3 hS3
          simp only [Act.put, List.setIfInBounds_toArray, List.set_cons_zero, List.set_cons_succ]
          have S3 : Hid (HqS W3 R B mv fv Y (some ⟨g, 0, none⟩) n c) := S2.out.bel hS3
          have HF3 : Hid (Fr8 R (.slice (some ⟨g, 0, none⟩) n c) w W3) := HF2.out.bel hS3
          clear hS3 hsl hless hsl2 hless2 hca hcb hca2 hcm2
          go_wp2_with fail
          refine (swap_c Y a d xa xd W3 R B mv fv _ n c hn HXa.out HXd.out S3.out).mono ?_
          rintro e W4 ⟨rfl, hS4, hf4⟩
          have S4 : Hid (HqS W4 R B mv fv ((Y.set a xd).set d xa) (some ⟨g, 0, none⟩) n c) := hS4
          have HF4 : Hid (Fr8 R (.slice (some ⟨g, 0, none⟩) n c) w W4) := HF3.out.trans (Nxt8.refl _ _) hf4
          have hsw := swp_set HXa.out HXd.out
          have HD4 : Hid (DnI ((Y.set a xd).set d xa) d) := dn_step (by have := HBA.out; omega) (by have := HBA.out; omega) HXa.out HXd.out hlm hmin.out hsw HD.out
          have HM4 : Hid (∀ z, z ∈ (Y.set a xd).set d xa ↔ z ∈ X) := fun z => (hsw.mem (List.getElem?_eq_some_iff.1 HXa.out).1 (List.getElem?_eq_some_iff.1 HXd.out).1 z).trans (HM.out z)
          obtain ⟨m2, hm2⟩ : ∃ m2, 2 * d + 1 = m2 := ⟨_, rfl⟩
          have ew0 : IntKind.i64.wrap (2 * (d : Int)) = 2 * (d : Int) := IntWalk.i64_in _ (by omega)
          have ew1 : IntKind.i64.wrap (2 * (d : Int) + 1) = (m2 : Int) := by rw [IntWalk.i64_in _ (by omega)]; omega
          have HM2 : Hid (m2 = 2 * d + 1) := hm2.symm
          clear hm2
          have hmle : d ≤ 4000 := by omega
          have hma2 : a < d := by have := HBA.out; omega
          have hmn4 : d < n := by have := HBA.out; have := HBN.out; omega
          clear hsw hS4 hf4 hlm
          go_wp2
          go_roundw
          case rel => exact ⟨_, d, m2, rfl, by go_num, HM2, hmle, S4, HD4, HM4, HF4⟩
          case measure => simp [intOf] <;> omega
        · have HK : Hid (HpOk Y) := dn_done HXa.out (fun i x hi hp hx => leJ_trans hlm (hmin.out i x hi hp hx)) HD.out
          refine wp_region_told (fun W => Below W2.heap.size W2 W) (by kernel_rfl) (by kernel_rfl) ((Below.refl W2.heap.size W2).drew) ?_
          refine told_pure (some 46) (.pointer (some ⟨R, 2, none⟩)) rfl (by kernel_rfl) (fun _ => by kernel_rfl) ?_
          refine told_pure (some 47) (.pointer (some ⟨R, 2, none⟩)) rfl (by kernel_rfl) (fun _ => by kernel_rfl) ?_
          refine told_pure (some 48) (.pointer (some ⟨R, 2, none⟩)) rfl (by kernel_rfl) (fun _ => by kernel_rfl) ?_
          refine told_load (some 49) ⟨R, 2, none⟩ ((.func (.func 40) #[] #[])) rfl (by kernel_rfl) (fun _ => by kernel_rfl) (fun _ hS => atB hS hless2) ?_
          refine told_pure (some 50) (.pointer (some ⟨R, 2, none⟩)) rfl (by kernel_rfl) (fun _ => by kernel_rfl) ?_
          refine told_pure (some 51) (.pointer (some ⟨R, 2, none⟩)) rfl (by kernel_rfl) (fun _ => by kernel_rfl) ?_
          refine told_pure (some 52) (.pointer (some ⟨R, 3, none⟩)) rfl (by kernel_rfl) (fun _ => by kernel_rfl) ?_
          refine told_load (some 53) ⟨R, 3, none⟩ (.slice (some ⟨g, 0, none⟩) n c) rfl (by kernel_rfl) (fun _ => by kernel_rfl) (fun _ hS => atB hS hsl2) ?_
          refine told_pure (some 54) (.int .i64 (d : Int)) rfl (by kernel_rfl) (fun _ => by kernel_rfl) ?_
          refine told_pure (some 55) (.pointer (some ⟨g, d * 2, none⟩)) rfl (by kernel_rfl) (fun w => by go_simp) ?_
          refine told_loads (some 56) ⟨g, d * 2, none⟩ [.int .i64 xd.r, .pointer (some ⟨xd.b, 0, none⟩)] rfl (by kernel_rfl) (fun _ => by kernel_rfl) (fun W hS j u hj => atB hS (hcm2 j u hj)) ?_
          refine told_pure (some 57) (.pointer (some ⟨R, 2, none⟩)) rfl (by kernel_rfl) (fun _ => by kernel_rfl) ?_
          refine told_pure (some 58) (.pointer (some ⟨R, 2, none⟩)) rfl (by kernel_rfl) (fun _ => by kernel_rfl) ?_
          refine told_pure (some 59) (.pointer (some ⟨R, 3, none⟩)) rfl (by kernel_rfl) (fun _ => by kernel_rfl) ?_
          refine told_load (some 60) ⟨R, 3, none⟩ (.slice (some ⟨g, 0, none⟩) n c) rfl (by kernel_rfl) (fun _ => by kernel_rfl) (fun _ hS => atB hS hsl2) ?_
          refine told_pure (some 61) (.int .i64 (a : Int)) rfl (by kernel_rfl) (fun _ => by kernel_rfl) ?_
          refine told_pure (some 62) (.pointer (some ⟨g, a * 2, none⟩)) rfl (by kernel_rfl) (fun w => by go_simp) ?_
          refine told_loads (some 63) ⟨g, a * 2, none⟩ [.int .i64 xa.r, .pointer (some ⟨xa.b, 0, none⟩)] rfl (by kernel_rfl) (fun _ => by kernel_rfl) (fun W hS j u hj => atB hS (hca2 j u hj)) ?_
          refine told_call (some 64) (.bool false) 40 #[.agg #[.int .i64 xd.r, .pointer (some ⟨xd.b, 0, none⟩)], .agg #[.int .i64 xa.r, .pointer (some ⟨xa.b, 0, none⟩)]] rfl (by kernel_rfl) (fun _ => by kernel_rfl) (fun W hS => below_S ((sooner_c xd xa W (Sym.cell ((S2.out.bel hS).ats _ hmd)) (Sym.cell ((S2.out.bel hS).ats _ hma))).mono fun e w' ⟨he, hb⟩ => ⟨by rw [he, decide_eq_false hlm], hb⟩) hS) ?_
          refine told_pure (some 65) (.bool true) rfl (by kernel_rfl) (fun _ => by kernel_rfl) ?_
          refine told_nil ?_
          intro W3 hS3
          simp only [Act.put, List.setIfInBounds_toArray, List.set_cons_zero, List.set_cons_succ]
          have S3 : Hid (HqS W3 R B mv fv Y (some ⟨g, 0, none⟩) n c) := S2.out.bel hS3
          have HF3 : Hid (Fr8 R (.slice (some ⟨g, 0, none⟩) n c) w W3) := HF2.out.bel hS3
          clear hS3 hsl hless hsl2 hless2 hca hcb hca2 hcm2
          go_wp2
          (try simp only [Exit.inBlock, Exit.then])
          refine bodyPost_ret (results_none rfl _ _ _) rfl ?_
          exact ⟨rfl, Y, S3.out, HK.out, HM.out, HF3.out⟩
      · have hmin : Hid (∀ i x, 0 < i → (i - 1) / 2 = a → Y[i]? = some x → leJ xb x) := fun i x hi hp hx => by
          rcases HCH.out i x hi hp hx with rfl | rfl
          · exact leJ_refl _
          · exact hlt
        refine wp_region_told (fun W => Below wr.heap.size wr W) (by kernel_rfl) (by kernel_rfl) ((Below.refl wr.heap.size wr).drew) ?_
        refine told_pure (some 14) (.int .i64 (b : Int)) rfl (by kernel_rfl) (fun _ => by kernel_rfl) ?_
        refine told_is (some 15) (.int .i64 (IntKind.i64.wrap ((b : Int) + 1))) (.int .i64 (d : Int)) (by rw [e1]) rfl (by kernel_rfl) (fun _ => by kernel_rfl) ?_
        refine told_pure (some 16) (.pointer (some ⟨R, 2, none⟩)) rfl (by kernel_rfl) (fun _ => by kernel_rfl) ?_
        refine told_pure (some 17) (.pointer (some ⟨R, 2, none⟩)) rfl (by kernel_rfl) (fun _ => by kernel_rfl) ?_
        refine told_pure (some 18) (.pointer (some ⟨R, 3, none⟩)) rfl (by kernel_rfl) (fun _ => by kernel_rfl) ?_
        refine told_load (some 19) ⟨R, 3, none⟩ (.slice (some ⟨g, 0, none⟩) n c) rfl (by kernel_rfl) (fun _ => by kernel_rfl) (fun _ hS => atB hS hsl) ?_
        refine told_pure (some 20) (.int .i64 (n : Int)) rfl (by kernel_rfl) (fun _ => by kernel_rfl) ?_
        refine told_is (some 21) (.bool (decide ((d : Int) < (n : Int)))) (.bool true) (by rw [decide_eq_true hdn']) rfl (by kernel_rfl) (fun _ => by kernel_rfl) ?_
        refine told_pure (some 22) (.bool true) rfl (by kernel_rfl) (fun _ => by kernel_rfl) ?_
        refine told_pure (some 23) (.pointer (some ⟨R, 2, none⟩)) rfl (by kernel_rfl) (fun _ => by kernel_rfl) ?_
        refine told_pure (some 24) (.pointer (some ⟨R, 2, none⟩)) rfl (by kernel_rfl) (fun _ => by kernel_rfl) ?_
        refine told_pure (some 25) (.pointer (some ⟨R, 2, none⟩)) rfl (by kernel_rfl) (fun _ => by kernel_rfl) ?_
        refine told_load (some 26) ⟨R, 2, none⟩ ((.func (.func 40) #[] #[])) rfl (by kernel_rfl) (fun _ => by kernel_rfl) (fun _ hS => atB hS hless) ?_
        refine told_pure (some 27) (.pointer (some ⟨R, 2, none⟩)) rfl (by kernel_rfl) (fun _ => by kernel_rfl) ?_
        refine told_pure (some 28) (.pointer (some ⟨R, 2, none⟩)) rfl (by kernel_rfl) (fun _ => by kernel_rfl) ?_
        refine told_pure (some 29) (.pointer (some ⟨R, 3, none⟩)) rfl (by kernel_rfl) (fun _ => by kernel_rfl) ?_
        refine told_load (some 30) ⟨R, 3, none⟩ (.slice (some ⟨g, 0, none⟩) n c) rfl (by kernel_rfl) (fun _ => by kernel_rfl) (fun _ hS => atB hS hsl) ?_
        refine told_pure (some 31) (.int .i64 (b : Int)) rfl (by kernel_rfl) (fun _ => by kernel_rfl) ?_
        refine told_is (some 32) (.int .i64 (IntKind.i64.wrap ((b : Int) + 1))) (.int .i64 (d : Int)) (by rw [e1]) rfl (by kernel_rfl) (fun _ => by kernel_rfl) ?_
        refine told_pure (some 33) (.pointer (some ⟨g, d * 2, none⟩)) rfl (by kernel_rfl) (fun w => by go_simp) ?_
        refine told_loads (some 34) ⟨g, d * 2, none⟩ [.int .i64 xd.r, .pointer (some ⟨xd.b, 0, none⟩)] rfl (by kernel_rfl) (fun _ => by kernel_rfl) (fun W hS j u hj => atB hS (hcd j u hj)) ?_
        refine told_pure (some 35) (.pointer (some ⟨R, 2, none⟩)) rfl (by kernel_rfl) (fun _ => by kernel_rfl) ?_
        refine told_pure (some 36) (.pointer (some ⟨R, 2, none⟩)) rfl (by kernel_rfl) (fun _ => by kernel_rfl) ?_
        refine told_pure (some 37) (.pointer (some ⟨R, 3, none⟩)) rfl (by kernel_rfl) (fun _ => by kernel_rfl) ?_
        refine told_load (some 38) ⟨R, 3, none⟩ (.slice (some ⟨g, 0, none⟩) n c) rfl (by kernel_rfl) (fun _ => by kernel_rfl) (fun _ hS => atB hS hsl) ?_
        refine told_pure (some 39) (.int .i64 (b : Int)) rfl (by kernel_rfl) (fun _ => by kernel_rfl) ?_
        refine told_pure (some 40) (.pointer (some ⟨g, b * 2, none⟩)) rfl (by kernel_rfl) (fun w => by go_simp) ?_
        refine told_loads (some 41) ⟨g, b * 2, none⟩ [.int .i64 xb.r, .pointer (some ⟨xb.b, 0, none⟩)] rfl (by kernel_rfl) (fun _ => by kernel_rfl) (fun W hS j u hj => atB hS (hcb j u hj)) ?_
        refine told_call (some 42) (.bool false) 40 #[.agg #[.int .i64 xd.r, .pointer (some ⟨xd.b, 0, none⟩)], .agg #[.int .i64 xb.r, .pointer (some ⟨xb.b, 0, none⟩)]] rfl (by kernel_rfl) (fun _ => by kernel_rfl) (fun W hS => below_S ((sooner_c xd xb W (Sym.cell ((S.out.bel hS).ats _ hmd)) (Sym.cell ((S.out.bel hS).ats _ hmb))).mono fun e w' ⟨he, hb⟩ => ⟨by rw [he, decide_eq_false hlt], hb⟩) hS) ?_
        refine told_pure (some 43) (.bool false) rfl (by kernel_rfl) (fun _ => by kernel_rfl) ?_
        refine told_nil ?_
        intro W2 hS2
        simp only [Act.put, List.setIfInBounds_toArray, List.set_cons_zero, List.set_cons_succ]
        have S2 : Hid (HqS W2 R B mv fv Y (some ⟨g, 0, none⟩) n c) := S.out.bel hS2
        have HF2 : Hid (Fr8 R (.slice (some ⟨g, 0, none⟩) n c) w W2) := HF.out.bel hS2
        have hsl2 := S2.out.cells.2.2.2
        have hless2 := S2.out.cells.2.2.1
        have hca2 := fun j u hj => atB hS2 (hca j u hj)
        have hcm2 := fun j u hj => atB hS2 (hcb j u hj)
        clear hS2
        go_upto_region 6 with fail
        by_cases hlm : ltJ xb xa
        · refine wp_region_told (fun W => Below W2.heap.size W2 W) (by kernel_rfl) (by kernel_rfl) ((Below.refl W2.heap.size W2).drew) ?_
          refine told_pure (some 46) (.pointer (some ⟨R, 2, none⟩)) rfl (by kernel_rfl) (fun _ => by kernel_rfl) ?_
          refine told_pure (some 47) (.pointer (some ⟨R, 2, none⟩)) rfl (by kernel_rfl) (fun _ => by kernel_rfl) ?_
          refine told_pure (some 48) (.pointer (some ⟨R, 2, none⟩)) rfl (by kernel_rfl) (fun _ => by kernel_rfl) ?_
          refine told_load (some 49) ⟨R, 2, none⟩ ((.func (.func 40) #[] #[])) rfl (by kernel_rfl) (fun _ => by kernel_rfl) (fun _ hS => atB hS hless2) ?_
          refine told_pure (some 50) (.pointer (some ⟨R, 2, none⟩)) rfl (by kernel_rfl) (fun _ => by kernel_rfl) ?_
          refine told_pure (some 51) (.pointer (some ⟨R, 2, none⟩)) rfl (by kernel_rfl) (fun _ => by kernel_rfl) ?_
          refine told_pure (some 52) (.pointer (some ⟨R, 3, none⟩)) rfl (by kernel_rfl) (fun _ => by kernel_rfl) ?_
          refine told_load (some 53) ⟨R, 3, none⟩ (.slice (some ⟨g, 0, none⟩) n c) rfl (by kernel_rfl) (fun _ => by kernel_rfl) (fun _ hS => atB hS hsl2) ?_
          refine told_pure (some 54) (.int .i64 (b : Int)) rfl (by kernel_rfl) (fun _ => by kernel_rfl) ?_
          refine told_pure (some 55) (.pointer (some ⟨g, b * 2, none⟩)) rfl (by kernel_rfl) (fun w => by go_simp) ?_
          refine told_loads (some 56) ⟨g, b * 2, none⟩ [.int .i64 xb.r, .pointer (some ⟨xb.b, 0, none⟩)] rfl (by kernel_rfl) (fun _ => by kernel_rfl) (fun W hS j u hj => atB hS (hcm2 j u hj)) ?_
          refine told_pure (some 57) (.pointer (some ⟨R, 2, none⟩)) rfl (by kernel_rfl) (fun _ => by kernel_rfl) ?_
          refine told_pure (some 58) (.pointer (some ⟨R, 2, none⟩)) rfl (by kernel_rfl) (fun _ => by kernel_rfl) ?_
          refine told_pure (some 59) (.pointer (some ⟨R, 3, none⟩)) rfl (by kernel_rfl) (fun _ => by kernel_rfl) ?_
          refine told_load (some 60) ⟨R, 3, none⟩ (.slice (some ⟨g, 0, none⟩) n c) rfl (by kernel_rfl) (fun _ => by kernel_rfl) (fun _ hS => atB hS hsl2) ?_
          refine told_pure (some 61) (.int .i64 (a : Int)) rfl (by kernel_rfl) (fun _ => by kernel_rfl) ?_
          refine told_pure (some 62) (.pointer (some ⟨g, a * 2, none⟩)) rfl (by kernel_rfl) (fun w => by go_simp) ?_
          refine told_loads (some 63) ⟨g, a * 2, none⟩ [.int .i64 xa.r, .pointer (some ⟨xa.b, 0, none⟩)] rfl (by kernel_rfl) (fun _ => by kernel_rfl) (fun W hS j u hj => atB hS (hca2 j u hj)) ?_
          refine told_call (some 64) (.bool true) 40 #[.agg #[.int .i64 xb.r, .pointer (some ⟨xb.b, 0, none⟩)], .agg #[.int .i64 xa.r, .pointer (some ⟨xa.b, 0, none⟩)]] rfl (by kernel_rfl) (fun _ => by kernel_rfl) (fun W hS => below_S ((sooner_c xb xa W (Sym.cell ((S2.out.bel hS).ats _ hmb)) (Sym.cell ((S2.out.bel hS).ats _ hma))).mono fun e w' ⟨he, hb⟩ => ⟨by rw [he, decide_eq_true hlm], hb⟩) hS) ?_
          refine told_pure (some 65) (.bool false) rfl (by kernel_rfl) (fun _ => by kernel_rfl) ?_
          refine told_nil ?_
          intro W3 hS3
          simp only [Act.put, List.setIfInBounds_toArray, List.set_cons_zero, List.set_cons_succ]
          have S3 : Hid (HqS W3 R B mv fv Y (some ⟨g, 0, none⟩) n c) := S2.out.bel hS3
          have HF3 : Hid (Fr8 R (.slice (some ⟨g, 0, none⟩) n c) w W3) := HF2.out.bel hS3
          clear hS3 hsl hless hsl2 hless2 hca hcb hca2 hcm2
          go_wp2_with fail
          refine (swap_c Y a b xa xb W3 R B mv fv _ n c hn HXa.out HXb.out S3.out).mono ?_
          rintro e W4 ⟨rfl, hS4, hf4⟩
          have S4 : Hid (HqS W4 R B mv fv ((Y.set a xb).set b xa) (some ⟨g, 0, none⟩) n c) := hS4
          have HF4 : Hid (Fr8 R (.slice (some ⟨g, 0, none⟩) n c) w W4) := HF3.out.trans (Nxt8.refl _ _) hf4
          have hsw := swp_set HXa.out HXb.out
          have HD4 : Hid (DnI ((Y.set a xb).set b xa) b) := dn_step (by have := HBA.out; omega) (by have := HBA.out; omega) HXa.out HXb.out hlm hmin.out hsw HD.out
          have HM4 : Hid (∀ z, z ∈ (Y.set a xb).set b xa ↔ z ∈ X) := fun z => (hsw.mem (List.getElem?_eq_some_iff.1 HXa.out).1 (List.getElem?_eq_some_iff.1 HXb.out).1 z).trans (HM.out z)
          obtain ⟨m2, hm2⟩ : ∃ m2, 2 * b + 1 = m2 := ⟨_, rfl⟩
          have ew0 : IntKind.i64.wrap (2 * (b : Int)) = 2 * (b : Int) := IntWalk.i64_in _ (by omega)
          have ew1 : IntKind.i64.wrap (2 * (b : Int) + 1) = (m2 : Int) := by rw [IntWalk.i64_in _ (by omega)]; omega
          have HM2 : Hid (m2 = 2 * b + 1) := hm2.symm
          clear hm2
          have hmle : b ≤ 4000 := by omega
          have hma2 : a < b := by have := HBA.out; omega
          have hmn4 : b < n := by have := HBA.out; have := HBN.out; omega
          clear hsw hS4 hf4 hlm
          go_wp2
          go_roundw
          case rel => exact ⟨_, b, m2, rfl, by go_num, HM2, hmle, S4, HD4, HM4, HF4⟩
          case measure => simp [intOf] <;> omega
        · have HK : Hid (HpOk Y) := dn_done HXa.out (fun i x hi hp hx => leJ_trans hlm (hmin.out i x hi hp hx)) HD.out
          refine wp_region_told (fun W => Below W2.heap.size W2 W) (by kernel_rfl) (by kernel_rfl) ((Below.refl W2.heap.size W2).drew) ?_
          refine told_pure (some 46) (.pointer (some ⟨R, 2, none⟩)) rfl (by kernel_rfl) (fun _ => by kernel_rfl) ?_
          refine told_pure (some 47) (.pointer (some ⟨R, 2, none⟩)) rfl (by kernel_rfl) (fun _ => by kernel_rfl) ?_
          refine told_pure (some 48) (.pointer (some ⟨R, 2, none⟩)) rfl (by kernel_rfl) (fun _ => by kernel_rfl) ?_
          refine told_load (some 49) ⟨R, 2, none⟩ ((.func (.func 40) #[] #[])) rfl (by kernel_rfl) (fun _ => by kernel_rfl) (fun _ hS => atB hS hless2) ?_
          refine told_pure (some 50) (.pointer (some ⟨R, 2, none⟩)) rfl (by kernel_rfl) (fun _ => by kernel_rfl) ?_
          refine told_pure (some 51) (.pointer (some ⟨R, 2, none⟩)) rfl (by kernel_rfl) (fun _ => by kernel_rfl) ?_
          refine told_pure (some 52) (.pointer (some ⟨R, 3, none⟩)) rfl (by kernel_rfl) (fun _ => by kernel_rfl) ?_
          refine told_load (some 53) ⟨R, 3, none⟩ (.slice (some ⟨g, 0, none⟩) n c) rfl (by kernel_rfl) (fun _ => by kernel_rfl) (fun _ hS => atB hS hsl2) ?_
          refine told_pure (some 54) (.int .i64 (b : Int)) rfl (by kernel_rfl) (fun _ => by kernel_rfl) ?_
          refine told_pure (some 55) (.pointer (some ⟨g, b * 2, none⟩)) rfl (by kernel_rfl) (fun w => by go_simp) ?_
          refine told_loads (some 56) ⟨g, b * 2, none⟩ [.int .i64 xb.r, .pointer (some ⟨xb.b, 0, none⟩)] rfl (by kernel_rfl) (fun _ => by kernel_rfl) (fun W hS j u hj => atB hS (hcm2 j u hj)) ?_
          refine told_pure (some 57) (.pointer (some ⟨R, 2, none⟩)) rfl (by kernel_rfl) (fun _ => by kernel_rfl) ?_
          refine told_pure (some 58) (.pointer (some ⟨R, 2, none⟩)) rfl (by kernel_rfl) (fun _ => by kernel_rfl) ?_
          refine told_pure (some 59) (.pointer (some ⟨R, 3, none⟩)) rfl (by kernel_rfl) (fun _ => by kernel_rfl) ?_
          refine told_load (some 60) ⟨R, 3, none⟩ (.slice (some ⟨g, 0, none⟩) n c) rfl (by kernel_rfl) (fun _ => by kernel_rfl) (fun _ hS => atB hS hsl2) ?_
          refine told_pure (some 61) (.int .i64 (a : Int)) rfl (by kernel_rfl) (fun _ => by kernel_rfl) ?_
          refine told_pure (some 62) (.pointer (some ⟨g, a * 2, none⟩)) rfl (by kernel_rfl) (fun w => by go_simp) ?_
          refine told_loads (some 63) ⟨g, a * 2, none⟩ [.int .i64 xa.r, .pointer (some ⟨xa.b, 0, none⟩)] rfl (by kernel_rfl) (fun _ => by kernel_rfl) (fun W hS j u hj => atB hS (hca2 j u hj)) ?_
          refine told_call (some 64) (.bool false) 40 #[.agg #[.int .i64 xb.r, .pointer (some ⟨xb.b, 0, none⟩)], .agg #[.int .i64 xa.r, .pointer (some ⟨xa.b, 0, none⟩)]] rfl (by kernel_rfl) (fun _ => by kernel_rfl) (fun W hS => below_S ((sooner_c xb xa W (Sym.cell ((S2.out.bel hS).ats _ hmb)) (Sym.cell ((S2.out.bel hS).ats _ hma))).mono fun e w' ⟨he, hb⟩ => ⟨by rw [he, decide_eq_false hlm], hb⟩) hS) ?_
          refine told_pure (some 65) (.bool true) rfl (by kernel_rfl) (fun _ => by kernel_rfl) ?_
          refine told_nil ?_
          intro W3 hS3
          simp only [Act.put, List.setIfInBounds_toArray, List.set_cons_zero, List.set_cons_succ]
          have S3 : Hid (HqS W3 R B mv fv Y (some ⟨g, 0, none⟩) n c) := S2.out.bel hS3
          have HF3 : Hid (Fr8 R (.slice (some ⟨g, 0, none⟩) n c) w W3) := HF2.out.bel hS3
          clear hS3 hsl hless hsl2 hless2 hca hcb hca2 hcm2
          go_wp2
          (try simp only [Exit.inBlock, Exit.then])
          refine bodyPost_ret (results_none rfl _ _ _) rfl ?_
          exact ⟨rfl, Y, S3.out, HK.out, HM.out, HF3.out⟩

end Go.Proofs.Ytdhbhifgmbppjaa

/- The least item is handed out. -/
namespace Go.Proofs.Ytdhbhifgmbppjaa
open Go.RowKit
set_option linter.unusedVariables false
set_option linter.unusedSimpArgs false

/-- The beginning of a row is a row. -/
theorem own_pre {w : World} {base : Nat} {e : TypeId} {size m n g c : Nat} {xs : List Value} (h : w.ownsRow base e size (.slice (some ⟨g, 0, none⟩) n c) n xs) (hm : m ≤ n) : w.ownsRow base e size (.slice (some ⟨g, 0, none⟩) m c) m (xs.take (m * size)) := by
  obtain ⟨h1, ⟨hv, _⟩ | ⟨g2, cap, cur, hv, hg, hh, h3, h4, h5, h6⟩⟩ := h
  · cases hv
  · simp only [Value.slice.injEq, Option.some.injEq, Addr.mk.injEq, and_true, true_and] at hv
    obtain ⟨rfl, rfl⟩ := hv
    have hmn : m * size ≤ n * size := Nat.mul_le_mul_right _ hm
    refine ⟨by rw [List.length_take, h1]; omega, .inr ⟨g, c, cur, rfl, hg, hh, by omega, h4, h5, ?_⟩⟩
    rw [← h6, List.take_take]
    congr 1
    omega

theorem set2J {w : World} {b : Nat} {a0 a1 : Value} {t : TypeId} (h : w.heap[b]? = some (.cells #[a0, a1] t)) (u v : Value) : ((w.setCell ⟨b, 0, none⟩ u).setCell ⟨b, 1, none⟩ v).heap[b]? = some (.cells #[u, v] t) := by
  simp only [World.setCell, Array.getElem?_modify, if_true, h]
  rfl

theorem frz2J {w : World} {b : Nat} {a0 a1 : Value} {t : TypeId} (h : w.heap[b]? = some (.cells #[a0, a1] t)) (o : Nat) : w.frozen? ⟨b, o, none⟩ = false := by
  simp [World.frozen?, h]

/-- The items of a row are told anew. -/
theorem HqS.lay {w : World} {R B : Nat} {mv fv : Value} {X Y : List Jt} {p p' : Option Addr} {n n' c c' : Nat} (S : HqS w R B mv fv X p n c) (hY : w.ownsRow B 73 2 (.slice p' n' c') n' (rJ Y)) (hl : Y.length = n') (hm : ∀ z ∈ Y, Sym w z.b z.a) : HqS (w.setCell ⟨R, 3, none⟩ (.slice p' n' c')) R B mv fv Y p' n' c' := by
  have hne := kind_ne hY S.row (by decide)
  refine ⟨?_, ?_, hl, fun z hz => ?_⟩
  · simp only [World.setCell, Array.getElem?_modify, if_true, S.row]
    rfl
  · obtain ⟨h1, ⟨hv, h2⟩ | ⟨g, cp, cur, hv, hg, hh, r⟩⟩ := hY
    · exact ⟨h1, .inl ⟨hv, h2⟩⟩
    · refine ⟨h1, .inr ⟨g, cp, cur, hv, hg, ?_, r⟩⟩
      rw [Below.heap_setCell _ _ _ _ (fun e => hne (by rw [hv]; exact congrArg some e))]
      exact hh
  · obtain ⟨t, q1, q2, hs⟩ := hm z hz
    exact ⟨t, q1, q2, by rw [Below.heap_setCell _ _ _ _ (fun e => by rw [show z.b = R from e, S.row] at hs; simp at hs)]; exact hs⟩

theorem Fr8.setR {R : Nat} {v : Value} {w w' : World} (h : Fr8 R v w w') (o : Nat) (u : Value) : Fr8 R v w (w'.setCell ⟨R, o, none⟩ u) :=
  ⟨h.os, h.tape, h.output, by have := h.size; simpa [World.setCell] using this, fun k hk h1 h2 => by rw [Below.heap_setCell _ _ _ _ (by exact h1)]; exact h.block k hk h1 h2⟩

set_option maxRecDepth 20000 in
set_option maxHeartbeats 4000000 in
theorem pop_none (X : List Jt) (w : World) (R B : Nat) (mv fv : Value) (p : Option Addr) (c : Nat) (S : HqS w R B mv fv X p 0 c) :
    Calls Try.prog 42 #[.pointer (some ⟨R, 2, none⟩)] w fun e w' => e = .returned (.tuple #[.agg #[.int .i64 0, .pointer none], .bool false]) ∧ Below w.heap.size w w' := by
  have HS : Hid (HqS w R B mv fv X p 0 c) := S
  have hRw : R < w.heap.size := lt_of_some S.row
  clear S
  go_enter Try.func42, Try.ntmps42
  go_upto_region 2 with fail
  refine wp_genW (fun W => Hid (W.heap[w.heap.size]? = some (.cells #[.int .i64 0, .pointer none] 73)) ∧ Hid (W.heap[w.heap.size + 1]? = some (.cells #[.int .i64 0, .pointer none] 73)) ∧ Hid (Below w.heap.size w W)) ⟨by rw [Below.heap_alloc _ _ _ (by simp)]; exact alloc_last _ _, by
    have := alloc_last (w.alloc (.cells #[.int .i64 0, .pointer none] 73)) (.cells #[.int .i64 0, .pointer none] 73)
    rw [World.size_alloc] at this
    exact this, ((Below.refl _ _).alloc (Nat.le_refl _) _).alloc (by simp) _⟩ ?_
  rintro W0 ⟨HA, HB, HW⟩
  have S0 := HS.out.bel HW.out
  have hsl := S0.cells.2.2.2
  obtain ⟨a0, a1⟩ := box2 HA.out
  obtain ⟨b0, b1⟩ := box2 HB.out
  have fzA := frz2J HA.out
  have z := box2 (set2J HA.out (.int .i64 0) (.pointer none))
  obtain ⟨z0, z1⟩ := z
  have HF : Hid (Below w.heap.size w ((W0.setCell ⟨w.heap.size, 0, none⟩ (.int .i64 0)).setCell ⟨w.heap.size, 1, none⟩ (.pointer none))) := (HW.out.setCell (Nat.le_refl _) _).setCell (Nat.le_refl _) _
  clear S0
  go_wp2
  exact bodyPost_ret (v := .tuple #[.agg #[.int .i64 0, .pointer none], .bool false]) (by simp [results, Try.results42, go_sem, z0, z1]) rfl ⟨rfl, HF.out⟩

set_option maxRecDepth 20000 in
set_option maxHeartbeats 4000000 in
theorem pop_some (X : List Jt) (w : World) (R B : Nat) (mv fv : Value) (p : Option Addr) (m c : Nat) (hn : m + 1 ≤ 4000) (S : HqS w R B mv fv X p (m + 1) c) (hk : HpOk X) :
    Calls Try.prog 42 #[.pointer (some ⟨R, 2, none⟩)] w fun e w' => ∃ x0 Y, X[0]? = some x0 ∧ e = .returned (.tuple #[.agg #[.int .i64 x0.r, .pointer (some ⟨x0.b, 0, none⟩)], .bool true]) ∧ HqS w' R B mv fv Y p m c ∧ HpOk Y ∧ (∀ z ∈ Y, z ∈ X) ∧ (∀ z ∈ X, z = x0 ∨ z ∈ Y) ∧ Fr8 R (.slice p (m + 1) c) w w' := by
  have HS : Hid (HqS w R B mv fv X p (m + 1) c) := S
  have HK : Hid (HpOk X) := hk
  have hRw : R < w.heap.size := lt_of_some S.row
  obtain ⟨n, hnm⟩ : ∃ n, m + 1 = n := ⟨_, rfl⟩
  have HNM : Hid (m + 1 = n) := hnm
  rw [hnm] at S hn HS ⊢
  have hmn : m < n := by omega
  obtain ⟨g, rfl, hgw, hBg, hnc, hgR, hcl⟩ := S.items (by omega)
  obtain ⟨x0, hx0⟩ : ∃ x, X[0]? = some x := ⟨_, List.getElem?_eq_getElem (by rw [S.len]; omega)⟩
  obtain ⟨xm, hxm⟩ : ∃ x, X[m]? = some x := ⟨_, List.getElem?_eq_getElem (by rw [S.len]; omega)⟩
  have HX0 : Hid (X[0]? = some x0) := hx0
  have HXm : Hid (X[m]? = some xm) := hxm
  have HXL : Hid (X.length = m + 1) := by rw [← hnm] at S; exact S.len
  have hc0 := hcl 0 x0 hx0 0 _ rfl
  have hc1 := hcl 0 x0 hx0 1 _ rfl
  rw [Addr.add_mid, Nat.zero_mul, Nat.zero_add] at hc0 hc1
  have hmi : (0 : Int) ≤ (m : Int) := by omega
  have hmc : (m : Int) ≤ (c : Int) := by omega
  have e5 : IntKind.i64.wrap ((n : Int) - 1) = (m : Int) := by rw [IntWalk.i64_in _ (by omega)]; omega
  have hnz : ((n : Int) == 0) = false := by rw [beq_eq_false_iff_ne]; omega
  have hnp : (0 : Int) < (n : Int) := by omega
  have hgA : ¬ g = w.heap.size + 1 := by omega
  have hRA : ¬ R = w.heap.size + 1 := by omega
  clear S hk hcl hx0 hxm hnm
  go_enter Try.func42, Try.ntmps42
  go_upto_region 2 with fail
  refine wp_genW (fun W => Hid (W.heap[w.heap.size]? = some (.cells #[.int .i64 0, .pointer none] 73)) ∧ Hid (W.heap[w.heap.size + 1]? = some (.cells #[.int .i64 0, .pointer none] 73)) ∧ Hid (Below w.heap.size w W)) ⟨by rw [Below.heap_alloc _ _ _ (by simp)]; exact alloc_last _ _, by
    have := alloc_last (w.alloc (.cells #[.int .i64 0, .pointer none] 73)) (.cells #[.int .i64 0, .pointer none] 73)
    rw [World.size_alloc] at this
    exact this, ((Below.refl _ _).alloc (Nat.le_refl _) _).alloc (by simp) _⟩ ?_
  rintro W0 ⟨HA, HB, HW⟩
  have S0 := HS.out.bel HW.out
  have hsl := S0.cells.2.2.2
  obtain ⟨b0, b1⟩ := box2 HB.out
  have fzB := frz2J HB.out
  have k0 : W0.cell? ⟨g, 0, none⟩ = some (.int .i64 x0.r) := by rw [HW.out.cell (by exact hgw)]; exact hc0
  have k1 : W0.cell? ⟨g, 1, none⟩ = some (.pointer (some ⟨x0.b, 0, none⟩)) := by rw [HW.out.cell (by exact hgw)]; exact hc1
  clear hc0 hc1 S0
  go_upto_region 5 with fail
  refine wp_genW (fun W => Hid (W.heap[w.heap.size]? = some (.cells #[.int .i64 0, .pointer none] 73)) ∧ Hid (W.heap[w.heap.size + 1]? = some (.cells #[.int .i64 x0.r, .pointer (some ⟨x0.b, 0, none⟩)] 73)) ∧ Hid (Below w.heap.size w W)) ⟨by rw [Below.heap_setCell _ _ _ _ (by show w.heap.size ≠ w.heap.size + 1; omega), Below.heap_setCell _ _ _ _ (by show w.heap.size ≠ w.heap.size + 1; omega)]; exact HA.out, set2J HB.out _ _, (HW.out.setCell (by show w.heap.size ≤ w.heap.size + 1; omega) _).setCell (by show w.heap.size ≤ w.heap.size + 1; omega) _⟩ ?_
  clear hsl b0 b1 fzB k0 k1 HA HB HW
  rintro W1 ⟨HA, HB, HW⟩
  have S1 : Hid (HqS W1 R B mv fv X (some ⟨g, 0, none⟩) n c) := HS.out.bel HW.out
  have hsl := S1.out.cells.2.2.2
  go_wp2_with fail
  refine Calls.mono (swap_c X 0 m x0 xm W1 R B mv fv _ n c hn HX0.out HXm.out S1.out) ?_
  rintro e W2 ⟨rfl, hS2, hf2⟩
  clear hsl
  have hsw := swp_set HX0.out HXm.out
  obtain ⟨Y, hY⟩ : ∃ Y, (X.set 0 xm).set m x0 = Y := ⟨_, rfl⟩
  rw [hY] at hS2 hsw
  have HSW : Hid (Swp X Y 0 m) := hsw
  have S2 : Hid (HqS W2 R B mv fv Y (some ⟨g, 0, none⟩) n c) := hS2
  have HF2 : Hid (Fr8 R (.slice (some ⟨g, 0, none⟩) n c) W1 W2) := hf2
  have hlA1 := lt_of_some HA.out
  have hlB1 := lt_of_some HB.out
  have HA2 : Hid (W2.heap[w.heap.size]? = some (.cells #[.int .i64 0, .pointer none] 73)) := (hf2.block _ hlA1 (by omega) (by intro e; simp only [Value.ownBlock, Option.some.injEq] at e; omega)).trans HA.out
  have HB2 : Hid (W2.heap[w.heap.size + 1]? = some (.cells #[.int .i64 x0.r, .pointer (some ⟨x0.b, 0, none⟩)] 73)) := (hf2.block _ hlB1 (by omega) (by intro e; simp only [Value.ownBlock, Option.some.injEq] at e; omega)).trans HB.out
  have hsl := S2.out.cells.2.2.2
  have hfz := S2.out.frz
  clear hS2 hf2 hsw hY
  go_upto_region 8 with fail
  refine wp_genW (fun W => Hid (W.heap[w.heap.size]? = some (.cells #[.int .i64 0, .pointer none] 73)) ∧ Hid (W.heap[w.heap.size + 1]? = some (.cells #[.int .i64 x0.r, .pointer (some ⟨x0.b, 0, none⟩)] 73)) ∧ Hid (HqS W R B mv fv (Y.take m) (some ⟨g, 0, none⟩) m c) ∧ Hid (Fr8 R (.slice (some ⟨g, 0, none⟩) n c) w W)) ⟨by rw [Below.heap_setCell _ _ _ _ (by show w.heap.size ≠ R; omega)]; exact HA2.out, by rw [Below.heap_setCell _ _ _ _ (by show w.heap.size + 1 ≠ R; omega)]; exact HB2.out, ?_, ((Fr8.of_bel HW.out).trans (Nxt8.refl _ _) HF2.out).setR _ _⟩ ?_
  · have hYl : Y.length = n := S2.out.len
    have ho := own_pre S2.out.own (Nat.le_of_lt hmn)
    rw [← rJ_take Y m (by omega)] at ho
    exact S2.out.lay ho (by rw [List.length_take]; omega) (fun z hz => S2.out.ats z (List.mem_of_mem_take hz))
  clear hsl hfz HA2 HB2 HA HB
  rintro W3 ⟨HA, HB, S3, HF3⟩
  have HD3 : Hid (DnI (Y.take m) 0) := dn_start HXL.out HSW.out HK.out
  go_wp2_with fail
  refine (sink_c (Y.take m) W3 R B mv fv _ m c (by omega) S3.out HD3.out).mono ?_
  rintro e W4 ⟨rfl, Z, hS4, hk4, hm4, hf4⟩
  have S4 : Hid (HqS W4 R B mv fv Z (some ⟨g, 0, none⟩) m c) := hS4
  have HK4 : Hid (HpOk Z) := hk4
  have hpm := pop_mem HXL.out HX0.out HSW.out
  have HM1 : Hid (∀ z ∈ Z, z ∈ X) := fun z hz => hpm.1 z ((hm4 z).1 hz)
  have HM2 : Hid (∀ z ∈ X, z = x0 ∨ z ∈ Z) := fun z hz => (hpm.2 z hz).imp id (fun h => (hm4 z).2 h)
  have HF4 : Hid (Fr8 R (.slice (some ⟨g, 0, none⟩) n c) w W4) := HF3.out.trans (v' := .slice (some ⟨g, 0, none⟩) m c) (fun k hk => .inl hk) hf4
  have HA4 : Hid (W4.heap[w.heap.size]? = some (.cells #[.int .i64 0, .pointer none] 73)) := (hf4.block _ (lt_of_some HA.out) (by omega) (by intro e; simp only [Value.ownBlock, Option.some.injEq] at e; omega)).trans HA.out
  have HB4 : Hid (W4.heap[w.heap.size + 1]? = some (.cells #[.int .i64 x0.r, .pointer (some ⟨x0.b, 0, none⟩)] 73)) := (hf4.block _ (lt_of_some HB.out) (by omega) (by intro e; simp only [Value.ownBlock, Option.some.injEq] at e; omega)).trans HB.out
  clear hS4 hk4 hm4 hf4 hpm HA HB
  obtain ⟨a0, a1⟩ := box2 HA4.out
  obtain ⟨b0, b1⟩ := box2 HB4.out
  have fzA := frz2J HA4.out
  obtain ⟨z0, z1⟩ := box2 (set2J HA4.out (.int .i64 x0.r) (.pointer (some ⟨x0.b, 0, none⟩)))
  have hgA' : ¬ g = w.heap.size := by omega
  have HE : Hid (HqS ((W4.setCell ⟨w.heap.size, 0, none⟩ (.int .i64 x0.r)).setCell ⟨w.heap.size, 1, none⟩ (.pointer (some ⟨x0.b, 0, none⟩))) R B mv fv Z (some ⟨g, 0, none⟩) m c) := by
    have key : ∀ W, HqS W R B mv fv Z (some ⟨g, 0, none⟩) m c → ∀ (o : Nat) (u : Value), (∀ z ∈ Z, z.b ≠ w.heap.size) → HqS (W.setCell ⟨w.heap.size, o, none⟩ u) R B mv fv Z (some ⟨g, 0, none⟩) m c := fun W S o u hz => by
      refine ⟨by rw [Below.heap_setCell _ _ _ _ (by show R ≠ w.heap.size; omega)]; exact S.row, ?_, S.len, fun z hzz => ?_⟩
      · obtain ⟨h1, ⟨hv, _⟩ | ⟨g2, cp, cur, hv, hg2, hh, r⟩⟩ := S.own
        · cases hv
        · simp only [Value.slice.injEq, Option.some.injEq, Addr.mk.injEq, and_true, true_and] at hv
          obtain ⟨rfl, rfl⟩ := hv
          exact ⟨h1, .inr ⟨g, c, cur, rfl, hg2, by rw [Below.heap_setCell _ _ _ _ (by show g ≠ w.heap.size; omega)]; exact hh, r⟩⟩
      · obtain ⟨t, q1, q2, hs⟩ := S.ats z hzz
        exact ⟨t, q1, q2, by rw [Below.heap_setCell _ _ _ _ (by exact hz z hzz)]; exact hs⟩
    have hz : ∀ z ∈ Z, z.b ≠ w.heap.size := fun z hzz e => by
      obtain ⟨t, q1, q2, hs⟩ := S4.out.ats z hzz
      rw [e, HA4.out] at hs
      simp at hs
    exact key _ (key _ S4.out 0 _ hz) 1 _ hz
  have HFE : Hid (Fr8 R (.slice (some ⟨g, 0, none⟩) n c) w ((W4.setCell ⟨w.heap.size, 0, none⟩ (.int .i64 x0.r)).setCell ⟨w.heap.size, 1, none⟩ (.pointer (some ⟨x0.b, 0, none⟩)))) :=
    ⟨HF4.out.os, HF4.out.tape, HF4.out.output, by have := HF4.out.size; simpa [World.setCell] using this, fun k hk h1 h2 => by rw [Below.heap_setCell _ _ _ _ (by show k ≠ w.heap.size; omega), Below.heap_setCell _ _ _ _ (by show k ≠ w.heap.size; omega)]; exact HF4.out.block k hk h1 h2⟩
  go_wp2
  exact bodyPost_ret (v := .tuple #[.agg #[.int .i64 x0.r, .pointer (some ⟨x0.b, 0, none⟩)], .bool true]) (by simp [results, Try.results42, go_sem, z0, z1]) rfl ⟨x0, Z, HX0.out, rfl, HE.out, HK4.out, HM1.out, HM2.out, HFE.out⟩

end Go.Proofs.Ytdhbhifgmbppjaa

/- An item is pushed. -/
namespace Go.Proofs.Ytdhbhifgmbppjaa
open Go.RowKit
set_option linter.unusedVariables false
set_option linter.unusedSimpArgs false

theorem infoJ : (Try.prog.info? 73).map (fun i => (i.zero, i.size, i.bytes)) = some (some (.agg #[.int .i64 0, .pointer none]), 2, 16) := by kernel_rfl

/-- The items of a row are told anew: whatever they were. -/
theorem lay8 {w : World} {R B : Nat} {mv fv v0 : Value} {Y : List Jt} {p' : Option Addr} {n' c' : Nat} (hrow : w.heap[R]? = some (.cells #[mv, fv, (.func (.func 40) #[] #[]), v0] 68)) (hY : w.ownsRow B 73 2 (.slice p' n' c') n' (rJ Y)) (hl : Y.length = n') (hm : ∀ z ∈ Y, Sym w z.b z.a) : HqS (w.setCell ⟨R, 3, none⟩ (.slice p' n' c')) R B mv fv Y p' n' c' := by
  have hne := kind_ne hY hrow (by decide)
  refine ⟨?_, ?_, hl, fun z hz => ?_⟩
  · simp only [World.setCell, Array.getElem?_modify, if_true, hrow]
    rfl
  · obtain ⟨h1, ⟨hv, h2⟩ | ⟨g, cp, cur, hv, hg, hh, r⟩⟩ := hY
    · exact ⟨h1, .inl ⟨hv, h2⟩⟩
    · refine ⟨h1, .inr ⟨g, cp, cur, hv, hg, ?_, r⟩⟩
      rw [Below.heap_setCell _ _ _ _ (fun e => hne (by rw [hv]; exact congrArg some e))]
      exact hh
  · obtain ⟨t, q1, q2, hs⟩ := hm z hz
    exact ⟨t, q1, q2, by rw [Below.heap_setCell _ _ _ _ (fun e => by rw [show z.b = R from e, hrow] at hs; simp at hs)]; exact hs⟩

theorem Sym.grown {w w' : World} {b : Nat} {a : Int} {base : Nat} {size m : Nat} {v : Value} {xs : List Value} (h : Sym w b a) (ho : w.ownsRow base 73 size v m xs) (hg : w.grownBy w' v.ownBlock) : Sym w' b a := by
  obtain ⟨t, q1, q2, hs⟩ := h
  exact ⟨t, q1, q2, (hg.block _ (lt_of_some hs) (fun e => kind_ne ho hs (by decide) e.symm)).trans hs⟩

theorem Sym.bel {w w' : World} {b : Nat} {a : Int} (h : Sym w b a) (hb : Below w.heap.size w w') : Sym w' b a := by
  obtain ⟨t, q1, q2, hs⟩ := h
  exact ⟨t, q1, q2, (hb.block _ (lt_of_some hs)).trans hs⟩

set_option maxRecDepth 20000 in
set_option maxHeartbeats 4000000 in
theorem cell_two_newJ (w : World) (a b : Value) (t : TypeId) : ∀ j u, ([a, b] : List Value)[j]? = some u → (w.alloc (.cells #[a, b] t)).cell? ((⟨w.heap.size, 0, none⟩ : Addr).add j) = some u := fun j u h => by
  rw [Addr.add_mid, Nat.zero_add]
  simp only [World.cell?, alloc_last]
  simpa using h

set_option maxRecDepth 20000 in
set_option maxHeartbeats 4000000 in
theorem push_c (X : List Jt) (x : Jt) (w : World) (R B : Nat) (mv fv : Value) (p : Option Addr) (n c : Nat) (hn : n + 1 ≤ 4000) (S : HqS w R B mv fv X p n c) (hk : HpOk X) (hx : Sym w x.b x.a) (hBw : B ≤ w.heap.size) :
    Calls Try.prog 57 #[.pointer (some ⟨R, 2, none⟩), .agg #[.int .i64 x.r, .pointer (some ⟨x.b, 0, none⟩)]] w fun e w' => e = .returned (.tuple #[]) ∧ ∃ Y p' c', HqS w' R B mv fv Y p' (n + 1) c' ∧ HpOk Y ∧ (∀ z, z ∈ Y ↔ z ∈ X ∨ z = x) ∧ Fr8 R (.slice p n c) w w' ∧ Nxt8 w (.slice p n c) (.slice p' (n + 1) c') := by
  have HS : Hid (HqS w R B mv fv X p n c) := S
  have HK : Hid (HpOk X) := hk
  have HXS : Hid (Sym w x.b x.a) := hx
  obtain ⟨i0, hi, hz0, hz1, hz2⟩ := info_parts infoJ
  have hXl : X.length = n := S.len
  have HXL : Hid (X.length = n) := hXl
  obtain ⟨W0, hW0⟩ : ∃ W, W = w.alloc (.cells #[.int .i64 x.r, .pointer (some ⟨x.b, 0, none⟩)] 73) := ⟨_, rfl⟩
  have HWW : Hid (w.alloc (.cells #[.int .i64 x.r, .pointer (some ⟨x.b, 0, none⟩)] 73) = W0) := hW0.symm
  have HW0 : Hid (Below w.heap.size w W0) := by rw [hW0]; exact (Below.refl _ _).alloc (Nat.le_refl _) _
  have hxD : ∀ j u, ([.int .i64 x.r, .pointer (some ⟨x.b, 0, none⟩)] : List Value)[j]? = some u → W0.drew.cell? ((⟨w.heap.size, 0, none⟩ : Addr).add j) = some u := by rw [hW0]; exact cell_two_newJ w _ _ _
  have hslD := (HS.out.bel HW0.out.drew).cells.2.2.2
  clear S hk hx hW0 hXl
  go_enter Try.func57, Try.ntmps57
  go_upto_region 1 with fail
  rw [HWW.out]
  refine wp_region_L [⟨7, fun W => W.cell? ⟨R, 3, none⟩ = some (.slice p n c)⟩, ⟨6, fun W => ∀ j u, ([.int .i64 x.r, .pointer (some ⟨x.b, 0, none⟩)] : List Value)[j]? = some u → W.cell? ((⟨w.heap.size, 0, none⟩ : Addr).add j) = some u⟩] (by kernel_rfl) (fun f hf => by
      simp only [List.mem_cons, List.not_mem_nil, or_false] at hf
      rcases hf with rfl | rfl
      · exact hslD
      · exact hxD
      ) ?_
  refine At.take 0 (some 5) (.pointer (some ⟨R, 2, none⟩)) rfl rfl (by kernel_rfl) (by kernel_rfl) (by kernel_rfl) (by kernel_rfl) (fun _ _ _ h => h) (yl_pure (by kernel_rfl) (fun _ => by kernel_rfl)) ?_
  refine At.take 1 (some 6) (.pointer (some ⟨R, 2, none⟩)) rfl rfl (by kernel_rfl) (by kernel_rfl) (by kernel_rfl) (by kernel_rfl) (fun _ _ _ h => h) (yl_pure (by kernel_rfl) (fun _ => by kernel_rfl)) ?_
  refine At.take 2 (some 7) (.pointer (some ⟨R, 2, none⟩)) rfl rfl (by kernel_rfl) (by kernel_rfl) (by kernel_rfl) (by kernel_rfl) (fun _ _ _ h => h) (yl_pure (by kernel_rfl) (fun _ => by kernel_rfl)) ?_
  refine At.take 3 (some 8) (.pointer (some ⟨R, 3, none⟩)) rfl rfl (by kernel_rfl) (by kernel_rfl) (by kernel_rfl) (by kernel_rfl) (fun _ _ _ h => h) (yl_pure (by kernel_rfl) (fun _ => by kernel_rfl)) ?_
  refine At.take 4 (some 9) (.slice p n c) rfl rfl (by kernel_rfl) (by kernel_rfl) (by kernel_rfl) (by kernel_rfl) (fun _ _ _ h => h) (yl_load 7 ⟨R, 3, none⟩ (.slice p n c) (List.mem_cons_self) [7] (by kernel_rfl) rfl (by kernel_rfl) (fun _ => by kernel_rfl)) ?_
  refine At.take 5 (some 10) (.agg #[.int .i64 x.r, .pointer (some ⟨x.b, 0, none⟩)]) rfl rfl (by kernel_rfl) (by kernel_rfl) (by kernel_rfl) (by kernel_rfl) (fun _ _ _ h => h) (yl_loads 6 ⟨w.heap.size, 0, none⟩ [.int .i64 x.r, .pointer (some ⟨x.b, 0, none⟩)] (List.mem_cons_of_mem _ (List.mem_cons_self)) [6] (by kernel_rfl) rfl (by kernel_rfl) (fun _ => by kernel_rfl)) ?_
  refine At.step 6 (some 11) rfl rfl (by kernel_rfl) (by kernel_rfl) (fun u W => u = .slice (some ⟨W0.drew.heap.size, 0, none⟩) 1 1 ∧ W = W0.drew.alloc (.cells #[.int .i64 x.r, .pointer (some ⟨x.b, 0, none⟩)] 73)) (gives_run (by kernel_rfl)) ?_
  rintro u WB ⟨rfl, hWB⟩
  have hbB : Below w.heap.size w WB := by rw [hWB]; exact (HW0.out.drew).alloc HW0.out.size _
  have SB := HS.out.bel hbB
  have hnb : ∀ j u, ([.int .i64 x.r, .pointer (some ⟨x.b, 0, none⟩)] : List Value)[j]? = some u → WB.cell? ((⟨W0.drew.heap.size, 0, none⟩ : Addr).add j) = some u := by rw [hWB]; exact cell_two_newJ _ _ _ _
  refine ⟨held_cons (.inr ((SB.cells.2.2.2))) (held_cons (.inl (by kernel_rfl)) (held_nil)), ?_⟩
  obtain ⟨v', WC, hrun, hown, hgrow, _, hblk⟩ := run_append_own_at (P := Try.prog) WB B 63 63 73 i0 (.agg #[.int .i64 0, .pointer none]) 2 16 Try.underlying63 hi hz0 hz1 hz2 rfl (by decide) (.slice p n c) n (rJ X) SB.own ⟨W0.drew.heap.size, 0, none⟩ 1 1 [.int .i64 x.r, .pointer (some ⟨x.b, 0, none⟩)] rfl hnb (cJ_one x) (by unfold maxLen; omega) (by omega) (Nat.le_trans hBw hbB.size)
  obtain ⟨p2, c2, rfl⟩ := own_sliceV hown
  refine At.step 7 (some 12) rfl rfl (by kernel_rfl) (by kernel_rfl) (fun u W => u = .slice p2 (n + 1) c2 ∧ W = WC) (gives_append (fun _ => by kernel_rfl) hrun) ?_
  rintro u WC' ⟨rfl, hWC⟩
  subst hWC
  have hrowC : WC'.heap[R]? = some (.cells #[mv, fv, (.func (.func 40) #[] #[]), .slice p n c] 68) := (hgrow.block _ (lt_of_some SB.row) (fun e => kind_ne SB.own SB.row (by decide) e.symm)).trans SB.row
  have hslC : WC'.cell? ⟨R, 3, none⟩ = some (.slice p n c) := by simp [World.cell?, hrowC]
  have hfzC : WC'.frozen? ⟨R, 3, none⟩ = false := by simp [World.frozen?, hrowC]
  refine ⟨held_cons (.inl (by kernel_rfl)) (held_cons (.inl (by kernel_rfl)) (held_nil)), ?_⟩
  refine At.take 8 (some 13) (.pointer (some ⟨R, 2, none⟩)) rfl rfl (by kernel_rfl) (by kernel_rfl) (by kernel_rfl) (by kernel_rfl) (fun _ _ _ h => h) (yl_pure (by kernel_rfl) (fun _ => by kernel_rfl)) ?_
  refine At.take 9 (some 14) (.pointer (some ⟨R, 3, none⟩)) rfl rfl (by kernel_rfl) (by kernel_rfl) (by kernel_rfl) (by kernel_rfl) (fun _ _ _ h => h) (yl_pure (by kernel_rfl) (fun _ => by kernel_rfl)) ?_
  refine At.step 10 none rfl rfl (by kernel_rfl) (by kernel_rfl) (fun u W => u = undef ∧ W = WC'.setCell ⟨R, 3, none⟩ (.slice p2 (n + 1) c2)) (gives_store (p := ⟨R, 3, none⟩) (x := .slice p2 (n + 1) c2) (y := .slice p n c) (fun _ => by kernel_rfl) (by rfl) hslC hfzC) ?_
  rintro u WE ⟨rfl, hWE⟩
  refine ⟨held_cons (.inl (by kernel_rfl)) (held_cons (.inl (by kernel_rfl)) (held_nil)), ?_⟩
  refine At.done (by kernel_rfl) ?_
  simp only [Act.put, List.setIfInBounds_toArray, List.set_cons_zero, List.set_cons_succ]
  have HSE : Hid (HqS WE R B mv fv (X ++ [x]) p2 (n + 1) c2) := by
    rw [hWE]
    refine lay8 hrowC ?_ (by rw [List.length_append, HXL.out]; rfl) (fun z hz => ?_)
    · rw [rJ_one]; exact hown
    · rcases List.mem_append.1 hz with h | h
      · exact (SB.ats z h).grown SB.own hgrow
      · rw [List.mem_singleton.1 h]; exact (HXS.out.bel hbB).grown SB.own hgrow
  have HFE : Hid (Fr8 R (.slice p n c) w WE) := by
    rw [hWE]
    have h1 : Fr8 R (.slice p n c) w WC' := ⟨hgrow.os.trans hbB.os, hgrow.tape.trans hbB.tape, hgrow.output.trans hbB.output, Nat.le_trans hbB.size hgrow.size, fun k hk h1 h2 => (hgrow.block k (Nat.lt_of_lt_of_le hk hbB.size) (fun e => h2 e.symm)).trans (hbB.block k hk)⟩
    exact h1.setR _ _
  have HNE : Hid (Nxt8 w (.slice p n c) (.slice p2 (n + 1) c2)) := fun k hk => by
    rcases hblk with h | h
    · exact .inl (by rw [← h]; exact hk)
    · rw [h] at hk
      simp only [Option.some.injEq] at hk
      have := hbB.size
      exact .inr (by omega)
  have HUE : Hid (UpI (X ++ [x]) n) := by have := up_start x HK.out; rw [HXL.out] at this; exact this
  have HME : Hid (∀ z, z ∈ X ++ [x] ↔ z ∈ X ∨ z = x) := fun z => by rw [List.mem_append, List.mem_singleton]
  clear hWE hrowC hslC hfzC hown hgrow hblk hrun hnb hbB SB hWB hxD hslD hi hz0 hz1 hz2
  obtain ⟨N, hN⟩ : ∃ N, n + 1 = N := ⟨_, rfl⟩
  have HNN : Hid (n + 1 = N) := hN
  rw [hN] at HSE HNE ⊢
  have hnN : n < N := by omega
  have hN4 : N ≤ 4000 := by omega
  have hN4' : (N : Int) ≤ 4000 := by omega
  have e5 : IntKind.i64.wrap ((N : Int) - 1) = (n : Int) := by rw [IntWalk.i64_in _ (by omega)]; omega
  have hsl := HSE.out.cells.2.2.2
  clear hN
  go_wp2_with fail
  clear hsl e5
  go_loopw [4] (fun av wr => ∃ (Y : List Jt) (a : Nat), av = .int .i64 (a : Int) ∧ a < N ∧ Hid (HqS wr R B mv fv Y p2 N c2) ∧ Hid (UpI Y a) ∧ Hid (∀ z, z ∈ Y ↔ z ∈ X ∨ z = x) ∧ Hid (Fr8 R (.slice p n c) w wr)) (fun av _ => (intOf av).toNat)
  case atStart => exact ⟨_, n, rfl, hnN, HSE, HUE, HME, HFE⟩
  case round =>
    clear HSE HUE HME HFE
    obtain ⟨Y, a, rfl, ha, S, HU, HM, HF⟩ := hrel
    rcases Nat.eq_zero_or_pos a with h0 | h0
    · subst h0
      have HKK : Hid (HpOk Y) := up_top HU.out
      have hz0 : ¬ ((0 : Nat) : Int) > 0 := by omega
      go_upto_region 3 with fail
      refine wp_region_told (fun W => Below wr.heap.size wr W) (by kernel_rfl) (by kernel_rfl) ((Below.refl wr.heap.size wr).drew) ?_
      refine told_pure (some 21) (.int .i64 (((0 : Nat) : Int))) rfl (by kernel_rfl) (fun _ => by kernel_rfl) ?_
      refine told_is (some 22) (.bool (decide (((0 : Nat) : Int) > 0))) (.bool false) (by rw [decide_eq_false hz0]) rfl (by kernel_rfl) (fun _ => by kernel_rfl) ?_
      refine told_pure (some 23) (.bool false) rfl (by kernel_rfl) (fun _ => by kernel_rfl) ?_
      refine told_skip (some 24) rfl (by kernel_rfl) ?_
      refine told_skip (some 25) rfl (by kernel_rfl) ?_
      refine told_skip (some 26) rfl (by kernel_rfl) ?_
      refine told_skip (some 27) rfl (by kernel_rfl) ?_
      refine told_skip (some 28) rfl (by kernel_rfl) ?_
      refine told_skip (some 29) rfl (by kernel_rfl) ?_
      refine told_skip (some 30) rfl (by kernel_rfl) ?_
      refine told_skip (some 31) rfl (by kernel_rfl) ?_
      refine told_skip (some 32) rfl (by kernel_rfl) ?_
      refine told_skip (some 33) rfl (by kernel_rfl) ?_
      refine told_skip (some 34) rfl (by kernel_rfl) ?_
      refine told_skip (some 35) rfl (by kernel_rfl) ?_
      refine told_skip (some 36) rfl (by kernel_rfl) ?_
      refine told_skip (some 37) rfl (by kernel_rfl) ?_
      refine told_skip (some 38) rfl (by kernel_rfl) ?_
      refine told_skip (some 39) rfl (by kernel_rfl) ?_
      refine told_skip (some 40) rfl (by kernel_rfl) ?_
      refine told_skip (some 41) rfl (by kernel_rfl) ?_
      refine told_skip (some 42) rfl (by kernel_rfl) ?_
      refine told_skip (some 43) rfl (by kernel_rfl) ?_
      refine told_skip (some 44) rfl (by kernel_rfl) ?_
      refine told_pure (some 45) (.bool false) rfl (by kernel_rfl) (fun _ => by kernel_rfl) ?_
      refine told_nil ?_
      intro W2 hS2
      simp only [Act.put, List.setIfInBounds_toArray, List.set_cons_zero, List.set_cons_succ]
      have S2 : Hid (HqS W2 R B mv fv Y p2 N c2) := S.out.bel hS2
      have HF2 : Hid (Fr8 R (.slice p n c) w W2) := HF.out.bel hS2
      clear hS2
      go_wp2
      go_end0
      refine ⟨rfl, Y, p2, c2, ?_⟩
      rw [HNN.out]
      exact ⟨S2.out, HKK.out, HM.out, HF2.out, HNE.out⟩
    obtain ⟨m, rfl⟩ : ∃ m, a = m + 1 := ⟨a - 1, by omega⟩
    obtain ⟨q, hq⟩ : ∃ q, m / 2 = q := ⟨_, rfl⟩
    have HQ : Hid (q = (m + 1 - 1) / 2 ∧ q ≤ m) := ⟨by omega, by omega⟩
    have hqm : q < N := by omega
    have hap : ((m + 1 : Nat) : Int) > 0 := by omega
    have e1 : IntKind.i64.wrap (((m + 1 : Nat) : Int) - 1) = (m : Int) := by rw [IntWalk.i64_in _ (by omega)]; omega
    have e2 : (m : Int) / 2 = (q : Int) := by omega
    have e3 : IntKind.i64.wrap (q : Int) = (q : Int) := IntWalk.i64_in _ (by omega)
    have hap' : (0 : Int) < ((m + 1 : Nat) : Int) := by omega
    obtain ⟨A, hA⟩ : ∃ A, m + 1 = A := ⟨_, rfl⟩
    have HAA : Hid (m + 1 = A) := hA
    rw [hA] at ha HU HQ hap hap' e1 ⊢
    obtain ⟨g, hp2, hgw, hBg, hnc, hgR, hcl⟩ := S.out.items (by omega)
    subst hp2
    obtain ⟨xa, hxa⟩ : ∃ x, Y[A]? = some x := ⟨_, List.getElem?_eq_getElem (by rw [S.out.len]; omega)⟩
    obtain ⟨xq, hxq⟩ : ∃ x, Y[q]? = some x := ⟨_, List.getElem?_eq_getElem (by rw [S.out.len]; omega)⟩
    have HXa : Hid (Y[A]? = some xa) := hxa
    have HXq : Hid (Y[q]? = some xq) := hxq
    have hca := hcl A xa hxa
    have hcq := hcl q xq hxq
    have hma := List.mem_of_getElem? hxa
    have hmq := List.mem_of_getElem? hxq
    have hsl := S.out.cells.2.2.2
    have hless := S.out.cells.2.2.1
    have haN : (A : Int) < N := by omega
    have hqN : (q : Int) < N := by omega
    clear hcl hxa hxq h0 hA hq
    go_upto_region 3 with fail
    by_cases hlt : ltJ xa xq
    · skip
      refine wp_region_told (fun W => Below wr.heap.size wr W) (by kernel_rfl) (by kernel_rfl) ((Below.refl wr.heap.size wr).drew) ?_
      refine told_pure (some 21) (.int .i64 ((A : Int))) rfl (by kernel_rfl) (fun _ => by kernel_rfl) ?_
      refine told_is (some 22) (.bool (decide ((A : Int) > 0))) (.bool true) (by rw [decide_eq_true hap]) rfl (by kernel_rfl) (fun _ => by kernel_rfl) ?_
      refine told_pure (some 23) (.bool true) rfl (by kernel_rfl) (fun _ => by kernel_rfl) ?_
      refine told_pure (some 24) (.pointer (some ⟨R, 2, none⟩)) rfl (by kernel_rfl) (fun _ => by kernel_rfl) ?_
      refine told_pure (some 25) (.pointer (some ⟨R, 2, none⟩)) rfl (by kernel_rfl) (fun _ => by kernel_rfl) ?_
      refine told_pure (some 26) (.pointer (some ⟨R, 2, none⟩)) rfl (by kernel_rfl) (fun _ => by kernel_rfl) ?_
      refine told_load (some 27) ⟨R, 2, none⟩ ((.func (.func 40) #[] #[])) rfl (by kernel_rfl) (fun _ => by kernel_rfl) (fun _ hS => atB hS hless) ?_
      refine told_pure (some 28) (.pointer (some ⟨R, 2, none⟩)) rfl (by kernel_rfl) (fun _ => by kernel_rfl) ?_
      refine told_pure (some 29) (.pointer (some ⟨R, 2, none⟩)) rfl (by kernel_rfl) (fun _ => by kernel_rfl) ?_
      refine told_pure (some 30) (.pointer (some ⟨R, 3, none⟩)) rfl (by kernel_rfl) (fun _ => by kernel_rfl) ?_
      refine told_load (some 31) ⟨R, 3, none⟩ (.slice (some ⟨g, 0, none⟩) N c2) rfl (by kernel_rfl) (fun _ => by kernel_rfl) (fun _ hS => atB hS hsl) ?_
      refine told_pure (some 32) (.int .i64 ((A : Int))) rfl (by kernel_rfl) (fun _ => by kernel_rfl) ?_
      refine told_pure (some 33) (.pointer (some ⟨g, A * 2, none⟩)) rfl (by kernel_rfl) (fun w => by go_simp) ?_
      refine told_loads (some 34) ⟨g, A * 2, none⟩ [.int .i64 xa.r, .pointer (some ⟨xa.b, 0, none⟩)] rfl (by kernel_rfl) (fun _ => by kernel_rfl) (fun W hS j u hj => atB hS (hca j u hj)) ?_
      refine told_pure (some 35) (.pointer (some ⟨R, 2, none⟩)) rfl (by kernel_rfl) (fun _ => by kernel_rfl) ?_
      refine told_pure (some 36) (.pointer (some ⟨R, 2, none⟩)) rfl (by kernel_rfl) (fun _ => by kernel_rfl) ?_
      refine told_pure (some 37) (.pointer (some ⟨R, 3, none⟩)) rfl (by kernel_rfl) (fun _ => by kernel_rfl) ?_
      refine told_load (some 38) ⟨R, 3, none⟩ (.slice (some ⟨g, 0, none⟩) N c2) rfl (by kernel_rfl) (fun _ => by kernel_rfl) (fun _ hS => atB hS hsl) ?_
      refine told_pure (some 39) (.int .i64 ((A : Int))) rfl (by kernel_rfl) (fun _ => by kernel_rfl) ?_
      refine told_is (some 40) (.int .i64 (IntKind.i64.wrap ((A : Int) - 1))) (.int .i64 (m : Int)) (by rw [e1]) rfl (by kernel_rfl) (fun _ => by kernel_rfl) ?_
      refine told_pure (some 41) (.int .i64 (q : Int)) rfl (by kernel_rfl) (fun w => by go_simp) ?_
      refine told_pure (some 42) (.pointer (some ⟨g, q * 2, none⟩)) rfl (by kernel_rfl) (fun w => by go_simp) ?_
      refine told_loads (some 43) ⟨g, q * 2, none⟩ [.int .i64 xq.r, .pointer (some ⟨xq.b, 0, none⟩)] rfl (by kernel_rfl) (fun _ => by kernel_rfl) (fun W hS j u hj => atB hS (hcq j u hj)) ?_
      refine told_call (some 44) (.bool true) 40 #[.agg #[.int .i64 xa.r, .pointer (some ⟨xa.b, 0, none⟩)], .agg #[.int .i64 xq.r, .pointer (some ⟨xq.b, 0, none⟩)]] rfl (by kernel_rfl) (fun _ => by kernel_rfl) (fun W hS => below_S ((sooner_c xa xq W (Sym.cell ((S.out.bel hS).ats _ hma)) (Sym.cell ((S.out.bel hS).ats _ hmq))).mono fun e w' ⟨he, hb⟩ => ⟨by rw [he, decide_eq_true hlt], hb⟩) hS) ?_
      refine told_pure (some 45) (.bool true) rfl (by kernel_rfl) (fun _ => by kernel_rfl) ?_
      refine told_nil ?_
      intro W2 hS2
      simp only [Act.put, List.setIfInBounds_toArray, List.set_cons_zero, List.set_cons_succ]
      have S2 : Hid (HqS W2 R B mv fv Y (some ⟨g, 0, none⟩) N c2) := S.out.bel hS2
      have HF2 : Hid (Fr8 R (.slice p n c) w W2) := HF.out.bel hS2
      clear hS2 hca hcq hsl hless
      go_wp2_with fail
      refine (swap_c Y A q xa xq W2 R B mv fv _ N c2 hN4 HXa.out HXq.out S2.out).mono ?_
      rintro e W3 ⟨rfl, hS3, hf3⟩
      have S3 : Hid (HqS W3 R B mv fv ((Y.set A xq).set q xa) (some ⟨g, 0, none⟩) N c2) := hS3
      have HF3 : Hid (Fr8 R (.slice p n c) w W3) := HF2.out.trans HNE.out hf3
      have hsw := swp_set HXa.out HXq.out
      have HU3 : Hid (UpI ((Y.set A xq).set q xa) q) := by
        have e : (A - 1) / 2 = q := by have := HQ.out.1; omega
        have h := up_step (by omega) HXa.out (by rw [e]; exact HXq.out) hlt (by rw [e]; exact hsw) HU.out
        rw [e] at h
        exact h
      have HM3 : Hid (∀ z, z ∈ (Y.set A xq).set q xa ↔ z ∈ X ∨ z = x) := fun z => (hsw.mem (List.getElem?_eq_some_iff.1 HXa.out).1 (List.getElem?_eq_some_iff.1 HXq.out).1 z).trans (HM.out z)
      have hqA : q < A := by have := HQ.out.2; have := HAA.out; omega
      clear hS3 hf3 hsw hlt
      go_wp2
      go_roundw
      case rel => first | exact ⟨_, q, by go_num, hqm, S3, HU3, HM3, HF3⟩ | ((repeat apply Exists.intro); exact ⟨⟨_, q, rfl, hqm, S3, HU3, HM3, HF3⟩, rfl⟩) | ((repeat apply Exists.intro); exact ⟨⟨_, q, by go_num, hqm, S3, HU3, HM3, HF3⟩, rfl⟩)
      case measure => simp [intOf] <;> omega
    · skip
      refine wp_region_told (fun W => Below wr.heap.size wr W) (by kernel_rfl) (by kernel_rfl) ((Below.refl wr.heap.size wr).drew) ?_
      refine told_pure (some 21) (.int .i64 ((A : Int))) rfl (by kernel_rfl) (fun _ => by kernel_rfl) ?_
      refine told_is (some 22) (.bool (decide ((A : Int) > 0))) (.bool true) (by rw [decide_eq_true hap]) rfl (by kernel_rfl) (fun _ => by kernel_rfl) ?_
      refine told_pure (some 23) (.bool true) rfl (by kernel_rfl) (fun _ => by kernel_rfl) ?_
      refine told_pure (some 24) (.pointer (some ⟨R, 2, none⟩)) rfl (by kernel_rfl) (fun _ => by kernel_rfl) ?_
      refine told_pure (some 25) (.pointer (some ⟨R, 2, none⟩)) rfl (by kernel_rfl) (fun _ => by kernel_rfl) ?_
      refine told_pure (some 26) (.pointer (some ⟨R, 2, none⟩)) rfl (by kernel_rfl) (fun _ => by kernel_rfl) ?_
      refine told_load (some 27) ⟨R, 2, none⟩ ((.func (.func 40) #[] #[])) rfl (by kernel_rfl) (fun _ => by kernel_rfl) (fun _ hS => atB hS hless) ?_
      refine told_pure (some 28) (.pointer (some ⟨R, 2, none⟩)) rfl (by kernel_rfl) (fun _ => by kernel_rfl) ?_
      refine told_pure (some 29) (.pointer (some ⟨R, 2, none⟩)) rfl (by kernel_rfl) (fun _ => by kernel_rfl) ?_
      refine told_pure (some 30) (.pointer (some ⟨R, 3, none⟩)) rfl (by kernel_rfl) (fun _ => by kernel_rfl) ?_
      refine told_load (some 31) ⟨R, 3, none⟩ (.slice (some ⟨g, 0, none⟩) N c2) rfl (by kernel_rfl) (fun _ => by kernel_rfl) (fun _ hS => atB hS hsl) ?_
      refine told_pure (some 32) (.int .i64 ((A : Int))) rfl (by kernel_rfl) (fun _ => by kernel_rfl) ?_
      refine told_pure (some 33) (.pointer (some ⟨g, A * 2, none⟩)) rfl (by kernel_rfl) (fun w => by go_simp) ?_
      refine told_loads (some 34) ⟨g, A * 2, none⟩ [.int .i64 xa.r, .pointer (some ⟨xa.b, 0, none⟩)] rfl (by kernel_rfl) (fun _ => by kernel_rfl) (fun W hS j u hj => atB hS (hca j u hj)) ?_
      refine told_pure (some 35) (.pointer (some ⟨R, 2, none⟩)) rfl (by kernel_rfl) (fun _ => by kernel_rfl) ?_
      refine told_pure (some 36) (.pointer (some ⟨R, 2, none⟩)) rfl (by kernel_rfl) (fun _ => by kernel_rfl) ?_
      refine told_pure (some 37) (.pointer (some ⟨R, 3, none⟩)) rfl (by kernel_rfl) (fun _ => by kernel_rfl) ?_
      refine told_load (some 38) ⟨R, 3, none⟩ (.slice (some ⟨g, 0, none⟩) N c2) rfl (by kernel_rfl) (fun _ => by kernel_rfl) (fun _ hS => atB hS hsl) ?_
      refine told_pure (some 39) (.int .i64 ((A : Int))) rfl (by kernel_rfl) (fun _ => by kernel_rfl) ?_
      refine told_is (some 40) (.int .i64 (IntKind.i64.wrap ((A : Int) - 1))) (.int .i64 (m : Int)) (by rw [e1]) rfl (by kernel_rfl) (fun _ => by kernel_rfl) ?_
      refine told_pure (some 41) (.int .i64 (q : Int)) rfl (by kernel_rfl) (fun w => by go_simp) ?_
      refine told_pure (some 42) (.pointer (some ⟨g, q * 2, none⟩)) rfl (by kernel_rfl) (fun w => by go_simp) ?_
      refine told_loads (some 43) ⟨g, q * 2, none⟩ [.int .i64 xq.r, .pointer (some ⟨xq.b, 0, none⟩)] rfl (by kernel_rfl) (fun _ => by kernel_rfl) (fun W hS j u hj => atB hS (hcq j u hj)) ?_
      refine told_call (some 44) (.bool false) 40 #[.agg #[.int .i64 xa.r, .pointer (some ⟨xa.b, 0, none⟩)], .agg #[.int .i64 xq.r, .pointer (some ⟨xq.b, 0, none⟩)]] rfl (by kernel_rfl) (fun _ => by kernel_rfl) (fun W hS => below_S ((sooner_c xa xq W (Sym.cell ((S.out.bel hS).ats _ hma)) (Sym.cell ((S.out.bel hS).ats _ hmq))).mono fun e w' ⟨he, hb⟩ => ⟨by rw [he, decide_eq_false hlt], hb⟩) hS) ?_
      refine told_pure (some 45) (.bool false) rfl (by kernel_rfl) (fun _ => by kernel_rfl) ?_
      refine told_nil ?_
      intro W2 hS2
      simp only [Act.put, List.setIfInBounds_toArray, List.set_cons_zero, List.set_cons_succ]
      have S2 : Hid (HqS W2 R B mv fv Y (some ⟨g, 0, none⟩) N c2) := S.out.bel hS2
      have HF2 : Hid (Fr8 R (.slice p n c) w W2) := HF.out.bel hS2
      clear hS2 hca hcq hsl hless
      have HKK : Hid (HpOk Y) := up_done HXa.out (by have e : (A - 1) / 2 = q := by { have := HQ.out.1; omega }
                                                     rw [e]; exact HXq.out) hlt HU.out
      clear hlt
      go_wp2
      go_end0
      refine ⟨rfl, Y, (some ⟨g, 0, none⟩), c2, ?_⟩
      rw [HNN.out]
      exact ⟨S2.out, HKK.out, HM.out, HF2.out, HNE.out⟩

end Go.Proofs.Ytdhbhifgmbppjaa
