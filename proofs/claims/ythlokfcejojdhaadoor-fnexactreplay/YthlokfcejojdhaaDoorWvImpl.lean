/- The program's reading of a record, by contracts. -/
import Derived.Test.YthlokfcejojdhaaDoorJRv
namespace Go.Proofs.YthlokfcejojdhaaDoor
open Go.RowKit
set_option linter.unusedVariables false

theorem rdV_impl (s : ByteArray) (a : Nat) (k : Nat) (t : Int) (hs : s.size ≤ 1048576) (e1 : (rdV s a).1 = t) (e2 : (rdV s a).2 = (k : Int)) : ∀ W : World, Calls Tryd.prog 51 #[.string (s.extract a s.size)] W fun e w' => e = .returned (.tuple #[.int .i64 t, .int .i64 (k : Int)]) ∧ w' = W := fun W => by
  have h := implRv_any (s.extract a s.size) W (by simp; omega)
  rw [← e1, ← e2]
  exact h

set_option maxRecDepth 20000 in
set_option maxHeartbeats 1000000 in
theorem readRec_in (s T1 T2 T3 D : ByteArray) (b t i v : Int) (k1 k2 k3 : Nat) (w : World) (h0 : s.size ≠ 0)
    (hk1 : k1 ≤ 7) (hk2 : k2 ≤ 7) (hk3 : k3 ≤ 7) (hv : 0 ≤ v ∧ v ≤ 562949953421311) (hb : 0 ≤ b ∧ b < 256)
    (ri : ∀ W, (Instr.index 9 (.string s) (.int .i64 0)).run Tryd.prog W = .ok (.int .u8 b) W)
    (r1 : ∀ W, (Instr.slice 9 (.string s) (some (.int .i64 1)) none none).run Tryd.prog W = .ok (.string T1) W)
    (r2 : ∀ W, (Instr.slice 9 (.string s) (some (.int .i64 (1 + (k1 : Int)))) none none).run Tryd.prog W = .ok (.string T2) W)
    (r3 : ∀ W, (Instr.slice 9 (.string s) (some (.int .i64 (1 + (k1 : Int) + (k2 : Int)))) none none).run Tryd.prog W = .ok (.string T3) W)
    (r4 : ∀ W, (Instr.slice 9 (.string s) (some (.int .i64 (1 + (k1 : Int) + (k2 : Int) + (k3 : Int)))) none none).run Tryd.prog W = .ok (.string D) W)
    (c1 : ∀ W : World, Calls Tryd.prog 51 #[.string T1] W fun e w' => e = .returned (.tuple #[.int .i64 t, .int .i64 (k1 : Int)]) ∧ w' = W)
    (c2 : ∀ W : World, Calls Tryd.prog 51 #[.string T2] W fun e w' => e = .returned (.tuple #[.int .i64 i, .int .i64 (k2 : Int)]) ∧ w' = W)
    (c3 : ∀ W : World, Calls Tryd.prog 51 #[.string T3] W fun e w' => e = .returned (.tuple #[.int .i64 v, .int .i64 (k3 : Int)]) ∧ w' = W)
    (V0 : Value) (g0 : Bool) (cO : ∀ W : World, Calls Tryd.prog 52 #[.agg #[.int .i64 b, .int .i64 t, .int .i64 i, .int .i64 (v - 1), .string D]] W fun e w' => e = .returned (.tuple #[V0, .bool g0]) ∧ Below W.heap.size W w')
    (c : Bool) (hcn : k1 = 0 ∨ k2 = 0 ∨ k3 = 0 → c = false) (hcy : k1 ≠ 0 ∧ k2 ≠ 0 ∧ k3 ≠ 0 → c = true) :
    Calls Tryd.prog 29 #[.string s] w fun e w' => e = .returned (.tuple #[bif c then V0 else .nilIface, .bool (c && g0)]) ∧ Below w.heap.size w w' := by
  have q1 : s.toList.isEmpty = false := empty_no (fun h => h0 (by rw [h]; rfl))
  have C1 : Hid (∀ W : World, Calls Tryd.prog 51 #[.string T1] W fun e w' => e = .returned (.tuple #[.int .i64 t, .int .i64 (k1 : Int)]) ∧ w' = W) := c1
  have C2 : Hid (∀ W : World, Calls Tryd.prog 51 #[.string T2] W fun e w' => e = .returned (.tuple #[.int .i64 i, .int .i64 (k2 : Int)]) ∧ w' = W) := c2
  have C3 : Hid (∀ W : World, Calls Tryd.prog 51 #[.string T3] W fun e w' => e = .returned (.tuple #[.int .i64 v, .int .i64 (k3 : Int)]) ∧ w' = W) := c3
  have CO : Hid (∀ W : World, Calls Tryd.prog 52 #[.agg #[.int .i64 b, .int .i64 t, .int .i64 i, .int .i64 (v - 1), .string D]] W fun e w' => e = .returned (.tuple #[V0, .bool g0]) ∧ Below W.heap.size W w') := cO
  have HCN : Hid (k1 = 0 ∨ k2 = 0 ∨ k3 = 0 → c = false) := hcn
  have HCY : Hid (k1 ≠ 0 ∧ k2 ≠ 0 ∧ k3 ≠ 0 → c = true) := hcy
  clear c1 c2 c3 cO h0 hcn hcy
  go_enter Tryd.func29, Tryd.ntmps29
  go_wp2
  go_loopw [5, 11] (fun a n wr => (n = .int .i64 0 ∧ a = .int .i64 (1) ∧ Hid (wr.heap[w.heap.size]? = some (.cells #[.int .i64 0, .int .i64 0, .int .i64 0] 101)) ∧ Hid (Below w.heap.size w wr) ∧ Hid (True)) ∨ (n = .int .i64 1 ∧ a = .int .i64 (1 + (k1 : Int)) ∧ Hid (wr.heap[w.heap.size]? = some (.cells #[.int .i64 t, .int .i64 0, .int .i64 0] 101)) ∧ Hid (Below w.heap.size w wr) ∧ Hid (k1 ≠ 0)) ∨ (n = .int .i64 2 ∧ a = .int .i64 (1 + (k1 : Int) + (k2 : Int)) ∧ Hid (wr.heap[w.heap.size]? = some (.cells #[.int .i64 t, .int .i64 i, .int .i64 0] 101)) ∧ Hid (Below w.heap.size w wr) ∧ Hid (k1 ≠ 0 ∧ k2 ≠ 0)) ∨ (n = .int .i64 3 ∧ a = .int .i64 (1 + (k1 : Int) + (k2 : Int) + (k3 : Int)) ∧ Hid (wr.heap[w.heap.size]? = some (.cells #[.int .i64 t, .int .i64 i, .int .i64 v] 101)) ∧ Hid (Below w.heap.size w wr) ∧ Hid (k1 ≠ 0 ∧ k2 ≠ 0 ∧ k3 ≠ 0))) (fun _ n _ => 3 - (intOf n).toNat)
  case atStart => exact .inl ⟨rfl, rfl, alloc_last _ _, (Below.refl _ _).alloc (Nat.le_refl _) _, trivial⟩
  case round =>
    rename_i wr
    rcases hrel with ⟨rfl, rfl, HX, HB, HK⟩ | ⟨rfl, rfl, HX, HB, HK⟩ | ⟨rfl, rfl, HX, HB, HK⟩ | ⟨rfl, rfl, HX, HB, HK⟩
    · have d0 : wr.cell? ⟨w.heap.size, 0, none⟩ = some (.int .i64 0) := by simp [World.cell?, HX.out]
      have fz : ∀ j, wr.frozen? ⟨w.heap.size, j, none⟩ = false := fun j => by simp [World.frozen?, HX.out]
      go_wp2_with fail
      refine (C1.out _).mono ?_
      rintro e w1 ⟨rfl, hw⟩
      replace hw := hw.symm
      subst hw
      by_cases hz : k1 = 0
      · have hzt : ((k1 : Int) == 0) = true := by rw [hz]; rfl
        have HZ : Hid (k1 = 0) := hz
        clear hz
        go_wp2
        go_ret2
        exact ⟨by rw [HCN.out (.inl HZ.out)]; rfl, HB.out⟩
      · have hzt : ((k1 : Int) == 0) = false := by rw [beq_eq_false_iff_ne]; omega
        have HZ : Hid (k1 ≠ 0) := hz
        clear hz
        go_wp2
        go_round
        case rel =>
          refine .inr (.inl ⟨rfl, rfl, ?_, ?_, ?_⟩)
          · exact heap_setCell_same _ w.heap.size 0 _ _ (.int .i64 t) HX.out
          · exact HB.out.setCell (Nat.le_refl _) _
          · exact HZ.out
        case measure => simp [intOf]
    · have d1 : wr.cell? ⟨w.heap.size, 1, none⟩ = some (.int .i64 0) := by simp [World.cell?, HX.out]
      have fz : ∀ j, wr.frozen? ⟨w.heap.size, j, none⟩ = false := fun j => by simp [World.frozen?, HX.out]
      go_wp2_with fail
      refine (C2.out _).mono ?_
      rintro e w1 ⟨rfl, hw⟩
      replace hw := hw.symm
      subst hw
      by_cases hz : k2 = 0
      · have hzt : ((k2 : Int) == 0) = true := by rw [hz]; rfl
        have HZ : Hid (k2 = 0) := hz
        clear hz
        go_wp2
        go_ret2
        exact ⟨by rw [HCN.out (.inr (.inl HZ.out))]; rfl, HB.out⟩
      · have hzt : ((k2 : Int) == 0) = false := by rw [beq_eq_false_iff_ne]; omega
        have HZ : Hid (k2 ≠ 0) := hz
        clear hz
        go_wp2
        go_round
        case rel =>
          refine .inr (.inr (.inl ⟨rfl, rfl, ?_, ?_, ?_⟩))
          · exact heap_setCell_same _ w.heap.size 1 _ _ (.int .i64 i) HX.out
          · exact HB.out.setCell (Nat.le_refl _) _
          · exact ⟨HK.out, HZ.out⟩
        case measure => simp [intOf]
    · have d2 : wr.cell? ⟨w.heap.size, 2, none⟩ = some (.int .i64 0) := by simp [World.cell?, HX.out]
      have fz : ∀ j, wr.frozen? ⟨w.heap.size, j, none⟩ = false := fun j => by simp [World.frozen?, HX.out]
      go_wp2_with fail
      refine (C3.out _).mono ?_
      rintro e w1 ⟨rfl, hw⟩
      replace hw := hw.symm
      subst hw
      by_cases hz : k3 = 0
      · have hzt : ((k3 : Int) == 0) = true := by rw [hz]; rfl
        have HZ : Hid (k3 = 0) := hz
        clear hz
        go_wp2
        go_ret2
        exact ⟨by rw [HCN.out (.inr (.inr HZ.out))]; rfl, HB.out⟩
      · have hzt : ((k3 : Int) == 0) = false := by rw [beq_eq_false_iff_ne]; omega
        have HZ : Hid (k3 ≠ 0) := hz
        clear hz
        go_wp2
        go_round
        case rel =>
          refine .inr (.inr (.inr ⟨rfl, rfl, ?_, ?_, ?_⟩))
          · exact heap_setCell_same _ w.heap.size 2 _ _ (.int .i64 v) HX.out
          · exact HB.out.setCell (Nat.le_refl _) _
          · exact ⟨HK.out.1, HK.out.2, HZ.out⟩
        case measure => simp [intOf]
    · go_upto_region 14 with fail
      refine wp_genW (fun W => Hid (W.heap[w.heap.size]? = some (.cells #[.int .i64 t, .int .i64 i, .int .i64 v] 101)) ∧ Hid (Below w.heap.size w W)) ⟨HX.out, HB.out⟩ ?_
      rintro W4 ⟨HX4, HB4⟩
      have c0 : W4.cell? ⟨w.heap.size, 0, none⟩ = some (.int .i64 t) := by simp [World.cell?, HX4.out]
      have c1 : W4.cell? ⟨w.heap.size, 1, none⟩ = some (.int .i64 i) := by simp [World.cell?, HX4.out]
      have c2 : W4.cell? ⟨w.heap.size, 2, none⟩ = some (.int .i64 v) := by simp [World.cell?, HX4.out]
      have lt := lt_of_some HX4.out
      refine wp_region_told (fun W => Below W4.heap.size W4 W) (by kernel_rfl) (by kernel_rfl) ((Below.refl W4.heap.size W4).drew) ?_
      refine told_pure (some 30) (.string s) rfl (by kernel_rfl) (fun _ => by kernel_rfl) ?_
      refine told_run (some 31) (.int .u8 b) (Instr.index 9 (.string s) (.int .i64 0)) rfl (by kernel_rfl) (fun _ => by kernel_rfl) (fun W _ => ri W) ?_
      refine told_pure (some 32) (.int .i64 b) rfl (by kernel_rfl) (fun w => by go_simp; exact IntWalk.i64_in _ (by omega)) ?_
      refine told_pure (some 33) (.pointer (some ⟨w.heap.size, 0, none⟩)) rfl (by kernel_rfl) (fun _ => by kernel_rfl) ?_
      refine told_load (some 34) ⟨w.heap.size, 0, none⟩ (.int .i64 t) rfl (by kernel_rfl) (fun _ => by kernel_rfl) (fun _ hS => (Below.cell hS lt).trans c0) ?_
      refine told_pure (some 35) (.pointer (some ⟨w.heap.size, 1, none⟩)) rfl (by kernel_rfl) (fun _ => by kernel_rfl) ?_
      refine told_load (some 36) ⟨w.heap.size, 1, none⟩ (.int .i64 i) rfl (by kernel_rfl) (fun _ => by kernel_rfl) (fun _ hS => (Below.cell hS lt).trans c1) ?_
      refine told_pure (some 37) (.pointer (some ⟨w.heap.size, 2, none⟩)) rfl (by kernel_rfl) (fun _ => by kernel_rfl) ?_
      refine told_load (some 38) ⟨w.heap.size, 2, none⟩ (.int .i64 v) rfl (by kernel_rfl) (fun _ => by kernel_rfl) (fun _ hS => (Below.cell hS lt).trans c2) ?_
      refine told_pure (some 39) (.int .i64 (v - 1)) rfl (by kernel_rfl) (fun w => by go_simp; exact IntWalk.i64_in _ (by omega)) ?_
      refine told_pure (some 40) (.string s) rfl (by kernel_rfl) (fun _ => by kernel_rfl) ?_
      refine told_pure (some 41) (.int .i64 (1 + (k1 : Int) + (k2 : Int) + (k3 : Int))) rfl (by kernel_rfl) (fun _ => by kernel_rfl) ?_
      refine told_run (some 42) (.string D) (Instr.slice 9 (.string s) (some (.int .i64 (1 + (k1 : Int) + (k2 : Int) + (k3 : Int)))) none none) rfl (by kernel_rfl) (fun _ => by kernel_rfl) (fun W _ => r4 W) ?_
      refine told_pure (some 43) (.agg #[.int .i64 b, .int .i64 t, .int .i64 i, .int .i64 (v - 1), .string D]) rfl (by kernel_rfl) (fun _ => by kernel_rfl) ?_
      refine told_call (some 44) (.tuple #[V0, .bool g0]) 52 #[.agg #[.int .i64 b, .int .i64 t, .int .i64 i, .int .i64 (v - 1), .string D]] rfl (by kernel_rfl) (fun _ => by kernel_rfl) (fun W hS => below_S (CO.out W) hS) ?_
      refine told_pure (some 45) V0 rfl (by kernel_rfl) (fun _ => by kernel_rfl) ?_
      refine told_pure (some 46) (.bool g0) rfl (by kernel_rfl) (fun _ => by kernel_rfl) ?_
      refine told_pure (some 2) V0 rfl (by kernel_rfl) (fun _ => by kernel_rfl) ?_
      refine told_pure (some 3) (.bool g0) rfl (by kernel_rfl) (fun _ => by kernel_rfl) ?_
      refine told_nil ?_
      intro w5 hS5
      have HB5 : Hid (Below w.heap.size w w5) := HB4.out.trans (Below.mono hS5 HB4.out.size)
      simp only [Act.put, List.setIfInBounds_toArray, List.set_cons_zero, List.set_cons_succ]
      clear hS5 c0 c1 c2 lt
      go_wp2
      go_ret2
      exact ⟨by rw [HCY.out HK.out]; rfl, HB5.out⟩

theorem rdR_ofV (s : ByteArray) : ofV (rdR s) = recV (rdR s) := by
  by_cases h : okR (rdR s)
  · rw [ofV, if_pos h]
  · have e : rdR s = noR := rdR_no (fun h' => h ((rdR_iff s).2 h'))
    rw [ofV, if_neg h, e]
    rfl

theorem rdR_cut (s : ByteArray) : cutR (rdR s) = rdR s := by
  by_cases h : okR (rdR s)
  · exact sameR_eq ((okR_iff _).1 h).2
  · have e : rdR s = noR := rdR_no (fun h' => h ((rdR_iff s).2 h'))
    rw [e]
    rfl

theorem raw_f4 (s : ByteArray) (hs : s.size ≤ 1048576) : (rawR s).f4.size ≤ 1048576 := by
  show (s.extract (at3 s) s.size).size ≤ _
  simp
  omega

theorem rdR_f4 (s : ByteArray) (hs : s.size ≤ 1048576) : (rdR s).f4.size ≤ 1048576 := by
  by_cases h : hasR s ∧ okR (rawR s)
  · rw [rdR_yes h.1 h.2]; exact raw_f4 s hs
  · rw [rdR_no h]; exact Nat.zero_le _

set_option maxRecDepth 20000 in
set_option maxHeartbeats 1000000 in
theorem readRec_none (w : World) : Calls Tryd.prog 29 #[.string ⟨#[]⟩] w fun e w' => e = .returned (.tuple #[.nilIface, .bool false]) ∧ Below w.heap.size w w' := by
  go_enter Tryd.func29, Tryd.ntmps29
  go_wp2
  go_ret2
  exact ⟨rfl, Below.refl _ _⟩

theorem readRec_c (s : ByteArray) (w : World) (hs : s.size ≤ 1048576) : Calls Tryd.prog 29 #[.string s] w fun e w' => e = .returned (.tuple #[recV (rdR s), .bool (decide (okR (rdR s)))]) ∧ Below w.heap.size w w' := by
  rw [← rdR_ofV]
  by_cases h0 : s.size = 0
  · have hn : ¬ (hasR s ∧ okR (rawR s)) := by
      rintro ⟨h1, _⟩
      unfold hasR at h1
      exact h1.1 h0
    have hs0 : s = ⟨#[]⟩ := by
      cases s with | mk d => simp at h0; rw [h0]; rfl
    rw [rdR_no hn, decide_eq_false noR_bad, ofV, if_neg noR_bad, hs0]
    exact readRec_none w
  · obtain ⟨t, i, v, k1, k2, k3, e1, e2, e3, e4, e5, e6, hz, l1, l2, l3, ht, hi', hv, hr, hi⟩ := rd_letters s h0
    refine (readRec_in s _ _ _ _ (byteAt s 0) t i v k1 k2 k3 w h0 l1 l2 l3 hv (byteAt_range s 0) (ix_0 s h0) (sl_at s 1 1 rfl (by omega)) (sl_at s (1 + k1) _ (by omega) (by omega)) (sl_at s (1 + k1 + k2) _ (by omega) (by omega)) (sl_at s (1 + k1 + k2 + k3) _ (by omega) (by omega))
      (rdV_impl s 1 k1 t hs e1 e2) (rdV_impl s (1 + k1) k2 i hs e3 e4) (rdV_impl s (1 + k1 + k2) k3 v hs e5 e6) (ofV (rawR s)) (decide (okR (rawR s))) (fun W => by
        have h3 := recordOf_c (rawR s) W (raw_f4 s hs)
        rw [hr] at h3 ⊢
        exact h3) (decide (k1 ≠ 0 ∧ k2 ≠ 0 ∧ k3 ≠ 0)) (fun h => decide_eq_false (by omega)) (fun h => decide_eq_true h)).mono ?_
    rintro e w' ⟨rfl, hb⟩
    refine ⟨?_, hb⟩
    have hcd : decide (k1 ≠ 0 ∧ k2 ≠ 0 ∧ k3 ≠ 0) = decide (hasR s) := by rw [decide_eq_decide]; exact hi.symm
    rw [hcd]
    by_cases hh : hasR s
    · by_cases hk : okR (rawR s)
      · rw [rdR_yes hh hk, decide_eq_true hh, decide_eq_true hk]; rfl
      · rw [rdR_no (fun h => hk h.2), decide_eq_true hh, decide_eq_false hk, decide_eq_false noR_bad, ofV, if_neg hk, ofV, if_neg noR_bad]; rfl
    · rw [rdR_no (fun h => hh h.1), decide_eq_false hh, decide_eq_false noR_bad, ofV, ofV, if_neg noR_bad]; rfl

end Go.Proofs.YthlokfcejojdhaaDoor
