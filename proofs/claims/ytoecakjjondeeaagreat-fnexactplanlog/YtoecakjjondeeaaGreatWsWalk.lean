/- ShowRec of both sides by contracts. -/
import Derived.Test.YtoecakjjondeeaaGreatJR
import Derived.Test.YtoecakjjondeeaaGreatJW
import Derived.Laws.Concat
namespace Go.Proofs.YtoecakjjondeeaaGreat
open Go.RowKit
set_option linter.unusedVariables false

/-- A record as a text. -/
def recT (x : S_Rec) : ByteArray := if okR x then strOfNums ((([x.f0] ++ varL x.f1) ++ varL x.f2) ++ varL (x.f3 + 1)) ++ x.f4 else ⟨#[]⟩

theorem okR_range {x : S_Rec} (h : okR x) : 0 ≤ x.f1 ∧ x.f1 ≤ 100000 ∧ 0 ≤ x.f2 ∧ x.f2 ≤ 100000 ∧ -1 ≤ x.f3 ∧ x.f3 ≤ 4 ∧ 1 ≤ x.f0 ∧ x.f0 ≤ 4 := by
  rcases h with h | h | h | ⟨h0, h | h, h1⟩ <;> omega

theorem varL_len3 (n : Int) (h0 : 0 ≤ n) (h1 : n < 2097152) : (varL n).length ≤ 3 := by
  by_cases a : 128 ≤ n
  · rw [varL_more n a]
    by_cases b : 128 ≤ n / 128
    · rw [varL_more _ b, varL_last _ (by omega)]; simp
    · rw [varL_last _ (by omega)]; simp
  · rw [varL_last n (by omega)]; simp

theorem u8_in (n : Int) (h0 : 0 ≤ n ∧ n ≤ 255) : IntKind.u8.wrap n = n := by
  simp only [IntKind.wrap, IntKind.bits, IntKind.signed]
  simp
  omega

set_option maxRecDepth 20000 in
set_option maxHeartbeats 2000000 in
theorem specShow_c (x : S_Rec) (w : World) (hz : x.f4.size ≤ 1048576) : Calls Tryz.prog 113 #[.agg #[.int .i64 x.f0, .int .i64 x.f1, .int .i64 x.f2, .int .i64 x.f3, .string x.f4]] w fun e w' => e = .returned (.string (recT x)) ∧ Below w.heap.size w w' := by
  obtain ⟨W0, hW0⟩ : ∃ W, W = w.alloc (.cells #[.int .i64 x.f0, .int .i64 x.f1, .int .i64 x.f2, .int .i64 x.f3, .string x.f4] 157) := ⟨_, rfl⟩
  have HW0 : Hid (w.alloc (.cells #[.int .i64 x.f0, .int .i64 x.f1, .int .i64 x.f2, .int .i64 x.f3, .string x.f4] 157) = W0) := hW0.symm
  have HX0 : Hid (W0.heap[w.heap.size]? = some (.cells #[.int .i64 x.f0, .int .i64 x.f1, .int .i64 x.f2, .int .i64 x.f3, .string x.f4] 157)) := by rw [hW0]; exact alloc_last _ _
  have HB0 : Hid (Below w.heap.size w W0) := by rw [hW0]; exact (Below.refl _ _).alloc (Nat.le_refl _) _
  clear hW0
  obtain ⟨x0, x1, x2, x3, x4⟩ := box5 HX0.out
  go_enter Tryz.func113, Tryz.ntmps113
  go_wp2_with fail
  rw [HW0.out]
  refine (specRecOk_c x W0 (by unfold sRec maxLen; omega)).mono ?_
  rintro e w1 ⟨rfl, b1⟩
  have HX1 : Hid (w1.heap[w.heap.size]? = some (.cells #[.int .i64 x.f0, .int .i64 x.f1, .int .i64 x.f2, .int .i64 x.f3, .string x.f4] 157)) := (b1.block _ (lt_of_some HX0.out)).trans HX0.out
  have HB1 : Hid (Below w.heap.size w w1) := HB0.out.trans (b1.mono HB0.out.size)
  clear b1 x0 x1 x2 x3 x4
  by_cases hok : okR x
  case neg =>
    have HT : Hid (recT x = ⟨#[]⟩) := by show _ = _; unfold recT; rw [if_neg hok]
    rw [decide_eq_false hok]
    clear hok
    go_wp2
    go_ret
    exact ⟨by rw [HT.out]; rfl, HB1.out⟩
  have HT : Hid (recT x = strOfNums ((([x.f0] ++ varL x.f1) ++ varL x.f2) ++ varL (x.f3 + 1)) ++ x.f4) := by show _ = _; unfold recT; rw [if_pos hok]
  have HR : Hid (0 ≤ x.f1 ∧ x.f1 ≤ 100000 ∧ 0 ≤ x.f2 ∧ x.f2 ≤ 100000 ∧ -1 ≤ x.f3 ∧ x.f3 ≤ 4 ∧ 1 ≤ x.f0 ∧ x.f0 ≤ 4) := okR_range hok
  have HL : Hid ((varL x.f1).length ≤ 3 ∧ (varL x.f2).length ≤ 3 ∧ (varL (x.f3 + 1)).length ≤ 3 ∧ x.f4.size ≤ 1048576) := ⟨varL_len3 _ HR.out.1 (by have := HR.out; omega), varL_len3 _ HR.out.2.2.1 (by have := HR.out; omega), varL_len3 _ (by have := HR.out; omega) (by have := HR.out; omega), hz⟩
  have HK8 : Hid (IntKind.u8.wrap x.f0 = x.f0) := by show _ = _; have := HR.out; rw [u8_in]; omega
  have HK3 : Hid (IntKind.i64.wrap (x.f3 + 1) = x.f3 + 1) := by show _ = _; have := HR.out; rw [IntWalk.i64_left]; exact IntWalk.wrap64_in _ (by omega)
  have HC0 : Hid (∀ W', Below w1.heap.size w1 W' → W'.cell? ⟨w.heap.size, 0, none⟩ = some (.int .i64 x.f0)) := fun W' hb => (hb.cell (lt_of_some HX1.out)).trans ((box5 HX1.out).1)
  have HC1 : Hid (∀ W', Below w1.heap.size w1 W' → W'.cell? ⟨w.heap.size, 1, none⟩ = some (.int .i64 x.f1)) := fun W' hb => (hb.cell (lt_of_some HX1.out)).trans ((box5 HX1.out).2.1)
  have HC2 : Hid (∀ W', Below w1.heap.size w1 W' → W'.cell? ⟨w.heap.size, 2, none⟩ = some (.int .i64 x.f2)) := fun W' hb => (hb.cell (lt_of_some HX1.out)).trans ((box5 HX1.out).2.2.1)
  have HC3 : Hid (∀ W', Below w1.heap.size w1 W' → W'.cell? ⟨w.heap.size, 3, none⟩ = some (.int .i64 x.f3)) := fun W' hb => (hb.cell (lt_of_some HX1.out)).trans ((box5 HX1.out).2.2.2.1)
  have HC4 : Hid (∀ W', Below w1.heap.size w1 W' → W'.cell? ⟨w.heap.size, 4, none⟩ = some (.string x.f4)) := fun W' hb => (hb.cell (lt_of_some HX1.out)).trans ((box5 HX1.out).2.2.2.2)
  rw [decide_eq_true hok]
  clear hok
  go_upto_region 3 with fail
  refine wp_region_L [⟨1000, fun W => W.cell? ⟨w.heap.size, 0, none⟩ = some (.int .i64 x.f0)⟩, ⟨1000, fun W => W.cell? ⟨w.heap.size, 1, none⟩ = some (.int .i64 x.f1)⟩, ⟨1000, fun W => W.cell? ⟨w.heap.size, 2, none⟩ = some (.int .i64 x.f2)⟩, ⟨1000, fun W => W.cell? ⟨w.heap.size, 3, none⟩ = some (.int .i64 x.f3)⟩, ⟨1000, fun W => W.cell? ⟨w.heap.size, 4, none⟩ = some (.string x.f4)⟩] (by kernel_rfl) (fun f hf => by
      simp only [List.mem_cons, List.not_mem_nil, or_false] at hf
      rcases hf with rfl | rfl | rfl | rfl | rfl
      · exact HC0.out _ (Below.refl _ _).drew
      · exact HC1.out _ (Below.refl _ _).drew
      · exact HC2.out _ (Below.refl _ _).drew
      · exact HC3.out _ (Below.refl _ _).drew
      · exact HC4.out _ (Below.refl _ _).drew
      ) ?_
  obtain ⟨X0, hX0⟩ : ∃ W, W = w1.drew := ⟨_, rfl⟩
  have Bw1X0 : Below w1.heap.size w1 X0 := by rw [hX0]; exact (Below.refl _ _).drew
  rw [← hX0]
  clear hX0
  refine At.take 0 (some 6) (.pointer (some ⟨w.heap.size, 0, none⟩)) rfl rfl (by kernel_rfl) (by kernel_rfl) (by kernel_rfl) (by kernel_rfl) (fun _ _ _ h => h) (yl_pure (by kernel_rfl) (fun _ => by kernel_rfl)) ?_
  refine At.take 1 (some 7) (.int .i64 x.f0) rfl rfl (by kernel_rfl) (by kernel_rfl) (by kernel_rfl) (by kernel_rfl) (fun _ _ _ h => h) (yl_load_ever 1000 ⟨w.heap.size, 0, none⟩ (.int .i64 x.f0) (List.mem_cons_self) (by kernel_rfl) (by kernel_rfl) (fun _ => by kernel_rfl)) ?_
  refine At.take 2 (some 8) (.int .u8 x.f0) rfl rfl (by kernel_rfl) (by kernel_rfl) (by kernel_rfl) (by kernel_rfl) (fun _ _ _ h => h) (yl_is (.int .u8 (IntKind.u8.wrap x.f0)) (by rw [HK8.out]) (by kernel_rfl) (fun _ => by kernel_rfl)) ?_
  refine At.take 5 (some 11) (.pointer (some ⟨w.heap.size, 1, none⟩)) rfl rfl (by kernel_rfl) (by kernel_rfl) (by kernel_rfl) (by kernel_rfl) (fun _ _ _ h => h) (yl_pure (by kernel_rfl) (fun _ => by kernel_rfl)) ?_
  refine At.take 6 (some 12) (.int .i64 x.f1) rfl rfl (by kernel_rfl) (by kernel_rfl) (by kernel_rfl) (by kernel_rfl) (fun _ _ _ h => h) (yl_load_ever 1000 ⟨w.heap.size, 1, none⟩ (.int .i64 x.f1) (List.mem_cons_of_mem _ (List.mem_cons_self)) (by kernel_rfl) (by kernel_rfl) (fun _ => by kernel_rfl)) ?_
  refine At.take 9 (some 15) (.pointer (some ⟨w.heap.size, 2, none⟩)) rfl rfl (by kernel_rfl) (by kernel_rfl) (by kernel_rfl) (by kernel_rfl) (fun _ _ _ h => h) (yl_pure (by kernel_rfl) (fun _ => by kernel_rfl)) ?_
  refine At.take 10 (some 16) (.int .i64 x.f2) rfl rfl (by kernel_rfl) (by kernel_rfl) (by kernel_rfl) (by kernel_rfl) (fun _ _ _ h => h) (yl_load_ever 1000 ⟨w.heap.size, 2, none⟩ (.int .i64 x.f2) (List.mem_cons_of_mem _ (List.mem_cons_of_mem _ (List.mem_cons_self))) (by kernel_rfl) (by kernel_rfl) (fun _ => by kernel_rfl)) ?_
  refine At.take 13 (some 19) (.pointer (some ⟨w.heap.size, 3, none⟩)) rfl rfl (by kernel_rfl) (by kernel_rfl) (by kernel_rfl) (by kernel_rfl) (fun _ _ _ h => h) (yl_pure (by kernel_rfl) (fun _ => by kernel_rfl)) ?_
  refine At.take 14 (some 20) (.int .i64 x.f3) rfl rfl (by kernel_rfl) (by kernel_rfl) (by kernel_rfl) (by kernel_rfl) (fun _ _ _ h => h) (yl_load_ever 1000 ⟨w.heap.size, 3, none⟩ (.int .i64 x.f3) (List.mem_cons_of_mem _ (List.mem_cons_of_mem _ (List.mem_cons_of_mem _ (List.mem_cons_self)))) (by kernel_rfl) (by kernel_rfl) (fun _ => by kernel_rfl)) ?_
  refine At.take 15 (some 21) (.int .i64 (x.f3 + 1)) rfl rfl (by kernel_rfl) (by kernel_rfl) (by kernel_rfl) (by kernel_rfl) (fun _ _ _ h => h) (yl_is (.int .i64 (IntKind.i64.wrap (x.f3 + 1))) (by rw [HK3.out]) (by kernel_rfl) (fun _ => by kernel_rfl)) ?_
  refine At.take 18 (some 24) (.pointer (some ⟨w.heap.size, 4, none⟩)) rfl rfl (by kernel_rfl) (by kernel_rfl) (by kernel_rfl) (by kernel_rfl) (fun _ _ _ h => h) (yl_pure (by kernel_rfl) (fun _ => by kernel_rfl)) ?_
  refine At.take 19 (some 25) (.string x.f4) rfl rfl (by kernel_rfl) (by kernel_rfl) (by kernel_rfl) (by kernel_rfl) (fun _ _ _ h => h) (yl_load_ever 1000 ⟨w.heap.size, 4, none⟩ (.string x.f4) (List.mem_cons_of_mem _ (List.mem_cons_of_mem _ (List.mem_cons_of_mem _ (List.mem_cons_of_mem _ (List.mem_cons_self))))) (by kernel_rfl) (by kernel_rfl) (fun _ => by kernel_rfl)) ?_
  refine At.two 3 7 (some 9) (some 13) rfl rfl rfl rfl (by kernel_rfl) (by kernel_rfl) (by kernel_rfl) (fun u W => u = .slice (some ⟨X0.heap.size, 0, none⟩) 1 1 ∧ W = X0.alloc (.cells #[.int .u8 x.f0] 5)) (fun u W => u = .string (strOfNums (varL x.f1)) ∧ Below X0.heap.size X0 W) (gives_run (by kernel_rfl)) (gives_call (by kernel_rfl) ((specVar_yes x.f1 X0 HR.out.1 (by have := HR.out; omega)).mono fun e w' ⟨he, hb⟩ => ⟨_, he, rfl, hb⟩)) ?_ ?_
  · rintro u X2 ⟨huX2, hwX2⟩
    subst huX2
    have hbX2 : Below X0.heap.size X0 X2 := by rw [hwX2]; exact (Below.refl _ _).alloc (Nat.le_refl _) _
    have Bw1X2 : Below w1.heap.size w1 X2 := Bw1X0.trans (hbX2.mono Bw1X0.size)
    refine ⟨held_cons (.inr (HC0.out _ Bw1X2)) (held_cons (.inr (HC1.out _ Bw1X2)) (held_cons (.inr (HC2.out _ Bw1X2)) (held_cons (.inr (HC3.out _ Bw1X2)) (held_cons (.inr (HC4.out _ Bw1X2)) (held_nil))))), ?_⟩
    have HCX2 : ∀ W', Below X2.heap.size X2 W' → (convert 146 9 (.slice (some ⟨X0.heap.size, 0, none⟩) 1 1)).run Tryz.prog W' = .ok (.string (strOfNums [x.f0])) W' := fun W' hb => run_string_of_own (base := X0.heap.size) [x.f0] rfl (own_bel (by rw [hwX2]; exact World.ownsRow_lit X0 #[.int .u8 x.f0] 1 (Nat.le_refl _) (by decide) rfl) hb (Nat.le_refl _))
    refine At.more ⟨1000, fun W => (convert 146 9 (.slice (some ⟨X0.heap.size, 0, none⟩) 1 1)).run Tryz.prog W = .ok (.string (strOfNums [x.f0])) W⟩ (HCX2 _ (Below.refl X2.heap.size X2)) ?_
    refine At.take 4 (some 10) (.string (strOfNums [x.f0])) rfl rfl (by kernel_rfl) (by kernel_rfl) (by kernel_rfl) (by kernel_rfl) (fun _ _ _ h => h) (yl_run_ever 1000 (convert 146 9 (.slice (some ⟨X0.heap.size, 0, none⟩) 1 1)) (.string (strOfNums [x.f0])) (List.mem_cons_self) (by kernel_rfl) (by kernel_rfl) (fun _ => by kernel_rfl)) ?_
    refine At.step 7 (some 13) rfl rfl (by kernel_rfl) (by kernel_rfl) (fun u W => u = .string (strOfNums (varL x.f1)) ∧ Below X2.heap.size X2 W) (gives_call (by kernel_rfl) ((specVar_yes x.f1 X2 HR.out.1 (by have := HR.out; omega)).mono fun e w' ⟨he, hb⟩ => ⟨_, he, rfl, hb⟩)) ?_
    rintro u X3 ⟨huX3, hwX3⟩
    subst huX3
    have hbX3 : Below X2.heap.size X2 X3 := hwX3
    have Bw1X3 : Below w1.heap.size w1 X3 := Bw1X2.trans (hbX3.mono Bw1X2.size)
    have BX2X3 : Below X2.heap.size X2 X3 := (Below.refl X2.heap.size X2).trans (hbX3.mono (Below.refl X2.heap.size X2).size)
    refine ⟨held_cons (.inr (HCX2 _ BX2X3)) (held_cons (.inr (HC0.out _ Bw1X3)) (held_cons (.inr (HC1.out _ Bw1X3)) (held_cons (.inr (HC2.out _ Bw1X3)) (held_cons (.inr (HC3.out _ Bw1X3)) (held_cons (.inr (HC4.out _ Bw1X3)) (held_nil)))))), ?_⟩
    refine At.take 8 (some 14) (.string (strOfNums ([x.f0] ++ varL x.f1))) rfl rfl (by kernel_rfl) (by kernel_rfl) (by kernel_rfl) (by kernel_rfl) (fun _ _ _ h => h) (yl_sum (Op.stringOp .add (strOfNums [x.f0]) (strOfNums (varL x.f1))) (fun w => run_add_nums _ _ (by have := HL.out; simp only [List.length_cons, List.length_nil]; omega) w) (by kernel_rfl) (fun _ => by kernel_rfl)) ?_
    refine At.step 11 (some 17) rfl rfl (by kernel_rfl) (by kernel_rfl) (fun u W => u = .string (strOfNums (varL x.f2)) ∧ Below X3.heap.size X3 W) (gives_call (by kernel_rfl) ((specVar_yes x.f2 X3 HR.out.2.2.1 (by have := HR.out; omega)).mono fun e w' ⟨he, hb⟩ => ⟨_, he, rfl, hb⟩)) ?_
    rintro u X4 ⟨huX4, hwX4⟩
    subst huX4
    have hbX4 : Below X3.heap.size X3 X4 := hwX4
    have Bw1X4 : Below w1.heap.size w1 X4 := Bw1X3.trans (hbX4.mono Bw1X3.size)
    have BX2X4 : Below X2.heap.size X2 X4 := BX2X3.trans (hbX4.mono BX2X3.size)
    refine ⟨held_cons (.inr (HCX2 _ BX2X4)) (held_cons (.inr (HC0.out _ Bw1X4)) (held_cons (.inr (HC1.out _ Bw1X4)) (held_cons (.inr (HC2.out _ Bw1X4)) (held_cons (.inr (HC3.out _ Bw1X4)) (held_cons (.inr (HC4.out _ Bw1X4)) (held_nil)))))), ?_⟩
    refine At.take 12 (some 18) (.string (strOfNums (([x.f0] ++ varL x.f1) ++ varL x.f2))) rfl rfl (by kernel_rfl) (by kernel_rfl) (by kernel_rfl) (by kernel_rfl) (fun _ _ _ h => h) (yl_sum (Op.stringOp .add (strOfNums ([x.f0] ++ varL x.f1)) (strOfNums (varL x.f2))) (fun w => run_add_nums _ _ (by have := HL.out; simp only [List.length_append, List.length_cons, List.length_nil]; omega) w) (by kernel_rfl) (fun _ => by kernel_rfl)) ?_
    refine At.step 16 (some 22) rfl rfl (by kernel_rfl) (by kernel_rfl) (fun u W => u = .string (strOfNums (varL (x.f3 + 1))) ∧ Below X4.heap.size X4 W) (gives_call (by kernel_rfl) ((specVar_yes (x.f3 + 1) X4 (by have := HR.out; omega) (by have := HR.out; omega)).mono fun e w' ⟨he, hb⟩ => ⟨_, he, rfl, hb⟩)) ?_
    rintro u X5 ⟨huX5, hwX5⟩
    subst huX5
    have hbX5 : Below X4.heap.size X4 X5 := hwX5
    have Bw1X5 : Below w1.heap.size w1 X5 := Bw1X4.trans (hbX5.mono Bw1X4.size)
    have BX2X5 : Below X2.heap.size X2 X5 := BX2X4.trans (hbX5.mono BX2X4.size)
    refine ⟨held_cons (.inr (HCX2 _ BX2X5)) (held_cons (.inr (HC0.out _ Bw1X5)) (held_cons (.inr (HC1.out _ Bw1X5)) (held_cons (.inr (HC2.out _ Bw1X5)) (held_cons (.inr (HC3.out _ Bw1X5)) (held_cons (.inr (HC4.out _ Bw1X5)) (held_nil)))))), ?_⟩
    refine At.take 17 (some 23) (.string (strOfNums ((([x.f0] ++ varL x.f1) ++ varL x.f2) ++ varL (x.f3 + 1)))) rfl rfl (by kernel_rfl) (by kernel_rfl) (by kernel_rfl) (by kernel_rfl) (fun _ _ _ h => h) (yl_sum (Op.stringOp .add (strOfNums (([x.f0] ++ varL x.f1) ++ varL x.f2)) (strOfNums (varL (x.f3 + 1)))) (fun w => run_add_nums _ _ (by have := HL.out; simp only [List.length_append, List.length_cons, List.length_nil]; omega) w) (by kernel_rfl) (fun _ => by kernel_rfl)) ?_
    refine At.take 20 (some 26) (.string (strOfNums ((([x.f0] ++ varL x.f1) ++ varL x.f2) ++ varL (x.f3 + 1)) ++ x.f4)) rfl rfl (by kernel_rfl) (by kernel_rfl) (by kernel_rfl) (by kernel_rfl) (fun _ _ _ h => h) (yl_sum (Op.stringOp .add (strOfNums ((([x.f0] ++ varL x.f1) ++ varL x.f2) ++ varL (x.f3 + 1))) x.f4) (fun w => run_string_add_sum w _ _ (by have := HL.out; rw [strOfNums_size]; simp only [List.length_append, List.length_cons, List.length_nil]; omega)) (by kernel_rfl) (fun _ => by kernel_rfl)) ?_
    refine At.take 21 (some 2) (.string (strOfNums ((([x.f0] ++ varL x.f1) ++ varL x.f2) ++ varL (x.f3 + 1)) ++ x.f4)) rfl rfl (by kernel_rfl) (by kernel_rfl) (by kernel_rfl) (by kernel_rfl) (fun _ _ _ h => h) (yl_pure (by kernel_rfl) (fun _ => by kernel_rfl)) ?_
    refine At.done (by kernel_rfl) ?_
    have HBE : Hid (Below w.heap.size w X5) := HB1.out.trans (Bw1X5.mono HB1.out.size)
    simp only [Act.put, List.setIfInBounds_toArray, List.set_cons_zero, List.set_cons_succ]
    clear Bw1X5
    go_wp2
    go_ret
    exact ⟨by rw [HT.out]; rfl, HBE.out⟩
  · rintro u X6 ⟨huX6, hwX6⟩
    subst huX6
    have hbX6 : Below X0.heap.size X0 X6 := hwX6
    have Bw1X6 : Below w1.heap.size w1 X6 := Bw1X0.trans (hbX6.mono Bw1X0.size)
    refine ⟨held_cons (.inr (HC0.out _ Bw1X6)) (held_cons (.inr (HC1.out _ Bw1X6)) (held_cons (.inr (HC2.out _ Bw1X6)) (held_cons (.inr (HC3.out _ Bw1X6)) (held_cons (.inr (HC4.out _ Bw1X6)) (held_nil))))), ?_⟩
    refine At.two 3 11 (some 9) (some 17) rfl rfl rfl rfl (by kernel_rfl) (by kernel_rfl) (by kernel_rfl) (fun u W => u = .slice (some ⟨X6.heap.size, 0, none⟩) 1 1 ∧ W = X6.alloc (.cells #[.int .u8 x.f0] 5)) (fun u W => u = .string (strOfNums (varL x.f2)) ∧ Below X6.heap.size X6 W) (gives_run (by kernel_rfl)) (gives_call (by kernel_rfl) ((specVar_yes x.f2 X6 HR.out.2.2.1 (by have := HR.out; omega)).mono fun e w' ⟨he, hb⟩ => ⟨_, he, rfl, hb⟩)) ?_ ?_
    · rintro u X8 ⟨huX8, hwX8⟩
      subst huX8
      have hbX8 : Below X6.heap.size X6 X8 := by rw [hwX8]; exact (Below.refl _ _).alloc (Nat.le_refl _) _
      have Bw1X8 : Below w1.heap.size w1 X8 := Bw1X6.trans (hbX8.mono Bw1X6.size)
      refine ⟨held_cons (.inr (HC0.out _ Bw1X8)) (held_cons (.inr (HC1.out _ Bw1X8)) (held_cons (.inr (HC2.out _ Bw1X8)) (held_cons (.inr (HC3.out _ Bw1X8)) (held_cons (.inr (HC4.out _ Bw1X8)) (held_nil))))), ?_⟩
      have HCX8 : ∀ W', Below X8.heap.size X8 W' → (convert 146 9 (.slice (some ⟨X6.heap.size, 0, none⟩) 1 1)).run Tryz.prog W' = .ok (.string (strOfNums [x.f0])) W' := fun W' hb => run_string_of_own (base := X6.heap.size) [x.f0] rfl (own_bel (by rw [hwX8]; exact World.ownsRow_lit X6 #[.int .u8 x.f0] 1 (Nat.le_refl _) (by decide) rfl) hb (Nat.le_refl _))
      refine At.more ⟨1000, fun W => (convert 146 9 (.slice (some ⟨X6.heap.size, 0, none⟩) 1 1)).run Tryz.prog W = .ok (.string (strOfNums [x.f0])) W⟩ (HCX8 _ (Below.refl X8.heap.size X8)) ?_
      refine At.take 4 (some 10) (.string (strOfNums [x.f0])) rfl rfl (by kernel_rfl) (by kernel_rfl) (by kernel_rfl) (by kernel_rfl) (fun _ _ _ h => h) (yl_run_ever 1000 (convert 146 9 (.slice (some ⟨X6.heap.size, 0, none⟩) 1 1)) (.string (strOfNums [x.f0])) (List.mem_cons_self) (by kernel_rfl) (by kernel_rfl) (fun _ => by kernel_rfl)) ?_
      refine At.take 8 (some 14) (.string (strOfNums ([x.f0] ++ varL x.f1))) rfl rfl (by kernel_rfl) (by kernel_rfl) (by kernel_rfl) (by kernel_rfl) (fun _ _ _ h => h) (yl_sum (Op.stringOp .add (strOfNums [x.f0]) (strOfNums (varL x.f1))) (fun w => run_add_nums _ _ (by have := HL.out; simp only [List.length_cons, List.length_nil]; omega) w) (by kernel_rfl) (fun _ => by kernel_rfl)) ?_
      refine At.step 11 (some 17) rfl rfl (by kernel_rfl) (by kernel_rfl) (fun u W => u = .string (strOfNums (varL x.f2)) ∧ Below X8.heap.size X8 W) (gives_call (by kernel_rfl) ((specVar_yes x.f2 X8 HR.out.2.2.1 (by have := HR.out; omega)).mono fun e w' ⟨he, hb⟩ => ⟨_, he, rfl, hb⟩)) ?_
      rintro u X9 ⟨huX9, hwX9⟩
      subst huX9
      have hbX9 : Below X8.heap.size X8 X9 := hwX9
      have Bw1X9 : Below w1.heap.size w1 X9 := Bw1X8.trans (hbX9.mono Bw1X8.size)
      have BX8X9 : Below X8.heap.size X8 X9 := (Below.refl X8.heap.size X8).trans (hbX9.mono (Below.refl X8.heap.size X8).size)
      refine ⟨held_cons (.inr (HCX8 _ BX8X9)) (held_cons (.inr (HC0.out _ Bw1X9)) (held_cons (.inr (HC1.out _ Bw1X9)) (held_cons (.inr (HC2.out _ Bw1X9)) (held_cons (.inr (HC3.out _ Bw1X9)) (held_cons (.inr (HC4.out _ Bw1X9)) (held_nil)))))), ?_⟩
      refine At.take 12 (some 18) (.string (strOfNums (([x.f0] ++ varL x.f1) ++ varL x.f2))) rfl rfl (by kernel_rfl) (by kernel_rfl) (by kernel_rfl) (by kernel_rfl) (fun _ _ _ h => h) (yl_sum (Op.stringOp .add (strOfNums ([x.f0] ++ varL x.f1)) (strOfNums (varL x.f2))) (fun w => run_add_nums _ _ (by have := HL.out; simp only [List.length_append, List.length_cons, List.length_nil]; omega) w) (by kernel_rfl) (fun _ => by kernel_rfl)) ?_
      refine At.step 16 (some 22) rfl rfl (by kernel_rfl) (by kernel_rfl) (fun u W => u = .string (strOfNums (varL (x.f3 + 1))) ∧ Below X9.heap.size X9 W) (gives_call (by kernel_rfl) ((specVar_yes (x.f3 + 1) X9 (by have := HR.out; omega) (by have := HR.out; omega)).mono fun e w' ⟨he, hb⟩ => ⟨_, he, rfl, hb⟩)) ?_
      rintro u X10 ⟨huX10, hwX10⟩
      subst huX10
      have hbX10 : Below X9.heap.size X9 X10 := hwX10
      have Bw1X10 : Below w1.heap.size w1 X10 := Bw1X9.trans (hbX10.mono Bw1X9.size)
      have BX8X10 : Below X8.heap.size X8 X10 := BX8X9.trans (hbX10.mono BX8X9.size)
      refine ⟨held_cons (.inr (HCX8 _ BX8X10)) (held_cons (.inr (HC0.out _ Bw1X10)) (held_cons (.inr (HC1.out _ Bw1X10)) (held_cons (.inr (HC2.out _ Bw1X10)) (held_cons (.inr (HC3.out _ Bw1X10)) (held_cons (.inr (HC4.out _ Bw1X10)) (held_nil)))))), ?_⟩
      refine At.take 17 (some 23) (.string (strOfNums ((([x.f0] ++ varL x.f1) ++ varL x.f2) ++ varL (x.f3 + 1)))) rfl rfl (by kernel_rfl) (by kernel_rfl) (by kernel_rfl) (by kernel_rfl) (fun _ _ _ h => h) (yl_sum (Op.stringOp .add (strOfNums (([x.f0] ++ varL x.f1) ++ varL x.f2)) (strOfNums (varL (x.f3 + 1)))) (fun w => run_add_nums _ _ (by have := HL.out; simp only [List.length_append, List.length_cons, List.length_nil]; omega) w) (by kernel_rfl) (fun _ => by kernel_rfl)) ?_
      refine At.take 20 (some 26) (.string (strOfNums ((([x.f0] ++ varL x.f1) ++ varL x.f2) ++ varL (x.f3 + 1)) ++ x.f4)) rfl rfl (by kernel_rfl) (by kernel_rfl) (by kernel_rfl) (by kernel_rfl) (fun _ _ _ h => h) (yl_sum (Op.stringOp .add (strOfNums ((([x.f0] ++ varL x.f1) ++ varL x.f2) ++ varL (x.f3 + 1))) x.f4) (fun w => run_string_add_sum w _ _ (by have := HL.out; rw [strOfNums_size]; simp only [List.length_append, List.length_cons, List.length_nil]; omega)) (by kernel_rfl) (fun _ => by kernel_rfl)) ?_
      refine At.take 21 (some 2) (.string (strOfNums ((([x.f0] ++ varL x.f1) ++ varL x.f2) ++ varL (x.f3 + 1)) ++ x.f4)) rfl rfl (by kernel_rfl) (by kernel_rfl) (by kernel_rfl) (by kernel_rfl) (fun _ _ _ h => h) (yl_pure (by kernel_rfl) (fun _ => by kernel_rfl)) ?_
      refine At.done (by kernel_rfl) ?_
      have HBE : Hid (Below w.heap.size w X10) := HB1.out.trans (Bw1X10.mono HB1.out.size)
      simp only [Act.put, List.setIfInBounds_toArray, List.set_cons_zero, List.set_cons_succ]
      clear Bw1X10
      go_wp2
      go_ret
      exact ⟨by rw [HT.out]; rfl, HBE.out⟩
    · rintro u X11 ⟨huX11, hwX11⟩
      subst huX11
      have hbX11 : Below X6.heap.size X6 X11 := hwX11
      have Bw1X11 : Below w1.heap.size w1 X11 := Bw1X6.trans (hbX11.mono Bw1X6.size)
      refine ⟨held_cons (.inr (HC0.out _ Bw1X11)) (held_cons (.inr (HC1.out _ Bw1X11)) (held_cons (.inr (HC2.out _ Bw1X11)) (held_cons (.inr (HC3.out _ Bw1X11)) (held_cons (.inr (HC4.out _ Bw1X11)) (held_nil))))), ?_⟩
      refine At.two 3 16 (some 9) (some 22) rfl rfl rfl rfl (by kernel_rfl) (by kernel_rfl) (by kernel_rfl) (fun u W => u = .slice (some ⟨X11.heap.size, 0, none⟩) 1 1 ∧ W = X11.alloc (.cells #[.int .u8 x.f0] 5)) (fun u W => u = .string (strOfNums (varL (x.f3 + 1))) ∧ Below X11.heap.size X11 W) (gives_run (by kernel_rfl)) (gives_call (by kernel_rfl) ((specVar_yes (x.f3 + 1) X11 (by have := HR.out; omega) (by have := HR.out; omega)).mono fun e w' ⟨he, hb⟩ => ⟨_, he, rfl, hb⟩)) ?_ ?_
      · rintro u X13 ⟨huX13, hwX13⟩
        subst huX13
        have hbX13 : Below X11.heap.size X11 X13 := by rw [hwX13]; exact (Below.refl _ _).alloc (Nat.le_refl _) _
        have Bw1X13 : Below w1.heap.size w1 X13 := Bw1X11.trans (hbX13.mono Bw1X11.size)
        refine ⟨held_cons (.inr (HC0.out _ Bw1X13)) (held_cons (.inr (HC1.out _ Bw1X13)) (held_cons (.inr (HC2.out _ Bw1X13)) (held_cons (.inr (HC3.out _ Bw1X13)) (held_cons (.inr (HC4.out _ Bw1X13)) (held_nil))))), ?_⟩
        have HCX13 : ∀ W', Below X13.heap.size X13 W' → (convert 146 9 (.slice (some ⟨X11.heap.size, 0, none⟩) 1 1)).run Tryz.prog W' = .ok (.string (strOfNums [x.f0])) W' := fun W' hb => run_string_of_own (base := X11.heap.size) [x.f0] rfl (own_bel (by rw [hwX13]; exact World.ownsRow_lit X11 #[.int .u8 x.f0] 1 (Nat.le_refl _) (by decide) rfl) hb (Nat.le_refl _))
        refine At.more ⟨1000, fun W => (convert 146 9 (.slice (some ⟨X11.heap.size, 0, none⟩) 1 1)).run Tryz.prog W = .ok (.string (strOfNums [x.f0])) W⟩ (HCX13 _ (Below.refl X13.heap.size X13)) ?_
        refine At.take 4 (some 10) (.string (strOfNums [x.f0])) rfl rfl (by kernel_rfl) (by kernel_rfl) (by kernel_rfl) (by kernel_rfl) (fun _ _ _ h => h) (yl_run_ever 1000 (convert 146 9 (.slice (some ⟨X11.heap.size, 0, none⟩) 1 1)) (.string (strOfNums [x.f0])) (List.mem_cons_self) (by kernel_rfl) (by kernel_rfl) (fun _ => by kernel_rfl)) ?_
        refine At.take 8 (some 14) (.string (strOfNums ([x.f0] ++ varL x.f1))) rfl rfl (by kernel_rfl) (by kernel_rfl) (by kernel_rfl) (by kernel_rfl) (fun _ _ _ h => h) (yl_sum (Op.stringOp .add (strOfNums [x.f0]) (strOfNums (varL x.f1))) (fun w => run_add_nums _ _ (by have := HL.out; simp only [List.length_cons, List.length_nil]; omega) w) (by kernel_rfl) (fun _ => by kernel_rfl)) ?_
        refine At.take 12 (some 18) (.string (strOfNums (([x.f0] ++ varL x.f1) ++ varL x.f2))) rfl rfl (by kernel_rfl) (by kernel_rfl) (by kernel_rfl) (by kernel_rfl) (fun _ _ _ h => h) (yl_sum (Op.stringOp .add (strOfNums ([x.f0] ++ varL x.f1)) (strOfNums (varL x.f2))) (fun w => run_add_nums _ _ (by have := HL.out; simp only [List.length_append, List.length_cons, List.length_nil]; omega) w) (by kernel_rfl) (fun _ => by kernel_rfl)) ?_
        refine At.step 16 (some 22) rfl rfl (by kernel_rfl) (by kernel_rfl) (fun u W => u = .string (strOfNums (varL (x.f3 + 1))) ∧ Below X13.heap.size X13 W) (gives_call (by kernel_rfl) ((specVar_yes (x.f3 + 1) X13 (by have := HR.out; omega) (by have := HR.out; omega)).mono fun e w' ⟨he, hb⟩ => ⟨_, he, rfl, hb⟩)) ?_
        rintro u X14 ⟨huX14, hwX14⟩
        subst huX14
        have hbX14 : Below X13.heap.size X13 X14 := hwX14
        have Bw1X14 : Below w1.heap.size w1 X14 := Bw1X13.trans (hbX14.mono Bw1X13.size)
        have BX13X14 : Below X13.heap.size X13 X14 := (Below.refl X13.heap.size X13).trans (hbX14.mono (Below.refl X13.heap.size X13).size)
        refine ⟨held_cons (.inr (HCX13 _ BX13X14)) (held_cons (.inr (HC0.out _ Bw1X14)) (held_cons (.inr (HC1.out _ Bw1X14)) (held_cons (.inr (HC2.out _ Bw1X14)) (held_cons (.inr (HC3.out _ Bw1X14)) (held_cons (.inr (HC4.out _ Bw1X14)) (held_nil)))))), ?_⟩
        refine At.take 17 (some 23) (.string (strOfNums ((([x.f0] ++ varL x.f1) ++ varL x.f2) ++ varL (x.f3 + 1)))) rfl rfl (by kernel_rfl) (by kernel_rfl) (by kernel_rfl) (by kernel_rfl) (fun _ _ _ h => h) (yl_sum (Op.stringOp .add (strOfNums (([x.f0] ++ varL x.f1) ++ varL x.f2)) (strOfNums (varL (x.f3 + 1)))) (fun w => run_add_nums _ _ (by have := HL.out; simp only [List.length_append, List.length_cons, List.length_nil]; omega) w) (by kernel_rfl) (fun _ => by kernel_rfl)) ?_
        refine At.take 20 (some 26) (.string (strOfNums ((([x.f0] ++ varL x.f1) ++ varL x.f2) ++ varL (x.f3 + 1)) ++ x.f4)) rfl rfl (by kernel_rfl) (by kernel_rfl) (by kernel_rfl) (by kernel_rfl) (fun _ _ _ h => h) (yl_sum (Op.stringOp .add (strOfNums ((([x.f0] ++ varL x.f1) ++ varL x.f2) ++ varL (x.f3 + 1))) x.f4) (fun w => run_string_add_sum w _ _ (by have := HL.out; rw [strOfNums_size]; simp only [List.length_append, List.length_cons, List.length_nil]; omega)) (by kernel_rfl) (fun _ => by kernel_rfl)) ?_
        refine At.take 21 (some 2) (.string (strOfNums ((([x.f0] ++ varL x.f1) ++ varL x.f2) ++ varL (x.f3 + 1)) ++ x.f4)) rfl rfl (by kernel_rfl) (by kernel_rfl) (by kernel_rfl) (by kernel_rfl) (fun _ _ _ h => h) (yl_pure (by kernel_rfl) (fun _ => by kernel_rfl)) ?_
        refine At.done (by kernel_rfl) ?_
        have HBE : Hid (Below w.heap.size w X14) := HB1.out.trans (Bw1X14.mono HB1.out.size)
        simp only [Act.put, List.setIfInBounds_toArray, List.set_cons_zero, List.set_cons_succ]
        clear Bw1X14
        go_wp2
        go_ret
        exact ⟨by rw [HT.out]; rfl, HBE.out⟩
      · rintro u X15 ⟨huX15, hwX15⟩
        subst huX15
        have hbX15 : Below X11.heap.size X11 X15 := hwX15
        have Bw1X15 : Below w1.heap.size w1 X15 := Bw1X11.trans (hbX15.mono Bw1X11.size)
        refine ⟨held_cons (.inr (HC0.out _ Bw1X15)) (held_cons (.inr (HC1.out _ Bw1X15)) (held_cons (.inr (HC2.out _ Bw1X15)) (held_cons (.inr (HC3.out _ Bw1X15)) (held_cons (.inr (HC4.out _ Bw1X15)) (held_nil))))), ?_⟩
        refine At.step 3 (some 9) rfl rfl (by kernel_rfl) (by kernel_rfl) (fun u W => u = .slice (some ⟨X15.heap.size, 0, none⟩) 1 1 ∧ W = X15.alloc (.cells #[.int .u8 x.f0] 5)) (gives_run (by kernel_rfl)) ?_
        rintro u X16 ⟨huX16, hwX16⟩
        subst huX16
        have hbX16 : Below X15.heap.size X15 X16 := by rw [hwX16]; exact (Below.refl _ _).alloc (Nat.le_refl _) _
        have Bw1X16 : Below w1.heap.size w1 X16 := Bw1X15.trans (hbX16.mono Bw1X15.size)
        refine ⟨held_cons (.inr (HC0.out _ Bw1X16)) (held_cons (.inr (HC1.out _ Bw1X16)) (held_cons (.inr (HC2.out _ Bw1X16)) (held_cons (.inr (HC3.out _ Bw1X16)) (held_cons (.inr (HC4.out _ Bw1X16)) (held_nil))))), ?_⟩
        have HCX16 : ∀ W', Below X16.heap.size X16 W' → (convert 146 9 (.slice (some ⟨X15.heap.size, 0, none⟩) 1 1)).run Tryz.prog W' = .ok (.string (strOfNums [x.f0])) W' := fun W' hb => run_string_of_own (base := X15.heap.size) [x.f0] rfl (own_bel (by rw [hwX16]; exact World.ownsRow_lit X15 #[.int .u8 x.f0] 1 (Nat.le_refl _) (by decide) rfl) hb (Nat.le_refl _))
        refine At.more ⟨1000, fun W => (convert 146 9 (.slice (some ⟨X15.heap.size, 0, none⟩) 1 1)).run Tryz.prog W = .ok (.string (strOfNums [x.f0])) W⟩ (HCX16 _ (Below.refl X16.heap.size X16)) ?_
        refine At.take 4 (some 10) (.string (strOfNums [x.f0])) rfl rfl (by kernel_rfl) (by kernel_rfl) (by kernel_rfl) (by kernel_rfl) (fun _ _ _ h => h) (yl_run_ever 1000 (convert 146 9 (.slice (some ⟨X15.heap.size, 0, none⟩) 1 1)) (.string (strOfNums [x.f0])) (List.mem_cons_self) (by kernel_rfl) (by kernel_rfl) (fun _ => by kernel_rfl)) ?_
        refine At.take 8 (some 14) (.string (strOfNums ([x.f0] ++ varL x.f1))) rfl rfl (by kernel_rfl) (by kernel_rfl) (by kernel_rfl) (by kernel_rfl) (fun _ _ _ h => h) (yl_sum (Op.stringOp .add (strOfNums [x.f0]) (strOfNums (varL x.f1))) (fun w => run_add_nums _ _ (by have := HL.out; simp only [List.length_cons, List.length_nil]; omega) w) (by kernel_rfl) (fun _ => by kernel_rfl)) ?_
        refine At.take 12 (some 18) (.string (strOfNums (([x.f0] ++ varL x.f1) ++ varL x.f2))) rfl rfl (by kernel_rfl) (by kernel_rfl) (by kernel_rfl) (by kernel_rfl) (fun _ _ _ h => h) (yl_sum (Op.stringOp .add (strOfNums ([x.f0] ++ varL x.f1)) (strOfNums (varL x.f2))) (fun w => run_add_nums _ _ (by have := HL.out; simp only [List.length_append, List.length_cons, List.length_nil]; omega) w) (by kernel_rfl) (fun _ => by kernel_rfl)) ?_
        refine At.take 17 (some 23) (.string (strOfNums ((([x.f0] ++ varL x.f1) ++ varL x.f2) ++ varL (x.f3 + 1)))) rfl rfl (by kernel_rfl) (by kernel_rfl) (by kernel_rfl) (by kernel_rfl) (fun _ _ _ h => h) (yl_sum (Op.stringOp .add (strOfNums (([x.f0] ++ varL x.f1) ++ varL x.f2)) (strOfNums (varL (x.f3 + 1)))) (fun w => run_add_nums _ _ (by have := HL.out; simp only [List.length_append, List.length_cons, List.length_nil]; omega) w) (by kernel_rfl) (fun _ => by kernel_rfl)) ?_
        refine At.take 20 (some 26) (.string (strOfNums ((([x.f0] ++ varL x.f1) ++ varL x.f2) ++ varL (x.f3 + 1)) ++ x.f4)) rfl rfl (by kernel_rfl) (by kernel_rfl) (by kernel_rfl) (by kernel_rfl) (fun _ _ _ h => h) (yl_sum (Op.stringOp .add (strOfNums ((([x.f0] ++ varL x.f1) ++ varL x.f2) ++ varL (x.f3 + 1))) x.f4) (fun w => run_string_add_sum w _ _ (by have := HL.out; rw [strOfNums_size]; simp only [List.length_append, List.length_cons, List.length_nil]; omega)) (by kernel_rfl) (fun _ => by kernel_rfl)) ?_
        refine At.take 21 (some 2) (.string (strOfNums ((([x.f0] ++ varL x.f1) ++ varL x.f2) ++ varL (x.f3 + 1)) ++ x.f4)) rfl rfl (by kernel_rfl) (by kernel_rfl) (by kernel_rfl) (by kernel_rfl) (fun _ _ _ h => h) (yl_pure (by kernel_rfl) (fun _ => by kernel_rfl)) ?_
        refine At.done (by kernel_rfl) ?_
        have HBE : Hid (Below w.heap.size w X16) := HB1.out.trans (Bw1X16.mono HB1.out.size)
        simp only [Act.put, List.setIfInBounds_toArray, List.set_cons_zero, List.set_cons_succ]
        clear Bw1X16
        go_wp2
        go_ret
        exact ⟨by rw [HT.out]; rfl, HBE.out⟩

set_option maxRecDepth 20000 in
set_option maxHeartbeats 2000000 in
theorem implShow_c (x : S_Rec) (w : World) (hz : x.f4.size ≤ 1048576) : Calls Tryz.prog 121 #[.agg #[.int .i64 x.f0, .int .i64 x.f1, .int .i64 x.f2, .int .i64 x.f3, .string x.f4]] w fun e w' => e = .returned (.string (recT x)) ∧ Below w.heap.size w w' := by
  obtain ⟨W0, hW0⟩ : ∃ W, W = w.alloc (.cells #[.int .i64 x.f0, .int .i64 x.f1, .int .i64 x.f2, .int .i64 x.f3, .string x.f4] 157) := ⟨_, rfl⟩
  have HW0 : Hid (w.alloc (.cells #[.int .i64 x.f0, .int .i64 x.f1, .int .i64 x.f2, .int .i64 x.f3, .string x.f4] 157) = W0) := hW0.symm
  have HX0 : Hid (W0.heap[w.heap.size]? = some (.cells #[.int .i64 x.f0, .int .i64 x.f1, .int .i64 x.f2, .int .i64 x.f3, .string x.f4] 157)) := by rw [hW0]; exact alloc_last _ _
  have HB0 : Hid (Below w.heap.size w W0) := by rw [hW0]; exact (Below.refl _ _).alloc (Nat.le_refl _) _
  clear hW0
  obtain ⟨x0, x1, x2, x3, x4⟩ := box5 HX0.out
  go_enter Tryz.func121, Tryz.ntmps121
  go_wp2_with fail
  rw [HW0.out]
  refine (implRecOk_c x W0 hz).mono ?_
  rintro e w1 ⟨rfl, b1⟩
  have HX1 : Hid (w1.heap[w.heap.size]? = some (.cells #[.int .i64 x.f0, .int .i64 x.f1, .int .i64 x.f2, .int .i64 x.f3, .string x.f4] 157)) := (b1.block _ (lt_of_some HX0.out)).trans HX0.out
  have HB1 : Hid (Below w.heap.size w w1) := HB0.out.trans (b1.mono HB0.out.size)
  clear b1 x0 x1 x2 x3 x4
  by_cases hok : okR x
  case neg =>
    have HT : Hid (recT x = ⟨#[]⟩) := by show _ = _; unfold recT; rw [if_neg hok]
    rw [decide_eq_false hok]
    clear hok
    go_wp2
    go_ret
    exact ⟨by rw [HT.out]; rfl, HB1.out⟩
  have HT : Hid (recT x = strOfNums ((([x.f0] ++ varL x.f1) ++ varL x.f2) ++ varL (x.f3 + 1)) ++ x.f4) := by show _ = _; unfold recT; rw [if_pos hok]
  have HR : Hid (0 ≤ x.f1 ∧ x.f1 ≤ 100000 ∧ 0 ≤ x.f2 ∧ x.f2 ≤ 100000 ∧ -1 ≤ x.f3 ∧ x.f3 ≤ 4 ∧ 1 ≤ x.f0 ∧ x.f0 ≤ 4) := okR_range hok
  have HL : Hid ((varL x.f1).length ≤ 3 ∧ (varL x.f2).length ≤ 3 ∧ (varL (x.f3 + 1)).length ≤ 3 ∧ x.f4.size ≤ 1048576) := ⟨varL_len3 _ HR.out.1 (by have := HR.out; omega), varL_len3 _ HR.out.2.2.1 (by have := HR.out; omega), varL_len3 _ (by have := HR.out; omega) (by have := HR.out; omega), hz⟩
  have HK8 : Hid (IntKind.u8.wrap x.f0 = x.f0) := by show _ = _; have := HR.out; rw [u8_in]; omega
  have HK3 : Hid (IntKind.i64.wrap (x.f3 + 1) = x.f3 + 1) := by show _ = _; have := HR.out; rw [IntWalk.i64_left]; exact IntWalk.wrap64_in _ (by omega)
  have HC0 : Hid (∀ W', Below w1.heap.size w1 W' → W'.cell? ⟨w.heap.size, 0, none⟩ = some (.int .i64 x.f0)) := fun W' hb => (hb.cell (lt_of_some HX1.out)).trans ((box5 HX1.out).1)
  have HC1 : Hid (∀ W', Below w1.heap.size w1 W' → W'.cell? ⟨w.heap.size, 1, none⟩ = some (.int .i64 x.f1)) := fun W' hb => (hb.cell (lt_of_some HX1.out)).trans ((box5 HX1.out).2.1)
  have HC2 : Hid (∀ W', Below w1.heap.size w1 W' → W'.cell? ⟨w.heap.size, 2, none⟩ = some (.int .i64 x.f2)) := fun W' hb => (hb.cell (lt_of_some HX1.out)).trans ((box5 HX1.out).2.2.1)
  have HC3 : Hid (∀ W', Below w1.heap.size w1 W' → W'.cell? ⟨w.heap.size, 3, none⟩ = some (.int .i64 x.f3)) := fun W' hb => (hb.cell (lt_of_some HX1.out)).trans ((box5 HX1.out).2.2.2.1)
  have HC4 : Hid (∀ W', Below w1.heap.size w1 W' → W'.cell? ⟨w.heap.size, 4, none⟩ = some (.string x.f4)) := fun W' hb => (hb.cell (lt_of_some HX1.out)).trans ((box5 HX1.out).2.2.2.2)
  rw [decide_eq_true hok]
  clear hok
  go_upto_region 3 with fail
  refine wp_region_L [⟨1000, fun W => W.cell? ⟨w.heap.size, 0, none⟩ = some (.int .i64 x.f0)⟩, ⟨1000, fun W => W.cell? ⟨w.heap.size, 1, none⟩ = some (.int .i64 x.f1)⟩, ⟨1000, fun W => W.cell? ⟨w.heap.size, 2, none⟩ = some (.int .i64 x.f2)⟩, ⟨1000, fun W => W.cell? ⟨w.heap.size, 3, none⟩ = some (.int .i64 x.f3)⟩, ⟨1000, fun W => W.cell? ⟨w.heap.size, 4, none⟩ = some (.string x.f4)⟩] (by kernel_rfl) (fun f hf => by
      simp only [List.mem_cons, List.not_mem_nil, or_false] at hf
      rcases hf with rfl | rfl | rfl | rfl | rfl
      · exact HC0.out _ (Below.refl _ _).drew
      · exact HC1.out _ (Below.refl _ _).drew
      · exact HC2.out _ (Below.refl _ _).drew
      · exact HC3.out _ (Below.refl _ _).drew
      · exact HC4.out _ (Below.refl _ _).drew
      ) ?_
  obtain ⟨X0, hX0⟩ : ∃ W, W = w1.drew := ⟨_, rfl⟩
  have Bw1X0 : Below w1.heap.size w1 X0 := by rw [hX0]; exact (Below.refl _ _).drew
  rw [← hX0]
  clear hX0
  refine At.take 0 (some 6) (.pointer (some ⟨w.heap.size, 0, none⟩)) rfl rfl (by kernel_rfl) (by kernel_rfl) (by kernel_rfl) (by kernel_rfl) (fun _ _ _ h => h) (yl_pure (by kernel_rfl) (fun _ => by kernel_rfl)) ?_
  refine At.take 1 (some 7) (.int .i64 x.f0) rfl rfl (by kernel_rfl) (by kernel_rfl) (by kernel_rfl) (by kernel_rfl) (fun _ _ _ h => h) (yl_load_ever 1000 ⟨w.heap.size, 0, none⟩ (.int .i64 x.f0) (List.mem_cons_self) (by kernel_rfl) (by kernel_rfl) (fun _ => by kernel_rfl)) ?_
  refine At.take 2 (some 8) (.int .u8 x.f0) rfl rfl (by kernel_rfl) (by kernel_rfl) (by kernel_rfl) (by kernel_rfl) (fun _ _ _ h => h) (yl_is (.int .u8 (IntKind.u8.wrap x.f0)) (by rw [HK8.out]) (by kernel_rfl) (fun _ => by kernel_rfl)) ?_
  refine At.take 5 (some 11) (.pointer (some ⟨w.heap.size, 1, none⟩)) rfl rfl (by kernel_rfl) (by kernel_rfl) (by kernel_rfl) (by kernel_rfl) (fun _ _ _ h => h) (yl_pure (by kernel_rfl) (fun _ => by kernel_rfl)) ?_
  refine At.take 6 (some 12) (.int .i64 x.f1) rfl rfl (by kernel_rfl) (by kernel_rfl) (by kernel_rfl) (by kernel_rfl) (fun _ _ _ h => h) (yl_load_ever 1000 ⟨w.heap.size, 1, none⟩ (.int .i64 x.f1) (List.mem_cons_of_mem _ (List.mem_cons_self)) (by kernel_rfl) (by kernel_rfl) (fun _ => by kernel_rfl)) ?_
  refine At.take 9 (some 15) (.pointer (some ⟨w.heap.size, 2, none⟩)) rfl rfl (by kernel_rfl) (by kernel_rfl) (by kernel_rfl) (by kernel_rfl) (fun _ _ _ h => h) (yl_pure (by kernel_rfl) (fun _ => by kernel_rfl)) ?_
  refine At.take 10 (some 16) (.int .i64 x.f2) rfl rfl (by kernel_rfl) (by kernel_rfl) (by kernel_rfl) (by kernel_rfl) (fun _ _ _ h => h) (yl_load_ever 1000 ⟨w.heap.size, 2, none⟩ (.int .i64 x.f2) (List.mem_cons_of_mem _ (List.mem_cons_of_mem _ (List.mem_cons_self))) (by kernel_rfl) (by kernel_rfl) (fun _ => by kernel_rfl)) ?_
  refine At.take 13 (some 19) (.pointer (some ⟨w.heap.size, 3, none⟩)) rfl rfl (by kernel_rfl) (by kernel_rfl) (by kernel_rfl) (by kernel_rfl) (fun _ _ _ h => h) (yl_pure (by kernel_rfl) (fun _ => by kernel_rfl)) ?_
  refine At.take 14 (some 20) (.int .i64 x.f3) rfl rfl (by kernel_rfl) (by kernel_rfl) (by kernel_rfl) (by kernel_rfl) (fun _ _ _ h => h) (yl_load_ever 1000 ⟨w.heap.size, 3, none⟩ (.int .i64 x.f3) (List.mem_cons_of_mem _ (List.mem_cons_of_mem _ (List.mem_cons_of_mem _ (List.mem_cons_self)))) (by kernel_rfl) (by kernel_rfl) (fun _ => by kernel_rfl)) ?_
  refine At.take 15 (some 21) (.int .i64 (x.f3 + 1)) rfl rfl (by kernel_rfl) (by kernel_rfl) (by kernel_rfl) (by kernel_rfl) (fun _ _ _ h => h) (yl_is (.int .i64 (IntKind.i64.wrap (x.f3 + 1))) (by rw [HK3.out]) (by kernel_rfl) (fun _ => by kernel_rfl)) ?_
  refine At.take 18 (some 24) (.pointer (some ⟨w.heap.size, 4, none⟩)) rfl rfl (by kernel_rfl) (by kernel_rfl) (by kernel_rfl) (by kernel_rfl) (fun _ _ _ h => h) (yl_pure (by kernel_rfl) (fun _ => by kernel_rfl)) ?_
  refine At.take 19 (some 25) (.string x.f4) rfl rfl (by kernel_rfl) (by kernel_rfl) (by kernel_rfl) (by kernel_rfl) (fun _ _ _ h => h) (yl_load_ever 1000 ⟨w.heap.size, 4, none⟩ (.string x.f4) (List.mem_cons_of_mem _ (List.mem_cons_of_mem _ (List.mem_cons_of_mem _ (List.mem_cons_of_mem _ (List.mem_cons_self))))) (by kernel_rfl) (by kernel_rfl) (fun _ => by kernel_rfl)) ?_
  refine At.two 3 7 (some 9) (some 13) rfl rfl rfl rfl (by kernel_rfl) (by kernel_rfl) (by kernel_rfl) (fun u W => u = .slice (some ⟨X0.heap.size, 0, none⟩) 1 1 ∧ W = X0.alloc (.cells #[.int .u8 x.f0] 5)) (fun u W => u = .string (strOfNums (varL x.f1)) ∧ Below X0.heap.size X0 W) (gives_run (by kernel_rfl)) (gives_call (by kernel_rfl) ((implVar_yes x.f1 X0 HR.out.1 (by have := HR.out; omega)).mono fun e w' ⟨he, hb⟩ => ⟨_, he, rfl, hb⟩)) ?_ ?_
  · rintro u X2 ⟨huX2, hwX2⟩
    subst huX2
    have hbX2 : Below X0.heap.size X0 X2 := by rw [hwX2]; exact (Below.refl _ _).alloc (Nat.le_refl _) _
    have Bw1X2 : Below w1.heap.size w1 X2 := Bw1X0.trans (hbX2.mono Bw1X0.size)
    refine ⟨held_cons (.inr (HC0.out _ Bw1X2)) (held_cons (.inr (HC1.out _ Bw1X2)) (held_cons (.inr (HC2.out _ Bw1X2)) (held_cons (.inr (HC3.out _ Bw1X2)) (held_cons (.inr (HC4.out _ Bw1X2)) (held_nil))))), ?_⟩
    have HCX2 : ∀ W', Below X2.heap.size X2 W' → (convert 146 9 (.slice (some ⟨X0.heap.size, 0, none⟩) 1 1)).run Tryz.prog W' = .ok (.string (strOfNums [x.f0])) W' := fun W' hb => run_string_of_own (base := X0.heap.size) [x.f0] rfl (own_bel (by rw [hwX2]; exact World.ownsRow_lit X0 #[.int .u8 x.f0] 1 (Nat.le_refl _) (by decide) rfl) hb (Nat.le_refl _))
    refine At.more ⟨1000, fun W => (convert 146 9 (.slice (some ⟨X0.heap.size, 0, none⟩) 1 1)).run Tryz.prog W = .ok (.string (strOfNums [x.f0])) W⟩ (HCX2 _ (Below.refl X2.heap.size X2)) ?_
    refine At.take 4 (some 10) (.string (strOfNums [x.f0])) rfl rfl (by kernel_rfl) (by kernel_rfl) (by kernel_rfl) (by kernel_rfl) (fun _ _ _ h => h) (yl_run_ever 1000 (convert 146 9 (.slice (some ⟨X0.heap.size, 0, none⟩) 1 1)) (.string (strOfNums [x.f0])) (List.mem_cons_self) (by kernel_rfl) (by kernel_rfl) (fun _ => by kernel_rfl)) ?_
    refine At.step 7 (some 13) rfl rfl (by kernel_rfl) (by kernel_rfl) (fun u W => u = .string (strOfNums (varL x.f1)) ∧ Below X2.heap.size X2 W) (gives_call (by kernel_rfl) ((implVar_yes x.f1 X2 HR.out.1 (by have := HR.out; omega)).mono fun e w' ⟨he, hb⟩ => ⟨_, he, rfl, hb⟩)) ?_
    rintro u X3 ⟨huX3, hwX3⟩
    subst huX3
    have hbX3 : Below X2.heap.size X2 X3 := hwX3
    have Bw1X3 : Below w1.heap.size w1 X3 := Bw1X2.trans (hbX3.mono Bw1X2.size)
    have BX2X3 : Below X2.heap.size X2 X3 := (Below.refl X2.heap.size X2).trans (hbX3.mono (Below.refl X2.heap.size X2).size)
    refine ⟨held_cons (.inr (HCX2 _ BX2X3)) (held_cons (.inr (HC0.out _ Bw1X3)) (held_cons (.inr (HC1.out _ Bw1X3)) (held_cons (.inr (HC2.out _ Bw1X3)) (held_cons (.inr (HC3.out _ Bw1X3)) (held_cons (.inr (HC4.out _ Bw1X3)) (held_nil)))))), ?_⟩
    refine At.take 8 (some 14) (.string (strOfNums ([x.f0] ++ varL x.f1))) rfl rfl (by kernel_rfl) (by kernel_rfl) (by kernel_rfl) (by kernel_rfl) (fun _ _ _ h => h) (yl_sum (Op.stringOp .add (strOfNums [x.f0]) (strOfNums (varL x.f1))) (fun w => run_add_nums _ _ (by have := HL.out; simp only [List.length_cons, List.length_nil]; omega) w) (by kernel_rfl) (fun _ => by kernel_rfl)) ?_
    refine At.step 11 (some 17) rfl rfl (by kernel_rfl) (by kernel_rfl) (fun u W => u = .string (strOfNums (varL x.f2)) ∧ Below X3.heap.size X3 W) (gives_call (by kernel_rfl) ((implVar_yes x.f2 X3 HR.out.2.2.1 (by have := HR.out; omega)).mono fun e w' ⟨he, hb⟩ => ⟨_, he, rfl, hb⟩)) ?_
    rintro u X4 ⟨huX4, hwX4⟩
    subst huX4
    have hbX4 : Below X3.heap.size X3 X4 := hwX4
    have Bw1X4 : Below w1.heap.size w1 X4 := Bw1X3.trans (hbX4.mono Bw1X3.size)
    have BX2X4 : Below X2.heap.size X2 X4 := BX2X3.trans (hbX4.mono BX2X3.size)
    refine ⟨held_cons (.inr (HCX2 _ BX2X4)) (held_cons (.inr (HC0.out _ Bw1X4)) (held_cons (.inr (HC1.out _ Bw1X4)) (held_cons (.inr (HC2.out _ Bw1X4)) (held_cons (.inr (HC3.out _ Bw1X4)) (held_cons (.inr (HC4.out _ Bw1X4)) (held_nil)))))), ?_⟩
    refine At.take 12 (some 18) (.string (strOfNums (([x.f0] ++ varL x.f1) ++ varL x.f2))) rfl rfl (by kernel_rfl) (by kernel_rfl) (by kernel_rfl) (by kernel_rfl) (fun _ _ _ h => h) (yl_sum (Op.stringOp .add (strOfNums ([x.f0] ++ varL x.f1)) (strOfNums (varL x.f2))) (fun w => run_add_nums _ _ (by have := HL.out; simp only [List.length_append, List.length_cons, List.length_nil]; omega) w) (by kernel_rfl) (fun _ => by kernel_rfl)) ?_
    refine At.step 16 (some 22) rfl rfl (by kernel_rfl) (by kernel_rfl) (fun u W => u = .string (strOfNums (varL (x.f3 + 1))) ∧ Below X4.heap.size X4 W) (gives_call (by kernel_rfl) ((implVar_yes (x.f3 + 1) X4 (by have := HR.out; omega) (by have := HR.out; omega)).mono fun e w' ⟨he, hb⟩ => ⟨_, he, rfl, hb⟩)) ?_
    rintro u X5 ⟨huX5, hwX5⟩
    subst huX5
    have hbX5 : Below X4.heap.size X4 X5 := hwX5
    have Bw1X5 : Below w1.heap.size w1 X5 := Bw1X4.trans (hbX5.mono Bw1X4.size)
    have BX2X5 : Below X2.heap.size X2 X5 := BX2X4.trans (hbX5.mono BX2X4.size)
    refine ⟨held_cons (.inr (HCX2 _ BX2X5)) (held_cons (.inr (HC0.out _ Bw1X5)) (held_cons (.inr (HC1.out _ Bw1X5)) (held_cons (.inr (HC2.out _ Bw1X5)) (held_cons (.inr (HC3.out _ Bw1X5)) (held_cons (.inr (HC4.out _ Bw1X5)) (held_nil)))))), ?_⟩
    refine At.take 17 (some 23) (.string (strOfNums ((([x.f0] ++ varL x.f1) ++ varL x.f2) ++ varL (x.f3 + 1)))) rfl rfl (by kernel_rfl) (by kernel_rfl) (by kernel_rfl) (by kernel_rfl) (fun _ _ _ h => h) (yl_sum (Op.stringOp .add (strOfNums (([x.f0] ++ varL x.f1) ++ varL x.f2)) (strOfNums (varL (x.f3 + 1)))) (fun w => run_add_nums _ _ (by have := HL.out; simp only [List.length_append, List.length_cons, List.length_nil]; omega) w) (by kernel_rfl) (fun _ => by kernel_rfl)) ?_
    refine At.take 20 (some 26) (.string (strOfNums ((([x.f0] ++ varL x.f1) ++ varL x.f2) ++ varL (x.f3 + 1)) ++ x.f4)) rfl rfl (by kernel_rfl) (by kernel_rfl) (by kernel_rfl) (by kernel_rfl) (fun _ _ _ h => h) (yl_sum (Op.stringOp .add (strOfNums ((([x.f0] ++ varL x.f1) ++ varL x.f2) ++ varL (x.f3 + 1))) x.f4) (fun w => run_string_add_sum w _ _ (by have := HL.out; rw [strOfNums_size]; simp only [List.length_append, List.length_cons, List.length_nil]; omega)) (by kernel_rfl) (fun _ => by kernel_rfl)) ?_
    refine At.take 21 (some 2) (.string (strOfNums ((([x.f0] ++ varL x.f1) ++ varL x.f2) ++ varL (x.f3 + 1)) ++ x.f4)) rfl rfl (by kernel_rfl) (by kernel_rfl) (by kernel_rfl) (by kernel_rfl) (fun _ _ _ h => h) (yl_pure (by kernel_rfl) (fun _ => by kernel_rfl)) ?_
    refine At.done (by kernel_rfl) ?_
    have HBE : Hid (Below w.heap.size w X5) := HB1.out.trans (Bw1X5.mono HB1.out.size)
    simp only [Act.put, List.setIfInBounds_toArray, List.set_cons_zero, List.set_cons_succ]
    clear Bw1X5
    go_wp2
    go_ret
    exact ⟨by rw [HT.out]; rfl, HBE.out⟩
  · rintro u X6 ⟨huX6, hwX6⟩
    subst huX6
    have hbX6 : Below X0.heap.size X0 X6 := hwX6
    have Bw1X6 : Below w1.heap.size w1 X6 := Bw1X0.trans (hbX6.mono Bw1X0.size)
    refine ⟨held_cons (.inr (HC0.out _ Bw1X6)) (held_cons (.inr (HC1.out _ Bw1X6)) (held_cons (.inr (HC2.out _ Bw1X6)) (held_cons (.inr (HC3.out _ Bw1X6)) (held_cons (.inr (HC4.out _ Bw1X6)) (held_nil))))), ?_⟩
    refine At.two 3 11 (some 9) (some 17) rfl rfl rfl rfl (by kernel_rfl) (by kernel_rfl) (by kernel_rfl) (fun u W => u = .slice (some ⟨X6.heap.size, 0, none⟩) 1 1 ∧ W = X6.alloc (.cells #[.int .u8 x.f0] 5)) (fun u W => u = .string (strOfNums (varL x.f2)) ∧ Below X6.heap.size X6 W) (gives_run (by kernel_rfl)) (gives_call (by kernel_rfl) ((implVar_yes x.f2 X6 HR.out.2.2.1 (by have := HR.out; omega)).mono fun e w' ⟨he, hb⟩ => ⟨_, he, rfl, hb⟩)) ?_ ?_
    · rintro u X8 ⟨huX8, hwX8⟩
      subst huX8
      have hbX8 : Below X6.heap.size X6 X8 := by rw [hwX8]; exact (Below.refl _ _).alloc (Nat.le_refl _) _
      have Bw1X8 : Below w1.heap.size w1 X8 := Bw1X6.trans (hbX8.mono Bw1X6.size)
      refine ⟨held_cons (.inr (HC0.out _ Bw1X8)) (held_cons (.inr (HC1.out _ Bw1X8)) (held_cons (.inr (HC2.out _ Bw1X8)) (held_cons (.inr (HC3.out _ Bw1X8)) (held_cons (.inr (HC4.out _ Bw1X8)) (held_nil))))), ?_⟩
      have HCX8 : ∀ W', Below X8.heap.size X8 W' → (convert 146 9 (.slice (some ⟨X6.heap.size, 0, none⟩) 1 1)).run Tryz.prog W' = .ok (.string (strOfNums [x.f0])) W' := fun W' hb => run_string_of_own (base := X6.heap.size) [x.f0] rfl (own_bel (by rw [hwX8]; exact World.ownsRow_lit X6 #[.int .u8 x.f0] 1 (Nat.le_refl _) (by decide) rfl) hb (Nat.le_refl _))
      refine At.more ⟨1000, fun W => (convert 146 9 (.slice (some ⟨X6.heap.size, 0, none⟩) 1 1)).run Tryz.prog W = .ok (.string (strOfNums [x.f0])) W⟩ (HCX8 _ (Below.refl X8.heap.size X8)) ?_
      refine At.take 4 (some 10) (.string (strOfNums [x.f0])) rfl rfl (by kernel_rfl) (by kernel_rfl) (by kernel_rfl) (by kernel_rfl) (fun _ _ _ h => h) (yl_run_ever 1000 (convert 146 9 (.slice (some ⟨X6.heap.size, 0, none⟩) 1 1)) (.string (strOfNums [x.f0])) (List.mem_cons_self) (by kernel_rfl) (by kernel_rfl) (fun _ => by kernel_rfl)) ?_
      refine At.take 8 (some 14) (.string (strOfNums ([x.f0] ++ varL x.f1))) rfl rfl (by kernel_rfl) (by kernel_rfl) (by kernel_rfl) (by kernel_rfl) (fun _ _ _ h => h) (yl_sum (Op.stringOp .add (strOfNums [x.f0]) (strOfNums (varL x.f1))) (fun w => run_add_nums _ _ (by have := HL.out; simp only [List.length_cons, List.length_nil]; omega) w) (by kernel_rfl) (fun _ => by kernel_rfl)) ?_
      refine At.step 11 (some 17) rfl rfl (by kernel_rfl) (by kernel_rfl) (fun u W => u = .string (strOfNums (varL x.f2)) ∧ Below X8.heap.size X8 W) (gives_call (by kernel_rfl) ((implVar_yes x.f2 X8 HR.out.2.2.1 (by have := HR.out; omega)).mono fun e w' ⟨he, hb⟩ => ⟨_, he, rfl, hb⟩)) ?_
      rintro u X9 ⟨huX9, hwX9⟩
      subst huX9
      have hbX9 : Below X8.heap.size X8 X9 := hwX9
      have Bw1X9 : Below w1.heap.size w1 X9 := Bw1X8.trans (hbX9.mono Bw1X8.size)
      have BX8X9 : Below X8.heap.size X8 X9 := (Below.refl X8.heap.size X8).trans (hbX9.mono (Below.refl X8.heap.size X8).size)
      refine ⟨held_cons (.inr (HCX8 _ BX8X9)) (held_cons (.inr (HC0.out _ Bw1X9)) (held_cons (.inr (HC1.out _ Bw1X9)) (held_cons (.inr (HC2.out _ Bw1X9)) (held_cons (.inr (HC3.out _ Bw1X9)) (held_cons (.inr (HC4.out _ Bw1X9)) (held_nil)))))), ?_⟩
      refine At.take 12 (some 18) (.string (strOfNums (([x.f0] ++ varL x.f1) ++ varL x.f2))) rfl rfl (by kernel_rfl) (by kernel_rfl) (by kernel_rfl) (by kernel_rfl) (fun _ _ _ h => h) (yl_sum (Op.stringOp .add (strOfNums ([x.f0] ++ varL x.f1)) (strOfNums (varL x.f2))) (fun w => run_add_nums _ _ (by have := HL.out; simp only [List.length_append, List.length_cons, List.length_nil]; omega) w) (by kernel_rfl) (fun _ => by kernel_rfl)) ?_
      refine At.step 16 (some 22) rfl rfl (by kernel_rfl) (by kernel_rfl) (fun u W => u = .string (strOfNums (varL (x.f3 + 1))) ∧ Below X9.heap.size X9 W) (gives_call (by kernel_rfl) ((implVar_yes (x.f3 + 1) X9 (by have := HR.out; omega) (by have := HR.out; omega)).mono fun e w' ⟨he, hb⟩ => ⟨_, he, rfl, hb⟩)) ?_
      rintro u X10 ⟨huX10, hwX10⟩
      subst huX10
      have hbX10 : Below X9.heap.size X9 X10 := hwX10
      have Bw1X10 : Below w1.heap.size w1 X10 := Bw1X9.trans (hbX10.mono Bw1X9.size)
      have BX8X10 : Below X8.heap.size X8 X10 := BX8X9.trans (hbX10.mono BX8X9.size)
      refine ⟨held_cons (.inr (HCX8 _ BX8X10)) (held_cons (.inr (HC0.out _ Bw1X10)) (held_cons (.inr (HC1.out _ Bw1X10)) (held_cons (.inr (HC2.out _ Bw1X10)) (held_cons (.inr (HC3.out _ Bw1X10)) (held_cons (.inr (HC4.out _ Bw1X10)) (held_nil)))))), ?_⟩
      refine At.take 17 (some 23) (.string (strOfNums ((([x.f0] ++ varL x.f1) ++ varL x.f2) ++ varL (x.f3 + 1)))) rfl rfl (by kernel_rfl) (by kernel_rfl) (by kernel_rfl) (by kernel_rfl) (fun _ _ _ h => h) (yl_sum (Op.stringOp .add (strOfNums (([x.f0] ++ varL x.f1) ++ varL x.f2)) (strOfNums (varL (x.f3 + 1)))) (fun w => run_add_nums _ _ (by have := HL.out; simp only [List.length_append, List.length_cons, List.length_nil]; omega) w) (by kernel_rfl) (fun _ => by kernel_rfl)) ?_
      refine At.take 20 (some 26) (.string (strOfNums ((([x.f0] ++ varL x.f1) ++ varL x.f2) ++ varL (x.f3 + 1)) ++ x.f4)) rfl rfl (by kernel_rfl) (by kernel_rfl) (by kernel_rfl) (by kernel_rfl) (fun _ _ _ h => h) (yl_sum (Op.stringOp .add (strOfNums ((([x.f0] ++ varL x.f1) ++ varL x.f2) ++ varL (x.f3 + 1))) x.f4) (fun w => run_string_add_sum w _ _ (by have := HL.out; rw [strOfNums_size]; simp only [List.length_append, List.length_cons, List.length_nil]; omega)) (by kernel_rfl) (fun _ => by kernel_rfl)) ?_
      refine At.take 21 (some 2) (.string (strOfNums ((([x.f0] ++ varL x.f1) ++ varL x.f2) ++ varL (x.f3 + 1)) ++ x.f4)) rfl rfl (by kernel_rfl) (by kernel_rfl) (by kernel_rfl) (by kernel_rfl) (fun _ _ _ h => h) (yl_pure (by kernel_rfl) (fun _ => by kernel_rfl)) ?_
      refine At.done (by kernel_rfl) ?_
      have HBE : Hid (Below w.heap.size w X10) := HB1.out.trans (Bw1X10.mono HB1.out.size)
      simp only [Act.put, List.setIfInBounds_toArray, List.set_cons_zero, List.set_cons_succ]
      clear Bw1X10
      go_wp2
      go_ret
      exact ⟨by rw [HT.out]; rfl, HBE.out⟩
    · rintro u X11 ⟨huX11, hwX11⟩
      subst huX11
      have hbX11 : Below X6.heap.size X6 X11 := hwX11
      have Bw1X11 : Below w1.heap.size w1 X11 := Bw1X6.trans (hbX11.mono Bw1X6.size)
      refine ⟨held_cons (.inr (HC0.out _ Bw1X11)) (held_cons (.inr (HC1.out _ Bw1X11)) (held_cons (.inr (HC2.out _ Bw1X11)) (held_cons (.inr (HC3.out _ Bw1X11)) (held_cons (.inr (HC4.out _ Bw1X11)) (held_nil))))), ?_⟩
      refine At.two 3 16 (some 9) (some 22) rfl rfl rfl rfl (by kernel_rfl) (by kernel_rfl) (by kernel_rfl) (fun u W => u = .slice (some ⟨X11.heap.size, 0, none⟩) 1 1 ∧ W = X11.alloc (.cells #[.int .u8 x.f0] 5)) (fun u W => u = .string (strOfNums (varL (x.f3 + 1))) ∧ Below X11.heap.size X11 W) (gives_run (by kernel_rfl)) (gives_call (by kernel_rfl) ((implVar_yes (x.f3 + 1) X11 (by have := HR.out; omega) (by have := HR.out; omega)).mono fun e w' ⟨he, hb⟩ => ⟨_, he, rfl, hb⟩)) ?_ ?_
      · rintro u X13 ⟨huX13, hwX13⟩
        subst huX13
        have hbX13 : Below X11.heap.size X11 X13 := by rw [hwX13]; exact (Below.refl _ _).alloc (Nat.le_refl _) _
        have Bw1X13 : Below w1.heap.size w1 X13 := Bw1X11.trans (hbX13.mono Bw1X11.size)
        refine ⟨held_cons (.inr (HC0.out _ Bw1X13)) (held_cons (.inr (HC1.out _ Bw1X13)) (held_cons (.inr (HC2.out _ Bw1X13)) (held_cons (.inr (HC3.out _ Bw1X13)) (held_cons (.inr (HC4.out _ Bw1X13)) (held_nil))))), ?_⟩
        have HCX13 : ∀ W', Below X13.heap.size X13 W' → (convert 146 9 (.slice (some ⟨X11.heap.size, 0, none⟩) 1 1)).run Tryz.prog W' = .ok (.string (strOfNums [x.f0])) W' := fun W' hb => run_string_of_own (base := X11.heap.size) [x.f0] rfl (own_bel (by rw [hwX13]; exact World.ownsRow_lit X11 #[.int .u8 x.f0] 1 (Nat.le_refl _) (by decide) rfl) hb (Nat.le_refl _))
        refine At.more ⟨1000, fun W => (convert 146 9 (.slice (some ⟨X11.heap.size, 0, none⟩) 1 1)).run Tryz.prog W = .ok (.string (strOfNums [x.f0])) W⟩ (HCX13 _ (Below.refl X13.heap.size X13)) ?_
        refine At.take 4 (some 10) (.string (strOfNums [x.f0])) rfl rfl (by kernel_rfl) (by kernel_rfl) (by kernel_rfl) (by kernel_rfl) (fun _ _ _ h => h) (yl_run_ever 1000 (convert 146 9 (.slice (some ⟨X11.heap.size, 0, none⟩) 1 1)) (.string (strOfNums [x.f0])) (List.mem_cons_self) (by kernel_rfl) (by kernel_rfl) (fun _ => by kernel_rfl)) ?_
        refine At.take 8 (some 14) (.string (strOfNums ([x.f0] ++ varL x.f1))) rfl rfl (by kernel_rfl) (by kernel_rfl) (by kernel_rfl) (by kernel_rfl) (fun _ _ _ h => h) (yl_sum (Op.stringOp .add (strOfNums [x.f0]) (strOfNums (varL x.f1))) (fun w => run_add_nums _ _ (by have := HL.out; simp only [List.length_cons, List.length_nil]; omega) w) (by kernel_rfl) (fun _ => by kernel_rfl)) ?_
        refine At.take 12 (some 18) (.string (strOfNums (([x.f0] ++ varL x.f1) ++ varL x.f2))) rfl rfl (by kernel_rfl) (by kernel_rfl) (by kernel_rfl) (by kernel_rfl) (fun _ _ _ h => h) (yl_sum (Op.stringOp .add (strOfNums ([x.f0] ++ varL x.f1)) (strOfNums (varL x.f2))) (fun w => run_add_nums _ _ (by have := HL.out; simp only [List.length_append, List.length_cons, List.length_nil]; omega) w) (by kernel_rfl) (fun _ => by kernel_rfl)) ?_
        refine At.step 16 (some 22) rfl rfl (by kernel_rfl) (by kernel_rfl) (fun u W => u = .string (strOfNums (varL (x.f3 + 1))) ∧ Below X13.heap.size X13 W) (gives_call (by kernel_rfl) ((implVar_yes (x.f3 + 1) X13 (by have := HR.out; omega) (by have := HR.out; omega)).mono fun e w' ⟨he, hb⟩ => ⟨_, he, rfl, hb⟩)) ?_
        rintro u X14 ⟨huX14, hwX14⟩
        subst huX14
        have hbX14 : Below X13.heap.size X13 X14 := hwX14
        have Bw1X14 : Below w1.heap.size w1 X14 := Bw1X13.trans (hbX14.mono Bw1X13.size)
        have BX13X14 : Below X13.heap.size X13 X14 := (Below.refl X13.heap.size X13).trans (hbX14.mono (Below.refl X13.heap.size X13).size)
        refine ⟨held_cons (.inr (HCX13 _ BX13X14)) (held_cons (.inr (HC0.out _ Bw1X14)) (held_cons (.inr (HC1.out _ Bw1X14)) (held_cons (.inr (HC2.out _ Bw1X14)) (held_cons (.inr (HC3.out _ Bw1X14)) (held_cons (.inr (HC4.out _ Bw1X14)) (held_nil)))))), ?_⟩
        refine At.take 17 (some 23) (.string (strOfNums ((([x.f0] ++ varL x.f1) ++ varL x.f2) ++ varL (x.f3 + 1)))) rfl rfl (by kernel_rfl) (by kernel_rfl) (by kernel_rfl) (by kernel_rfl) (fun _ _ _ h => h) (yl_sum (Op.stringOp .add (strOfNums (([x.f0] ++ varL x.f1) ++ varL x.f2)) (strOfNums (varL (x.f3 + 1)))) (fun w => run_add_nums _ _ (by have := HL.out; simp only [List.length_append, List.length_cons, List.length_nil]; omega) w) (by kernel_rfl) (fun _ => by kernel_rfl)) ?_
        refine At.take 20 (some 26) (.string (strOfNums ((([x.f0] ++ varL x.f1) ++ varL x.f2) ++ varL (x.f3 + 1)) ++ x.f4)) rfl rfl (by kernel_rfl) (by kernel_rfl) (by kernel_rfl) (by kernel_rfl) (fun _ _ _ h => h) (yl_sum (Op.stringOp .add (strOfNums ((([x.f0] ++ varL x.f1) ++ varL x.f2) ++ varL (x.f3 + 1))) x.f4) (fun w => run_string_add_sum w _ _ (by have := HL.out; rw [strOfNums_size]; simp only [List.length_append, List.length_cons, List.length_nil]; omega)) (by kernel_rfl) (fun _ => by kernel_rfl)) ?_
        refine At.take 21 (some 2) (.string (strOfNums ((([x.f0] ++ varL x.f1) ++ varL x.f2) ++ varL (x.f3 + 1)) ++ x.f4)) rfl rfl (by kernel_rfl) (by kernel_rfl) (by kernel_rfl) (by kernel_rfl) (fun _ _ _ h => h) (yl_pure (by kernel_rfl) (fun _ => by kernel_rfl)) ?_
        refine At.done (by kernel_rfl) ?_
        have HBE : Hid (Below w.heap.size w X14) := HB1.out.trans (Bw1X14.mono HB1.out.size)
        simp only [Act.put, List.setIfInBounds_toArray, List.set_cons_zero, List.set_cons_succ]
        clear Bw1X14
        go_wp2
        go_ret
        exact ⟨by rw [HT.out]; rfl, HBE.out⟩
      · rintro u X15 ⟨huX15, hwX15⟩
        subst huX15
        have hbX15 : Below X11.heap.size X11 X15 := hwX15
        have Bw1X15 : Below w1.heap.size w1 X15 := Bw1X11.trans (hbX15.mono Bw1X11.size)
        refine ⟨held_cons (.inr (HC0.out _ Bw1X15)) (held_cons (.inr (HC1.out _ Bw1X15)) (held_cons (.inr (HC2.out _ Bw1X15)) (held_cons (.inr (HC3.out _ Bw1X15)) (held_cons (.inr (HC4.out _ Bw1X15)) (held_nil))))), ?_⟩
        refine At.step 3 (some 9) rfl rfl (by kernel_rfl) (by kernel_rfl) (fun u W => u = .slice (some ⟨X15.heap.size, 0, none⟩) 1 1 ∧ W = X15.alloc (.cells #[.int .u8 x.f0] 5)) (gives_run (by kernel_rfl)) ?_
        rintro u X16 ⟨huX16, hwX16⟩
        subst huX16
        have hbX16 : Below X15.heap.size X15 X16 := by rw [hwX16]; exact (Below.refl _ _).alloc (Nat.le_refl _) _
        have Bw1X16 : Below w1.heap.size w1 X16 := Bw1X15.trans (hbX16.mono Bw1X15.size)
        refine ⟨held_cons (.inr (HC0.out _ Bw1X16)) (held_cons (.inr (HC1.out _ Bw1X16)) (held_cons (.inr (HC2.out _ Bw1X16)) (held_cons (.inr (HC3.out _ Bw1X16)) (held_cons (.inr (HC4.out _ Bw1X16)) (held_nil))))), ?_⟩
        have HCX16 : ∀ W', Below X16.heap.size X16 W' → (convert 146 9 (.slice (some ⟨X15.heap.size, 0, none⟩) 1 1)).run Tryz.prog W' = .ok (.string (strOfNums [x.f0])) W' := fun W' hb => run_string_of_own (base := X15.heap.size) [x.f0] rfl (own_bel (by rw [hwX16]; exact World.ownsRow_lit X15 #[.int .u8 x.f0] 1 (Nat.le_refl _) (by decide) rfl) hb (Nat.le_refl _))
        refine At.more ⟨1000, fun W => (convert 146 9 (.slice (some ⟨X15.heap.size, 0, none⟩) 1 1)).run Tryz.prog W = .ok (.string (strOfNums [x.f0])) W⟩ (HCX16 _ (Below.refl X16.heap.size X16)) ?_
        refine At.take 4 (some 10) (.string (strOfNums [x.f0])) rfl rfl (by kernel_rfl) (by kernel_rfl) (by kernel_rfl) (by kernel_rfl) (fun _ _ _ h => h) (yl_run_ever 1000 (convert 146 9 (.slice (some ⟨X15.heap.size, 0, none⟩) 1 1)) (.string (strOfNums [x.f0])) (List.mem_cons_self) (by kernel_rfl) (by kernel_rfl) (fun _ => by kernel_rfl)) ?_
        refine At.take 8 (some 14) (.string (strOfNums ([x.f0] ++ varL x.f1))) rfl rfl (by kernel_rfl) (by kernel_rfl) (by kernel_rfl) (by kernel_rfl) (fun _ _ _ h => h) (yl_sum (Op.stringOp .add (strOfNums [x.f0]) (strOfNums (varL x.f1))) (fun w => run_add_nums _ _ (by have := HL.out; simp only [List.length_cons, List.length_nil]; omega) w) (by kernel_rfl) (fun _ => by kernel_rfl)) ?_
        refine At.take 12 (some 18) (.string (strOfNums (([x.f0] ++ varL x.f1) ++ varL x.f2))) rfl rfl (by kernel_rfl) (by kernel_rfl) (by kernel_rfl) (by kernel_rfl) (fun _ _ _ h => h) (yl_sum (Op.stringOp .add (strOfNums ([x.f0] ++ varL x.f1)) (strOfNums (varL x.f2))) (fun w => run_add_nums _ _ (by have := HL.out; simp only [List.length_append, List.length_cons, List.length_nil]; omega) w) (by kernel_rfl) (fun _ => by kernel_rfl)) ?_
        refine At.take 17 (some 23) (.string (strOfNums ((([x.f0] ++ varL x.f1) ++ varL x.f2) ++ varL (x.f3 + 1)))) rfl rfl (by kernel_rfl) (by kernel_rfl) (by kernel_rfl) (by kernel_rfl) (fun _ _ _ h => h) (yl_sum (Op.stringOp .add (strOfNums (([x.f0] ++ varL x.f1) ++ varL x.f2)) (strOfNums (varL (x.f3 + 1)))) (fun w => run_add_nums _ _ (by have := HL.out; simp only [List.length_append, List.length_cons, List.length_nil]; omega) w) (by kernel_rfl) (fun _ => by kernel_rfl)) ?_
        refine At.take 20 (some 26) (.string (strOfNums ((([x.f0] ++ varL x.f1) ++ varL x.f2) ++ varL (x.f3 + 1)) ++ x.f4)) rfl rfl (by kernel_rfl) (by kernel_rfl) (by kernel_rfl) (by kernel_rfl) (fun _ _ _ h => h) (yl_sum (Op.stringOp .add (strOfNums ((([x.f0] ++ varL x.f1) ++ varL x.f2) ++ varL (x.f3 + 1))) x.f4) (fun w => run_string_add_sum w _ _ (by have := HL.out; rw [strOfNums_size]; simp only [List.length_append, List.length_cons, List.length_nil]; omega)) (by kernel_rfl) (fun _ => by kernel_rfl)) ?_
        refine At.take 21 (some 2) (.string (strOfNums ((([x.f0] ++ varL x.f1) ++ varL x.f2) ++ varL (x.f3 + 1)) ++ x.f4)) rfl rfl (by kernel_rfl) (by kernel_rfl) (by kernel_rfl) (by kernel_rfl) (fun _ _ _ h => h) (yl_pure (by kernel_rfl) (fun _ => by kernel_rfl)) ?_
        refine At.done (by kernel_rfl) ?_
        have HBE : Hid (Below w.heap.size w X16) := HB1.out.trans (Bw1X16.mono HB1.out.size)
        simp only [Act.put, List.setIfInBounds_toArray, List.set_cons_zero, List.set_cons_succ]
        clear Bw1X16
        go_wp2
        go_ret
        exact ⟨by rw [HT.out]; rfl, HBE.out⟩

end Go.Proofs.YtoecakjjondeeaaGreat
