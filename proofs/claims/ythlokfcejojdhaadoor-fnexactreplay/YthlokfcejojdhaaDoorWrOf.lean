/- The program's records taken, by contracts. -/
import Derived.Test.YthlokfcejojdhaaDoorWrTell
namespace Go.Proofs.YthlokfcejojdhaaDoor
open Go.RowKit
set_option linter.unusedVariables false

theorem cells5R {w w' : World} {b : Nat} {a0 a1 a2 a3 a4 : Value} {t : TypeId} (hb : w'.heap[b]? = w.heap[b]?) (h : w.heap[b]? = some (.cells #[a0, a1, a2, a3, a4] t)) :
    ∀ j u, [a0, a1, a2, a3, a4][j]? = some u → w'.cell? ((⟨b, 0, none⟩ : Addr).add j) = some u := by
  intro j u hj
  rw [Addr.add_mid, Nat.zero_add]
  rw [h] at hb
  simp only [World.cell?, hb]
  rcases j with _ | _ | _ | _ | _ | j <;> simp at hj ⊢ <;> exact hj

theorem box5 {w : World} {b : Nat} {a0 a1 a2 a3 a4 : Value} {t : TypeId} (h : w.heap[b]? = some (.cells #[a0, a1, a2, a3, a4] t)) : w.cell? ⟨b, 0, none⟩ = some a0 ∧ w.cell? ⟨b, 1, none⟩ = some a1 ∧ w.cell? ⟨b, 2, none⟩ = some a2 ∧ w.cell? ⟨b, 3, none⟩ = some a3 ∧ w.cell? ⟨b, 4, none⟩ = some a4 := by
  simp [World.cell?, h]

theorem txt_iff (a b : ByteArray) : a.toList = b.toList ↔ a = b := by
  rw [ByteArray.toList_eq, ByteArray.toList_eq]
  constructor
  · intro h
    cases a
    cases b
    simp only [ByteArray.mk.injEq]
    exact Array.toList_inj.1 h
  · intro h; rw [h]

theorem neqR (x y : S_Rec) (W : World) : (binOp .neq 57 (.agg #[.int .i64 x.f0, .int .i64 x.f1, .int .i64 x.f2, .int .i64 x.f3, .string x.f4]) (.agg #[.int .i64 y.f0, .int .i64 y.f1, .int .i64 y.f2, .int .i64 y.f3, .string y.f4])).run Tryd.prog W = .ok (.bool (!decide (sameR x y))) W := by
  have hs := txt_iff x.f4 y.f4
  go_simp
  by_cases h0 : x.f0 = y.f0
  · by_cases h1 : x.f1 = y.f1
    · by_cases h2 : x.f2 = y.f2
      · by_cases h3 : x.f3 = y.f3
        · by_cases h4 : x.f4 = y.f4
          · rw [if_pos h0, if_pos h1, if_pos h2, if_pos h3, if_pos h4, decide_eq_true (show sameR x y from ⟨h0, h1, h2, h3, h4⟩)]; rfl
          · rw [if_pos h0, if_pos h1, if_pos h2, if_pos h3, if_neg h4, decide_eq_false (fun h : sameR x y => h4 h.2.2.2.2)]; rfl
        · rw [if_pos h0, if_pos h1, if_pos h2, if_neg h3, decide_eq_false (fun h : sameR x y => h3 h.2.2.2.1)]; rfl
      · rw [if_pos h0, if_pos h1, if_neg h2, decide_eq_false (fun h : sameR x y => h2 h.2.2.1)]; rfl
    · rw [if_pos h0, if_neg h1, decide_eq_false (fun h : sameR x y => h1 h.2.1)]; rfl
  · rw [if_neg h0, decide_eq_false (fun h : sameR x y => h0 h.1)]; rfl

/-- What the program takes a record for. -/
def ofV (x : S_Rec) : Value := if okR x then recV x else .nilIface

set_option maxRecDepth 20000 in
set_option maxHeartbeats 1000000 in
theorem recordOf_c (x : S_Rec) (w : World) (hz : x.f4.size ≤ 1048576) : Calls Tryd.prog 52 #[.agg #[.int .i64 x.f0, .int .i64 x.f1, .int .i64 x.f2, .int .i64 x.f3, .string x.f4]] w fun e w' => e = .returned (.tuple #[ofV x, .bool (decide (okR x))]) ∧ Below w.heap.size w w' := by
  obtain ⟨W0, hW0⟩ : ∃ W, W = w.alloc (.cells #[.int .i64 x.f0, .int .i64 x.f1, .int .i64 x.f2, .int .i64 x.f3, .string x.f4] 57) := ⟨_, rfl⟩
  have HW0 : Hid (w.alloc (.cells #[.int .i64 x.f0, .int .i64 x.f1, .int .i64 x.f2, .int .i64 x.f3, .string x.f4] 57) = W0) := hW0.symm
  have HX0 : Hid (W0.heap[w.heap.size]? = some (.cells #[.int .i64 x.f0, .int .i64 x.f1, .int .i64 x.f2, .int .i64 x.f3, .string x.f4] 57)) := by rw [hW0]; exact alloc_last _ _
  have HB0 : Hid (Below w.heap.size w W0) := by rw [hW0]; exact (Below.refl _ _).alloc (Nat.le_refl _) _
  clear hW0
  obtain ⟨x0, x1, x2, x3, x4⟩ := box5 HX0.out
  go_enter Tryd.func52, Tryd.ntmps52
  go_wp2_with fail
  rw [HW0.out]
  refine (bounds_c x W0 (by unfold sRec maxLen; omega)).mono ?_
  rintro e w1 ⟨rfl, b1⟩
  have HX1 : Hid (w1.heap[w.heap.size]? = some (.cells #[.int .i64 x.f0, .int .i64 x.f1, .int .i64 x.f2, .int .i64 x.f3, .string x.f4] 57)) := (b1.block _ (lt_of_some HX0.out)).trans HX0.out
  have HB1 : Hid (Below w.heap.size w w1) := HB0.out.trans (b1.mono HB0.out.size)
  clear b1 x0 x1 x2 x3 x4
  by_cases hbd : bdR x
  case neg =>
    have HN : Hid (¬ okR x) := fun h => hbd ((okR_iff x).1 h).1
    rw [decide_eq_false hbd]
    clear hbd
    go_wp2
    go_ret2
    exact ⟨by rw [ofV, if_neg HN.out, decide_eq_false HN.out]; rfl, HB1.out⟩
  have HBD : Hid (bdR x) := hbd
  rw [decide_eq_true hbd]
  clear hbd
  obtain ⟨x0, x1, x2, x3, x4⟩ := box5 HX1.out
  go_wp2_with fail
  refine (kindOf_c x w1).mono ?_
  rintro e w3 ⟨rfl, b3⟩
  have HX : Hid (w3.heap[w.heap.size]? = some (.cells #[.int .i64 x.f0, .int .i64 x.f1, .int .i64 x.f2, .int .i64 x.f3, .string x.f4] 57)) := (b3.block _ (lt_of_some HX1.out)).trans HX1.out
  have HB3 : Hid (Below w.heap.size w w3) := HB1.out.trans (b3.mono HB1.out.size)
  clear b3 x0 x1 x2 x3 x4
  have HSB : Hid (decide (sameR (cutR x) x) = decide (okR x)) := by
    show _ = _
    rw [decide_eq_decide, okR_iff]
    exact ⟨fun h => ⟨HBD.out, h⟩, fun h => h.2⟩
  cases hs : decide (sameR (cutR x) x)
  · have HSM : Hid (decide (sameR (cutR x) x) = false) := hs
    have HN : Hid (¬ okR x) := by rw [HSB.out] at hs; exact of_decide_eq_false hs
    clear hs
    go_upto_region 4 with fail
    refine wp_region_told (fun W => Below w3.heap.size w3 W) (by kernel_rfl) (by kernel_rfl) ((Below.refl w3.heap.size w3).drew) ?_
    refine told_pure (some 10) (recV x) rfl (by kernel_rfl) (fun _ => by kernel_rfl) ?_
    refine told_call (some 11) (.agg #[.int .i64 (cutR x).f0, .int .i64 (cutR x).f1, .int .i64 (cutR x).f2, .int .i64 (cutR x).f3, .string (cutR x).f4]) 23 #[recV x] rfl (by kernel_rfl) (fun _ => by kernel_rfl) (fun W hS => below_S (tellRec_c x W hz) hS) ?_
    refine told_loads (some 12) ⟨w.heap.size, 0, none⟩ [.int .i64 x.f0, .int .i64 x.f1, .int .i64 x.f2, .int .i64 x.f3, .string x.f4] rfl (by kernel_rfl) (fun _ => by kernel_rfl) (fun _ hS => cells5R (hS.block _ (lt_of_some HX.out)) HX.out) ?_
    refine told_run (some 13) (.bool true) (binOp .neq 57 (.agg #[.int .i64 (cutR x).f0, .int .i64 (cutR x).f1, .int .i64 (cutR x).f2, .int .i64 (cutR x).f3, .string (cutR x).f4]) (.agg #[.int .i64 x.f0, .int .i64 x.f1, .int .i64 x.f2, .int .i64 x.f3, .string x.f4])) rfl (by kernel_rfl) (fun _ => by kernel_rfl) (fun W hS => by rw [neqR, HSM.out]; rfl) ?_
    refine told_nil ?_
    intro w4 hS4
    have HB4 : Hid (Below w.heap.size w w4) := HB3.out.trans (Below.mono hS4 HB3.out.size)
    simp only [Act.put, List.setIfInBounds_toArray, List.set_cons_zero, List.set_cons_succ]
    clear hS4
    go_wp2
    go_ret2
    exact ⟨by rw [ofV, if_neg HN.out, decide_eq_false HN.out]; rfl, HB4.out⟩
  · have HSM : Hid (decide (sameR (cutR x) x) = true) := hs
    have HN : Hid (okR x) := by rw [HSB.out] at hs; exact (of_decide_eq_true hs : okR x)
    clear hs
    go_upto_region 4 with fail
    refine wp_region_told (fun W => Below w3.heap.size w3 W) (by kernel_rfl) (by kernel_rfl) ((Below.refl w3.heap.size w3).drew) ?_
    refine told_pure (some 10) (recV x) rfl (by kernel_rfl) (fun _ => by kernel_rfl) ?_
    refine told_call (some 11) (.agg #[.int .i64 (cutR x).f0, .int .i64 (cutR x).f1, .int .i64 (cutR x).f2, .int .i64 (cutR x).f3, .string (cutR x).f4]) 23 #[recV x] rfl (by kernel_rfl) (fun _ => by kernel_rfl) (fun W hS => below_S (tellRec_c x W hz) hS) ?_
    refine told_loads (some 12) ⟨w.heap.size, 0, none⟩ [.int .i64 x.f0, .int .i64 x.f1, .int .i64 x.f2, .int .i64 x.f3, .string x.f4] rfl (by kernel_rfl) (fun _ => by kernel_rfl) (fun _ hS => cells5R (hS.block _ (lt_of_some HX.out)) HX.out) ?_
    refine told_run (some 13) (.bool false) (binOp .neq 57 (.agg #[.int .i64 (cutR x).f0, .int .i64 (cutR x).f1, .int .i64 (cutR x).f2, .int .i64 (cutR x).f3, .string (cutR x).f4]) (.agg #[.int .i64 x.f0, .int .i64 x.f1, .int .i64 x.f2, .int .i64 x.f3, .string x.f4])) rfl (by kernel_rfl) (fun _ => by kernel_rfl) (fun W hS => by rw [neqR, HSM.out]; rfl) ?_
    refine told_nil ?_
    intro w4 hS4
    have HB4 : Hid (Below w.heap.size w w4) := HB3.out.trans (Below.mono hS4 HB3.out.size)
    simp only [Act.put, List.setIfInBounds_toArray, List.set_cons_zero, List.set_cons_succ]
    clear hS4
    go_wp2
    go_ret2
    exact ⟨by rw [ofV, if_pos HN.out, decide_eq_true HN.out]; rfl, HB4.out⟩

set_option maxRecDepth 20000 in
set_option maxHeartbeats 1000000 in
theorem implRecOk_c (x : S_Rec) (w : World) (hz : x.f4.size ≤ 1048576) : Calls Tryd.prog 40 #[.agg #[.int .i64 x.f0, .int .i64 x.f1, .int .i64 x.f2, .int .i64 x.f3, .string x.f4]] w fun e w' => e = .returned (.bool (decide (okR x))) ∧ Below w.heap.size w w' := by
  go_enter Tryd.func40, Tryd.ntmps40
  go_wp2_with fail
  refine (recordOf_c x _ hz).mono ?_
  rintro e w1 ⟨rfl, b1⟩
  have HB1 : Hid (Below w.heap.size w w1) := ((Below.refl _ _).alloc (Nat.le_refl _) _ : Below w.heap.size w _).trans (b1.mono (by simp))
  clear b1
  generalize ofV x = V
  obtain ⟨D, hD⟩ : ∃ D, decide (okR x) = D := ⟨_, rfl⟩
  have HD : Hid (decide (okR x) = D) := hD
  rw [hD]
  clear hD
  go_wp2
  go_ret
  exact ⟨by rw [HD.out]; rfl, HB1.out⟩

end Go.Proofs.YthlokfcejojdhaaDoor
