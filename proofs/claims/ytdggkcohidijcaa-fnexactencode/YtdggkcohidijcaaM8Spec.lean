/- What merges next, and its merging, of the specification. -/
import Derived.Test.YtdggkcohidijcaaM8Math
import Derived.Test.YtdggkcohidijcaaT8Ends
import Derived.Test.YtdggkcohidijcaaRgTold
namespace Go.Proofs.Ytdggkcohidijcaa
open Go.RowKit
set_option linter.unusedVariables false
set_option linter.unusedSimpArgs false

theorem wpList_append_run8 {P : Program} {ops : Array Oper} {rest : List Oper} {op : Oper} {a : Act} {w : World} {Q : Exit → Act → World → Prop} (hgd : op.guard = none) (s y : Operand) (t : TypeId)
    (ho : op.op = .call { callee := .builtin .append, args := #[s, y], argTypes := #[t, t] }) (v u : Value) (hs : a.eval s = v) (hx : a.eval y = u) (v' : Value) (w' : World)
    (hrun : (Builtin.append_ #[t, t] op.type #[v, u]).run P w = .ok v' w') (h : wpList P ops Q rest (a.put op.dst v') w') : wpList P ops Q (op :: rest) a w := by
  refine wpList_plain hgd fun K hK => ?_
  unfold Oper.wp execOp
  simp only [ho, resolve, invoke, builtin, Sem.run_bind, Sem.run_pure, Result.andThen_ok, List.map_toArray, List.map_cons, List.map_nil, hs, hx, hrun]
  exact hK _ _ h

/-- A row of numbers behind a row of the call's own. -/
theorem app_ints {w : World} {base : Nat} {v : Value} {xs T : List Int} {p : Option Addr} {n m c : Nat} (hn : xs.length = n) (hm : T.length = m) (ho : w.ownsRow base 3 1 v n (rI xs)) (hr : RowR w (.slice p m c) m 1 (rI T)) (hb : base ≤ w.heap.size) (hl : n + m ≤ 1000000) :
    ∃ v' c' w', (Builtin.append_ #[29, 29] 29 #[v, .slice p m c]).run Try.prog w = .ok (.slice v' (n + m) c') w' ∧ w'.ownsRow base 3 1 (.slice v' (n + m) c') (n + m) (rI (xs ++ T)) ∧ Below base w w' := by
  obtain ⟨i0, hi, hz0, hz1, hz2⟩ := info_parts infoInt
  have hrI : rI (xs ++ T) = rI xs ++ rI T := by unfold rI; rw [List.map_append]
  have hbl : ∀ k, v.ownBlock = some k → base ≤ k := fun k hk => (ho.lt k hk).1
  rcases Nat.eq_zero_or_pos m with h0 | h0
  · subst h0
    have hT : T = [] := List.eq_nil_of_length_eq_zero hm
    subst hT
    cases p with
    | none =>
      have hrun := run_append_owned_none (P := Try.prog) (w := w) base 29 29 3 i0 1 Try.underlying29 hi v n (rI xs) ho
      obtain ⟨q, d, rfl⟩ := own_sliceV ho
      have hc : c = c := rfl
      refine ⟨q, d, w, ?_, ?_, Below.refl _ _⟩
      · exact hrun
      · rw [List.append_nil]; exact ho
    | some a =>
      obtain ⟨v', w', hrun, hown, hgrow, _⟩ := run_append_own (P := Try.prog) w base 29 29 3 i0 (.int .i64 0) 1 8 Try.underlying29 hi hz0 hz1 hz2 rfl (by decide) v n (rI xs) ho a 0 c [] rfl (fun j u hj => by simp at hj) (fun u hu => by cases hu) (by unfold maxLen; omega) (by omega) hb
      obtain ⟨q, d, rfl⟩ := own_sliceV hown
      refine ⟨q, d, w', hrun, by rw [List.append_nil]; simpa using hown, (Below.refl _ _).grown hgrow hb (fun k hk => hbl k hk)⟩
  · obtain ⟨b, off, c2, hv, hlt, hc⟩ := hr.some h0 (by decide)
    simp only [Value.slice.injEq, true_and] at hv
    obtain ⟨rfl, rfl⟩ := hv
    obtain ⟨v', w', hrun, hown, hgrow, _⟩ := run_append_own (P := Try.prog) w base 29 29 3 i0 (.int .i64 0) 1 8 Try.underlying29 hi hz0 hz1 hz2 rfl (by decide) v n (rI xs) ho ⟨b, off, none⟩ m c (rI T) (by rw [rI_len, hm, Nat.mul_one]) (fun j u hj => by
      have hjl : j < m := by
        have := (List.getElem?_eq_some_iff.1 hj).1
        rw [rI_len] at this
        omega
      rw [Addr.add_mid, hc j (by omega)]
      exact hj) (fun u hu => by
      unfold rI at hu
      obtain ⟨y, _, rfl⟩ := List.mem_map.1 hu
      rfl) (by unfold maxLen; omega) (by omega) hb
    obtain ⟨q, d, rfl⟩ := own_sliceV hown
    exact ⟨q, d, w', hrun, by rw [hrI]; exact hown, (Below.refl _ _).grown hgrow hb (fun k hk => hbl k hk)⟩

theorem IR.front {w : World} {b off c : Nat} {ts : List Int} (h : IR w (.slice (some ⟨b, off, none⟩) ts.length c) ts) {i : Nat} (hi : i ≤ ts.length) : RowR w (.slice (some ⟨b, off, none⟩) i c) i 1 (rI (ts.take i)) := by
  obtain ⟨h1, p, cap, hv, hc⟩ := h
  simp only [Value.slice.injEq, true_and] at hv
  obtain ⟨rfl, rfl⟩ := hv
  refine ⟨by rw [rI_len, List.length_take]; omega, _, c, rfl, fun j hj => ?_⟩
  obtain ⟨b', off', e, hlt, hcell⟩ := hc j (by omega)
  refine ⟨b', off', e, hlt, ?_⟩
  rw [hcell]
  unfold rI
  rw [List.map_take, List.getElem?_take_of_lt (by omega)]

theorem IR.back {w : World} {b off c : Nat} {ts : List Int} (h : IR w (.slice (some ⟨b, off, none⟩) ts.length c) ts) {d : Nat} (hd : d ≤ ts.length) (hc : ts.length ≤ c) : RowR w (.slice (if c = d then some ⟨b, off, none⟩ else some ⟨b, off + d, none⟩) (ts.length - d) (c - d)) (ts.length - d) 1 (rI (ts.drop d)) := by
  refine ⟨by rw [rI_len, List.length_drop]; omega, _, c - d, rfl, fun j hj => ?_⟩
  rw [if_neg (by omega)]
  obtain ⟨b', off', e, hlt, hcell⟩ := h.cells (by omega)
  simp only [Option.some.injEq, Addr.mk.injEq, and_true] at e
  obtain ⟨rfl, rfl⟩ := e
  refine ⟨b, off + d, rfl, hlt, ?_⟩
  have hjd : d + j < ts.length := by omega
  rw [Nat.add_assoc, hcell (d + j) hjd]
  unfold rI
  rw [List.map_drop, List.getElem?_drop, List.getElem?_map, List.getElem?_eq_getElem hjd]
  rfl

set_option maxRecDepth 20000 in
set_option maxHeartbeats 4000000 in
theorem l8Merged_c (ts : List Int) (q : Option Addr) (cq : Nat) (i r : Nat) (w : World) (hle : ts.length ≤ 1000) (hcap : ts.length ≤ cq) (ht : IR w (.slice q ts.length cq) ts) (hi : i + 1 < ts.length) (hr : r ≤ 1048576) :
    Calls Try.prog 79 #[.slice q ts.length cq, .int .i64 i, .int .i64 r] w fun e w' => ∃ v, e = .returned v ∧ IO w' w.heap.size v (mgT ts i r) ∧ Below w.heap.size w w' := by
  obtain ⟨i0, hi0, hz0, hz1, hz2⟩ := info_parts infoInt
  obtain ⟨b, off, rfl, hbw, _⟩ := ht.cells (by omega)
  obtain ⟨W1, hW1⟩ : ∃ W, W = w.alloc (.cells #[] 3) := ⟨_, rfl⟩
  have HW1 : Hid (w.alloc (.cells #[] 3) = W1) := hW1.symm
  have HB1 : Hid (Below w.heap.size w W1) := by rw [hW1]; exact (Below.refl _ _).alloc (Nat.le_refl _) _
  have HO1 : W1.ownsRow w.heap.size 3 1 (.slice (some ⟨w.heap.size, 0, none⟩) 0 0) 0 (rI []) := by rw [hW1]; exact World.ownsRow_made (base := w.heap.size) (e := 3) (size := 1) w #[] 0 (Nat.le_refl _) (by decide) rfl
  have HT1 : Hid (IR W1 (.slice (some ⟨b, off, none⟩) ts.length cq) ts) := ht.keep HB1.out (Nat.le_refl _)
  obtain ⟨v2, c2, W2, hrun2, hown2, hb2⟩ := app_ints (xs := []) (n := 0) rfl (show (ts.take i).length = i by rw [List.length_take]; omega) HO1 (HT1.out.front (i := i) (by omega)) HB1.out.size (by omega)
  rw [Nat.zero_add, List.nil_append] at hown2
  rw [Nat.zero_add] at hrun2
  have HB2 : Hid (Below w.heap.size w W2) := HB1.out.trans hb2
  have HT2 : Hid (IR W2 (.slice (some ⟨b, off, none⟩) ts.length cq) ts) := ht.keep HB2.out (Nat.le_refl _)
  obtain ⟨d, hd⟩ : ∃ d, i + 2 = d := ⟨_, rfl⟩
  have HDD : Hid (i + 2 = d) := hd
  have hic : (i : Int) ≤ cq := by omega
  have hid0 : (0 : Int) ≤ (i : Int) := by omega
  have hdn : (d : Int) ≤ ts.length := by omega
  have hdc : (d : Int) ≤ cq := by omega
  have ew : IntKind.i64.wrap ((i : Int) + 2) = (d : Int) := by rw [IntWalk.i64_in _ (by omega)]; omega
  have ew2 : IntKind.i64.wrap (256 + (r : Int)) = 256 + (r : Int) := IntWalk.i64_in _ (by omega)
  have HIL : Hid (i + 1 < ts.length) := hi
  have HTC : Hid (ts.length ≤ cq) := hcap
  have HTL : Hid (ts.length ≤ 1000) := hle
  have HTKL : Hid ((ts.take i).length = i) := by show _ = _; rw [List.length_take]; omega
  have hsz2 := HB2.out.size
  have hil : i ≤ 1000 := by omega
  have hml : (1048577 : Nat) ≤ maxLen := by unfold maxLen; omega
  have HT9 : Hid (∀ W, Below w.heap.size w W → IR W (.slice (some ⟨b, off, none⟩) ts.length cq) ts) := fun W hb => ht.keep hb (Nat.le_refl _)
  clear hW1 HO1 hb2 ht hle hcap hd
  go_enter Try.func79, Try.ntmps79
  rw [← HW1.out] at hrun2
  go_wp2_with (first | (at_builtin; refine wpList_append_run8 rfl _ _ 29 rfl _ _ rfl rfl _ _ hrun2 ?_) | (at_builtin; refine wpList_append_own _ rfl _ _ 29 rfl w.heap.size 3 i0 (.int .i64 0) 1 8 Try.underlying29 hi0 hz0 hz1 hz2 rfl (by decide) _ _ _ rfl (hown2.alloc _) ⟨W2.heap.size, 0, none⟩ 1 1 [.int .i64 (256 + (r : Int))] rfl rfl (cell_one_new _ _ _) (by intro u hu; simp at hu; subst hu; rfl) (by omega) (by omega) (by simp; omega) ?_))
  intro v3 W3 hown3 hgrow _
  have HB3 : Hid (Below w.heap.size w W3) := below_append HB2.out (Nat.le_refl _) hown2 hgrow
  have HO3 : W3.ownsRow w.heap.size 3 1 v3 (i + 1) (rI (ts.take i ++ [256 + (r : Int)])) := by
    have := hown3
    unfold rI at this ⊢
    rw [List.map_append]
    exact this
  have HT3 : Hid (IR W3 (.slice (some ⟨b, off, none⟩) ts.length cq) ts) := HT9.out _ HB3.out
  clear hown3 hgrow hown2 hrun2
  obtain ⟨v4, c4, W4, hrun4, hown4, hb4⟩ := app_ints (n := i + 1) (by rw [List.length_append, HTKL.out]; rfl) (show (ts.drop d).length = ts.length - d by rw [List.length_drop]) HO3 (HT3.out.back (d := d) (by have := HDD.out; have := HIL.out; omega) HTC.out) HB3.out.size (by have := HTL.out; omega)
  have HF : Hid (IO W4 w.heap.size (.slice v4 (i + 1 + (ts.length - d)) c4) (mgT ts i r)) := by
    have e : mgT ts i r = ts.take i ++ [256 + (r : Int)] ++ ts.drop d := by unfold mgT; rw [HDD.out, List.append_assoc]; rfl
    have el : (mgT ts i r).length = i + 1 + (ts.length - d) := by have := mgT_len (r := r) HIL.out; have := HDD.out; have := HIL.out; omega
    unfold IO
    rw [el, e]
    exact hown4
  have HB4 : Hid (Below w.heap.size w W4) := HB3.out.trans hb4
  clear hown4 hb4 HO3
  go_wp2_with (at_builtin; refine wpList_append_run8 rfl _ _ 29 rfl _ _ rfl rfl _ _ hrun4 ?_)
  all_goals (go_ret; exact ⟨_, rfl, HF.out, HB4.out⟩)

end Go.Proofs.Ytdggkcohidijcaa
