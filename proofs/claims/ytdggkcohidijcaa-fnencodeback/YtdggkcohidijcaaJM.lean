/- What merges next, and its merging, of the specification. -/
import Derived.Test.YtdggkcohidijcaaM8Math
import Derived.Test.YtdggkcohidijcaaJT
import Derived.Test.YtdggkcohidijcaaRgTold
import Derived.Test.YtdggkcohidijcaaHaInts
import Derived.Test.YtdggkcohidijcaaM8Bpe
import Derived.Test.YtdggkcohidijcaaVcOk
namespace Go.Proofs.Ytdggkcohidijcaa
open Go.RowKit
set_option linter.unusedVariables false
set_option linter.unusedSimpArgs false

theorem wpList_append_run8 {P : Program} {ops : Array Oper} {rest : List Oper} {op : Oper} {a : Act} {w : World} {Q : Exit → Act → World → Prop} (hgd : op.guard = none) (s y : Operand) (t : TypeId)
    (ho : op.op = .call { callee := .builtin .append, args := #[s, y], argTypes := #[t, t] }) (v u : Value) (hs : a.eval s = v) (hx : a.eval y = u) (v' : Value) (w' : World)
    (hrun : (Builtin.append_ #[t, t] op.type #[v, u]).run P w = .ok v' w') (h : wpList P ops Q rest (a.put op.dst v') w') : wpList P ops Q (op :: rest) a w := by
  refine wpList_plain hgd fun K hK => ?_
  unfold Oper.wp execOp
  simp only [ho, resolve, invoke, builtin, Sem.run_bind, Sem.run_pure, Result.andThen_ok, List.map_toArray, List.map_cons, List.map_nil, hs, hx, hrun]
  exact hK _ _ h

/-- A row of numbers behind a row of the call's own. -/
theorem app_ints {w : World} {base : Nat} {v : Value} {xs T : List Int} {p : Option Addr} {n m c : Nat} (hn : xs.length = n) (hm : T.length = m) (ho : w.ownsRow base 3 1 v n (rI xs)) (hr : RowR w (.slice p m c) m 1 (rI T)) (hb : base ≤ w.heap.size) (hl : n + m ≤ 1000000) :
    ∃ v' c' w', (Builtin.append_ #[29, 29] 29 #[v, .slice p m c]).run Try.prog w = .ok (.slice v' (n + m) c') w' ∧ w'.ownsRow base 3 1 (.slice v' (n + m) c') (n + m) (rI (xs ++ T)) ∧ Below base w w' := by
  obtain ⟨i0, hi, hz0, hz1, hz2⟩ := info_parts infoInt
  have hrI : rI (xs ++ T) = rI xs ++ rI T := by unfold rI; rw [List.map_append]
  have hbl : ∀ k, v.ownBlock = some k → base ≤ k := fun k hk => (ho.lt k hk).1
  rcases Nat.eq_zero_or_pos m with h0 | h0
  · subst h0
    have hT : T = [] := List.eq_nil_of_length_eq_zero hm
    subst hT
    cases p with
    | none =>
      have hrun := run_append_owned_none (P := Try.prog) (w := w) base 29 29 3 i0 1 Try.underlying29 hi v n (rI xs) ho
      obtain ⟨q, d, rfl⟩ := own_sliceV ho
      have hc : c = c := rfl
      refine ⟨q, d, w, ?_, ?_, Below.refl _ _⟩
      · exact hrun
      · rw [List.append_nil]; exact ho
    | some a =>
      obtain ⟨v', w', hrun, hown, hgrow, _⟩ := run_append_own (P := Try.prog) w base 29 29 3 i0 (.int .i64 0) 1 8 Try.underlying29 hi hz0 hz1 hz2 rfl (by decide) v n (rI xs) ho a 0 c [] rfl (fun j u hj => by simp at hj) (fun u hu => by cases hu) (by unfold maxLen; omega) (by omega) hb
      obtain ⟨q, d, rfl⟩ := own_sliceV hown
      refine ⟨q, d, w', hrun, by rw [List.append_nil]; simpa using hown, (Below.refl _ _).grown hgrow hb (fun k hk => hbl k hk)⟩
  · obtain ⟨b, off, c2, hv, hlt, hc⟩ := hr.some h0 (by decide)
    simp only [Value.slice.injEq, true_and] at hv
    obtain ⟨rfl, rfl⟩ := hv
    obtain ⟨v', w', hrun, hown, hgrow, _⟩ := run_append_own (P := Try.prog) w base 29 29 3 i0 (.int .i64 0) 1 8 Try.underlying29 hi hz0 hz1 hz2 rfl (by decide) v n (rI xs) ho ⟨b, off, none⟩ m c (rI T) (by rw [rI_len, hm, Nat.mul_one]) (fun j u hj => by
      have hjl : j < m := by
        have := (List.getElem?_eq_some_iff.1 hj).1
        rw [rI_len] at this
        omega
      rw [Addr.add_mid, hc j (by omega)]
      exact hj) (fun u hu => by
      unfold rI at hu
      obtain ⟨y, _, rfl⟩ := List.mem_map.1 hu
      rfl) (by unfold maxLen; omega) (by omega) hb
    obtain ⟨q, d, rfl⟩ := own_sliceV hown
    exact ⟨q, d, w', hrun, by rw [hrI]; exact hown, (Below.refl _ _).grown hgrow hb (fun k hk => hbl k hk)⟩

theorem IR.front {w : World} {b off c : Nat} {ts : List Int} (h : IR w (.slice (some ⟨b, off, none⟩) ts.length c) ts) {i : Nat} (hi : i ≤ ts.length) : RowR w (.slice (some ⟨b, off, none⟩) i c) i 1 (rI (ts.take i)) := by
  obtain ⟨h1, p, cap, hv, hc⟩ := h
  simp only [Value.slice.injEq, true_and] at hv
  obtain ⟨rfl, rfl⟩ := hv
  refine ⟨by rw [rI_len, List.length_take]; omega, _, c, rfl, fun j hj => ?_⟩
  obtain ⟨b', off', e, hlt, hcell⟩ := hc j (by omega)
  refine ⟨b', off', e, hlt, ?_⟩
  rw [hcell]
  unfold rI
  rw [List.map_take, List.getElem?_take_of_lt (by omega)]

theorem IR.back {w : World} {b off c : Nat} {ts : List Int} (h : IR w (.slice (some ⟨b, off, none⟩) ts.length c) ts) {d : Nat} (hd : d ≤ ts.length) (hc : ts.length ≤ c) : RowR w (.slice (if c = d then some ⟨b, off, none⟩ else some ⟨b, off + d, none⟩) (ts.length - d) (c - d)) (ts.length - d) 1 (rI (ts.drop d)) := by
  refine ⟨by rw [rI_len, List.length_drop]; omega, _, c - d, rfl, fun j hj => ?_⟩
  rw [if_neg (by omega)]
  obtain ⟨b', off', e, hlt, hcell⟩ := h.cells (by omega)
  simp only [Option.some.injEq, Addr.mk.injEq, and_true] at e
  obtain ⟨rfl, rfl⟩ := e
  refine ⟨b, off + d, rfl, hlt, ?_⟩
  have hjd : d + j < ts.length := by omega
  rw [Nat.add_assoc, hcell (d + j) hjd]
  unfold rI
  rw [List.map_drop, List.getElem?_drop, List.getElem?_map, List.getElem?_eq_getElem hjd]
  rfl

set_option maxRecDepth 20000 in
set_option maxHeartbeats 4000000 in
theorem l8Merged_c (ts : List Int) (q : Option Addr) (cq : Nat) (i r : Nat) (w : World) (hle : ts.length ≤ 1000) (hcap : ts.length ≤ cq) (ht : IR w (.slice q ts.length cq) ts) (hi : i + 1 < ts.length) (hr : r ≤ 1048576) :
    Calls Try.prog 79 #[.slice q ts.length cq, .int .i64 i, .int .i64 r] w fun e w' => ∃ v, e = .returned v ∧ IO w' w.heap.size v (mgT ts i r) ∧ Below w.heap.size w w' := by
  obtain ⟨i0, hi0, hz0, hz1, hz2⟩ := info_parts infoInt
  obtain ⟨b, off, rfl, hbw, _⟩ := ht.cells (by omega)
  obtain ⟨W1, hW1⟩ : ∃ W, W = w.alloc (.cells #[] 3) := ⟨_, rfl⟩
  have HW1 : Hid (w.alloc (.cells #[] 3) = W1) := hW1.symm
  have HB1 : Hid (Below w.heap.size w W1) := by rw [hW1]; exact (Below.refl _ _).alloc (Nat.le_refl _) _
  have HO1 : W1.ownsRow w.heap.size 3 1 (.slice (some ⟨w.heap.size, 0, none⟩) 0 0) 0 (rI []) := by rw [hW1]; exact World.ownsRow_made (base := w.heap.size) (e := 3) (size := 1) w #[] 0 (Nat.le_refl _) (by decide) rfl
  have HT1 : Hid (IR W1 (.slice (some ⟨b, off, none⟩) ts.length cq) ts) := ht.keep HB1.out (Nat.le_refl _)
  obtain ⟨v2, c2, W2, hrun2, hown2, hb2⟩ := app_ints (xs := []) (n := 0) rfl (show (ts.take i).length = i by rw [List.length_take]; omega) HO1 (HT1.out.front (i := i) (by omega)) HB1.out.size (by omega)
  rw [Nat.zero_add, List.nil_append] at hown2
  rw [Nat.zero_add] at hrun2
  have HB2 : Hid (Below w.heap.size w W2) := HB1.out.trans hb2
  have HT2 : Hid (IR W2 (.slice (some ⟨b, off, none⟩) ts.length cq) ts) := ht.keep HB2.out (Nat.le_refl _)
  obtain ⟨d, hd⟩ : ∃ d, i + 2 = d := ⟨_, rfl⟩
  have HDD : Hid (i + 2 = d) := hd
  have hic : (i : Int) ≤ cq := by omega
  have hid0 : (0 : Int) ≤ (i : Int) := by omega
  have hdn : (d : Int) ≤ ts.length := by omega
  have hdc : (d : Int) ≤ cq := by omega
  have ew : IntKind.i64.wrap ((i : Int) + 2) = (d : Int) := by rw [IntWalk.i64_in _ (by omega)]; omega
  have ew2 : IntKind.i64.wrap (256 + (r : Int)) = 256 + (r : Int) := IntWalk.i64_in _ (by omega)
  have HIL : Hid (i + 1 < ts.length) := hi
  have HTC : Hid (ts.length ≤ cq) := hcap
  have HTL : Hid (ts.length ≤ 1000) := hle
  have HTKL : Hid ((ts.take i).length = i) := by show _ = _; rw [List.length_take]; omega
  have hsz2 := HB2.out.size
  have hil : i ≤ 1000 := by omega
  have hml : (1048577 : Nat) ≤ maxLen := by unfold maxLen; omega
  have HT9 : Hid (∀ W, Below w.heap.size w W → IR W (.slice (some ⟨b, off, none⟩) ts.length cq) ts) := fun W hb => ht.keep hb (Nat.le_refl _)
  clear hW1 HO1 hb2 ht hle hcap hd
  go_enter Try.func79, Try.ntmps79
  rw [← HW1.out] at hrun2
  go_wp2_with (first | (at_builtin; refine wpList_append_run8 rfl _ _ 29 rfl _ _ rfl rfl _ _ hrun2 ?_) | (at_builtin; refine wpList_append_own _ rfl _ _ 29 rfl w.heap.size 3 i0 (.int .i64 0) 1 8 Try.underlying29 hi0 hz0 hz1 hz2 rfl (by decide) _ _ _ rfl (hown2.alloc _) ⟨W2.heap.size, 0, none⟩ 1 1 [.int .i64 (256 + (r : Int))] rfl rfl (cell_one_new _ _ _) (by intro u hu; simp at hu; subst hu; rfl) (by omega) (by omega) (by simp; omega) ?_))
  intro v3 W3 hown3 hgrow _
  have HB3 : Hid (Below w.heap.size w W3) := below_append HB2.out (Nat.le_refl _) hown2 hgrow
  have HO3 : W3.ownsRow w.heap.size 3 1 v3 (i + 1) (rI (ts.take i ++ [256 + (r : Int)])) := by
    have := hown3
    unfold rI at this ⊢
    rw [List.map_append]
    exact this
  have HT3 : Hid (IR W3 (.slice (some ⟨b, off, none⟩) ts.length cq) ts) := HT9.out _ HB3.out
  clear hown3 hgrow hown2 hrun2
  obtain ⟨v4, c4, W4, hrun4, hown4, hb4⟩ := app_ints (n := i + 1) (by rw [List.length_append, HTKL.out]; rfl) (show (ts.drop d).length = ts.length - d by rw [List.length_drop]) HO3 (HT3.out.back (d := d) (by have := HDD.out; have := HIL.out; omega) HTC.out) HB3.out.size (by have := HTL.out; omega)
  have HF : Hid (IO W4 w.heap.size (.slice v4 (i + 1 + (ts.length - d)) c4) (mgT ts i r)) := by
    have e : mgT ts i r = ts.take i ++ [256 + (r : Int)] ++ ts.drop d := by unfold mgT; rw [HDD.out, List.append_assoc]; rfl
    have el : (mgT ts i r).length = i + 1 + (ts.length - d) := by have := mgT_len (r := r) HIL.out; have := HDD.out; have := HIL.out; omega
    unfold IO
    rw [el, e]
    exact hown4
  have HB4 : Hid (Below w.heap.size w W4) := HB3.out.trans hb4
  clear hown4 hb4 HO3
  go_wp2_with (at_builtin; refine wpList_append_run8 rfl _ _ 29 rfl _ _ rfl rfl _ _ hrun4 ?_)
  all_goals (go_ret; exact ⟨_, rfl, HF.out, HB4.out⟩)

end Go.Proofs.Ytdggkcohidijcaa

/- What merges next, of the specification. -/
namespace Go.Proofs.Ytdggkcohidijcaa
open Go.RowKit
set_option linter.unusedVariables false
set_option linter.unusedSimpArgs false

set_option maxRecDepth 20000 in
set_option maxHeartbeats 4000000 in
theorem l8Place_c (L : List S_Pair) (p : Option Addr) (cap : Nat) (ts : List Int) (q : Option Addr) (cq : Nat) (w : World) (hn : L.length ≤ 1048576) (hm : ts.length ≤ 1048576) (hr : RowR w (.slice p L.length cap) L.length 2 (rPair L)) (ht : IR w (.slice q ts.length cq) ts) :
    Calls Try.prog 78 #[.agg #[.slice p L.length cap], .slice q ts.length cq] w fun e w' => e = .returned (.tuple #[.int .i64 (pl1 (placeF L ts)), .int .i64 (pl2 (placeF L ts))]) ∧ Below w.heap.size w w' := by
  have hn' : (L.length : Int) ≤ 1048576 := by omega
  have hm' : (ts.length : Int) ≤ 1048576 := by omega
  have HN : Hid (L.length ≤ 1048576) := hn
  have HM : Hid (ts.length ≤ 1048576) := hm
  have HR : Hid (RowR w (.slice p L.length cap) L.length 2 (rPair L)) := hr
  have HT : Hid (IR w (.slice q ts.length cq) ts) := ht
  obtain ⟨W0, hW0⟩ : ∃ W, W = w.alloc (.cells #[.slice p L.length cap] 26) := ⟨_, rfl⟩
  have HW0 : Hid (w.alloc (.cells #[.slice p L.length cap] 26) = W0) := hW0.symm
  have HZ0 : Hid (W0.heap.size = w.heap.size + 1) := by show _ = _; rw [hW0]; simp
  have HB0 : Hid (Below w.heap.size w W0) := by rw [hW0]; exact (Below.refl _ _).alloc (Nat.le_refl _) _
  have HX : Hid (∀ W', Below W0.heap.size W0 W' → W'.cell? ⟨w.heap.size, 0, none⟩ = some (.slice p L.length cap)) := fun W' hW => by
    have hk : W'.heap[w.heap.size]? = some (.cells #[.slice p L.length cap] 26) := by rw [hW.block _ (by rw [HZ0.out]; exact Nat.lt_succ_self _), hW0]; exact alloc_last _ _
    exact box1 hk
  have d := HX.out W0 (Below.refl _ _)
  have HR0 : Hid (RowR W0 (.slice p L.length cap) L.length 2 (rPair L)) := RowR.keep HR.out HB0.out (Nat.le_refl _)
  have HT0 : Hid (IR W0 (.slice q ts.length cq) ts) := IR.keep HT.out HB0.out (Nat.le_refl _)
  have HDN : Hid (∀ W', Below W0.heap.size W0 W' → Below w.heap.size w W') := fun W' hbel => HB0.out.trans (hbel.mono (by rw [HZ0.out]; exact Nat.le_succ _))
  clear hr ht hW0 hn hm
  go_enter Try.func78, Try.ntmps78
  go_wp2_with fail
  rw [HW0.out]
  go_loopw [6] (fun rv wr => ∃ r : Nat, r ≤ L.length ∧ rv = .int .i64 (r : Int) ∧ Hid (Below W0.heap.size W0 wr) ∧ Hid (∀ r', r' < r → ∀ i', matB L ts r' i' = false)) (fun rv _ => L.length - (intOf rv).toNat)
  case atStart => exact ⟨0, Nat.zero_le _, rfl, Below.refl _ _, fun r' h => absurd h (by omega)⟩
  case round =>
    obtain ⟨r, hr, rfl, HBo, HNo⟩ := hrel
    have d := HX.out wr HBo.out
    by_cases hlt : r < L.length
    rotate_left
    · have hke : r = L.length := by omega
      have HF : Hid (placeF L ts = none) := place_none (fun r' i' => by
        rcases Nat.lt_or_ge r' r with h | h
        · exact HNo.out r' h i'
        · rcases hq : matB L ts r' i' with _ | _
          · rfl
          · have := (matB_lt hq).1; omega)
      have hlt' : ¬ (r : Int) < L.length := by omega
      clear hke
      go_wp2
      go_ret2
      exact ⟨by rw [HF.out]; rfl, HDN.out _ HBo.out⟩
    have hlt' : (r : Int) < L.length := by omega
    have HRL : Hid (r < L.length) := hlt
    go_wp2_with fail
    clear d
    go_loopw [7] (fun iv wr => ∃ i : Nat, i ≤ ts.length ∧ iv = .int .i64 (i : Int) ∧ i < 1048577 ∧ Hid (Below W0.heap.size W0 wr) ∧ Hid (∀ i', i' < i → matB L ts r i' = false)) (fun iv _ => ts.length - (intOf iv).toNat)
    case atStart => exact ⟨0, Nat.zero_le _, rfl, by omega, HBo, fun i' h => absurd h (by omega)⟩
    case round =>
      obtain ⟨i, hi, rfl, him, HBr, HNi⟩ := hrel
      have d := HX.out wr HBr.out
      obtain ⟨k, hk⟩ : ∃ k, i + 1 = k := ⟨_, rfl⟩
      have HKK : Hid (i + 1 = k) := hk
      have ek : IntKind.i64.wrap ((i : Int) + 1) = (k : Int) := by rw [IntWalk.i64_in _ (by omega)]; omega
      by_cases hkt : k < ts.length
      rotate_left
      · have HN2 : Hid (∀ r', r' < r + 1 → ∀ i', matB L ts r' i' = false) := fun r' h i' => by
          rcases Nat.lt_or_ge r' r with h1 | h1
          · exact HNo.out r' h1 i'
          · have h2 : r' = r := by omega
            subst h2
            rcases hq : matB L ts r' i' with _ | _
            · rfl
            · have h3 := (matB_lt hq).2
              rw [HNi.out i' (by omega)] at hq
              cases hq
        have hkt' : ¬ (k : Int) < ts.length := by omega
        clear hk
        go_wp2
        go_roundw
        case rel => exact ⟨r + 1, by omega, by go_num, HBr, HN2⟩
        case measure => simp [intOf]; omega
      have hkt' : (k : Int) < ts.length := by omega
      have hit' : (i : Int) < ts.length := by omega
      have HIT : Hid (i < ts.length ∧ k < ts.length) := ⟨by omega, hkt⟩
      have HKK2 : Hid (k ≤ ts.length) := Nat.le_of_lt hkt
      obtain ⟨tb, tf, rfl, htb, htc⟩ := HT0.out.cells (by omega)
      obtain ⟨pb, po, cap', hv, hpb, hpc⟩ := HR0.out.some (by omega) (by decide)
      simp only [Value.slice.injEq, true_and] at hv
      obtain ⟨rfl, rfl⟩ := hv
      have hti : i < ts.length := by omega
      have ca : wr.cell? ⟨tb, tf + i, none⟩ = some (.int .i64 ts[i]) := by rw [HBr.out.cell (by exact htb)]; exact htc i hti
      have cb : wr.cell? ⟨tb, tf + k, none⟩ = some (.int .i64 ts[k]) := by rw [HBr.out.cell (by exact htb)]; exact htc k hkt
      have c : ∀ q, q < 2 → wr.cell? ⟨pb, po + (r * 2 + q), none⟩ = (cPair L[r])[q]? := fun q hq => by
        rw [HBr.out.cell (by exact hpb), hpc (r * 2 + q) (by omega)]
        exact flat_at cPair 2 cPair_len L r q hlt hq
      have p0 : wr.cell? ⟨pb, po + r * 2, none⟩ = some (.int .i64 (L[r]).f0) := by have := c 0 (by decide); rw [← Nat.add_assoc] at this; exact this
      have p1 : wr.cell? ⟨pb, po + r * 2 + 1, none⟩ = some (.int .i64 (L[r]).f1) := by have := c 1 (by decide); rw [← Nat.add_assoc] at this; exact this
      have HMB : Hid (matB L ts r i = (ts[i] == L[r].f0 && ts[k] == L[r].f1)) := by
        have e1 : ts[i + 1]? = some ts[k] := by rw [HKK.out]; exact List.getElem?_eq_getElem hkt
        show _ = _
        unfold matB
        rw [List.getElem?_eq_getElem hlt, List.getElem?_eq_getElem hti, e1]
        rfl
      clear c htc hpc hk
      generalize ts[i] = A at ca HMB
      generalize ts[k] = B at cb HMB
      generalize L[r] = P at p0 p1 HMB
      by_cases g1' : A = P.f0
      rotate_left
      · have g1 : (A == P.f0) = false := by simp [g1']
        have g2 : (B == P.f1) = (B == P.f1) := rfl
        have HN2 : Hid (∀ i', i' < k → matB L ts r i' = false) := fun i' h => by
          rcases Nat.lt_or_ge i' i with h1 | h1
          · exact HNi.out i' h1
          · have h2 : i' = i := by have := HKK.out; omega
            rw [h2, HMB.out, g1]; rfl
        clear g1'
        go_upto_region 7 with fail
        refine wp_region_told (fun W => Below wr.heap.size wr W) (by kernel_rfl) (by kernel_rfl) ((Below.refl wr.heap.size wr).drew) ?_
        refine told_pure (some 22) (.slice (some ⟨tb, tf, none⟩) ts.length cq) rfl (by kernel_rfl) (fun _ => by kernel_rfl) ?_
        refine told_pure (some 23) (.int .i64 (i : Int)) rfl (by kernel_rfl) (fun _ => by kernel_rfl) ?_
        refine told_pure (some 24) (.pointer (some ⟨tb, tf + i, none⟩)) rfl (by kernel_rfl) (fun w => by go_simp) ?_
        refine told_load (some 25) ⟨tb, tf + i, none⟩ (.int .i64 A) rfl (by kernel_rfl) (fun _ => by kernel_rfl) (fun _ hS => atB hS ca) ?_
        refine told_pure (some 26) (.pointer (some ⟨w.heap.size, 0, none⟩)) rfl (by kernel_rfl) (fun _ => by kernel_rfl) ?_
        refine told_load (some 27) ⟨w.heap.size, 0, none⟩ (.slice (some ⟨pb, po, none⟩) L.length cap) rfl (by kernel_rfl) (fun _ => by kernel_rfl) (fun _ hS => atB hS d) ?_
        refine told_pure (some 28) (.int .i64 (r : Int)) rfl (by kernel_rfl) (fun _ => by kernel_rfl) ?_
        refine told_pure (some 29) (.pointer (some ⟨pb, po + r * 2, none⟩)) rfl (by kernel_rfl) (fun w => by go_simp) ?_
        refine told_pure (some 30) (.pointer (some ⟨pb, po + r * 2, none⟩)) rfl (by kernel_rfl) (fun _ => by kernel_rfl) ?_
        refine told_load (some 31) ⟨pb, po + r * 2, none⟩ (.int .i64 P.f0) rfl (by kernel_rfl) (fun _ => by kernel_rfl) (fun _ hS => atB hS p0) ?_
        refine told_is (some 32) (.bool (A == P.f0)) (.bool false) (by rw [g1]) rfl (by kernel_rfl) (fun _ => by kernel_rfl) ?_
        refine told_pure (some 33) (.bool false) rfl (by kernel_rfl) (fun _ => by kernel_rfl) ?_
        refine told_skip (some 34) rfl (by kernel_rfl) ?_
        refine told_skip (some 35) rfl (by kernel_rfl) ?_
        refine told_skip (some 36) rfl (by kernel_rfl) ?_
        refine told_skip (some 37) rfl (by kernel_rfl) ?_
        refine told_skip (some 38) rfl (by kernel_rfl) ?_
        refine told_skip (some 39) rfl (by kernel_rfl) ?_
        refine told_skip (some 40) rfl (by kernel_rfl) ?_
        refine told_skip (some 41) rfl (by kernel_rfl) ?_
        refine told_skip (some 42) rfl (by kernel_rfl) ?_
        refine told_skip (some 43) rfl (by kernel_rfl) ?_
        refine told_skip (some 44) rfl (by kernel_rfl) ?_
        refine told_skip (some 45) rfl (by kernel_rfl) ?_
        refine told_pure (some 46) (.bool false) rfl (by kernel_rfl) (fun _ => by kernel_rfl) ?_
        refine told_nil ?_
        intro W2 hS2
        simp only [Act.put, List.setIfInBounds_toArray, List.set_cons_zero, List.set_cons_succ]
        have HBW2 : Hid (Below W0.heap.size W0 W2) := HBr.out.trans (hS2.mono HBr.out.size)
        clear hS2 ca cb p0 p1
        go_wp2
        go_roundw
        case rel => exact ⟨k, HKK2.out, by go_num, by have := HKK.out; omega, HBW2, HN2⟩
        case measure => have := HKK.out; simp [intOf]; omega
      have g1 : (A == P.f0) = true := by simp [g1']
      clear g1'
      by_cases g2' : B = P.f1
      · have g2 : (B == P.f1) = true := by simp [g2']
        have HF : Hid (placeF L ts = some (i, r)) := place_some ⟨by rw [HMB.out, g1, g2]; rfl, HNo.out, HNi.out⟩
        clear g2'
        go_upto_region 7 with fail
        refine wp_region_told (fun W => Below wr.heap.size wr W) (by kernel_rfl) (by kernel_rfl) ((Below.refl wr.heap.size wr).drew) ?_
        refine told_pure (some 22) (.slice (some ⟨tb, tf, none⟩) ts.length cq) rfl (by kernel_rfl) (fun _ => by kernel_rfl) ?_
        refine told_pure (some 23) (.int .i64 (i : Int)) rfl (by kernel_rfl) (fun _ => by kernel_rfl) ?_
        refine told_pure (some 24) (.pointer (some ⟨tb, tf + i, none⟩)) rfl (by kernel_rfl) (fun w => by go_simp) ?_
        refine told_load (some 25) ⟨tb, tf + i, none⟩ (.int .i64 A) rfl (by kernel_rfl) (fun _ => by kernel_rfl) (fun _ hS => atB hS ca) ?_
        refine told_pure (some 26) (.pointer (some ⟨w.heap.size, 0, none⟩)) rfl (by kernel_rfl) (fun _ => by kernel_rfl) ?_
        refine told_load (some 27) ⟨w.heap.size, 0, none⟩ (.slice (some ⟨pb, po, none⟩) L.length cap) rfl (by kernel_rfl) (fun _ => by kernel_rfl) (fun _ hS => atB hS d) ?_
        refine told_pure (some 28) (.int .i64 (r : Int)) rfl (by kernel_rfl) (fun _ => by kernel_rfl) ?_
        refine told_pure (some 29) (.pointer (some ⟨pb, po + r * 2, none⟩)) rfl (by kernel_rfl) (fun w => by go_simp) ?_
        refine told_pure (some 30) (.pointer (some ⟨pb, po + r * 2, none⟩)) rfl (by kernel_rfl) (fun _ => by kernel_rfl) ?_
        refine told_load (some 31) ⟨pb, po + r * 2, none⟩ (.int .i64 P.f0) rfl (by kernel_rfl) (fun _ => by kernel_rfl) (fun _ hS => atB hS p0) ?_
        refine told_is (some 32) (.bool (A == P.f0)) (.bool true) (by rw [g1]) rfl (by kernel_rfl) (fun _ => by kernel_rfl) ?_
        refine told_pure (some 33) (.bool true) rfl (by kernel_rfl) (fun _ => by kernel_rfl) ?_
        refine told_pure (some 34) (.slice (some ⟨tb, tf, none⟩) ts.length cq) rfl (by kernel_rfl) (fun _ => by kernel_rfl) ?_
        refine told_pure (some 35) (.int .i64 (i : Int)) rfl (by kernel_rfl) (fun _ => by kernel_rfl) ?_
        refine told_is (some 36) (.int .i64 (IntKind.i64.wrap ((i : Int) + 1))) (.int .i64 (k : Int)) (by rw [ek]) rfl (by kernel_rfl) (fun _ => by kernel_rfl) ?_
        refine told_pure (some 37) (.pointer (some ⟨tb, tf + k, none⟩)) rfl (by kernel_rfl) (fun w => by go_simp) ?_
        refine told_load (some 38) ⟨tb, tf + k, none⟩ (.int .i64 B) rfl (by kernel_rfl) (fun _ => by kernel_rfl) (fun _ hS => atB hS cb) ?_
        refine told_pure (some 39) (.pointer (some ⟨w.heap.size, 0, none⟩)) rfl (by kernel_rfl) (fun _ => by kernel_rfl) ?_
        refine told_load (some 40) ⟨w.heap.size, 0, none⟩ (.slice (some ⟨pb, po, none⟩) L.length cap) rfl (by kernel_rfl) (fun _ => by kernel_rfl) (fun _ hS => atB hS d) ?_
        refine told_pure (some 41) (.int .i64 (r : Int)) rfl (by kernel_rfl) (fun _ => by kernel_rfl) ?_
        refine told_pure (some 42) (.pointer (some ⟨pb, po + r * 2, none⟩)) rfl (by kernel_rfl) (fun w => by go_simp) ?_
        refine told_pure (some 43) (.pointer (some ⟨pb, po + r * 2 + 1, none⟩)) rfl (by kernel_rfl) (fun _ => by kernel_rfl) ?_
        refine told_load (some 44) ⟨pb, po + r * 2 + 1, none⟩ (.int .i64 P.f1) rfl (by kernel_rfl) (fun _ => by kernel_rfl) (fun _ hS => atB hS p1) ?_
        refine told_is (some 45) (.bool (B == P.f1)) (.bool true) (by rw [g2]) rfl (by kernel_rfl) (fun _ => by kernel_rfl) ?_
        refine told_pure (some 46) (.bool true) rfl (by kernel_rfl) (fun _ => by kernel_rfl) ?_
        refine told_nil ?_
        intro W2 hS2
        simp only [Act.put, List.setIfInBounds_toArray, List.set_cons_zero, List.set_cons_succ]
        have HBW2 : Hid (Below W0.heap.size W0 W2) := HBr.out.trans (hS2.mono HBr.out.size)
        clear hS2 ca cb p0 p1
        go_wp2
        go_ret2
        exact ⟨by rw [HF.out]; rfl, HDN.out _ HBW2.out⟩
      · have g2 : (B == P.f1) = false := by simp [g2']
        have HN2 : Hid (∀ i', i' < k → matB L ts r i' = false) := fun i' h => by
          rcases Nat.lt_or_ge i' i with h1 | h1
          · exact HNi.out i' h1
          · have h2 : i' = i := by have := HKK.out; omega
            rw [h2, HMB.out, g2, Bool.and_false]
        clear g2'
        go_upto_region 7 with fail
        refine wp_region_told (fun W => Below wr.heap.size wr W) (by kernel_rfl) (by kernel_rfl) ((Below.refl wr.heap.size wr).drew) ?_
        refine told_pure (some 22) (.slice (some ⟨tb, tf, none⟩) ts.length cq) rfl (by kernel_rfl) (fun _ => by kernel_rfl) ?_
        refine told_pure (some 23) (.int .i64 (i : Int)) rfl (by kernel_rfl) (fun _ => by kernel_rfl) ?_
        refine told_pure (some 24) (.pointer (some ⟨tb, tf + i, none⟩)) rfl (by kernel_rfl) (fun w => by go_simp) ?_
        refine told_load (some 25) ⟨tb, tf + i, none⟩ (.int .i64 A) rfl (by kernel_rfl) (fun _ => by kernel_rfl) (fun _ hS => atB hS ca) ?_
        refine told_pure (some 26) (.pointer (some ⟨w.heap.size, 0, none⟩)) rfl (by kernel_rfl) (fun _ => by kernel_rfl) ?_
        refine told_load (some 27) ⟨w.heap.size, 0, none⟩ (.slice (some ⟨pb, po, none⟩) L.length cap) rfl (by kernel_rfl) (fun _ => by kernel_rfl) (fun _ hS => atB hS d) ?_
        refine told_pure (some 28) (.int .i64 (r : Int)) rfl (by kernel_rfl) (fun _ => by kernel_rfl) ?_
        refine told_pure (some 29) (.pointer (some ⟨pb, po + r * 2, none⟩)) rfl (by kernel_rfl) (fun w => by go_simp) ?_
        refine told_pure (some 30) (.pointer (some ⟨pb, po + r * 2, none⟩)) rfl (by kernel_rfl) (fun _ => by kernel_rfl) ?_
        refine told_load (some 31) ⟨pb, po + r * 2, none⟩ (.int .i64 P.f0) rfl (by kernel_rfl) (fun _ => by kernel_rfl) (fun _ hS => atB hS p0) ?_
        refine told_is (some 32) (.bool (A == P.f0)) (.bool true) (by rw [g1]) rfl (by kernel_rfl) (fun _ => by kernel_rfl) ?_
        refine told_pure (some 33) (.bool true) rfl (by kernel_rfl) (fun _ => by kernel_rfl) ?_
        refine told_pure (some 34) (.slice (some ⟨tb, tf, none⟩) ts.length cq) rfl (by kernel_rfl) (fun _ => by kernel_rfl) ?_
        refine told_pure (some 35) (.int .i64 (i : Int)) rfl (by kernel_rfl) (fun _ => by kernel_rfl) ?_
        refine told_is (some 36) (.int .i64 (IntKind.i64.wrap ((i : Int) + 1))) (.int .i64 (k : Int)) (by rw [ek]) rfl (by kernel_rfl) (fun _ => by kernel_rfl) ?_
        refine told_pure (some 37) (.pointer (some ⟨tb, tf + k, none⟩)) rfl (by kernel_rfl) (fun w => by go_simp) ?_
        refine told_load (some 38) ⟨tb, tf + k, none⟩ (.int .i64 B) rfl (by kernel_rfl) (fun _ => by kernel_rfl) (fun _ hS => atB hS cb) ?_
        refine told_pure (some 39) (.pointer (some ⟨w.heap.size, 0, none⟩)) rfl (by kernel_rfl) (fun _ => by kernel_rfl) ?_
        refine told_load (some 40) ⟨w.heap.size, 0, none⟩ (.slice (some ⟨pb, po, none⟩) L.length cap) rfl (by kernel_rfl) (fun _ => by kernel_rfl) (fun _ hS => atB hS d) ?_
        refine told_pure (some 41) (.int .i64 (r : Int)) rfl (by kernel_rfl) (fun _ => by kernel_rfl) ?_
        refine told_pure (some 42) (.pointer (some ⟨pb, po + r * 2, none⟩)) rfl (by kernel_rfl) (fun w => by go_simp) ?_
        refine told_pure (some 43) (.pointer (some ⟨pb, po + r * 2 + 1, none⟩)) rfl (by kernel_rfl) (fun _ => by kernel_rfl) ?_
        refine told_load (some 44) ⟨pb, po + r * 2 + 1, none⟩ (.int .i64 P.f1) rfl (by kernel_rfl) (fun _ => by kernel_rfl) (fun _ hS => atB hS p1) ?_
        refine told_is (some 45) (.bool (B == P.f1)) (.bool false) (by rw [g2]) rfl (by kernel_rfl) (fun _ => by kernel_rfl) ?_
        refine told_pure (some 46) (.bool false) rfl (by kernel_rfl) (fun _ => by kernel_rfl) ?_
        refine told_nil ?_
        intro W2 hS2
        simp only [Act.put, List.setIfInBounds_toArray, List.set_cons_zero, List.set_cons_succ]
        have HBW2 : Hid (Below W0.heap.size W0 W2) := HBr.out.trans (hS2.mono HBr.out.size)
        clear hS2 ca cb p0 p1
        go_wp2
        go_roundw
        case rel => exact ⟨k, HKK2.out, by go_num, by have := HKK.out; omega, HBW2, HN2⟩
        case measure => have := HKK.out; simp [intOf]; omega

end Go.Proofs.Ytdggkcohidijcaa

/- A row is no longer than its room. -/
namespace Go.Proofs.Ytdggkcohidijcaa
open Go.RowKit
set_option linter.unusedVariables false
set_option linter.unusedSimpArgs false

theorem ioCap {w : World} {base : Nat} {p : Option Addr} {n c : Nat} {L : List Int} (h : IO w base (.slice p n c) L) : L.length ≤ c := by
  obtain ⟨_, ⟨hv, h0⟩ | ⟨g, cap, cur, hv, _, _, hc, _⟩⟩ := h
  · simp only [Value.slice.injEq] at hv
    omega
  · simp only [Value.slice.injEq] at hv
    omega

end Go.Proofs.Ytdggkcohidijcaa

/- Bpe of the specification. -/
namespace Go.Proofs.Ytdggkcohidijcaa
open Go.RowKit
set_option linter.unusedVariables false
set_option linter.unusedSimpArgs false

theorem ixB (s : ByteArray) (k : Nat) (h : k < s.size) : ∀ W, (Instr.index 9 (.string s) (.int .i64 (k : Int))).run Try.prog W = .ok (.int .u8 (byteAt s k)) W := fun W => by
  rw [run_index_string (P := Try.prog) W 9 s .i64 (k : Int) Try.underlying9, dif_pos (by omega), byteAt_eq s k h]
  simp

theorem byteAt_rng (s : ByteArray) (k : Nat) : 0 ≤ byteAt s k ∧ byteAt s k ≤ 255 := by
  unfold byteAt
  have := (s.data[k]?.getD 0).toNat_lt
  omega

set_option maxRecDepth 20000 in
set_option maxHeartbeats 4000000 in
theorem l8Bpe_c (L : List S_Pair) (p : Option Addr) (cap : Nat) (s : ByteArray) (w : World) (hn : L.length ≤ 1048576) (hm : s.size ≤ 1048576) (hr : RowR w (.slice p L.length cap) L.length 2 (rPair L)) (h64 : s.size ≤ 64) :
    Calls Try.prog 56 #[.agg #[.slice p L.length cap], .string s] w fun e w' => ∃ v, e = .returned v ∧ IO w' w.heap.size v (bpeL L (bpI s)) ∧ Below w.heap.size w w' := by
  obtain ⟨i0, hi, hz0, hz1, hz2⟩ := info_parts infoInt
  have hn' : (L.length : Int) ≤ 1048576 := by omega
  have hm' : (s.size : Int) ≤ 1048576 := by omega
  have HN : Hid (L.length ≤ 1048576) := hn
  have HR : Hid (RowR w (.slice p L.length cap) L.length 2 (rPair L)) := hr
  obtain ⟨W0, hW0⟩ : ∃ W, W = w.alloc (.cells #[.slice p L.length cap] 26) := ⟨_, rfl⟩
  have HW0 : Hid (w.alloc (.cells #[.slice p L.length cap] 26) = W0) := hW0.symm
  have HZ0 : Hid (W0.heap.size = w.heap.size + 1) := by show _ = _; rw [hW0]; simp
  have HB0 : Hid (Below w.heap.size w W0) := by rw [hW0]; exact (Below.refl _ _).alloc (Nat.le_refl _) _
  have HX : Hid (∀ W', Below W0.heap.size W0 W' → W'.cell? ⟨w.heap.size, 0, none⟩ = some (.slice p L.length cap)) := fun W' hW => by
    have hk : W'.heap[w.heap.size]? = some (.cells #[.slice p L.length cap] 26) := by rw [hW.block _ (by rw [HZ0.out]; exact Nat.lt_succ_self _), hW0]; exact alloc_last _ _
    exact box1 hk
  have d := HX.out W0 (Below.refl _ _)
  have HR0 : Hid (RowR W0 (.slice p L.length cap) L.length 2 (rPair L)) := RowR.keep HR.out HB0.out (Nat.le_refl _)
  have HDN : Hid (∀ W', Below W0.heap.size W0 W' → Below w.heap.size w W') := fun W' hbel => HB0.out.trans (hbel.mono (by rw [HZ0.out]; exact Nat.le_succ _))
  clear hr hW0 hn hm
  go_enter Try.func56, Try.ntmps56
  have HLOW : Hid (w.heap.size ≤ W0.heap.size) := by show _ ≤ _; rw [HZ0.out]; exact Nat.le_succ _
  obtain ⟨W1, hW1⟩ : ∃ W, W = W0.alloc (.cells #[] 3) := ⟨_, rfl⟩
  have HW1 : Hid (W0.alloc (.cells #[] 3) = W1) := hW1.symm
  have HM0 : Hid (W1.ownsRow W0.heap.size 3 1 (.slice (some ⟨w.heap.size + 1, 0, none⟩) 0 0) 0 []) := by
    have h := World.ownsRow_made (base := W0.heap.size) (e := 3) (size := 1) W0 #[] 0 (Nat.le_refl _) (by decide) rfl
    rw [HZ0.out] at h
    rw [hW1, HZ0.out]
    exact h
  have HC0 : Hid (Below W0.heap.size W0 W1) := by rw [hW1]; exact (Below.refl _ _).alloc (Nat.le_refl _) _
  clear hW1
  go_wp2_with fail
  rw [HW0.out, HW1.out]
  clear d
  go_loopw [5, 6] (fun ov iv wr => ∃ k : Nat, k ≤ s.size ∧ iv = .int .i64 (k : Int) ∧ Hid (wr.ownsRow W0.heap.size 3 1 ov ((bpI s).take k).length (rI ((bpI s).take k))) ∧ Hid (Below W0.heap.size W0 wr)) (fun _ iv _ => s.size - (intOf iv).toNat)
  case atStart => exact ⟨0, Nat.zero_le _, rfl, HM0.out, HC0.out⟩
  case round =>
    obtain ⟨k, hk, rfl, HOV, HBr⟩ := hrel
    by_cases hlt : k < s.size
    · have hlt' : (k : Int) < s.size := by omega
      have hix := ixB s k hlt
      have HSN : Hid ((bpI s).take (k + 1) = (bpI s).take k ++ [byteAt s k]) := bpI_take s k hlt
      have HKL : Hid (((bpI s).take k).length ≤ 1000) := by show _ ≤ _; rw [List.length_take, bpI_len]; omega
      have hbr := byteAt_rng s k
      have ew : IntKind.i64.wrap (byteAt s k) = byteAt s k := IntWalk.i64_in _ (by omega)
      generalize (bpI s).take k = P at HSN HKL HOV
      generalize byteAt s k = bb at hix HSN hbr ew
      have hsz1 := HBr.out.size
      have hml : (1048577 : Nat) ≤ maxLen := by unfold maxLen; omega
      have hPl := HKL.out
      have hown4 := HOV.out
      go_wp2_with (at_builtin; refine wpList_append_own _ rfl _ _ 29 rfl W0.heap.size 3 i0 (.int .i64 0) 1 8 Try.underlying29 hi hz0 hz1 hz2 rfl (by decide) _ _ _ rfl (hown4.alloc _) ⟨wr.heap.size, 0, none⟩ 1 1 [.int .i64 bb] rfl rfl (cell_one_new _ _ _) (by intro u hu; simp at hu; subst hu; rfl) (by omega) (by omega) (by simp; omega) ?_)
      intro v' w5 hown5 hgrow _
      have R1 : w5.ownsRow W0.heap.size 3 1 v' (P ++ [bb]).length (rI (P ++ [bb])) := by
        have := hown5
        unfold rI at this ⊢
        simpa using this
      have R2 := below_append HBr.out (Nat.le_refl _) hown4 hgrow
      rw [← HSN.out] at R1
      clear hown5 hgrow hown4 HBr HOV
      go_wp2
      go_roundw
      case rel => first | exact ⟨k + 1, by omega, by go_num, R1, R2⟩ | ((repeat apply Exists.intro); exact ⟨⟨k + 1, by omega, by go_num, R1, R2⟩, rfl⟩)
      case measure => simp [intOf]; omega
    · have hke : k = s.size := by omega
      subst hke
      have HV : Hid (wr.ownsRow W0.heap.size 3 1 u5 (bpI s).length (rI (bpI s))) := by
        have h := HOV.out
        rw [List.take_of_length_le (by rw [bpI_len]; exact Nat.le_refl _)] at h
        exact h
      clear HOV
      obtain ⟨pv, cv, hpv⟩ := own_sliceV HV.out
      have HBL : Hid ((bpI s).length = s.size) := bpI_len s
      have HCV : Hid ((bpI s).length ≤ cv) := by have h := HV.out; rw [hpv] at h; exact ioCap h
      have hpv' : u5 = .slice pv s.size cv := by rw [hpv, bpI_len]
      subst hpv'
      have h64' : (s.size : Int) ≤ 64 := by omega
      go_wp2_with fail
      go_loopw [5, 7] (fun tv iv wq => ∃ (k : Nat) (ts : List Int) (q : Option Addr) (n cq : Nat), k ≤ s.size ∧ iv = .int .i64 (k : Int) ∧ tv = .slice q n cq ∧ n ≤ 64 ∧ Hid (ts.length = n) ∧ Hid (n ≤ cq) ∧ Hid (wq.ownsRow W0.heap.size 3 1 (.slice q n cq) n (rI ts)) ∧ Hid (Below W0.heap.size W0 wq) ∧ Hid (bpeN L (s.size - k) ts = bpeL L (bpI s))) (fun _ iv _ => s.size - (intOf iv).toNat)
      case atStart => exact ⟨0, bpI s, pv, s.size, cv, Nat.zero_le _, rfl, rfl, h64, HBL, by have h1 := HCV.out; have h2 := HBL.out; show _ ≤ _; omega, by have h := HV.out; rw [bpI_len] at h; exact h, HBr, by show bpeN L (s.size - 0) (bpI s) = bpeN L (bpI s).length (bpI s); rw [bpI_len, Nat.sub_zero]⟩
      case round =>
        clear HV HBr HCV
        obtain ⟨k, ts, q, n, cq, hk, rfl, rfl, hn64, HTN, HNC, HO, HBr, HEQ⟩ := hrel
        have hn64' : (n : Int) ≤ 64 := by omega
        by_cases hlt : k < s.size
        rotate_left
        · have hke : k = s.size := by omega
          have HE : Hid (ts = bpeL L (bpI s)) := by have h := HEQ.out; rw [hke, Nat.sub_self] at h; exact h
          have HF : Hid (IO wr w.heap.size (.slice q n cq) (bpeL L (bpI s))) := by
            rw [← HE.out]
            unfold IO
            rw [HTN.out]
            exact own_low HO.out HLOW.out
          have hlt' : ¬ (k : Int) < s.size := by omega
          clear hke
          go_wp2
          go_ret
          exact ⟨_, rfl, HF.out, HDN.out _ HBr.out⟩
        have hlt' : (k : Int) < s.size := by omega
        have d := HX.out wr HBr.out
        have HT : Hid (IR wr (.slice q ts.length cq) ts) := by have h := RowR.own HO.out; show RowR _ _ _ _ _; rw [HTN.out]; exact h
        have HPL := l8Place_c L p cap ts q cq wr HN.out (by have := HTN.out; omega) (RowR.keep HR0.out HBr.out (Nat.le_refl _)) HT.out
        rw [HTN.out] at HPL
        go_wp2_with fail
        refine HPL.mono ?_
        clear HPL
        rintro e w2 ⟨rfl, b2⟩
        have HC2 : Hid (Below W0.heap.size W0 w2) := HBr.out.trans (b2.mono HBr.out.size)
        have HO2 : Hid (w2.ownsRow W0.heap.size 3 1 (.slice q n cq) n (rI ts)) := own_bel HO.out b2 (Nat.le_refl _)
        clear b2 d
        rcases hp : placeF L ts with _ | ⟨i, r⟩
        · have HE : Hid (ts = bpeL L (bpI s)) := by have h := HEQ.out; rw [bpeN_none hp] at h; exact h
          have HF : Hid (IO w2 w.heap.size (.slice q n cq) (bpeL L (bpI s))) := by
            rw [← HE.out]
            unfold IO
            rw [HTN.out]
            exact own_low HO2.out HLOW.out
          rw [show pl1 none = -1 from rfl, show pl2 none = -1 from rfl]
          clear hp
          go_wp2
          go_ret
          exact ⟨_, rfl, HF.out, HDN.out _ HC2.out⟩
        · have hm := matB_lt (place_is hp)
          have HML : Hid (r < L.length ∧ i + 1 < ts.length) := hm
          have HEQ2 : Hid (bpeN L (s.size - (k + 1)) (mgT ts i r) = bpeL L (bpI s)) := by
            have h := HEQ.out
            rw [show s.size - k = (s.size - (k + 1)) + 1 by omega, bpeN_some hp] at h
            exact h
          rw [show pl1 (some (i, r)) = (i : Int) from rfl, show pl2 (some (i, r)) = (r : Int) from rfl]
          have hi0 : ¬ (i : Int) < 0 := by omega
          have HMG := l8Merged_c ts q cq i r w2 (by have := HTN.out; omega) (by have h1 := HTN.out; have h2 := HNC.out; omega) (by have h := RowR.own HO2.out; show RowR _ _ _ _ _; rw [HTN.out]; exact h) hm.2 (by have := hm.1; have := HN.out; omega)
          rw [HTN.out] at HMG
          clear hp hm
          go_wp2_with fail
          refine HMG.mono ?_
          clear HMG
          rintro e w3 ⟨v, rfl, ho, b3⟩
          obtain ⟨q3, c3, rfl⟩ := own_sliceV ho
          have HB3 : Hid (Below W0.heap.size W0 w3) := HC2.out.trans (b3.mono HC2.out.size)
          have HML2 := mgT_len (r := r) HML.out.2
          have HTN3 : Hid ((mgT ts i r).length = (mgT ts i r).length) := rfl
          have HCAP3 : Hid ((mgT ts i r).length ≤ c3) := ioCap ho
          have HO3 : Hid (w3.ownsRow W0.heap.size 3 1 (.slice q3 (mgT ts i r).length c3) (mgT ts i r).length (rI (mgT ts i r))) := own_low ho HC2.out.size
          have hl3 : (mgT ts i r).length ≤ 64 := by have := HTN.out; omega
          clear ho b3 HML2
          generalize mgT ts i r = ts3 at HTN3 HCAP3 HO3 hl3 HEQ2 ⊢
          obtain ⟨n3, hn3⟩ : ∃ n3, ts3.length = n3 := ⟨_, rfl⟩
          rw [hn3] at HCAP3 HO3 hl3 ⊢
          have HTN4 : Hid (ts3.length = n3) := hn3
          clear hn3 HTN3
          go_wp2
          go_roundw
          case rel => exact ⟨k + 1, ts3, q3, n3, c3, by omega, by go_num, rfl, hl3, HTN4, HCAP3, HO3, HB3, HEQ2⟩
          case measure => simp [intOf]; omega

end Go.Proofs.Ytdggkcohidijcaa
