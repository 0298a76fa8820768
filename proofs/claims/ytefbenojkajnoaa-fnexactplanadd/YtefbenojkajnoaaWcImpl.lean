/- Changes of the program. -/
import Derived.Test.YtefbenojkajnoaaWcSpec
namespace Go.Proofs.Ytefbenojkajnoaa
open Go.RowKit
set_option linter.unusedVariables false
set_option linter.unusedSimpArgs false

theorem wpList_append_toC {P : Program} {ops : Array Oper} {rest : List Oper} {op : Oper} {a : Act} {w : World} {Q : Exit → Act → World → Prop} (hgd : op.guard = none) (s y : Operand) (t : TypeId)
    (ho : op.op = .call { callee := .builtin .append, args := #[s, y], argTypes := #[t, t] }) (v u : Value) (hs : a.eval s = v) (hx : a.eval y = u) (v' : Value) (w' : World)
    (hrun : (Builtin.append_ #[t, t] op.type #[v, u]).run P w = .ok v' w') (h : wpList P ops Q rest (a.put op.dst v') w') : wpList P ops Q (op :: rest) a w := by
  refine wpList_plain hgd fun K hK => ?_
  unfold Oper.wp execOp
  simp only [ho, resolve, invoke, builtin, Sem.run_bind, Sem.run_pure, Result.andThen_ok, List.map_toArray, List.map_cons, List.map_nil, hs, hx, hrun]
  exact hK _ _ h

theorem box2C {w : World} {b : Nat} {a0 a1 : Value} {t : TypeId} (h : w.heap[b]? = some (.cells #[a0, a1] t)) : w.cell? ⟨b, 0, none⟩ = some a0 ∧ w.cell? ⟨b, 1, none⟩ = some a1 := by
  simp [World.cell?, h]

theorem own_shape {w : World} {base : Nat} {e : TypeId} {size n : Nat} {v : Value} {xs : List Value} (h : w.ownsRow base e size v n xs) : ∃ p c, v = .slice p n c ∧ (0 < n → ∃ g, p = some ⟨g, 0, none⟩) := by
  obtain ⟨_, ⟨rfl, rfl⟩ | ⟨g, cap, cur, rfl, _⟩⟩ := h
  · exact ⟨_, _, rfl, fun h => absurd h (Nat.lt_irrefl _)⟩
  · exact ⟨_, _, rfl, fun _ => ⟨g, rfl⟩⟩

theorem recP_mem (x : S_Wal) (bt : Nat) : ∀ (j : Nat) (r : S_Rec), r ∈ recP x bt j → ∃ i, i < j ∧ r = enRec x (bt + i)
  | 0, r, h => by simp [recP] at h
  | j + 1, r, h => by
    rcases List.mem_append.1 (show r ∈ recP x bt j ++ [enRec x (bt + j)] from h) with h | h
    · obtain ⟨i, hi, e⟩ := recP_mem x bt j r h
      exact ⟨i, by omega, e⟩
    · exact ⟨j, by omega, List.mem_singleton.1 h⟩

theorem app_rows (w : World) (b1 b2 n1 n2 : Nat) (v1 v2 : Value) (xs ys : List Value) (h1 : w.ownsRow b1 79 1 v1 n1 xs) (h2 : w.ownsRow b2 79 1 v2 n2 ys) (hy : ∀ u ∈ ys, u.oneCell' = true) (hn1 : n1 ≤ 2) (hn2 : n2 ≤ 1048576) (hb : b1 ≤ w.heap.size) :
    ∃ v' w', (Builtin.append_ #[71, 71] 71 #[v1, v2]).run Try.prog w = .ok v' w' ∧ w'.ownsRow b1 79 1 v' (n1 + n2) (xs ++ ys) ∧ w.grownBy w' v1.ownBlock := by
  obtain ⟨iR, hiR, hR0, hR1, hR2⟩ := info_parts infoRecd
  have h2' := h2
  obtain ⟨hl, ⟨rfl, rfl⟩ | ⟨g2, cap, cur, rfl, hg, hh, _⟩⟩ := h2
  · have e : ys = [] := List.eq_nil_of_length_eq_zero (by omega)
    subst e
    rw [List.append_nil, Nat.add_zero]
    exact ⟨v1, w, run_append_owned_none w b1 71 71 79 iR 1 Try.underlying71 hiR v1 n1 xs h1, h1, ⟨rfl, rfl, rfl, Nat.le_refl _, fun _ _ _ => rfl⟩⟩
  · obtain ⟨v', w', hrun, ho, hgr, _⟩ := run_append_own (P := Try.prog) w b1 71 71 79 iR .nilIface 1 16 Try.underlying71 hiR hR0 hR1 hR2 rfl (by decide) _ _ _ h1 ⟨g2, 0, none⟩ n2 cap ys (by simpa using hl) (fun j u hj => by
      rw [Addr.add_mid, Nat.zero_add]
      have hjl : j < n2 * 1 := by
        rw [← hl]
        exact (List.getElem?_eq_some_iff.1 hj).1
      rw [h2'.cellAt j hjl]
      exact hj) hy (by unfold maxLen; omega) (by omega) hb
    exact ⟨v', w', hrun, ho, hgr⟩

theorem recV_oneC (r : S_Rec) : (recV r).oneCell' = true := by
  unfold recV
  split
  · rfl
  · split
    · rfl
    · split
      · rfl
      · split <;> rfl

theorem tellOkC_c (r : S_Rec) (w : World) (h : okR r) : Calls Try.prog 39 #[recV r] w fun e w' => e = .returned (.agg #[.int .i64 r.f0, .int .i64 r.f1, .int .i64 r.f2, .int .i64 r.f3, .string r.f4]) ∧ Below w.heap.size w w' := by
  have := tellRec_c r w (by have := okR_data h; omega)
  rw [show cutR r = r from sameR_eq ((okR_iff r).1 h).2] at this
  exact this

theorem chL_ok {a b : S_Wal} (ha : okW a) (hb : okW b) : ∀ r ∈ chL a b, okR r := by
  intro r hr
  have hal := al_le a.f4 b.f4
  unfold chL chP ch1 at hr
  rcases List.mem_append.1 hr with hr | hr
  · rcases List.mem_append.1 hr with hr | hr
    · unfold ch0 at hr
      split at hr
      · simp at hr
      · rw [List.mem_singleton.1 hr]; exact okR_hd hb
    · split at hr
      · rename_i hlt
        rw [List.mem_singleton.1 hr]
        have h1 := okW_base ha
        have h3 := ha.1
        unfold headW at h3
        refine .inr (.inr (.inl ⟨rfl, rfl, ⟨?_, ?_⟩, rfl, rfl⟩))
        · show 1 ≤ a.f2 + ((al a.f4 b.f4 : Nat) : Int) + 1; omega
        · show a.f2 + ((al a.f4 b.f4 : Nat) : Int) + 1 ≤ 100000; omega
      · simp at hr
  · obtain ⟨j, hj, rfl⟩ : ∃ j, j < b.f4.length - al a.f4 b.f4 ∧ r = enRec b (al a.f4 b.f4 + j) := recP_mem _ _ _ _ hr
    rw [en_at (by omega)]
    exact okR_en hb (by omega)

set_option maxRecDepth 20000 in
set_option maxHeartbeats 4000000 in
theorem implCh_no (a b : S_Wal) (pa pb : Option Addr) (ca cb : Nat) (w : World) (hno : ¬ chOk a b) (hna : a.f4.length ≤ 1048576) (hnb : b.f4.length ≤ 1048576) (hsa : ∀ y ∈ a.f4, sEntry y) (hsb : ∀ y ∈ b.f4, sEntry y) (hra : RowR w (.slice pa a.f4.length ca) a.f4.length 2 (rEntry a.f4)) (hrb : RowR w (.slice pb b.f4.length cb) b.f4.length 2 (rEntry b.f4)) :
    Calls Try.prog 18 #[.agg #[.int .i64 a.f0, .int .i64 a.f1, .int .i64 a.f2, .int .i64 a.f3, .slice pa a.f4.length ca], .agg #[.int .i64 b.f0, .int .i64 b.f1, .int .i64 b.f2, .int .i64 b.f3, .slice pb b.f4.length cb]] w fun e w' => ∃ v, e = .returned (.tuple #[v, .bool false]) ∧ w'.ownsRow w.heap.size 44 5 v 0 [] ∧ Below w.heap.size w w' := by
  obtain ⟨W0, hW0⟩ : ∃ W, W = (w.alloc (.cells #[.int .i64 a.f0, .int .i64 a.f1, .int .i64 a.f2, .int .i64 a.f3, .slice pa a.f4.length ca] 30)).alloc (.cells #[.int .i64 b.f0, .int .i64 b.f1, .int .i64 b.f2, .int .i64 b.f3, .slice pb b.f4.length cb] 30) := ⟨_, rfl⟩
  have HW0 : Hid ((w.alloc (.cells #[.int .i64 a.f0, .int .i64 a.f1, .int .i64 a.f2, .int .i64 a.f3, .slice pa a.f4.length ca] 30)).alloc (.cells #[.int .i64 b.f0, .int .i64 b.f1, .int .i64 b.f2, .int .i64 b.f3, .slice pb b.f4.length cb] 30) = W0) := hW0.symm
  have HZ0 : Hid (W0.heap.size = w.heap.size + 2) := by show _ = _; rw [hW0]; simp
  have HB0 : Hid (Below w.heap.size w W0) := by rw [hW0]; exact (((Below.refl _ _).alloc (Nat.le_refl _) _).alloc (by simp) _)
  have HXA : W0.heap[w.heap.size]? = some (.cells #[.int .i64 a.f0, .int .i64 a.f1, .int .i64 a.f2, .int .i64 a.f3, .slice pa a.f4.length ca] 30) := by rw [hW0]; exact (Below.heap_alloc _ _ _ (by simp)).trans (alloc_last w _)
  have HXB : W0.heap[w.heap.size + 1]? = some (.cells #[.int .i64 b.f0, .int .i64 b.f1, .int .i64 b.f2, .int .i64 b.f3, .slice pb b.f4.length cb] 30) := by rw [hW0]; exact lastB w (.cells #[.int .i64 a.f0, .int .i64 a.f1, .int .i64 a.f2, .int .i64 a.f3, .slice pa a.f4.length ca] 30) (.cells #[.int .i64 b.f0, .int .i64 b.f1, .int .i64 b.f2, .int .i64 b.f3, .slice pb b.f4.length cb] 30)
  have HX : Hid (∀ W', Below (w.heap.size + 2) W0 W' → (W'.cell? ⟨w.heap.size, 0, none⟩ = some (.int .i64 a.f0) ∧ W'.cell? ⟨w.heap.size, 1, none⟩ = some (.int .i64 a.f1) ∧ W'.cell? ⟨w.heap.size, 2, none⟩ = some (.int .i64 a.f2) ∧ W'.cell? ⟨w.heap.size, 3, none⟩ = some (.int .i64 a.f3) ∧ W'.cell? ⟨w.heap.size, 4, none⟩ = some (.slice pa a.f4.length ca)) ∧ (W'.cell? ⟨w.heap.size + 1, 0, none⟩ = some (.int .i64 b.f0) ∧ W'.cell? ⟨w.heap.size + 1, 1, none⟩ = some (.int .i64 b.f1) ∧ W'.cell? ⟨w.heap.size + 1, 2, none⟩ = some (.int .i64 b.f2) ∧ W'.cell? ⟨w.heap.size + 1, 3, none⟩ = some (.int .i64 b.f3) ∧ W'.cell? ⟨w.heap.size + 1, 4, none⟩ = some (.slice pb b.f4.length cb))) := fun W' hW => by
    have ka := (hW.block w.heap.size (by omega)).trans HXA
    have kb := (hW.block (w.heap.size + 1) (by omega)).trans HXB
    exact ⟨box5 ka, box5 kb⟩
  have HSA : Hid (∀ y ∈ a.f4, sEntry y) := hsa
  have HSB : Hid (∀ y ∈ b.f4, sEntry y) := hsb
  have HRA : Hid (RowR w (.slice pa a.f4.length ca) a.f4.length 2 (rEntry a.f4)) := hra
  have HRB : Hid (RowR w (.slice pb b.f4.length cb) b.f4.length 2 (rEntry b.f4)) := hrb
  have HNA : Hid (a.f4.length ≤ 1048576) := hna
  have HNB : Hid (b.f4.length ≤ 1048576) := hnb
  have hna' : (a.f4.length : Int) ≤ 1048576 := by omega
  have hnb' : (b.f4.length : Int) ≤ 1048576 := by omega
  clear hsa hsb hra hrb hW0 HXA HXB
  have HQ0 : Hid (Below (w.heap.size + 2) W0 W0) := Below.refl _ _
  clear hna hnb
  obtain ⟨⟨d0, d1, d2, d3, d4⟩, ⟨e0, e1, e2, e3, e4⟩⟩ := HX.out W0 HQ0.out
  go_enter Try.func18, Try.ntmps18
  go_wp2_with fail
  rw [HW0.out]
  by_cases oka : okW a
  rotate_left
  · have HNO : Hid (decide (okW a) = false) := decide_eq_false oka
    clear oka hno
    refine (implWalOk_c a pa ca W0 HNA.out HSA.out (RowR.keep HRA.out (HB0.out.trans (HQ0.out.mono (by omega))) (Nat.le_refl _))).mono ?_
    rintro e w1 ⟨rfl, b1⟩
    have HQ1 : Hid (Below (w.heap.size + 2) W0 w1) := HQ0.out.trans (b1.mono (by have := HZ0.out; have := HQ0.out.size; omega))
    clear b1
    rw [HNO.out]
    clear d0 d1 d2 d3 d4 e0 e1 e2 e3 e4
    obtain ⟨⟨d0, d1, d2, d3, d4⟩, ⟨e0, e1, e2, e3, e4⟩⟩ := HX.out w1 HQ1.out
    go_wp2
    go_ret2
    exact ⟨_, rfl, World.ownsRow_nil _ _ _ _, HB0.out.trans (HQ1.out.mono (by omega))⟩
  have HOA : Hid (decide (okW a) = true) := decide_eq_true oka
  refine (implWalOk_c a pa ca W0 HNA.out HSA.out (RowR.keep HRA.out (HB0.out.trans (HQ0.out.mono (by omega))) (Nat.le_refl _))).mono ?_
  rintro e w1 ⟨rfl, b1⟩
  have HQ1 : Hid (Below (w.heap.size + 2) W0 w1) := HQ0.out.trans (b1.mono (by have := HZ0.out; have := HQ0.out.size; omega))
  clear b1
  rw [HOA.out]
  clear d0 d1 d2 d3 d4 e0 e1 e2 e3 e4
  obtain ⟨⟨d0, d1, d2, d3, d4⟩, ⟨e0, e1, e2, e3, e4⟩⟩ := HX.out w1 HQ1.out
  go_wp2_with fail
  by_cases okb : okW b
  rotate_left
  · have HNO : Hid (decide (okW b) = false) := decide_eq_false okb
    clear oka okb hno
    refine (implWalOk_c b pb cb w1 HNB.out HSB.out (RowR.keep HRB.out (HB0.out.trans (HQ1.out.mono (by omega))) (Nat.le_refl _))).mono ?_
    rintro e w2 ⟨rfl, b2⟩
    have HQ2 : Hid (Below (w.heap.size + 2) W0 w2) := HQ1.out.trans (b2.mono (by have := HZ0.out; have := HQ1.out.size; omega))
    clear b2
    rw [HNO.out]
    clear d0 d1 d2 d3 d4 e0 e1 e2 e3 e4
    obtain ⟨⟨d0, d1, d2, d3, d4⟩, ⟨e0, e1, e2, e3, e4⟩⟩ := HX.out w2 HQ2.out
    go_wp2
    go_ret2
    exact ⟨_, rfl, World.ownsRow_nil _ _ _ _, HB0.out.trans (HQ2.out.mono (by omega))⟩
  have HOBk : Hid (decide (okW b) = true) := decide_eq_true okb
  refine (implWalOk_c b pb cb w1 HNB.out HSB.out (RowR.keep HRB.out (HB0.out.trans (HQ1.out.mono (by omega))) (Nat.le_refl _))).mono ?_
  rintro e w2 ⟨rfl, b2⟩
  have HQ2 : Hid (Below (w.heap.size + 2) W0 w2) := HQ1.out.trans (b2.mono (by have := HZ0.out; have := HQ1.out.size; omega))
  clear b2
  rw [HOBk.out]
  clear d0 d1 d2 d3 d4 e0 e1 e2 e3 e4
  obtain ⟨⟨d0, d1, d2, d3, d4⟩, ⟨e0, e1, e2, e3, e4⟩⟩ := HX.out w2 HQ2.out
  have HA2 : Hid (0 ≤ a.f2 ∧ a.f2 ≤ 100000) := okW_base oka
  by_cases q2 : a.f2 = b.f2
  rotate_left
  · have n2 : (a.f2 != b.f2) = true := by simpa using q2
    clear q2 oka okb hno
    go_wp2
    go_ret2
    exact ⟨_, rfl, World.ownsRow_nil _ _ _ _, HB0.out.trans (HQ2.out.mono (by omega))⟩
  have n2 : (a.f2 != b.f2) = false := by simpa using q2
  by_cases q3 : a.f3 = b.f3
  rotate_left
  · have n3 : (a.f3 != b.f3) = true := by simpa using q3
    clear q2 q3 oka okb hno
    go_wp2
    go_ret2
    exact ⟨_, rfl, World.ownsRow_nil _ _ _ _, HB0.out.trans (HQ2.out.mono (by omega))⟩
  have n3 : (a.f3 != b.f3) = false := by simpa using q3
  have hs : ¬ (sameH a b ∨ fitH a b) := fun h => hno ⟨⟨oka, okb, q2, q3⟩, h⟩
  have HFT : Hid (decide (fitH a b) = false) := decide_eq_false fun h => hs (.inr h)
  have hs' : ¬ sameH a b := fun h => hs (.inl h)
  clear hno oka okb q2 q3 hs
  have HN2 : Hid (w.heap.size + 2 ≤ w2.heap.size) := by show _ ≤ _; have := HQ2.out.size; have := HZ0.out; omega
  by_cases hm : a.f0 = b.f0
  · have m0 : (a.f0 != b.f0) = false := by simpa using hm
    have m1 : (a.f1 != b.f1) = true := by simpa using fun h => hs' ⟨hm, h⟩
    clear hm
    clear hs'
    have nx : w.heap.size ≠ w2.heap.size := by have := HN2.out; omega
    have lx : w.heap.size < w2.heap.size := by have := HN2.out; omega
    go_wp2_with fail
    refine (implFits_c a b pa ca _ HNA.out HA2.out).mono ?_
    rintro e w4 ⟨rfl, b4⟩
    have HQ4 : Hid (Below (w.heap.size + 2) W0 w4) := (HQ2.out.alloc (by have := HN2.out; omega) _).trans (b4.mono (by have := HN2.out; simp; omega))
    clear b4
    rw [HFT.out]
    go_wp2
    go_ret2
    exact ⟨_, rfl, World.ownsRow_nil _ _ _ _, HB0.out.trans (HQ4.out.mono (by omega))⟩
  · have m0 : (a.f0 != b.f0) = true := by simpa using hm
    clear hm
    clear hs'
    have nx : w.heap.size ≠ w2.heap.size := by have := HN2.out; omega
    have lx : w.heap.size < w2.heap.size := by have := HN2.out; omega
    go_wp2_with fail
    refine (implFits_c a b pa ca _ HNA.out HA2.out).mono ?_
    rintro e w4 ⟨rfl, b4⟩
    have HQ4 : Hid (Below (w.heap.size + 2) W0 w4) := (HQ2.out.alloc (by have := HN2.out; omega) _).trans (b4.mono (by have := HN2.out; simp; omega))
    clear b4
    rw [HFT.out]
    go_wp2
    go_ret2
    exact ⟨_, rfl, World.ownsRow_nil _ _ _ _, HB0.out.trans (HQ4.out.mono (by omega))⟩

set_option maxRecDepth 20000 in
set_option maxHeartbeats 8000000 in
theorem implCh_yes (a b : S_Wal) (pa pb : Option Addr) (ca cb : Nat) (w : World) (hok : chOk a b) (hna : a.f4.length ≤ 1048576) (hnb : b.f4.length ≤ 1048576) (hsa : ∀ y ∈ a.f4, sEntry y) (hsb : ∀ y ∈ b.f4, sEntry y) (hra : RowR w (.slice pa a.f4.length ca) a.f4.length 2 (rEntry a.f4)) (hrb : RowR w (.slice pb b.f4.length cb) b.f4.length 2 (rEntry b.f4)) :
    Calls Try.prog 18 #[.agg #[.int .i64 a.f0, .int .i64 a.f1, .int .i64 a.f2, .int .i64 a.f3, .slice pa a.f4.length ca], .agg #[.int .i64 b.f0, .int .i64 b.f1, .int .i64 b.f2, .int .i64 b.f3, .slice pb b.f4.length cb]] w fun e w' => ∃ v, e = .returned (.tuple #[v, .bool true]) ∧ w'.ownsRow w.heap.size 44 5 v (chL a b).length (rRec (chL a b)) ∧ Below w.heap.size w w' := by
  obtain ⟨iR, hiR, hR0, hR1, hR2⟩ := info_parts infoRec
  obtain ⟨iT, hiT, hT0, hT1, hT2⟩ := info_parts infoRecd
  obtain ⟨W0, hW0⟩ : ∃ W, W = (w.alloc (.cells #[.int .i64 a.f0, .int .i64 a.f1, .int .i64 a.f2, .int .i64 a.f3, .slice pa a.f4.length ca] 30)).alloc (.cells #[.int .i64 b.f0, .int .i64 b.f1, .int .i64 b.f2, .int .i64 b.f3, .slice pb b.f4.length cb] 30) := ⟨_, rfl⟩
  have HW0 : Hid ((w.alloc (.cells #[.int .i64 a.f0, .int .i64 a.f1, .int .i64 a.f2, .int .i64 a.f3, .slice pa a.f4.length ca] 30)).alloc (.cells #[.int .i64 b.f0, .int .i64 b.f1, .int .i64 b.f2, .int .i64 b.f3, .slice pb b.f4.length cb] 30) = W0) := hW0.symm
  have HZ0 : Hid (W0.heap.size = w.heap.size + 2) := by show _ = _; rw [hW0]; simp
  have HB0 : Hid (Below w.heap.size w W0) := by rw [hW0]; exact (((Below.refl _ _).alloc (Nat.le_refl _) _).alloc (by simp) _)
  have HXA : W0.heap[w.heap.size]? = some (.cells #[.int .i64 a.f0, .int .i64 a.f1, .int .i64 a.f2, .int .i64 a.f3, .slice pa a.f4.length ca] 30) := by rw [hW0]; exact (Below.heap_alloc _ _ _ (by simp)).trans (alloc_last w _)
  have HXB : W0.heap[w.heap.size + 1]? = some (.cells #[.int .i64 b.f0, .int .i64 b.f1, .int .i64 b.f2, .int .i64 b.f3, .slice pb b.f4.length cb] 30) := by rw [hW0]; exact lastB w (.cells #[.int .i64 a.f0, .int .i64 a.f1, .int .i64 a.f2, .int .i64 a.f3, .slice pa a.f4.length ca] 30) (.cells #[.int .i64 b.f0, .int .i64 b.f1, .int .i64 b.f2, .int .i64 b.f3, .slice pb b.f4.length cb] 30)
  have HX : Hid (∀ W', Below (w.heap.size + 2) W0 W' → (W'.cell? ⟨w.heap.size, 0, none⟩ = some (.int .i64 a.f0) ∧ W'.cell? ⟨w.heap.size, 1, none⟩ = some (.int .i64 a.f1) ∧ W'.cell? ⟨w.heap.size, 2, none⟩ = some (.int .i64 a.f2) ∧ W'.cell? ⟨w.heap.size, 3, none⟩ = some (.int .i64 a.f3) ∧ W'.cell? ⟨w.heap.size, 4, none⟩ = some (.slice pa a.f4.length ca)) ∧ (W'.cell? ⟨w.heap.size + 1, 0, none⟩ = some (.int .i64 b.f0) ∧ W'.cell? ⟨w.heap.size + 1, 1, none⟩ = some (.int .i64 b.f1) ∧ W'.cell? ⟨w.heap.size + 1, 2, none⟩ = some (.int .i64 b.f2) ∧ W'.cell? ⟨w.heap.size + 1, 3, none⟩ = some (.int .i64 b.f3) ∧ W'.cell? ⟨w.heap.size + 1, 4, none⟩ = some (.slice pb b.f4.length cb))) := fun W' hW => by
    have ka := (hW.block w.heap.size (by omega)).trans HXA
    have kb := (hW.block (w.heap.size + 1) (by omega)).trans HXB
    exact ⟨box5 ka, box5 kb⟩
  have HSA : Hid (∀ y ∈ a.f4, sEntry y) := hsa
  have HSB : Hid (∀ y ∈ b.f4, sEntry y) := hsb
  have HRA : Hid (RowR w (.slice pa a.f4.length ca) a.f4.length 2 (rEntry a.f4)) := hra
  have HRB : Hid (RowR w (.slice pb b.f4.length cb) b.f4.length 2 (rEntry b.f4)) := hrb
  have HNA : Hid (a.f4.length ≤ 1048576) := hna
  have HNB : Hid (b.f4.length ≤ 1048576) := hnb
  have hna' : (a.f4.length : Int) ≤ 1048576 := by omega
  have hnb' : (b.f4.length : Int) ≤ 1048576 := by omega
  clear hsa hsb hra hrb hW0 HXA HXB
  obtain ⟨⟨oka, okb, q2, q3⟩, qf⟩ := hok
  have HA2 : Hid (0 ≤ a.f2 ∧ a.f2 ≤ 100000) := okW_base oka
  have n2 : (a.f2 != b.f2) = false := by simpa using q2
  have n3 : (a.f3 != b.f3) = false := by simpa using q3
  have HQ0 : Hid (Below (w.heap.size + 2) W0 W0) := Below.refl _ _
  have HOKA : Hid (okW a) := oka
  have HOKB : Hid (okW b) := okb
  have HOA : Hid (decide (okW a) = true) := decide_eq_true oka
  have HOBk : Hid (decide (okW b) = true) := decide_eq_true okb
  have HQF : Hid (sameH a b ∨ fitH a b) := qf
  clear oka okb q2 q3 qf hna hnb
  obtain ⟨⟨d0, d1, d2, d3, d4⟩, ⟨e0, e1, e2, e3, e4⟩⟩ := HX.out W0 HQ0.out
  go_enter Try.func18, Try.ntmps18
  go_wp2_with fail
  rw [HW0.out]
  refine (implWalOk_c a pa ca W0 HNA.out HSA.out (RowR.keep HRA.out (HB0.out.trans (HQ0.out.mono (by omega))) (Nat.le_refl _))).mono ?_
  rintro e w1 ⟨rfl, b1⟩
  have HQ1 : Hid (Below (w.heap.size + 2) W0 w1) := HQ0.out.trans (b1.mono (by have := HZ0.out; have := HQ0.out.size; omega))
  clear b1
  rw [HOA.out]
  clear d0 d1 d2 d3 d4 e0 e1 e2 e3 e4
  obtain ⟨⟨d0, d1, d2, d3, d4⟩, ⟨e0, e1, e2, e3, e4⟩⟩ := HX.out w1 HQ1.out
  go_wp2_with fail
  refine (implWalOk_c b pb cb w1 HNB.out HSB.out (RowR.keep HRB.out (HB0.out.trans (HQ1.out.mono (by omega))) (Nat.le_refl _))).mono ?_
  rintro e w2 ⟨rfl, b2⟩
  have HQ2 : Hid (Below (w.heap.size + 2) W0 w2) := HQ1.out.trans (b2.mono (by have := HZ0.out; have := HQ1.out.size; omega))
  clear b2
  rw [HOBk.out]
  clear d0 d1 d2 d3 d4 e0 e1 e2 e3 e4
  obtain ⟨⟨d0, d1, d2, d3, d4⟩, ⟨e0, e1, e2, e3, e4⟩⟩ := HX.out w2 HQ2.out
  by_cases hs : sameH a b
  · have m0 : (a.f0 != b.f0) = false := by simpa using hs.1
    have m1 : (a.f1 != b.f1) = false := by simpa using hs.2
    have HC0 : Hid (ch0 a b = []) := by show _ = _; unfold ch0; rw [if_pos hs]
    have HO5 : Hid (w2.ownsRow (w.heap.size + 2) 79 1 (.slice none 0 0) (ch0 a b).length ((ch0 a b).map recV)) := by rw [HC0.out]; exact World.ownsRow_nil _ _ _ _
    have HQ5 : Hid (Below (w.heap.size + 2) W0 w2) := HQ2.out
    clear hs HC0
    go_wp2_with fail
    refine (alike_c a.f4 b.f4 pa pb ca cb w2 HNA.out HNB.out (RowR.keep HRA.out (HB0.out.trans (HQ5.out.mono (by omega))) (Nat.le_refl _)) (RowR.keep HRB.out (HB0.out.trans (HQ5.out.mono (by omega))) (Nat.le_refl _))).mono ?_
    rintro e w6 ⟨rfl, b6⟩
    have HO6 : Hid (w6.ownsRow (w.heap.size + 2) 79 1 (.slice none 0 0) (ch0 a b).length ((ch0 a b).map recV)) := own_bel HO5.out b6 (Nat.le_refl _)
    have HQ6 : Hid (Below (w.heap.size + 2) W0 w6) := HQ5.out.trans (b6.mono (by have := HQ5.out.size; have := HZ0.out; omega))
    clear b6 d0 d1 d2 d3 d4 e0 e1 e2 e3 e4
    obtain ⟨k, hk⟩ : ∃ k, k = al a.f4 b.f4 := ⟨_, rfl⟩
    rw [← hk]
    have HKE : Hid (k = al a.f4 b.f4) := hk
    have hka : k ≤ a.f4.length := by rw [hk]; exact (al_le _ _).1
    clear hk
    obtain ⟨⟨d0, d1, d2, d3, d4⟩, ⟨e0, e1, e2, e3, e4⟩⟩ := HX.out w6 HQ6.out
    by_cases hc : k < a.f4.length
    · have HC1 : Hid (ch1 a b = ch0 a b ++ [ctR a k]) := by show _ = _; unfold ch1; rw [if_pos (by rw [← HKE.out]; exact hc), ← HKE.out]
      have hlt : (k : Int) < a.f4.length := by omega
      obtain ⟨ha0, ha1⟩ := HA2.out
      have hN' : w.heap.size + 2 ≤ w6.heap.size := by have := HQ6.out.size; have := HZ0.out; omega
      have hL0 := ch0_len a b
      have wr1 : IntKind.i64.wrap (a.f2 + (k : Int)) = a.f2 + (k : Int) := IntWalk.i64_in _ (by omega)
      have wr2 : IntKind.i64.wrap (a.f2 + (k : Int) + 1) = a.f2 + (k : Int) + 1 := IntWalk.i64_in _ (by omega)
      clear hc hka
      go_wp2_with (at_builtin; refine wpList_append_own _ rfl _ _ 71 rfl (w.heap.size + 2) 79 iT .nilIface 1 16 Try.underlying71 hiT hT0 hT1 hT2 rfl (by decide) _ _ _ rfl (HO6.out.alloc _) ⟨w6.heap.size, 0, none⟩ 1 1 [.iface 76 (.agg #[.int .i64 (a.f2 + (k : Int) + 1)])] rfl rfl (cells_newW w6 _ _) (by intro u hu; simp at hu; subst hu; rfl) (by unfold maxLen; omega) (by omega) (by simp; omega) ?_)
      intro v7 w7 hown7 hgr7 _
      have HOC : Hid (w7.ownsRow (w.heap.size + 2) 79 1 v7 (ch1 a b).length ((ch1 a b).map recV)) := by
        rw [HC1.out, List.length_append, List.map_append]
        exact hown7
      have HQC : Hid (Below (w.heap.size + 2) W0 w7) := (HQ6.out.alloc (by omega) _).grown hgr7 (by simp; omega) (ownBlock_ge HO6.out)
      clear hown7 hgr7 hlt ha0 ha1 hN' hL0 wr1 wr2 HO6 HQ6 HC1 d0 d1 d2 d3 d4 e0 e1 e2 e3 e4
      obtain ⟨⟨d0, d1, d2, d3, d4⟩, ⟨e0, e1, e2, e3, e4⟩⟩ := HX.out w7 HQC.out
      go_wp2_with fail
      have HKB : Hid (k ≤ b.f4.length) := by show _ ≤ _; rw [HKE.out]; exact (al_le _ _).2
      refine Calls.mono (entryRecs_c b pb cb k w7 HOKB.out HKB.out HNB.out HSB.out (RowR.keep HRB.out (HB0.out.trans (HQC.out.mono (by omega))) (Nat.le_refl _))) ?_
      rintro e w8 ⟨ve, rfl, hown8, b8⟩
      have HO8 : Hid (w8.ownsRow (w.heap.size + 2) 79 1 v7 (ch1 a b).length ((ch1 a b).map recV)) := own_bel HOC.out b8 (Nat.le_refl _)
      have HQ8 : Hid (Below (w.heap.size + 2) W0 w8) := HQC.out.trans (b8.mono (by have := HQC.out.size; have := HZ0.out; omega))
      obtain ⟨v9, w9, hrun9, hown9, hgr9⟩ := app_rows w8 (w.heap.size + 2) _ (ch1 a b).length (b.f4.length - k) v7 ve _ _ HO8.out hown8 (fun u hu => by obtain ⟨r, _, rfl⟩ := List.mem_map.1 hu; exact recV_oneC r) (by have := ch1_len a b; omega) (by have := HNB.out; omega) (by have := HQ8.out.size; have := HZ0.out; omega)
      obtain ⟨R, hR⟩ : ∃ R, chL a b = R := ⟨_, rfl⟩
      have HRK : Hid (∀ r ∈ R, okR r) := by rw [← hR]; exact chL_ok HOKA.out HOKB.out
      have HRL : Hid (R.length ≤ 1048600) := by show _ ≤ _; rw [← hR]; have := chP_len a b (b.f4.length - al a.f4 b.f4); have := HNB.out; unfold chL; omega
      have HOR : Hid (w9.ownsRow (w.heap.size + 2) 79 1 v9 (R).length ((R).map recV)) := by
        rw [← hR]
        unfold chL chP
        rw [List.length_append, List.map_append, recP_len, ← HKE.out]
        exact hown9
      have HQ9 : Hid (Below (w.heap.size + 2) W0 w9) := HQ8.out.grown hgr9 (by have := HQ8.out.size; have := HZ0.out; omega) (ownBlock_ge HO8.out)
      have HRE : Hid (chL a b = R) := hR
      obtain ⟨pr, cr, hv9, hpr⟩ := own_shape HOR.out
      subst hv9
      clear hown8 b8 hown9 hgr9 hR HO8 HQ8 HKE d0 d1 d2 d3 d4 e0 e1 e2 e3 e4
      have hrl : (R.length : Int) ≤ 1048600 := by have := HRL.out; omega
      go_wp2_with (at_builtin; refine wpList_append_toC rfl _ _ 71 rfl _ _ rfl rfl _ _ hrun9 ?_)
      clear hrun9
      go_loopw [9, 87] (fun ov iv wr => ∃ j : Nat, j ≤ R.length ∧ iv = .int .i64 (j : Int) ∧ Hid (wr.ownsRow w9.heap.size 44 5 ov (R.take j).length (rRec (R.take j))) ∧ Hid (Below w9.heap.size w9 wr)) (fun _ iv _ => R.length - (intOf iv).toNat)
      case atStart => exact ⟨0, Nat.zero_le _, rfl, ⟨rfl, .inl ⟨rfl, rfl⟩⟩, Below.refl _ _⟩
      case round =>
        obtain ⟨j, hj, rfl, HO, HBr⟩ := hrel
        by_cases hlt : j < R.length
        · have hlt' : (j : Int) < R.length := by omega
          obtain ⟨g, rfl⟩ := hpr (by omega)
          have HTJ : Hid (R.take (j + 1) = R.take j ++ [R[j]]) := List.take_succ_eq_append_getElem hlt
          have HLJ : Hid ((R.take j).length = j) := by show _ = _; rw [List.length_take]; omega
          have HOW : Hid (wr.ownsRow (w.heap.size + 2) 79 1 (.slice (some ⟨g, 0, none⟩) R.length cr) (R).length ((R).map recV)) := own_bel HOR.out HBr.out (Nat.le_refl _)
          have c0 : wr.cell? ⟨g, j, none⟩ = some (recV R[j]) := by
            rw [HOW.out.cellAt j (by omega), List.getElem?_map, List.getElem?_eq_getElem hlt]
            rfl
          have HK : Hid (okR R[j]) := HRK.out _ (List.getElem_mem hlt)
          generalize R[j] = r at c0 HK HTJ
          generalize R.take j = L at HO HTJ HLJ
          go_wp2_with fail
          refine (tellOkC_c r wr HK.out).mono ?_
          rintro e w10 ⟨rfl, b10⟩
          have HO10 : Hid (w10.ownsRow w9.heap.size 44 5 u9 L.length (rRec L)) := own_bel HO.out b10 (Nat.le_refl _)
          have HB10 : Hid (Below w9.heap.size w9 w10) := HBr.out.trans (b10.mono HBr.out.size)
          have hsz10 : w9.heap.size ≤ w10.heap.size := HB10.out.size
          have hll : L.length ≤ 1048600 := by have := HLJ.out; have := HRL.out; omega
          clear b10 c0
          go_wp2_with (at_builtin; refine wpList_append_own _ rfl _ _ 38 rfl w9.heap.size 44 iR (.agg #[.int .i64 0, .int .i64 0, .int .i64 0, .int .i64 0, .string ⟨#[]⟩]) 5 48 Try.underlying38 hiR hR0 hR1 hR2 rfl (by decide) _ _ _ rfl (HO10.out.alloc _) ⟨w10.heap.size, 0, none⟩ 1 1 [.int .i64 r.f0, .int .i64 r.f1, .int .i64 r.f2, .int .i64 r.f3, .string r.f4] rfl rfl (cells_newW w10 _ _) (by intro u hu; simp only [List.mem_cons, List.not_mem_nil, or_false] at hu; rcases hu with rfl | rfl | rfl | rfl | rfl <;> rfl) (by unfold maxLen; omega) (by omega) (by simp; omega) ?_)
          intro v11 w11 hown11 hgr11 _
          have HOE := hideW <| own_snocRec (r := r) hown11
          have HBE : Hid (Below w9.heap.size w9 w11) := (HB10.out.alloc hsz10 _).grown hgr11 (by simp; omega) (ownBlock_ge HO10.out)
          clear hown11 hgr11 hsz10 hll
          go_wp2
          go_roundw
          case rel => exact ⟨j + 1, by omega, by go_num, by rw [HTJ.out]; exact HOE.out, HBE.out⟩
          case measure => simp [intOf]; omega
        · have hje : j = R.length := by omega
          subst hje
          have HOF : Hid (wr.ownsRow w9.heap.size 44 5 u9 R.length (rRec R)) := by have := HO.out; rw [List.take_length] at this; exact this
          go_wp2
          go_ret2
          rw [HRE.out]
          exact ⟨_, rfl, own_lowW HOF.out (by have := HQ9.out.size; have := HZ0.out; omega), HB0.out.trans ((HQ9.out.trans (HBr.out.mono (by have := HQ9.out.size; have := HZ0.out; omega))).mono (by omega))⟩
    · have HC1 : Hid (ch1 a b = ch0 a b) := by show _ = _; unfold ch1; rw [if_neg (by rw [← HKE.out]; omega), List.append_nil]
      have hnlt : ¬ (k : Int) < a.f4.length := by omega
      have HOC : Hid (w6.ownsRow (w.heap.size + 2) 79 1 (.slice none 0 0) (ch1 a b).length ((ch1 a b).map recV)) := by rw [HC1.out]; exact HO6.out
      have HQC : Hid (Below (w.heap.size + 2) W0 w6) := HQ6.out
      clear hc hka HC1 HO6 HQ6
      go_wp2_with fail
      have HKB : Hid (k ≤ b.f4.length) := by show _ ≤ _; rw [HKE.out]; exact (al_le _ _).2
      refine Calls.mono (entryRecs_c b pb cb k w6 HOKB.out HKB.out HNB.out HSB.out (RowR.keep HRB.out (HB0.out.trans (HQC.out.mono (by omega))) (Nat.le_refl _))) ?_
      rintro e w8 ⟨ve, rfl, hown8, b8⟩
      have HO8 : Hid (w8.ownsRow (w.heap.size + 2) 79 1 (.slice none 0 0) (ch1 a b).length ((ch1 a b).map recV)) := own_bel HOC.out b8 (Nat.le_refl _)
      have HQ8 : Hid (Below (w.heap.size + 2) W0 w8) := HQC.out.trans (b8.mono (by have := HQC.out.size; have := HZ0.out; omega))
      obtain ⟨v9, w9, hrun9, hown9, hgr9⟩ := app_rows w8 (w.heap.size + 2) _ (ch1 a b).length (b.f4.length - k) (.slice none 0 0) ve _ _ HO8.out hown8 (fun u hu => by obtain ⟨r, _, rfl⟩ := List.mem_map.1 hu; exact recV_oneC r) (by have := ch1_len a b; omega) (by have := HNB.out; omega) (by have := HQ8.out.size; have := HZ0.out; omega)
      obtain ⟨R, hR⟩ : ∃ R, chL a b = R := ⟨_, rfl⟩
      have HRK : Hid (∀ r ∈ R, okR r) := by rw [← hR]; exact chL_ok HOKA.out HOKB.out
      have HRL : Hid (R.length ≤ 1048600) := by show _ ≤ _; rw [← hR]; have := chP_len a b (b.f4.length - al a.f4 b.f4); have := HNB.out; unfold chL; omega
      have HOR : Hid (w9.ownsRow (w.heap.size + 2) 79 1 v9 (R).length ((R).map recV)) := by
        rw [← hR]
        unfold chL chP
        rw [List.length_append, List.map_append, recP_len, ← HKE.out]
        exact hown9
      have HQ9 : Hid (Below (w.heap.size + 2) W0 w9) := HQ8.out.grown hgr9 (by have := HQ8.out.size; have := HZ0.out; omega) (ownBlock_ge HO8.out)
      have HRE : Hid (chL a b = R) := hR
      obtain ⟨pr, cr, hv9, hpr⟩ := own_shape HOR.out
      subst hv9
      clear hown8 b8 hown9 hgr9 hR HO8 HQ8 HKE d0 d1 d2 d3 d4 e0 e1 e2 e3 e4
      have hrl : (R.length : Int) ≤ 1048600 := by have := HRL.out; omega
      go_wp2_with (at_builtin; refine wpList_append_toC rfl _ _ 71 rfl _ _ rfl rfl _ _ hrun9 ?_)
      clear hrun9
      go_loopw [9, 87] (fun ov iv wr => ∃ j : Nat, j ≤ R.length ∧ iv = .int .i64 (j : Int) ∧ Hid (wr.ownsRow w9.heap.size 44 5 ov (R.take j).length (rRec (R.take j))) ∧ Hid (Below w9.heap.size w9 wr)) (fun _ iv _ => R.length - (intOf iv).toNat)
      case atStart => exact ⟨0, Nat.zero_le _, rfl, ⟨rfl, .inl ⟨rfl, rfl⟩⟩, Below.refl _ _⟩
      case round =>
        obtain ⟨j, hj, rfl, HO, HBr⟩ := hrel
        by_cases hlt : j < R.length
        · have hlt' : (j : Int) < R.length := by omega
          obtain ⟨g, rfl⟩ := hpr (by omega)
          have HTJ : Hid (R.take (j + 1) = R.take j ++ [R[j]]) := List.take_succ_eq_append_getElem hlt
          have HLJ : Hid ((R.take j).length = j) := by show _ = _; rw [List.length_take]; omega
          have HOW : Hid (wr.ownsRow (w.heap.size + 2) 79 1 (.slice (some ⟨g, 0, none⟩) R.length cr) (R).length ((R).map recV)) := own_bel HOR.out HBr.out (Nat.le_refl _)
          have c0 : wr.cell? ⟨g, j, none⟩ = some (recV R[j]) := by
            rw [HOW.out.cellAt j (by omega), List.getElem?_map, List.getElem?_eq_getElem hlt]
            rfl
          have HK : Hid (okR R[j]) := HRK.out _ (List.getElem_mem hlt)
          generalize R[j] = r at c0 HK HTJ
          generalize R.take j = L at HO HTJ HLJ
          go_wp2_with fail
          refine (tellOkC_c r wr HK.out).mono ?_
          rintro e w10 ⟨rfl, b10⟩
          have HO10 : Hid (w10.ownsRow w9.heap.size 44 5 u9 L.length (rRec L)) := own_bel HO.out b10 (Nat.le_refl _)
          have HB10 : Hid (Below w9.heap.size w9 w10) := HBr.out.trans (b10.mono HBr.out.size)
          have hsz10 : w9.heap.size ≤ w10.heap.size := HB10.out.size
          have hll : L.length ≤ 1048600 := by have := HLJ.out; have := HRL.out; omega
          clear b10 c0
          go_wp2_with (at_builtin; refine wpList_append_own _ rfl _ _ 38 rfl w9.heap.size 44 iR (.agg #[.int .i64 0, .int .i64 0, .int .i64 0, .int .i64 0, .string ⟨#[]⟩]) 5 48 Try.underlying38 hiR hR0 hR1 hR2 rfl (by decide) _ _ _ rfl (HO10.out.alloc _) ⟨w10.heap.size, 0, none⟩ 1 1 [.int .i64 r.f0, .int .i64 r.f1, .int .i64 r.f2, .int .i64 r.f3, .string r.f4] rfl rfl (cells_newW w10 _ _) (by intro u hu; simp only [List.mem_cons, List.not_mem_nil, or_false] at hu; rcases hu with rfl | rfl | rfl | rfl | rfl <;> rfl) (by unfold maxLen; omega) (by omega) (by simp; omega) ?_)
          intro v11 w11 hown11 hgr11 _
          have HOE := hideW <| own_snocRec (r := r) hown11
          have HBE : Hid (Below w9.heap.size w9 w11) := (HB10.out.alloc hsz10 _).grown hgr11 (by simp; omega) (ownBlock_ge HO10.out)
          clear hown11 hgr11 hsz10 hll
          go_wp2
          go_roundw
          case rel => exact ⟨j + 1, by omega, by go_num, by rw [HTJ.out]; exact HOE.out, HBE.out⟩
          case measure => simp [intOf]; omega
        · have hje : j = R.length := by omega
          subst hje
          have HOF : Hid (wr.ownsRow w9.heap.size 44 5 u9 R.length (rRec R)) := by have := HO.out; rw [List.take_length] at this; exact this
          go_wp2
          go_ret2
          rw [HRE.out]
          exact ⟨_, rfl, own_lowW HOF.out (by have := HQ9.out.size; have := HZ0.out; omega), HB0.out.trans ((HQ9.out.trans (HBr.out.mono (by have := HQ9.out.size; have := HZ0.out; omega))).mono (by omega))⟩
  by_cases hm : a.f0 = b.f0
  · have m0 : (a.f0 != b.f0) = false := by simpa using hm
    have m1 : (a.f1 != b.f1) = true := by simpa using fun h => hs ⟨hm, h⟩
    clear hm
    have HC0 : Hid (ch0 a b = [hdRec b]) := by show _ = _; unfold ch0; rw [if_neg hs]
    have HFT : Hid (decide (fitH a b) = true) := decide_eq_true (HQF.out.resolve_left hs)
    obtain ⟨W3, hW3⟩ : ∃ W, W = w2.alloc (.cells #[.int .i64 b.f0, .int .i64 b.f1] 73) := ⟨_, rfl⟩
    have HW3 : Hid (w2.alloc (.cells #[.int .i64 b.f0, .int .i64 b.f1] 73) = W3) := hW3.symm
    have hn2 : w.heap.size + 2 ≤ w2.heap.size := by have := HQ2.out.size; have := HZ0.out; omega
    have HX3 : Hid (W3.heap[w2.heap.size]? = some (.cells #[.int .i64 b.f0, .int .i64 b.f1] 73)) := by rw [hW3]; exact alloc_last _ _
    have HQ3 : Hid (Below (w.heap.size + 2) W0 W3) := by rw [hW3]; exact HQ2.out.alloc (by omega) _
    have nx : w.heap.size ≠ w2.heap.size := by omega
    have lx : w.heap.size < w2.heap.size := by omega
    clear hs hW3
    go_wp2_with fail
    rw [HW3.out]
    refine (implFits_c a b pa ca W3 HNA.out HA2.out).mono ?_
    rintro e w4 ⟨rfl, b4⟩
    have HX4 : Hid (w4.heap[w2.heap.size]? = some (.cells #[.int .i64 b.f0, .int .i64 b.f1] 73)) := (b4.block _ (lt_of_some HX3.out)).trans HX3.out
    have HQ4 : Hid (Below (w.heap.size + 2) W0 w4) := HQ3.out.trans (b4.mono (by have := HQ3.out.size; have := HZ0.out; omega))
    clear b4 nx lx m1 m0 n2 n3 d0 d1 d2 d3 d4 e0 e1 e2 e3 e4
    rw [HFT.out]
    obtain ⟨f0, f1⟩ := box2C HX4.out
    have hN4 : w.heap.size + 2 ≤ w4.heap.size := by have := HQ4.out.size; have := HZ0.out; omega
    go_wp2_with (at_builtin; refine wpList_append_own _ rfl _ _ 71 rfl (w.heap.size + 2) 79 iT .nilIface 1 16 Try.underlying71 hiT hT0 hT1 hT2 rfl (by decide) _ _ _ rfl (World.ownsRow_nil _ (w.heap.size + 2) 79 1) ⟨w4.heap.size, 0, none⟩ 1 1 [.iface 73 (.agg #[.int .i64 b.f0, .int .i64 b.f1])] rfl rfl (cells_newW w4 _ _) (by intro u hu; simp at hu; subst hu; rfl) (by decide) (by decide) (by simp; omega) ?_)
    intro u6 w5 hown5 hgr5 _
    have HO5 : Hid (w5.ownsRow (w.heap.size + 2) 79 1 u6 (ch0 a b).length ((ch0 a b).map recV)) := by rw [HC0.out]; exact hown5
    have HQ5 : Hid (Below (w.heap.size + 2) W0 w5) := (HQ4.out.alloc (by omega) _).grown hgr5 (by simp; omega) (fun k hk => by simp [Value.ownBlock] at hk)
    clear hown5 hgr5 f0 f1 hn2 hN4 HX3 HX4 HW3
    obtain ⟨⟨d0, d1, d2, d3, d4⟩, ⟨e0, e1, e2, e3, e4⟩⟩ := HX.out w5 HQ5.out
    go_wp2_with fail
    refine (alike_c a.f4 b.f4 pa pb ca cb w5 HNA.out HNB.out (RowR.keep HRA.out (HB0.out.trans (HQ5.out.mono (by omega))) (Nat.le_refl _)) (RowR.keep HRB.out (HB0.out.trans (HQ5.out.mono (by omega))) (Nat.le_refl _))).mono ?_
    rintro e w6 ⟨rfl, b6⟩
    have HO6 : Hid (w6.ownsRow (w.heap.size + 2) 79 1 u6 (ch0 a b).length ((ch0 a b).map recV)) := own_bel HO5.out b6 (Nat.le_refl _)
    have HQ6 : Hid (Below (w.heap.size + 2) W0 w6) := HQ5.out.trans (b6.mono (by have := HQ5.out.size; have := HZ0.out; omega))
    clear b6 d0 d1 d2 d3 d4 e0 e1 e2 e3 e4
    obtain ⟨k, hk⟩ : ∃ k, k = al a.f4 b.f4 := ⟨_, rfl⟩
    rw [← hk]
    have HKE : Hid (k = al a.f4 b.f4) := hk
    have hka : k ≤ a.f4.length := by rw [hk]; exact (al_le _ _).1
    clear hk
    obtain ⟨⟨d0, d1, d2, d3, d4⟩, ⟨e0, e1, e2, e3, e4⟩⟩ := HX.out w6 HQ6.out
    by_cases hc : k < a.f4.length
    · have HC1 : Hid (ch1 a b = ch0 a b ++ [ctR a k]) := by show _ = _; unfold ch1; rw [if_pos (by rw [← HKE.out]; exact hc), ← HKE.out]
      have hlt : (k : Int) < a.f4.length := by omega
      obtain ⟨ha0, ha1⟩ := HA2.out
      have hN' : w.heap.size + 2 ≤ w6.heap.size := by have := HQ6.out.size; have := HZ0.out; omega
      have hL0 := ch0_len a b
      have wr1 : IntKind.i64.wrap (a.f2 + (k : Int)) = a.f2 + (k : Int) := IntWalk.i64_in _ (by omega)
      have wr2 : IntKind.i64.wrap (a.f2 + (k : Int) + 1) = a.f2 + (k : Int) + 1 := IntWalk.i64_in _ (by omega)
      clear hc hka
      go_wp2_with (at_builtin; refine wpList_append_own _ rfl _ _ 71 rfl (w.heap.size + 2) 79 iT .nilIface 1 16 Try.underlying71 hiT hT0 hT1 hT2 rfl (by decide) _ _ _ rfl (HO6.out.alloc _) ⟨w6.heap.size, 0, none⟩ 1 1 [.iface 76 (.agg #[.int .i64 (a.f2 + (k : Int) + 1)])] rfl rfl (cells_newW w6 _ _) (by intro u hu; simp at hu; subst hu; rfl) (by unfold maxLen; omega) (by omega) (by simp; omega) ?_)
      intro v7 w7 hown7 hgr7 _
      have HOC : Hid (w7.ownsRow (w.heap.size + 2) 79 1 v7 (ch1 a b).length ((ch1 a b).map recV)) := by
        rw [HC1.out, List.length_append, List.map_append]
        exact hown7
      have HQC : Hid (Below (w.heap.size + 2) W0 w7) := (HQ6.out.alloc (by omega) _).grown hgr7 (by simp; omega) (ownBlock_ge HO6.out)
      clear hown7 hgr7 hlt ha0 ha1 hN' hL0 wr1 wr2 HO6 HQ6 HC1 d0 d1 d2 d3 d4 e0 e1 e2 e3 e4
      obtain ⟨⟨d0, d1, d2, d3, d4⟩, ⟨e0, e1, e2, e3, e4⟩⟩ := HX.out w7 HQC.out
      go_wp2_with fail
      have HKB : Hid (k ≤ b.f4.length) := by show _ ≤ _; rw [HKE.out]; exact (al_le _ _).2
      refine Calls.mono (entryRecs_c b pb cb k w7 HOKB.out HKB.out HNB.out HSB.out (RowR.keep HRB.out (HB0.out.trans (HQC.out.mono (by omega))) (Nat.le_refl _))) ?_
      rintro e w8 ⟨ve, rfl, hown8, b8⟩
      have HO8 : Hid (w8.ownsRow (w.heap.size + 2) 79 1 v7 (ch1 a b).length ((ch1 a b).map recV)) := own_bel HOC.out b8 (Nat.le_refl _)
      have HQ8 : Hid (Below (w.heap.size + 2) W0 w8) := HQC.out.trans (b8.mono (by have := HQC.out.size; have := HZ0.out; omega))
      obtain ⟨v9, w9, hrun9, hown9, hgr9⟩ := app_rows w8 (w.heap.size + 2) _ (ch1 a b).length (b.f4.length - k) v7 ve _ _ HO8.out hown8 (fun u hu => by obtain ⟨r, _, rfl⟩ := List.mem_map.1 hu; exact recV_oneC r) (by have := ch1_len a b; omega) (by have := HNB.out; omega) (by have := HQ8.out.size; have := HZ0.out; omega)
      obtain ⟨R, hR⟩ : ∃ R, chL a b = R := ⟨_, rfl⟩
      have HRK : Hid (∀ r ∈ R, okR r) := by rw [← hR]; exact chL_ok HOKA.out HOKB.out
      have HRL : Hid (R.length ≤ 1048600) := by show _ ≤ _; rw [← hR]; have := chP_len a b (b.f4.length - al a.f4 b.f4); have := HNB.out; unfold chL; omega
      have HOR : Hid (w9.ownsRow (w.heap.size + 2) 79 1 v9 (R).length ((R).map recV)) := by
        rw [← hR]
        unfold chL chP
        rw [List.length_append, List.map_append, recP_len, ← HKE.out]
        exact hown9
      have HQ9 : Hid (Below (w.heap.size + 2) W0 w9) := HQ8.out.grown hgr9 (by have := HQ8.out.size; have := HZ0.out; omega) (ownBlock_ge HO8.out)
      have HRE : Hid (chL a b = R) := hR
      obtain ⟨pr, cr, hv9, hpr⟩ := own_shape HOR.out
      subst hv9
      clear hown8 b8 hown9 hgr9 hR HO8 HQ8 HKE d0 d1 d2 d3 d4 e0 e1 e2 e3 e4
      have hrl : (R.length : Int) ≤ 1048600 := by have := HRL.out; omega
      go_wp2_with (at_builtin; refine wpList_append_toC rfl _ _ 71 rfl _ _ rfl rfl _ _ hrun9 ?_)
      clear hrun9
      go_loopw [9, 87] (fun ov iv wr => ∃ j : Nat, j ≤ R.length ∧ iv = .int .i64 (j : Int) ∧ Hid (wr.ownsRow w9.heap.size 44 5 ov (R.take j).length (rRec (R.take j))) ∧ Hid (Below w9.heap.size w9 wr)) (fun _ iv _ => R.length - (intOf iv).toNat)
      case atStart => exact ⟨0, Nat.zero_le _, rfl, ⟨rfl, .inl ⟨rfl, rfl⟩⟩, Below.refl _ _⟩
      case round =>
        obtain ⟨j, hj, rfl, HO, HBr⟩ := hrel
        by_cases hlt : j < R.length
        · have hlt' : (j : Int) < R.length := by omega
          obtain ⟨g, rfl⟩ := hpr (by omega)
          have HTJ : Hid (R.take (j + 1) = R.take j ++ [R[j]]) := List.take_succ_eq_append_getElem hlt
          have HLJ : Hid ((R.take j).length = j) := by show _ = _; rw [List.length_take]; omega
          have HOW : Hid (wr.ownsRow (w.heap.size + 2) 79 1 (.slice (some ⟨g, 0, none⟩) R.length cr) (R).length ((R).map recV)) := own_bel HOR.out HBr.out (Nat.le_refl _)
          have c0 : wr.cell? ⟨g, j, none⟩ = some (recV R[j]) := by
            rw [HOW.out.cellAt j (by omega), List.getElem?_map, List.getElem?_eq_getElem hlt]
            rfl
          have HK : Hid (okR R[j]) := HRK.out _ (List.getElem_mem hlt)
          generalize R[j] = r at c0 HK HTJ
          generalize R.take j = L at HO HTJ HLJ
          go_wp2_with fail
          refine (tellOkC_c r wr HK.out).mono ?_
          rintro e w10 ⟨rfl, b10⟩
          have HO10 : Hid (w10.ownsRow w9.heap.size 44 5 u9 L.length (rRec L)) := own_bel HO.out b10 (Nat.le_refl _)
          have HB10 : Hid (Below w9.heap.size w9 w10) := HBr.out.trans (b10.mono HBr.out.size)
          have hsz10 : w9.heap.size ≤ w10.heap.size := HB10.out.size
          have hll : L.length ≤ 1048600 := by have := HLJ.out; have := HRL.out; omega
          clear b10 c0
          go_wp2_with (at_builtin; refine wpList_append_own _ rfl _ _ 38 rfl w9.heap.size 44 iR (.agg #[.int .i64 0, .int .i64 0, .int .i64 0, .int .i64 0, .string ⟨#[]⟩]) 5 48 Try.underlying38 hiR hR0 hR1 hR2 rfl (by decide) _ _ _ rfl (HO10.out.alloc _) ⟨w10.heap.size, 0, none⟩ 1 1 [.int .i64 r.f0, .int .i64 r.f1, .int .i64 r.f2, .int .i64 r.f3, .string r.f4] rfl rfl (cells_newW w10 _ _) (by intro u hu; simp only [List.mem_cons, List.not_mem_nil, or_false] at hu; rcases hu with rfl | rfl | rfl | rfl | rfl <;> rfl) (by unfold maxLen; omega) (by omega) (by simp; omega) ?_)
          intro v11 w11 hown11 hgr11 _
          have HOE := hideW <| own_snocRec (r := r) hown11
          have HBE : Hid (Below w9.heap.size w9 w11) := (HB10.out.alloc hsz10 _).grown hgr11 (by simp; omega) (ownBlock_ge HO10.out)
          clear hown11 hgr11 hsz10 hll
          go_wp2
          go_roundw
          case rel => exact ⟨j + 1, by omega, by go_num, by rw [HTJ.out]; exact HOE.out, HBE.out⟩
          case measure => simp [intOf]; omega
        · have hje : j = R.length := by omega
          subst hje
          have HOF : Hid (wr.ownsRow w9.heap.size 44 5 u9 R.length (rRec R)) := by have := HO.out; rw [List.take_length] at this; exact this
          go_wp2
          go_ret2
          rw [HRE.out]
          exact ⟨_, rfl, own_lowW HOF.out (by have := HQ9.out.size; have := HZ0.out; omega), HB0.out.trans ((HQ9.out.trans (HBr.out.mono (by have := HQ9.out.size; have := HZ0.out; omega))).mono (by omega))⟩
    · have HC1 : Hid (ch1 a b = ch0 a b) := by show _ = _; unfold ch1; rw [if_neg (by rw [← HKE.out]; omega), List.append_nil]
      have hnlt : ¬ (k : Int) < a.f4.length := by omega
      have HOC : Hid (w6.ownsRow (w.heap.size + 2) 79 1 u6 (ch1 a b).length ((ch1 a b).map recV)) := by rw [HC1.out]; exact HO6.out
      have HQC : Hid (Below (w.heap.size + 2) W0 w6) := HQ6.out
      clear hc hka HC1 HO6 HQ6
      go_wp2_with fail
      have HKB : Hid (k ≤ b.f4.length) := by show _ ≤ _; rw [HKE.out]; exact (al_le _ _).2
      refine Calls.mono (entryRecs_c b pb cb k w6 HOKB.out HKB.out HNB.out HSB.out (RowR.keep HRB.out (HB0.out.trans (HQC.out.mono (by omega))) (Nat.le_refl _))) ?_
      rintro e w8 ⟨ve, rfl, hown8, b8⟩
      have HO8 : Hid (w8.ownsRow (w.heap.size + 2) 79 1 u6 (ch1 a b).length ((ch1 a b).map recV)) := own_bel HOC.out b8 (Nat.le_refl _)
      have HQ8 : Hid (Below (w.heap.size + 2) W0 w8) := HQC.out.trans (b8.mono (by have := HQC.out.size; have := HZ0.out; omega))
      obtain ⟨v9, w9, hrun9, hown9, hgr9⟩ := app_rows w8 (w.heap.size + 2) _ (ch1 a b).length (b.f4.length - k) u6 ve _ _ HO8.out hown8 (fun u hu => by obtain ⟨r, _, rfl⟩ := List.mem_map.1 hu; exact recV_oneC r) (by have := ch1_len a b; omega) (by have := HNB.out; omega) (by have := HQ8.out.size; have := HZ0.out; omega)
      obtain ⟨R, hR⟩ : ∃ R, chL a b = R := ⟨_, rfl⟩
      have HRK : Hid (∀ r ∈ R, okR r) := by rw [← hR]; exact chL_ok HOKA.out HOKB.out
      have HRL : Hid (R.length ≤ 1048600) := by show _ ≤ _; rw [← hR]; have := chP_len a b (b.f4.length - al a.f4 b.f4); have := HNB.out; unfold chL; omega
      have HOR : Hid (w9.ownsRow (w.heap.size + 2) 79 1 v9 (R).length ((R).map recV)) := by
        rw [← hR]
        unfold chL chP
        rw [List.length_append, List.map_append, recP_len, ← HKE.out]
        exact hown9
      have HQ9 : Hid (Below (w.heap.size + 2) W0 w9) := HQ8.out.grown hgr9 (by have := HQ8.out.size; have := HZ0.out; omega) (ownBlock_ge HO8.out)
      have HRE : Hid (chL a b = R) := hR
      obtain ⟨pr, cr, hv9, hpr⟩ := own_shape HOR.out
      subst hv9
      clear hown8 b8 hown9 hgr9 hR HO8 HQ8 HKE d0 d1 d2 d3 d4 e0 e1 e2 e3 e4
      have hrl : (R.length : Int) ≤ 1048600 := by have := HRL.out; omega
      go_wp2_with (at_builtin; refine wpList_append_toC rfl _ _ 71 rfl _ _ rfl rfl _ _ hrun9 ?_)
      clear hrun9
      go_loopw [9, 87] (fun ov iv wr => ∃ j : Nat, j ≤ R.length ∧ iv = .int .i64 (j : Int) ∧ Hid (wr.ownsRow w9.heap.size 44 5 ov (R.take j).length (rRec (R.take j))) ∧ Hid (Below w9.heap.size w9 wr)) (fun _ iv _ => R.length - (intOf iv).toNat)
      case atStart => exact ⟨0, Nat.zero_le _, rfl, ⟨rfl, .inl ⟨rfl, rfl⟩⟩, Below.refl _ _⟩
      case round =>
        obtain ⟨j, hj, rfl, HO, HBr⟩ := hrel
        by_cases hlt : j < R.length
        · have hlt' : (j : Int) < R.length := by omega
          obtain ⟨g, rfl⟩ := hpr (by omega)
          have HTJ : Hid (R.take (j + 1) = R.take j ++ [R[j]]) := List.take_succ_eq_append_getElem hlt
          have HLJ : Hid ((R.take j).length = j) := by show _ = _; rw [List.length_take]; omega
          have HOW : Hid (wr.ownsRow (w.heap.size + 2) 79 1 (.slice (some ⟨g, 0, none⟩) R.length cr) (R).length ((R).map recV)) := own_bel HOR.out HBr.out (Nat.le_refl _)
          have c0 : wr.cell? ⟨g, j, none⟩ = some (recV R[j]) := by
            rw [HOW.out.cellAt j (by omega), List.getElem?_map, List.getElem?_eq_getElem hlt]
            rfl
          have HK : Hid (okR R[j]) := HRK.out _ (List.getElem_mem hlt)
          generalize R[j] = r at c0 HK HTJ
          generalize R.take j = L at HO HTJ HLJ
          go_wp2_with fail
          refine (tellOkC_c r wr HK.out).mono ?_
          rintro e w10 ⟨rfl, b10⟩
          have HO10 : Hid (w10.ownsRow w9.heap.size 44 5 u9 L.length (rRec L)) := own_bel HO.out b10 (Nat.le_refl _)
          have HB10 : Hid (Below w9.heap.size w9 w10) := HBr.out.trans (b10.mono HBr.out.size)
          have hsz10 : w9.heap.size ≤ w10.heap.size := HB10.out.size
          have hll : L.length ≤ 1048600 := by have := HLJ.out; have := HRL.out; omega
          clear b10 c0
          go_wp2_with (at_builtin; refine wpList_append_own _ rfl _ _ 38 rfl w9.heap.size 44 iR (.agg #[.int .i64 0, .int .i64 0, .int .i64 0, .int .i64 0, .string ⟨#[]⟩]) 5 48 Try.underlying38 hiR hR0 hR1 hR2 rfl (by decide) _ _ _ rfl (HO10.out.alloc _) ⟨w10.heap.size, 0, none⟩ 1 1 [.int .i64 r.f0, .int .i64 r.f1, .int .i64 r.f2, .int .i64 r.f3, .string r.f4] rfl rfl (cells_newW w10 _ _) (by intro u hu; simp only [List.mem_cons, List.not_mem_nil, or_false] at hu; rcases hu with rfl | rfl | rfl | rfl | rfl <;> rfl) (by unfold maxLen; omega) (by omega) (by simp; omega) ?_)
          intro v11 w11 hown11 hgr11 _
          have HOE := hideW <| own_snocRec (r := r) hown11
          have HBE : Hid (Below w9.heap.size w9 w11) := (HB10.out.alloc hsz10 _).grown hgr11 (by simp; omega) (ownBlock_ge HO10.out)
          clear hown11 hgr11 hsz10 hll
          go_wp2
          go_roundw
          case rel => exact ⟨j + 1, by omega, by go_num, by rw [HTJ.out]; exact HOE.out, HBE.out⟩
          case measure => simp [intOf]; omega
        · have hje : j = R.length := by omega
          subst hje
          have HOF : Hid (wr.ownsRow w9.heap.size 44 5 u9 R.length (rRec R)) := by have := HO.out; rw [List.take_length] at this; exact this
          go_wp2
          go_ret2
          rw [HRE.out]
          exact ⟨_, rfl, own_lowW HOF.out (by have := HQ9.out.size; have := HZ0.out; omega), HB0.out.trans ((HQ9.out.trans (HBr.out.mono (by have := HQ9.out.size; have := HZ0.out; omega))).mono (by omega))⟩
  · have m0 : (a.f0 != b.f0) = true := by simpa using hm
    clear hm
    have HC0 : Hid (ch0 a b = [hdRec b]) := by show _ = _; unfold ch0; rw [if_neg hs]
    have HFT : Hid (decide (fitH a b) = true) := decide_eq_true (HQF.out.resolve_left hs)
    obtain ⟨W3, hW3⟩ : ∃ W, W = w2.alloc (.cells #[.int .i64 b.f0, .int .i64 b.f1] 73) := ⟨_, rfl⟩
    have HW3 : Hid (w2.alloc (.cells #[.int .i64 b.f0, .int .i64 b.f1] 73) = W3) := hW3.symm
    have hn2 : w.heap.size + 2 ≤ w2.heap.size := by have := HQ2.out.size; have := HZ0.out; omega
    have HX3 : Hid (W3.heap[w2.heap.size]? = some (.cells #[.int .i64 b.f0, .int .i64 b.f1] 73)) := by rw [hW3]; exact alloc_last _ _
    have HQ3 : Hid (Below (w.heap.size + 2) W0 W3) := by rw [hW3]; exact HQ2.out.alloc (by omega) _
    have nx : w.heap.size ≠ w2.heap.size := by omega
    have lx : w.heap.size < w2.heap.size := by omega
    clear hs hW3
    go_wp2_with fail
    rw [HW3.out]
    refine (implFits_c a b pa ca W3 HNA.out HA2.out).mono ?_
    rintro e w4 ⟨rfl, b4⟩
    have HX4 : Hid (w4.heap[w2.heap.size]? = some (.cells #[.int .i64 b.f0, .int .i64 b.f1] 73)) := (b4.block _ (lt_of_some HX3.out)).trans HX3.out
    have HQ4 : Hid (Below (w.heap.size + 2) W0 w4) := HQ3.out.trans (b4.mono (by have := HQ3.out.size; have := HZ0.out; omega))
    clear b4 nx lx m0 n2 n3 d0 d1 d2 d3 d4 e0 e1 e2 e3 e4
    rw [HFT.out]
    obtain ⟨f0, f1⟩ := box2C HX4.out
    have hN4 : w.heap.size + 2 ≤ w4.heap.size := by have := HQ4.out.size; have := HZ0.out; omega
    go_wp2_with (at_builtin; refine wpList_append_own _ rfl _ _ 71 rfl (w.heap.size + 2) 79 iT .nilIface 1 16 Try.underlying71 hiT hT0 hT1 hT2 rfl (by decide) _ _ _ rfl (World.ownsRow_nil _ (w.heap.size + 2) 79 1) ⟨w4.heap.size, 0, none⟩ 1 1 [.iface 73 (.agg #[.int .i64 b.f0, .int .i64 b.f1])] rfl rfl (cells_newW w4 _ _) (by intro u hu; simp at hu; subst hu; rfl) (by decide) (by decide) (by simp; omega) ?_)
    intro u6 w5 hown5 hgr5 _
    have HO5 : Hid (w5.ownsRow (w.heap.size + 2) 79 1 u6 (ch0 a b).length ((ch0 a b).map recV)) := by rw [HC0.out]; exact hown5
    have HQ5 : Hid (Below (w.heap.size + 2) W0 w5) := (HQ4.out.alloc (by omega) _).grown hgr5 (by simp; omega) (fun k hk => by simp [Value.ownBlock] at hk)
    clear hown5 hgr5 f0 f1 hn2 hN4 HX3 HX4 HW3
    obtain ⟨⟨d0, d1, d2, d3, d4⟩, ⟨e0, e1, e2, e3, e4⟩⟩ := HX.out w5 HQ5.out
    go_wp2_with fail
    refine (alike_c a.f4 b.f4 pa pb ca cb w5 HNA.out HNB.out (RowR.keep HRA.out (HB0.out.trans (HQ5.out.mono (by omega))) (Nat.le_refl _)) (RowR.keep HRB.out (HB0.out.trans (HQ5.out.mono (by omega))) (Nat.le_refl _))).mono ?_
    rintro e w6 ⟨rfl, b6⟩
    have HO6 : Hid (w6.ownsRow (w.heap.size + 2) 79 1 u6 (ch0 a b).length ((ch0 a b).map recV)) := own_bel HO5.out b6 (Nat.le_refl _)
    have HQ6 : Hid (Below (w.heap.size + 2) W0 w6) := HQ5.out.trans (b6.mono (by have := HQ5.out.size; have := HZ0.out; omega))
    clear b6 d0 d1 d2 d3 d4 e0 e1 e2 e3 e4
    obtain ⟨k, hk⟩ : ∃ k, k = al a.f4 b.f4 := ⟨_, rfl⟩
    rw [← hk]
    have HKE : Hid (k = al a.f4 b.f4) := hk
    have hka : k ≤ a.f4.length := by rw [hk]; exact (al_le _ _).1
    clear hk
    obtain ⟨⟨d0, d1, d2, d3, d4⟩, ⟨e0, e1, e2, e3, e4⟩⟩ := HX.out w6 HQ6.out
    by_cases hc : k < a.f4.length
    · have HC1 : Hid (ch1 a b = ch0 a b ++ [ctR a k]) := by show _ = _; unfold ch1; rw [if_pos (by rw [← HKE.out]; exact hc), ← HKE.out]
      have hlt : (k : Int) < a.f4.length := by omega
      obtain ⟨ha0, ha1⟩ := HA2.out
      have hN' : w.heap.size + 2 ≤ w6.heap.size := by have := HQ6.out.size; have := HZ0.out; omega
      have hL0 := ch0_len a b
      have wr1 : IntKind.i64.wrap (a.f2 + (k : Int)) = a.f2 + (k : Int) := IntWalk.i64_in _ (by omega)
      have wr2 : IntKind.i64.wrap (a.f2 + (k : Int) + 1) = a.f2 + (k : Int) + 1 := IntWalk.i64_in _ (by omega)
      clear hc hka
      go_wp2_with (at_builtin; refine wpList_append_own _ rfl _ _ 71 rfl (w.heap.size + 2) 79 iT .nilIface 1 16 Try.underlying71 hiT hT0 hT1 hT2 rfl (by decide) _ _ _ rfl (HO6.out.alloc _) ⟨w6.heap.size, 0, none⟩ 1 1 [.iface 76 (.agg #[.int .i64 (a.f2 + (k : Int) + 1)])] rfl rfl (cells_newW w6 _ _) (by intro u hu; simp at hu; subst hu; rfl) (by unfold maxLen; omega) (by omega) (by simp; omega) ?_)
      intro v7 w7 hown7 hgr7 _
      have HOC : Hid (w7.ownsRow (w.heap.size + 2) 79 1 v7 (ch1 a b).length ((ch1 a b).map recV)) := by
        rw [HC1.out, List.length_append, List.map_append]
        exact hown7
      have HQC : Hid (Below (w.heap.size + 2) W0 w7) := (HQ6.out.alloc (by omega) _).grown hgr7 (by simp; omega) (ownBlock_ge HO6.out)
      clear hown7 hgr7 hlt ha0 ha1 hN' hL0 wr1 wr2 HO6 HQ6 HC1 d0 d1 d2 d3 d4 e0 e1 e2 e3 e4
      obtain ⟨⟨d0, d1, d2, d3, d4⟩, ⟨e0, e1, e2, e3, e4⟩⟩ := HX.out w7 HQC.out
      go_wp2_with fail
      have HKB : Hid (k ≤ b.f4.length) := by show _ ≤ _; rw [HKE.out]; exact (al_le _ _).2
      refine Calls.mono (entryRecs_c b pb cb k w7 HOKB.out HKB.out HNB.out HSB.out (RowR.keep HRB.out (HB0.out.trans (HQC.out.mono (by omega))) (Nat.le_refl _))) ?_
      rintro e w8 ⟨ve, rfl, hown8, b8⟩
      have HO8 : Hid (w8.ownsRow (w.heap.size + 2) 79 1 v7 (ch1 a b).length ((ch1 a b).map recV)) := own_bel HOC.out b8 (Nat.le_refl _)
      have HQ8 : Hid (Below (w.heap.size + 2) W0 w8) := HQC.out.trans (b8.mono (by have := HQC.out.size; have := HZ0.out; omega))
      obtain ⟨v9, w9, hrun9, hown9, hgr9⟩ := app_rows w8 (w.heap.size + 2) _ (ch1 a b).length (b.f4.length - k) v7 ve _ _ HO8.out hown8 (fun u hu => by obtain ⟨r, _, rfl⟩ := List.mem_map.1 hu; exact recV_oneC r) (by have := ch1_len a b; omega) (by have := HNB.out; omega) (by have := HQ8.out.size; have := HZ0.out; omega)
      obtain ⟨R, hR⟩ : ∃ R, chL a b = R := ⟨_, rfl⟩
      have HRK : Hid (∀ r ∈ R, okR r) := by rw [← hR]; exact chL_ok HOKA.out HOKB.out
      have HRL : Hid (R.length ≤ 1048600) := by show _ ≤ _; rw [← hR]; have := chP_len a b (b.f4.length - al a.f4 b.f4); have := HNB.out; unfold chL; omega
      have HOR : Hid (w9.ownsRow (w.heap.size + 2) 79 1 v9 (R).length ((R).map recV)) := by
        rw [← hR]
        unfold chL chP
        rw [List.length_append, List.map_append, recP_len, ← HKE.out]
        exact hown9
      have HQ9 : Hid (Below (w.heap.size + 2) W0 w9) := HQ8.out.grown hgr9 (by have := HQ8.out.size; have := HZ0.out; omega) (ownBlock_ge HO8.out)
      have HRE : Hid (chL a b = R) := hR
      obtain ⟨pr, cr, hv9, hpr⟩ := own_shape HOR.out
      subst hv9
      clear hown8 b8 hown9 hgr9 hR HO8 HQ8 HKE d0 d1 d2 d3 d4 e0 e1 e2 e3 e4
      have hrl : (R.length : Int) ≤ 1048600 := by have := HRL.out; omega
      go_wp2_with (at_builtin; refine wpList_append_toC rfl _ _ 71 rfl _ _ rfl rfl _ _ hrun9 ?_)
      clear hrun9
      go_loopw [9, 87] (fun ov iv wr => ∃ j : Nat, j ≤ R.length ∧ iv = .int .i64 (j : Int) ∧ Hid (wr.ownsRow w9.heap.size 44 5 ov (R.take j).length (rRec (R.take j))) ∧ Hid (Below w9.heap.size w9 wr)) (fun _ iv _ => R.length - (intOf iv).toNat)
      case atStart => exact ⟨0, Nat.zero_le _, rfl, ⟨rfl, .inl ⟨rfl, rfl⟩⟩, Below.refl _ _⟩
      case round =>
        obtain ⟨j, hj, rfl, HO, HBr⟩ := hrel
        by_cases hlt : j < R.length
        · have hlt' : (j : Int) < R.length := by omega
          obtain ⟨g, rfl⟩ := hpr (by omega)
          have HTJ : Hid (R.take (j + 1) = R.take j ++ [R[j]]) := List.take_succ_eq_append_getElem hlt
          have HLJ : Hid ((R.take j).length = j) := by show _ = _; rw [List.length_take]; omega
          have HOW : Hid (wr.ownsRow (w.heap.size + 2) 79 1 (.slice (some ⟨g, 0, none⟩) R.length cr) (R).length ((R).map recV)) := own_bel HOR.out HBr.out (Nat.le_refl _)
          have c0 : wr.cell? ⟨g, j, none⟩ = some (recV R[j]) := by
            rw [HOW.out.cellAt j (by omega), List.getElem?_map, List.getElem?_eq_getElem hlt]
            rfl
          have HK : Hid (okR R[j]) := HRK.out _ (List.getElem_mem hlt)
          generalize R[j] = r at c0 HK HTJ
          generalize R.take j = L at HO HTJ HLJ
          go_wp2_with fail
          refine (tellOkC_c r wr HK.out).mono ?_
          rintro e w10 ⟨rfl, b10⟩
          have HO10 : Hid (w10.ownsRow w9.heap.size 44 5 u9 L.length (rRec L)) := own_bel HO.out b10 (Nat.le_refl _)
          have HB10 : Hid (Below w9.heap.size w9 w10) := HBr.out.trans (b10.mono HBr.out.size)
          have hsz10 : w9.heap.size ≤ w10.heap.size := HB10.out.size
          have hll : L.length ≤ 1048600 := by have := HLJ.out; have := HRL.out; omega
          clear b10 c0
          go_wp2_with (at_builtin; refine wpList_append_own _ rfl _ _ 38 rfl w9.heap.size 44 iR (.agg #[.int .i64 0, .int .i64 0, .int .i64 0, .int .i64 0, .string ⟨#[]⟩]) 5 48 Try.underlying38 hiR hR0 hR1 hR2 rfl (by decide) _ _ _ rfl (HO10.out.alloc _) ⟨w10.heap.size, 0, none⟩ 1 1 [.int .i64 r.f0, .int .i64 r.f1, .int .i64 r.f2, .int .i64 r.f3, .string r.f4] rfl rfl (cells_newW w10 _ _) (by intro u hu; simp only [List.mem_cons, List.not_mem_nil, or_false] at hu; rcases hu with rfl | rfl | rfl | rfl | rfl <;> rfl) (by unfold maxLen; omega) (by omega) (by simp; omega) ?_)
          intro v11 w11 hown11 hgr11 _
          have HOE := hideW <| own_snocRec (r := r) hown11
          have HBE : Hid (Below w9.heap.size w9 w11) := (HB10.out.alloc hsz10 _).grown hgr11 (by simp; omega) (ownBlock_ge HO10.out)
          clear hown11 hgr11 hsz10 hll
          go_wp2
          go_roundw
          case rel => exact ⟨j + 1, by omega, by go_num, by rw [HTJ.out]; exact HOE.out, HBE.out⟩
          case measure => simp [intOf]; omega
        · have hje : j = R.length := by omega
          subst hje
          have HOF : Hid (wr.ownsRow w9.heap.size 44 5 u9 R.length (rRec R)) := by have := HO.out; rw [List.take_length] at this; exact this
          go_wp2
          go_ret2
          rw [HRE.out]
          exact ⟨_, rfl, own_lowW HOF.out (by have := HQ9.out.size; have := HZ0.out; omega), HB0.out.trans ((HQ9.out.trans (HBr.out.mono (by have := HQ9.out.size; have := HZ0.out; omega))).mono (by omega))⟩
    · have HC1 : Hid (ch1 a b = ch0 a b) := by show _ = _; unfold ch1; rw [if_neg (by rw [← HKE.out]; omega), List.append_nil]
      have hnlt : ¬ (k : Int) < a.f4.length := by omega
      have HOC : Hid (w6.ownsRow (w.heap.size + 2) 79 1 u6 (ch1 a b).length ((ch1 a b).map recV)) := by rw [HC1.out]; exact HO6.out
      have HQC : Hid (Below (w.heap.size + 2) W0 w6) := HQ6.out
      clear hc hka HC1 HO6 HQ6
      go_wp2_with fail
      have HKB : Hid (k ≤ b.f4.length) := by show _ ≤ _; rw [HKE.out]; exact (al_le _ _).2
      refine Calls.mono (entryRecs_c b pb cb k w6 HOKB.out HKB.out HNB.out HSB.out (RowR.keep HRB.out (HB0.out.trans (HQC.out.mono (by omega))) (Nat.le_refl _))) ?_
      rintro e w8 ⟨ve, rfl, hown8, b8⟩
      have HO8 : Hid (w8.ownsRow (w.heap.size + 2) 79 1 u6 (ch1 a b).length ((ch1 a b).map recV)) := own_bel HOC.out b8 (Nat.le_refl _)
      have HQ8 : Hid (Below (w.heap.size + 2) W0 w8) := HQC.out.trans (b8.mono (by have := HQC.out.size; have := HZ0.out; omega))
      obtain ⟨v9, w9, hrun9, hown9, hgr9⟩ := app_rows w8 (w.heap.size + 2) _ (ch1 a b).length (b.f4.length - k) u6 ve _ _ HO8.out hown8 (fun u hu => by obtain ⟨r, _, rfl⟩ := List.mem_map.1 hu; exact recV_oneC r) (by have := ch1_len a b; omega) (by have := HNB.out; omega) (by have := HQ8.out.size; have := HZ0.out; omega)
      obtain ⟨R, hR⟩ : ∃ R, chL a b = R := ⟨_, rfl⟩
      have HRK : Hid (∀ r ∈ R, okR r) := by rw [← hR]; exact chL_ok HOKA.out HOKB.out
      have HRL : Hid (R.length ≤ 1048600) := by show _ ≤ _; rw [← hR]; have := chP_len a b (b.f4.length - al a.f4 b.f4); have := HNB.out; unfold chL; omega
      have HOR : Hid (w9.ownsRow (w.heap.size + 2) 79 1 v9 (R).length ((R).map recV)) := by
        rw [← hR]
        unfold chL chP
        rw [List.length_append, List.map_append, recP_len, ← HKE.out]
        exact hown9
      have HQ9 : Hid (Below (w.heap.size + 2) W0 w9) := HQ8.out.grown hgr9 (by have := HQ8.out.size; have := HZ0.out; omega) (ownBlock_ge HO8.out)
      have HRE : Hid (chL a b = R) := hR
      obtain ⟨pr, cr, hv9, hpr⟩ := own_shape HOR.out
      subst hv9
      clear hown8 b8 hown9 hgr9 hR HO8 HQ8 HKE d0 d1 d2 d3 d4 e0 e1 e2 e3 e4
      have hrl : (R.length : Int) ≤ 1048600 := by have := HRL.out; omega
      go_wp2_with (at_builtin; refine wpList_append_toC rfl _ _ 71 rfl _ _ rfl rfl _ _ hrun9 ?_)
      clear hrun9
      go_loopw [9, 87] (fun ov iv wr => ∃ j : Nat, j ≤ R.length ∧ iv = .int .i64 (j : Int) ∧ Hid (wr.ownsRow w9.heap.size 44 5 ov (R.take j).length (rRec (R.take j))) ∧ Hid (Below w9.heap.size w9 wr)) (fun _ iv _ => R.length - (intOf iv).toNat)
      case atStart => exact ⟨0, Nat.zero_le _, rfl, ⟨rfl, .inl ⟨rfl, rfl⟩⟩, Below.refl _ _⟩
      case round =>
        obtain ⟨j, hj, rfl, HO, HBr⟩ := hrel
        by_cases hlt : j < R.length
        · have hlt' : (j : Int) < R.length := by omega
          obtain ⟨g, rfl⟩ := hpr (by omega)
          have HTJ : Hid (R.take (j + 1) = R.take j ++ [R[j]]) := List.take_succ_eq_append_getElem hlt
          have HLJ : Hid ((R.take j).length = j) := by show _ = _; rw [List.length_take]; omega
          have HOW : Hid (wr.ownsRow (w.heap.size + 2) 79 1 (.slice (some ⟨g, 0, none⟩) R.length cr) (R).length ((R).map recV)) := own_bel HOR.out HBr.out (Nat.le_refl _)
          have c0 : wr.cell? ⟨g, j, none⟩ = some (recV R[j]) := by
            rw [HOW.out.cellAt j (by omega), List.getElem?_map, List.getElem?_eq_getElem hlt]
            rfl
          have HK : Hid (okR R[j]) := HRK.out _ (List.getElem_mem hlt)
          generalize R[j] = r at c0 HK HTJ
          generalize R.take j = L at HO HTJ HLJ
          go_wp2_with fail
          refine (tellOkC_c r wr HK.out).mono ?_
          rintro e w10 ⟨rfl, b10⟩
          have HO10 : Hid (w10.ownsRow w9.heap.size 44 5 u9 L.length (rRec L)) := own_bel HO.out b10 (Nat.le_refl _)
          have HB10 : Hid (Below w9.heap.size w9 w10) := HBr.out.trans (b10.mono HBr.out.size)
          have hsz10 : w9.heap.size ≤ w10.heap.size := HB10.out.size
          have hll : L.length ≤ 1048600 := by have := HLJ.out; have := HRL.out; omega
          clear b10 c0
          go_wp2_with (at_builtin; refine wpList_append_own _ rfl _ _ 38 rfl w9.heap.size 44 iR (.agg #[.int .i64 0, .int .i64 0, .int .i64 0, .int .i64 0, .string ⟨#[]⟩]) 5 48 Try.underlying38 hiR hR0 hR1 hR2 rfl (by decide) _ _ _ rfl (HO10.out.alloc _) ⟨w10.heap.size, 0, none⟩ 1 1 [.int .i64 r.f0, .int .i64 r.f1, .int .i64 r.f2, .int .i64 r.f3, .string r.f4] rfl rfl (cells_newW w10 _ _) (by intro u hu; simp only [List.mem_cons, List.not_mem_nil, or_false] at hu; rcases hu with rfl | rfl | rfl | rfl | rfl <;> rfl) (by unfold maxLen; omega) (by omega) (by simp; omega) ?_)
          intro v11 w11 hown11 hgr11 _
          have HOE := hideW <| own_snocRec (r := r) hown11
          have HBE : Hid (Below w9.heap.size w9 w11) := (HB10.out.alloc hsz10 _).grown hgr11 (by simp; omega) (ownBlock_ge HO10.out)
          clear hown11 hgr11 hsz10 hll
          go_wp2
          go_roundw
          case rel => exact ⟨j + 1, by omega, by go_num, by rw [HTJ.out]; exact HOE.out, HBE.out⟩
          case measure => simp [intOf]; omega
        · have hje : j = R.length := by omega
          subst hje
          have HOF : Hid (wr.ownsRow w9.heap.size 44 5 u9 R.length (rRec R)) := by have := HO.out; rw [List.take_length] at this; exact this
          go_wp2
          go_ret2
          rw [HRE.out]
          exact ⟨_, rfl, own_lowW HOF.out (by have := HQ9.out.size; have := HZ0.out; omega), HB0.out.trans ((HQ9.out.trans (HBr.out.mono (by have := HQ9.out.size; have := HZ0.out; omega))).mono (by omega))⟩

end Go.Proofs.Ytefbenojkajnoaa
