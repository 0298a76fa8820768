/- WalText of the program. -/
import Derived.Test.YtehkfijghpddfaaWxRecs
import Derived.Test.YtehkfijghpddfaaBuLay
namespace Go.Proofs.Ytehkfijghpddfaa
open Go.RowKit
set_option linter.unusedVariables false
set_option linter.unusedSimpArgs false

theorem wpList_append_toW {P : Program} {ops : Array Oper} {rest : List Oper} {op : Oper} {a : Act} {w : World} {Q : Exit → Act → World → Prop} (hgd : op.guard = none) (s y : Operand) (t : TypeId)
    (ho : op.op = .call { callee := .builtin .append, args := #[s, y], argTypes := #[t, t] }) (v u : Value) (hs : a.eval s = v) (hx : a.eval y = u) (v' : Value) (w' : World)
    (hrun : (Builtin.append_ #[t, t] op.type #[v, u]).run P w = .ok v' w') (h : wpList P ops Q rest (a.put op.dst v') w') : wpList P ops Q (op :: rest) a w := by
  refine wpList_plain hgd fun K hK => ?_
  unfold Oper.wp execOp
  simp only [ho, resolve, invoke, builtin, Sem.run_bind, Sem.run_pure, Result.andThen_ok, List.map_toArray, List.map_cons, List.map_nil, hs, hx, hrun]
  exact hK _ _ h

theorem ba_nil_add (a : ByteArray) : (⟨#[]⟩ : ByteArray) ++ a = a := by
  cases a with | mk d => rw [ByteArray.mk_append_mk]; simp

/-- The frames of records, one behind the other. -/
def accR (L : List S_Rec) : ByteArray := L.foldl (fun t r => t ++ frR r) ⟨#[]⟩

theorem accR_snoc (L : List S_Rec) (r : S_Rec) : accR (L ++ [r]) = accR L ++ frR r := by unfold accR; rw [List.foldl_append]; rfl

theorem accR_take (L : List S_Rec) (j : Nat) (hj : j < L.length) : accR (L.take (j + 1)) = accR (L.take j) ++ frR L[j] := by
  rw [List.take_succ_eq_append_getElem hj, accR_snoc]

def allR (x : S_Wal) (n : Nat) : List S_Rec := [bsRec x, hdRec x] ++ recP x 0 n

theorem accR_all (x : S_Wal) : ∀ n, accR (allR x n) = walP x n
  | 0 => by show (⟨#[]⟩ ++ frR (bsRec x)) ++ frR (hdRec x) = frR (bsRec x) ++ frR (hdRec x); rw [ba_nil_add]
  | n + 1 => by
    show accR ([bsRec x, hdRec x] ++ (recP x 0 n ++ [enRec x (0 + n)])) = walP x n ++ frR (enRec x n)
    rw [← List.append_assoc, accR_snoc, Nat.zero_add]
    rw [show accR ([bsRec x, hdRec x] ++ recP x 0 n) = walP x n from accR_all x n]

theorem recP_ok {x : S_Wal} (h : okW x) (bt : Nat) : ∀ j, bt + j ≤ x.f4.length → ∀ r ∈ recP x bt j, okR r
  | 0, _, r, hr => by cases hr
  | j + 1, hj, r, hr => by
    rcases List.mem_append.1 hr with hr | hr
    · exact recP_ok h bt j (by omega) r hr
    · rw [List.mem_singleton.1 hr, en_at (by omega)]
      exact okR_en h (by omega)

theorem allR_ok {x : S_Wal} (h : okW x) : ∀ r ∈ allR x x.f4.length, okR r := by
  intro r hr
  rcases List.mem_append.1 hr with hr | hr
  · rcases List.mem_cons.1 hr with rfl | hr
    · exact okR_bs h
    · rw [List.mem_singleton.1 hr]; exact okR_hd h
  · exact recP_ok h 0 _ (by omega) r hr

theorem allR_len (x : S_Wal) (n : Nat) : (allR x n).length = 2 + n := by unfold allR; rw [List.length_append, recP_len]; rfl

theorem accR_small (L : List S_Rec) (h : ∀ r ∈ L, okR r) : ∀ j, j ≤ L.length → (accR (L.take j)).size ≤ 918 * j
  | 0, _ => by rw [List.take_zero]; exact Nat.le_refl _
  | j + 1, hj => by
    have a := accR_small L h j (by omega)
    have b := frR_size (h _ (List.getElem_mem (show j < L.length by omega)))
    rw [accR_take L j (by omega), ByteArray.size_append]
    omega

theorem run_nilRecd (w : World) (g : Nat) : (Builtin.append_ #[58, 58] 58 #[.slice (some ⟨g, 0, none⟩) 2 2, .slice none 0 0]).run Try.prog w = .ok (.slice (some ⟨g, 0, none⟩) 2 2) w := by kernel_rfl

theorem app_recs (w : World) (b1 b2 g n : Nat) (v : Value) (xs ys : List Value) (h1 : w.ownsRow b1 66 1 (.slice (some ⟨g, 0, none⟩) 2 2) 2 xs) (h2 : w.ownsRow b2 66 1 v n ys) (hy : ∀ u ∈ ys, u.oneCell' = true) (hn : n ≤ 1048576) (hb : b1 ≤ w.heap.size) :
    ∃ v' w', (Builtin.append_ #[58, 58] 58 #[.slice (some ⟨g, 0, none⟩) 2 2, v]).run Try.prog w = .ok v' w' ∧ w'.ownsRow b1 66 1 v' (2 + n) (xs ++ ys) ∧ w.grownBy w' (some g) := by
  obtain ⟨iR, hiR, hR0, hR1, hR2⟩ := info_parts infoRecd
  have h2' := h2
  obtain ⟨hl, ⟨rfl, rfl⟩ | ⟨g2, cap, cur, rfl, hg, hh, _⟩⟩ := h2
  · have e : ys = [] := List.eq_nil_of_length_eq_zero (by omega)
    subst e
    exact ⟨_, _, run_nilRecd w g, by rw [List.append_nil]; exact h1, ⟨rfl, rfl, rfl, Nat.le_refl _, fun _ _ _ => rfl⟩⟩
  · obtain ⟨v', w', hrun, ho, hgr, _⟩ := run_append_own (P := Try.prog) w b1 58 58 66 iR .nilIface 1 16 Try.underlying58 hiR hR0 hR1 hR2 rfl (by decide) _ _ _ h1 ⟨g2, 0, none⟩ n cap ys (by simpa using hl) (fun j u hj => by
      rw [Addr.add_mid, Nat.zero_add]
      have hjl : j < n * 1 := by
        rw [← hl]
        exact (List.getElem?_eq_some_iff.1 hj).1
      rw [h2'.cellAt j hjl]
      exact hj) hy (by unfold maxLen; omega) (by omega) hb
    exact ⟨v', w', hrun, ho, hgr⟩

theorem recV_one (r : S_Rec) : (recV r).oneCell' = true := by
  unfold recV
  split
  · rfl
  · split
    · rfl
    · split
      · rfl
      · split <;> rfl

theorem cutR_id {r : S_Rec} (h : okR r) : cutR r = r := sameR_eq ((okR_iff r).1 h).2

theorem tellOk_c (r : S_Rec) (w : World) (h : okR r) : Calls Try.prog 34 #[recV r] w fun e w' => e = .returned (.agg #[.int .i64 r.f0, .int .i64 r.f1, .int .i64 r.f2, .int .i64 r.f3, .string r.f4]) ∧ Below w.heap.size w w' := by
  have := tellRec_c r w (by have := okR_data h; omega)
  rw [cutR_id h] at this
  exact this

set_option maxRecDepth 20000 in
set_option maxHeartbeats 4000000 in
theorem implWalText_c (x : S_Wal) (p : Option Addr) (cap : Nat) (w : World) (hn : x.f4.length ≤ 1048576) (hs : ∀ y ∈ x.f4, sEntry y) (hr : RowR w (.slice p x.f4.length cap) x.f4.length 2 (rEntry x.f4)) :
    Calls Try.prog 26 #[.agg #[.int .i64 x.f0, .int .i64 x.f1, .int .i64 x.f2, .int .i64 x.f3, .slice p x.f4.length cap]] w fun e w' => e = .returned (.string (walT x)) ∧ Below w.heap.size w w' := by
  obtain ⟨W0, hW0⟩ : ∃ W, W = (w.alloc (.cells #[.int .i64 x.f0, .int .i64 x.f1, .int .i64 x.f2, .int .i64 x.f3, .slice p x.f4.length cap] 26)) := ⟨_, rfl⟩
  have HW0 : Hid ((w.alloc (.cells #[.int .i64 x.f0, .int .i64 x.f1, .int .i64 x.f2, .int .i64 x.f3, .slice p x.f4.length cap] 26)) = W0) := hW0.symm
  have HZ0 : Hid (W0.heap.size = w.heap.size + 1) := by show _ = _; rw [hW0]; simp
  have HB0 : Hid (Below w.heap.size w W0) := by rw [hW0]; exact (Below.refl _ _).alloc (Nat.le_refl _) _
  have HX : Hid (∀ W', Below W0.heap.size W0 W' → W'.cell? ⟨w.heap.size, 0, none⟩ = some (.int .i64 x.f0) ∧ W'.cell? ⟨w.heap.size, 1, none⟩ = some (.int .i64 x.f1) ∧ W'.cell? ⟨w.heap.size, 2, none⟩ = some (.int .i64 x.f2) ∧ W'.cell? ⟨w.heap.size, 3, none⟩ = some (.int .i64 x.f3) ∧ W'.cell? ⟨w.heap.size, 4, none⟩ = some (.slice p x.f4.length cap)) := fun W' hW => by
    have hk : W'.heap[w.heap.size]? = some (.cells #[.int .i64 x.f0, .int .i64 x.f1, .int .i64 x.f2, .int .i64 x.f3, .slice p x.f4.length cap] 26) := by rw [hW.block _ (by rw [HZ0.out]; exact Nat.lt_succ_self _), hW0]; exact alloc_last _ _
    exact box5 hk
  have HS : Hid (∀ y ∈ x.f4, sEntry y) := hs
  have HR : Hid (RowR w (.slice p x.f4.length cap) x.f4.length 2 (rEntry x.f4)) := hr
  have HN : Hid (x.f4.length ≤ 1048576) := hn
  have hn' : (x.f4.length : Int) ≤ 1048576 := by omega
  obtain ⟨d0, d1, d2, d3, d4⟩ := HX.out W0 (Below.refl _ _)
  clear hs hr hW0
  go_enter Try.func26, Try.ntmps26
  go_wp2_with fail
  rw [HW0.out]
  refine (implWalOk_c x p cap W0 HN.out HS.out (RowR.keep HR.out HB0.out (Nat.le_refl _))).mono ?_
  rintro e w1 ⟨rfl, b1⟩
  have HB1 : Hid (Below W0.heap.size W0 w1) := b1
  have HE1 : Hid (Below w.heap.size w w1) := HB0.out.trans (b1.mono (by rw [HZ0.out]; omega))
  clear b1 d0 d1 d2 d3 d4
  by_cases hok : okW x
  rotate_left
  · have HF : Hid (walT x = ⟨#[]⟩) := by show _ = _; unfold walT; rw [if_neg hok]
    rw [decide_eq_false hok]
    go_wp2
    go_ret
    exact ⟨by rw [HF.out]; rfl, HE1.out⟩
  rw [decide_eq_true hok]
  have HOK : Hid (okW x) := hok
  have HWT : Hid (walT x = walP x x.f4.length) := by show _ = _; unfold walT; rw [if_pos hok]
  clear hok
  obtain ⟨d0, d1, d2, d3, d4⟩ := HX.out w1 HB1.out
  obtain ⟨WB, hWB⟩ : ∃ W, W = ((w1.alloc (.cells #[.iface 87 (.agg #[.int .i64 x.f3, .int .i64 x.f2]), .iface 60 (.agg #[.int .i64 x.f0, .int .i64 x.f1])] 66)).alloc (.cells #[.pointer none, .slice none 0 0] 90)) := ⟨_, rfl⟩
  have HWB : Hid (((w1.alloc (.cells #[.iface 87 (.agg #[.int .i64 x.f3, .int .i64 x.f2]), .iface 60 (.agg #[.int .i64 x.f0, .int .i64 x.f1])] 66)).alloc (.cells #[.pointer none, .slice none 0 0] 90)) = WB) := hWB.symm
  have HZB : Hid (WB.heap.size = w1.heap.size + 2) := by show _ = _; rw [hWB]; simp
  have HBB : Hid (Below w1.heap.size w1 WB) := by rw [hWB]; exact ((Below.refl _ _).alloc (Nat.le_refl _) _).alloc (by simp) _
  have HBu : Hid (Bu (w1.heap.size + 1) (w1.heap.size + 1) ⟨#[]⟩ WB) := by
    have := bu_fresh (w1.alloc (.cells #[.iface 87 (.agg #[.int .i64 x.f3, .int .i64 x.f2]), .iface 60 (.agg #[.int .i64 x.f0, .int .i64 x.f1])] 66))
    rw [World.size_alloc] at this
    rw [hWB]
    exact this
  have HRo : Hid (WB.ownsRow w1.heap.size 66 1 (.slice (some ⟨w1.heap.size, 0, none⟩) 2 2) 2 [recV (bsRec x), recV (hdRec x)]) := by
    rw [hWB]
    exact (World.ownsRow_lit (base := w1.heap.size) (e := 66) (size := 1) w1 #[.iface 87 (.agg #[.int .i64 x.f3, .int .i64 x.f2]), .iface 60 (.agg #[.int .i64 x.f0, .int .i64 x.f1])] 2 (Nat.le_refl _) (by decide) rfl).alloc _
  have HBW : Hid (Below W0.heap.size W0 WB) := HB1.out.trans (HBB.out.mono HB1.out.size)
  have xd : ∀ o : Nat, ((w1.alloc (.cells #[.iface 87 (.agg #[.int .i64 x.f3, .int .i64 x.f2]), .iface 60 (.agg #[.int .i64 x.f0, .int .i64 x.f1])] 66)).alloc (.cells #[.pointer none, .slice none 0 0] 90)).cell? ⟨w.heap.size, o, none⟩ = WB.cell? ⟨w.heap.size, o, none⟩ := fun o => by rw [hWB]
  clear hWB
  obtain ⟨g0, g1, g2, g3, g4⟩ := HX.out WB HBW.out
  go_wp2_with fail
  rw [HWB.out]
  have HWBR : Hid (RowR WB (.slice p x.f4.length cap) x.f4.length 2 (rEntry x.f4)) := RowR.keep HR.out (HB0.out.trans (HBW.out.mono HB0.out.size)) (Nat.le_refl _)
  have hER := entryRecs_c x p cap 0 WB HOK.out (Nat.zero_le _) HN.out HS.out HWBR.out
  refine Calls.mono hER ?_
  clear hER
  rintro e w2 ⟨v, rfl, hown, b2⟩
  rw [Nat.sub_zero] at hown
  have HO2 : Hid (w2.ownsRow WB.heap.size 66 1 v x.f4.length ((recP x 0 x.f4.length).map recV)) := hown
  have HRo2 : Hid (w2.ownsRow w1.heap.size 66 1 (.slice (some ⟨w1.heap.size, 0, none⟩) 2 2) 2 [recV (bsRec x), recV (hdRec x)]) := own_bel HRo.out b2 (Nat.le_refl _)
  have HBu2 : Hid (Bu (w1.heap.size + 1) (w1.heap.size + 1) ⟨#[]⟩ w2) := HBu.out.bel b2
  have HB2 : Hid (Below w1.heap.size w1 w2) := HBB.out.trans (b2.mono HBB.out.size)
  obtain ⟨v', w3, hrun, hown3, hgr⟩ := app_recs w2 w1.heap.size WB.heap.size w1.heap.size x.f4.length v _ _ HRo2.out HO2.out (fun u hu => by obtain ⟨r, _, rfl⟩ := List.mem_map.1 hu; exact recV_one r) HN.out HB2.out.size
  obtain ⟨R, hR⟩ : ∃ R, allR x x.f4.length = R := ⟨_, rfl⟩
  have HRL : Hid (R.length = 2 + x.f4.length) := by show _ = _; rw [← hR]; exact allR_len _ _
  have HRK : Hid (∀ r ∈ R, okR r) := by rw [← hR]; exact allR_ok HOK.out
  have HRW : Hid (accR R = walP x x.f4.length) := by show _ = _; rw [← hR]; exact accR_all _ _
  have HO3' : w3.ownsRow w1.heap.size 66 1 v' (2 + x.f4.length) (R.map recV) := by rw [← hR, allR, List.map_append]; exact hown3
  rw [← HRL.out] at HO3'
  have HO3 : Hid (w3.ownsRow w1.heap.size 66 1 v' R.length (R.map recV)) := HO3'
  have HBu3 : Hid (Bu (w1.heap.size + 1) (w1.heap.size + 1) ⟨#[]⟩ w3) := HBu2.out.keep fun k o ho hc => (hgr.block k (Array.getElem?_eq_some_iff.1 ho).1 (fun e1 => by
    simp only [Option.some.injEq] at e1
    subst e1
    rcases hc with hc | ⟨c, fz, rfl⟩
    · omega
    · obtain ⟨_, ⟨h, _⟩ | ⟨g, cap', cur, hv, _, hh, _⟩⟩ := HRo2.out
      · cases h
      · simp only [Value.slice.injEq, Option.some.injEq, Addr.mk.injEq] at hv
        rw [← hv.1.1, ho] at hh
        simp at hh)).trans ho
  have HB3 : Hid (Below w1.heap.size w1 w3) := HB2.out.grown hgr HB2.out.size (fun k hk => by simp only [Option.some.injEq] at hk; omega)
  have hRn : (R.length : Int) ≤ 1048578 := by have := HRL.out; have := HN.out; omega
  obtain ⟨g, c', hv'⟩ : ∃ g c', v' = .slice (some ⟨g, 0, none⟩) R.length c' := by
    obtain ⟨_, ⟨_, h⟩ | ⟨g, cap', cur, hv, _⟩⟩ := HO3'
    · have := HRL.out; omega
    · exact ⟨g, cap', hv⟩
  subst hv'
  clear hown b2 hown3 hgr HO3' hR HRo HBu HBB HBW xd d0 d1 d2 d3 d4 g0 g1 g2 g3 g4 HO2 HRo2 HBu2 HB2
  go_wp2_with (at_builtin; refine wpList_append_toW rfl _ _ 58 rfl _ _ rfl rfl _ _ hrun ?_)
  clear hrun
  go_loopw [28] (fun iv wr => ∃ j : Nat, j ≤ R.length ∧ iv = .int .i64 (j : Int) ∧ Hid (Bu (w1.heap.size + 1) (w1.heap.size + 1) (accR (R.take j)) wr) ∧ Hid (wr.ownsRow w1.heap.size 66 1 (.slice (some ⟨g, 0, none⟩) R.length c') R.length (R.map recV)) ∧ Hid (Below w1.heap.size w1 wr)) (fun iv _ => R.length - (intOf iv).toNat)
  case atStart => exact ⟨0, Nat.zero_le _, rfl, HBu3, HO3, HB3⟩
  case round =>
    obtain ⟨j, hj, rfl, HBu, HO, HBr⟩ := hrel
    by_cases hlt : j < R.length
    · have hlt' : (j : Int) < R.length := by omega
      have c0 : wr.cell? ⟨g, j, none⟩ = some (recV R[j]) := by
        rw [HO.out.cellAt j (by omega), List.getElem?_map, List.getElem?_eq_getElem hlt]
        rfl
      have HK : Hid (okR R[j]) := HRK.out _ (List.getElem_mem hlt)
      have HAT : Hid (accR (R.take (j + 1)) = accR (R.take j) ++ frR R[j]) := accR_take R j hlt
      have HAS : Hid ((accR (R.take j)).size ≤ 918 * j) := accR_small R HRK.out j hj
      generalize R[j] = r at c0 HK HAT
      go_wp2_with fail
      refine (tellOk_c r wr HK.out).mono ?_
      rintro e w4 ⟨rfl, b4⟩
      have HB4 : Hid (Below wr.heap.size wr w4) := b4
      clear b4 c0
      go_wp2_with fail
      refine (implShow_c r w4 (by have := okR_data HK.out; omega)).mono ?_
      rintro e w5 ⟨rfl, b5⟩
      have HB5 : Hid (Below wr.heap.size wr w5) := HB4.out.trans (b5.mono HB4.out.size)
      clear b5
      go_wp2_with fail
      refine (iframe_c r w5 HK.out).mono ?_
      rintro e w6 ⟨rfl, b6⟩
      have HB6 : Hid (Below wr.heap.size wr w6) := HB5.out.trans (b6.mono HB5.out.size)
      have HBu6 : Hid (Bu (w1.heap.size + 1) (w1.heap.size + 1) (accR (R.take j)) w6) := HBu.out.bel HB6.out
      have HO6 : Hid (w6.ownsRow w1.heap.size 66 1 (.slice (some ⟨g, 0, none⟩) R.length c') R.length (R.map recV)) := own_bel HO.out HB6.out (Nat.le_refl _)
      have HBr6 : Hid (Below w1.heap.size w1 w6) := HBr.out.trans (HB6.out.mono HBr.out.size)
      clear b6
      go_wp2_with fail
      refine (buWrite_c (w1.heap.size + 1) (w1.heap.size + 1) (accR (R.take j)) (frR r) w6 HBu6.out (by have a := HAS.out; have b := frR_size HK.out; omega) (by obtain ⟨cs, hcs⟩ := HBu6.out.block; have := lt_of_some hcs; omega)).mono ?_
      rintro e w7 ⟨rfl, hbu, b7, k7⟩
      have HBu7 : Hid (Bu (w1.heap.size + 1) (w1.heap.size + 1) (accR (R.take (j + 1))) w7) := by show Bu _ _ _ _; rw [HAT.out]; exact hbu
      have HO7 : Hid (w7.ownsRow w1.heap.size 66 1 (.slice (some ⟨g, 0, none⟩) R.length c') R.length (R.map recV)) := BuK.own k7 HBu6.out (by decide) (by decide) HO6.out
      have HBr7 : Hid (Below w1.heap.size w1 w7) := HBr6.out.trans (b7.mono (by omega))
      clear hbu b7 k7 HAT HAS
      go_wp2
      go_roundw
      case rel => exact ⟨j + 1, by omega, by go_num, HBu7, HO7, HBr7⟩
      case measure => simp [intOf]; omega
    · have hje : j = R.length := by omega
      subst hje
      have HBuE : Hid (Bu (w1.heap.size + 1) (w1.heap.size + 1) (walT x) wr) := by
        have := HBu.out
        rw [List.take_length, HRW.out, ← HWT.out] at this
        exact this
      go_wp2_with fail
      refine (buString_c (w1.heap.size + 1) (w1.heap.size + 1) (walT x) wr HBuE.out (by obtain ⟨cs, hcs⟩ := HBuE.out.block; have := lt_of_some hcs; omega)).mono ?_
      rintro e w8 ⟨rfl, b8⟩
      have HE8 : Hid (Below w.heap.size w w8) := HE1.out.trans ((HBr.out.trans (b8.mono (by omega))).mono HE1.out.size)
      clear b8
      go_wp2
      go_ret
      exact ⟨rfl, HE8.out⟩

end Go.Proofs.Ytehkfijghpddfaa
