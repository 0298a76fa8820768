/- A vocabulary that is drawn. -/
import Derived.Test.YtdggkcohidijcaaVdBase
namespace Go.Proofs.Ytdggkcohidijcaa
open Go.RowKit
set_option linter.unusedVariables false
set_option linter.unusedSimpArgs false

theorem wpList_append_run {P : Program} {ops : Array Oper} {rest : List Oper} {op : Oper} {a : Act} {w : World} {Q : Exit → Act → World → Prop} (hgd : op.guard = none) (s y : Operand) (t : TypeId)
    (ho : op.op = .call { callee := .builtin .append, args := #[s, y], argTypes := #[t, t] }) (v u : Value) (hs : a.eval s = v) (hx : a.eval y = u) (v' : Value) (w' : World)
    (hrun : (Builtin.append_ #[t, t] op.type #[v, u]).run P w = .ok v' w') (h : wpList P ops Q rest (a.put op.dst v') w') : wpList P ops Q (op :: rest) a w :=
  wpList_append_stop hgd s y t ho v u hs hx v' w' hrun (fun _ _ e1 e2 => by rw [e1, e2]; exact h)

set_option maxRecDepth 20000 in
set_option maxHeartbeats 8000000 in
theorem l7Draw_c (w : World) (B len cap : Nat) (ao : Option Addr) (zs : List Int) (st : Nat × Int) (most : Int) (hm : 0 ≤ most ∧ most ≤ 1000) (hC : Cur w B ao len cap zs st) (hl : len ≤ 1048576) (hz : ∀ j, 0 ≤ zs.getD j 0 ∧ zs.getD j 0 ≤ 255) :
    Calls Try.prog 45 #[.pointer (some ⟨B, 0, none⟩), .int .i64 most] w (VoD w B len cap ao zs 60) := by
  obtain ⟨i0, hi, hz0, hz1, hz2⟩ := info_parts infoPd
  have HZ : Hid (∀ j, 0 ≤ zs.getD j 0 ∧ zs.getD j 0 ≤ 255) := hz
  have HBW : Hid (B < w.heap.size) := hC.lt
  obtain ⟨x0, hx0⟩ : ∃ W, W = (w.alloc (.cells #[.slice none 0 0] 26)).alloc (.cells #[.slice none 0 0] 26) := ⟨_, rfl⟩
  have Hx0 : Hid ((w.alloc (.cells #[.slice none 0 0] 26)).alloc (.cells #[.slice none 0 0] 26) = x0) := hx0.symm
  have HSZ0 : Hid (x0.heap.size = w.heap.size + 2) := by show _ = _; rw [hx0]; simp
  have HX0 : Hid (x0.heap[w.heap.size]? = some (.cells #[.slice none 0 0] 26)) := by rw [hx0, Below.heap_alloc _ _ _ (by simp)]; exact alloc_last _ _
  have HY0 : Hid (x0.heap[w.heap.size + 1]? = some (.cells #[.slice none 0 0] 26)) := by
    rw [hx0]
    have := alloc_last (w.alloc (.cells #[.slice none 0 0] 26)) (.cells #[.slice none 0 0] 26)
    rw [World.size_alloc] at this
    exact this
  have K0 : Hid (Kd w x0 B ao len cap zs st) := (⟨hC, World.grownBy.refl _ _⟩ : Kd w w B ao len cap zs st).bel (by rw [hx0]; exact ((Below.refl _ _).alloc (Nat.le_refl _) _).alloc (by simp) _)
  have hwm : IntKind.i64.wrap (most + 1) = most + 1 := IntWalk.i64_in _ (by omega)
  clear hx0 hz hC
  go_enter Try.func45, Try.ntmps45
  go_wp2_with fail
  rw [Hx0.out]
  refine (below_exV x0 B len cap ao zs st (most + 1) K0.out.cur hl HZ.out).mono ?_
  rintro e w1 ⟨qn, st1, rfl, qn0, qn1, hC1, hg1⟩
  obtain ⟨n0, rfl⟩ := Int.eq_ofNat_of_zero_le qn0
  have HN0 : Hid ((n0 : Int) ≤ 1000) := by have := qn1 (by omega); show _ ≤ _; omega
  have HXa : Hid (w1.heap[w.heap.size]? = some (.cells #[.slice none 0 0] 26)) := blk_curV HX0.out hg1 (by have := HBW.out; omega)
  have HYa : Hid (w1.heap[w.heap.size + 1]? = some (.cells #[.slice none 0 0] 26)) := blk_curV HY0.out hg1 (by have := HBW.out; omega)
  have K1 : Hid (Kd w w1 B ao len cap zs st1) := K0.out.call hC1 hg1
  clear hC1 hg1 qn0 qn1 hwm
  go_wp2_with fail
  go_loopw [6] (fun nv wr => ∃ (n : Nat) (L : List S_Pair) (p : Option Addr) (c : Nat) (su : Nat × Int), nv = .int .i64 (n : Int) ∧ (n : Int) ≤ 1000 ∧ Hid (L.length ≤ 60) ∧ Hid (Kd w wr B ao len cap zs su) ∧ Hid (wr.heap[w.heap.size]? = some (.cells #[.slice none 0 0] 26)) ∧ Hid (wr.heap[w.heap.size + 1]? = some (.cells #[.slice p L.length c] 26)) ∧ Hid (wr.ownsRow (w.heap.size + 2) 88 2 (.slice p L.length c) L.length (rPair L))) (fun nv _ => (intOf nv).toNat)
  case atStart => exact ⟨n0, [], none, 0, st1, rfl, HN0.out, Nat.zero_le _, K1, HXa, HYa, ⟨rfl, Or.inl ⟨rfl, rfl⟩⟩⟩
  case round =>
    obtain ⟨nn, L, p, c, su0, rfl, hn1000, HL60, K0', HX0', HY0', HO0'⟩ := hrel
    rcases Nat.eq_zero_or_pos nn with h0 | h0
    · subst h0
      obtain ⟨z0, zf0⟩ : wr.cell? ⟨w.heap.size, 0, none⟩ = some (.slice none 0 0) ∧ wr.frozen? ⟨w.heap.size, 0, none⟩ = false := ⟨box1 HX0'.out, frz1V HX0'.out 0⟩
      have y0 := box1 HY0'.out
      have HOF : Hid ((wr.setCell ⟨w.heap.size, 0, none⟩ (.slice p L.length c)).ownsRow w.heap.size 88 2 (.slice p L.length c) L.length (rPair L)) := own_low (own_set_lt HO0'.out _ (by show w.heap.size < _; omega)) (by omega)
      have KF : Hid (Kd w (wr.setCell ⟨w.heap.size, 0, none⟩ (.slice p L.length c)) B ao len cap zs su0) := K0'.out.set HBW.out ⟨w.heap.size, 0, none⟩ (Nat.le_refl _) _
      have z9 := box1 (set1V HX0'.out (.slice p L.length c))
      go_wp2
      refine bodyPost_ret (v := .agg #[.slice p L.length c]) (by simp [results, Try.results45, go_sem, z9, z0]) rfl ?_
      exact ⟨L, p, c, su0, rfl, HL60.out, HOF.out, KF.out.cur, KF.out.grown⟩
    obtain ⟨n, rfl⟩ : ∃ n, nn = n + 1 := ⟨nn - 1, by omega⟩
    have hnp : (0 : Int) < ((n + 1 : Nat) : Int) := by omega
    have hnw : IntKind.i64.wrap (((n + 1 : Nat) : Int) - 1) = (n : Int) := by rw [IntWalk.i64_in _ (by omega)]; omega
    have hn2 : (n : Int) ≤ 1000 := by omega
    clear h0 hn1000 K0 HX0 HY0 K1 HXa HYa
    have K0 : Hid (Kd w wr B ao len cap zs su0) := K0'
    have HX0 : Hid (wr.heap[w.heap.size]? = some (.cells #[.slice none 0 0] 26)) := HX0'
    obtain ⟨m, hm⟩ : ∃ m, L.length = m := ⟨_, rfl⟩
    have HLM : Hid (L.length = m) := hm
    have HY0 : Hid (wr.heap[w.heap.size + 1]? = some (.cells #[.slice p m c] 26)) := by rw [← HLM.out]; exact HY0'
    have HO0 : Hid (wr.ownsRow (w.heap.size + 2) 88 2 (.slice p m c) m (rPair L)) := by rw [← HLM.out]; exact HO0'
    clear hm
    clear K0' HX0' HY0' HO0'
    go_wp2_with fail
    refine (below_exV wr B len cap ao zs su0 3 K0.out.cur hl HZ.out).mono ?_
    rintro e x1 ⟨a, su1, rfl, a0, a1, hC1, hg1⟩
    have HX1 : Hid (x1.heap[w.heap.size]? = some (.cells #[.slice none 0 0] 26)) := blk_curV HX0.out hg1 (by have := HBW.out; omega)
    have HY1 : Hid (x1.heap[w.heap.size + 1]? = some (.cells #[.slice p (m) c] 26)) := blk_curV HY0.out hg1 (by have := HBW.out; omega)
    have HO1 : Hid (x1.ownsRow (w.heap.size + 2) 88 2 (.slice p (m) c) (m) (rPair L)) := own_curV HO0.out hg1 (by have := HBW.out; omega)
    have K1 : Hid (Kd w x1 B ao len cap zs su1) := K0.out.call hC1 hg1
    clear hC1 hg1
    have a3 := a1 (by omega)
    clear a1
    go_wp2_with fail
    refine (below_exV x1 B len cap ao zs su1 3 K1.out.cur hl HZ.out).mono ?_
    rintro e x2 ⟨b, su2, rfl, b0, b1, hC2, hg2⟩
    have HX2 : Hid (x2.heap[w.heap.size]? = some (.cells #[.slice none 0 0] 26)) := blk_curV HX1.out hg2 (by have := HBW.out; omega)
    have HY2 : Hid (x2.heap[w.heap.size + 1]? = some (.cells #[.slice p (m) c] 26)) := blk_curV HY1.out hg2 (by have := HBW.out; omega)
    have HO2 : Hid (x2.ownsRow (w.heap.size + 2) 88 2 (.slice p (m) c) (m) (rPair L)) := own_curV HO1.out hg2 (by have := HBW.out; omega)
    have K2 : Hid (Kd w x2 B ao len cap zs su2) := K1.out.call hC2 hg2
    clear hC2 hg2
    have b3 := b1 (by omega)
    clear b1
    go_wp2_with fail
    refine (once_exV x2 B len cap ao zs su2 6 K2.out.cur hl HZ.out).mono ?_
    rintro e x3 ⟨t6, su3, rfl, hC3, hg3⟩
    have HX3 : Hid (x3.heap[w.heap.size]? = some (.cells #[.slice none 0 0] 26)) := blk_curV HX2.out hg3 (by have := HBW.out; omega)
    have HY3 : Hid (x3.heap[w.heap.size + 1]? = some (.cells #[.slice p (m) c] 26)) := blk_curV HY2.out hg3 (by have := HBW.out; omega)
    have HO3 : Hid (x3.ownsRow (w.heap.size + 2) 88 2 (.slice p (m) c) (m) (rPair L)) := own_curV HO2.out hg3 (by have := HBW.out; omega)
    have K3 : Hid (Kd w x3 B ao len cap zs su3) := K2.out.call hC3 hg3
    clear hC3 hg3
    go_upto_if 26 with fail
    go_cut [7] from 15 to 70 (fun av wx => ∃ (a2 : Int) (su : Nat × Int), av = .int .i64 a2 ∧ Hid (Kd w wx B ao len cap zs su) ∧ Hid (wx.heap[w.heap.size]? = some (.cells #[.slice none 0 0] 26)) ∧ Hid (wx.heap[w.heap.size + 1]? = some (.cells #[.slice p (m) c] 26)) ∧ Hid (wx.ownsRow (w.heap.size + 2) 88 2 (.slice p (m) c) (m) (rPair L)))
    case first =>
      cases t6
      case false =>
        go_wp2
        go_meet
        case rel => exact ⟨97 + a, su3, rfl, K3, HX3, HY3, HO3⟩
      case true =>
        obtain ⟨y3, hy3⟩ : ∃ W, W = x3.alloc (.cells #[.int .i64 32, .int .i64 48, .int .i64 200, .int .i64 0, .int .i64 255] 3) := ⟨_, rfl⟩
        have Hy3 : Hid (x3.alloc (.cells #[.int .i64 32, .int .i64 48, .int .i64 200, .int .i64 0, .int .i64 255] 3) = y3) := hy3.symm
        have hbl : Below x3.heap.size x3 y3 := by rw [hy3]; exact (Below.refl _ _).alloc (Nat.le_refl _) _
        have HLs : Hid (y3.heap[x3.heap.size]? = some (.cells #[.int .i64 32, .int .i64 48, .int .i64 200, .int .i64 0, .int .i64 255] 3)) := by rw [hy3]; exact alloc_last _ _
        have HX4 : Hid (y3.heap[w.heap.size]? = some (.cells #[.slice none 0 0] 26)) := (hbl.block _ (lt_of_some HX3.out)).trans HX3.out
        have HY4 : Hid (y3.heap[w.heap.size + 1]? = some (.cells #[.slice p (m) c] 26)) := (hbl.block _ (lt_of_some HY3.out)).trans HY3.out
        have HO4 : Hid (y3.ownsRow (w.heap.size + 2) 88 2 (.slice p (m) c) (m) (rPair L)) := own_bel HO3.out hbl (Nat.le_refl _)
        have K4 : Hid (Kd w y3 B ao len cap zs su3) := K3.out.bel hbl
        clear hy3 hbl
        go_wp2_with fail
        rw [Hy3.out]
        refine (pick_exV y3 B len cap ao zs su3 x3.heap.size [32, 48, 200, 0, 255] (by decide) (by decide) K4.out.cur hl HZ.out (by have := K3.out.cur.lt; omega) HLs.out).mono ?_
        rintro e x5 ⟨ap, su5, rfl, hC5, hg5⟩
        have HX5 : Hid (x5.heap[w.heap.size]? = some (.cells #[.slice none 0 0] 26)) := blk_curV HX4.out hg5 (by have := HBW.out; omega)
        have HY5 : Hid (x5.heap[w.heap.size + 1]? = some (.cells #[.slice p (m) c] 26)) := blk_curV HY4.out hg5 (by have := HBW.out; omega)
        have HO5 : Hid (x5.ownsRow (w.heap.size + 2) 88 2 (.slice p (m) c) (m) (rPair L)) := own_curV HO4.out hg5 (by have := HBW.out; omega)
        have K5 : Hid (Kd w x5 B ao len cap zs su5) := K4.out.call hC5 hg5
        clear hC5 hg5
        go_wp2
        go_meet
        case rel => exact ⟨ap, su5, rfl, K5, HX5, HY5, HO5⟩
    case rest =>
    generalize wc = x10 at hcut ⊢
    obtain ⟨a2, su10, rfl, K10, HX10, HY10, HO10⟩ := hcut
    go_upto_region 9 with fail
    go_cut [37] from 15 to 70 (fun cv wx => ∃ (tc : Bool) (su : Nat × Int), cv = .bool tc ∧ (tc = true → 0 < m) ∧ Hid (Kd w wx B ao len cap zs su) ∧ Hid (wx.heap[w.heap.size]? = some (.cells #[.slice none 0 0] 26)) ∧ Hid (wx.heap[w.heap.size + 1]? = some (.cells #[.slice p (m) c] 26)) ∧ Hid (wx.ownsRow (w.heap.size + 2) 88 2 (.slice p (m) c) (m) (rPair L)))
    case first =>
      have hy0 := box1 HY10.out
      rcases Nat.eq_zero_or_pos m with hm0 | hmp
      · subst hm0
        go_wp2
        go_meet
        case rel => exact ⟨false, su10, rfl, (fun h => by cases h), K10, HX10, HY10, HO10⟩
      have hLp : (0 : Int) < (m : Int) := by omega
      have HMP : Hid (0 < m) := hmp
      clear hmp
      go_wp2_with fail
      refine (once_exV x10 B len cap ao zs su10 2 K10.out.cur hl HZ.out).mono ?_
      rintro e x11 ⟨ta, su11, rfl, hC11, hg11⟩
      have HX11 : Hid (x11.heap[w.heap.size]? = some (.cells #[.slice none 0 0] 26)) := blk_curV HX10.out hg11 (by have := HBW.out; omega)
      have HY11 : Hid (x11.heap[w.heap.size + 1]? = some (.cells #[.slice p (m) c] 26)) := blk_curV HY10.out hg11 (by have := HBW.out; omega)
      have HO11 : Hid (x11.ownsRow (w.heap.size + 2) 88 2 (.slice p (m) c) (m) (rPair L)) := own_curV HO10.out hg11 (by have := HBW.out; omega)
      have K11 : Hid (Kd w x11 B ao len cap zs su11) := K10.out.call hC11 hg11
      clear hC11 hg11
      clear hy0
      go_wp2
      go_meet
      case rel => exact ⟨ta, su11, rfl, (fun _ => HMP.out), K11, HX11, HY11, HO11⟩
    case rest =>
    generalize wc = x13 at hcut ⊢
    obtain ⟨tc10, su13, rfl, htc10, K13, HX13, HY13, HO13⟩ := hcut
    go_upto_if 37 with fail
    go_cut [7] from 15 to 70 (fun av wx => ∃ (r : Int) (su : Nat × Int), av = .int .i64 r ∧ Hid (Kd w wx B ao len cap zs su) ∧ Hid (wx.heap[w.heap.size]? = some (.cells #[.slice none 0 0] 26)) ∧ Hid (wx.heap[w.heap.size + 1]? = some (.cells #[.slice p (m) c] 26)) ∧ Hid (wx.ownsRow (w.heap.size + 2) 88 2 (.slice p (m) c) (m) (rPair L)))
    case first =>
      cases tc10
      case false =>
        go_wp2
        go_meet
        case rel => exact ⟨a2, su13, rfl, K13, HX13, HY13, HO13⟩
      case true =>
        have hLp : (0 : Int) < (m : Int) := by have := htc10 rfl; omega
        have hLI : (m : Int) ≤ 60 := by have := HL60.out; have := HLM.out; omega
        have hy0 := box1 HY13.out
        go_wp2_with fail
        refine (below_exV x13 B len cap ao zs su13 m K13.out.cur hl HZ.out).mono ?_
        rintro e x14 ⟨bx, su14, rfl, bx0, bx1, hC14, hg14⟩
        have HX14 : Hid (x14.heap[w.heap.size]? = some (.cells #[.slice none 0 0] 26)) := blk_curV HX13.out hg14 (by have := HBW.out; omega)
        have HY14 : Hid (x14.heap[w.heap.size + 1]? = some (.cells #[.slice p (m) c] 26)) := blk_curV HY13.out hg14 (by have := HBW.out; omega)
        have HO14 : Hid (x14.ownsRow (w.heap.size + 2) 88 2 (.slice p (m) c) (m) (rPair L)) := own_curV HO13.out hg14 (by have := HBW.out; omega)
        have K14 : Hid (Kd w x14 B ao len cap zs su14) := K13.out.call hC14 hg14
        clear hC14 hg14
        have bx2 := bx1 hLp
        clear bx1 hy0
        go_wp2
        go_meet
        case rel => exact ⟨256 + bx, su14, rfl, K14, HX14, HY14, HO14⟩
    case rest =>
    generalize wc = x16 at hcut ⊢
    obtain ⟨a3, su16, rfl, K16, HX16, HY16, HO16⟩ := hcut
    go_upto_region 11 with fail
    go_cut [51] from 15 to 70 (fun cv wx => ∃ (tc : Bool) (su : Nat × Int), cv = .bool tc ∧ (tc = true → 0 < m) ∧ Hid (Kd w wx B ao len cap zs su) ∧ Hid (wx.heap[w.heap.size]? = some (.cells #[.slice none 0 0] 26)) ∧ Hid (wx.heap[w.heap.size + 1]? = some (.cells #[.slice p (m) c] 26)) ∧ Hid (wx.ownsRow (w.heap.size + 2) 88 2 (.slice p (m) c) (m) (rPair L)))
    case first =>
      have hy0 := box1 HY16.out
      rcases Nat.eq_zero_or_pos m with hm0 | hmp
      · subst hm0
        go_wp2
        go_meet
        case rel => exact ⟨false, su16, rfl, (fun h => by cases h), K16, HX16, HY16, HO16⟩
      have hLp : (0 : Int) < (m : Int) := by omega
      have HMP : Hid (0 < m) := hmp
      clear hmp
      go_wp2_with fail
      refine (once_exV x16 B len cap ao zs su16 3 K16.out.cur hl HZ.out).mono ?_
      rintro e x17 ⟨ta, su17, rfl, hC17, hg17⟩
      have HX17 : Hid (x17.heap[w.heap.size]? = some (.cells #[.slice none 0 0] 26)) := blk_curV HX16.out hg17 (by have := HBW.out; omega)
      have HY17 : Hid (x17.heap[w.heap.size + 1]? = some (.cells #[.slice p (m) c] 26)) := blk_curV HY16.out hg17 (by have := HBW.out; omega)
      have HO17 : Hid (x17.ownsRow (w.heap.size + 2) 88 2 (.slice p (m) c) (m) (rPair L)) := own_curV HO16.out hg17 (by have := HBW.out; omega)
      have K17 : Hid (Kd w x17 B ao len cap zs su17) := K16.out.call hC17 hg17
      clear hC17 hg17
      clear hy0
      go_wp2
      go_meet
      case rel => exact ⟨ta, su17, rfl, (fun _ => HMP.out), K17, HX17, HY17, HO17⟩
    case rest =>
    generalize wc = x19 at hcut ⊢
    obtain ⟨tc16, su19, rfl, htc16, K19, HX19, HY19, HO19⟩ := hcut
    go_upto_if 51 with fail
    go_cut [8] from 15 to 70 (fun av wx => ∃ (r : Int) (su : Nat × Int), av = .int .i64 r ∧ Hid (Kd w wx B ao len cap zs su) ∧ Hid (wx.heap[w.heap.size]? = some (.cells #[.slice none 0 0] 26)) ∧ Hid (wx.heap[w.heap.size + 1]? = some (.cells #[.slice p (m) c] 26)) ∧ Hid (wx.ownsRow (w.heap.size + 2) 88 2 (.slice p (m) c) (m) (rPair L)))
    case first =>
      cases tc16
      case false =>
        go_wp2
        go_meet
        case rel => exact ⟨(97 + b), su19, rfl, K19, HX19, HY19, HO19⟩
      case true =>
        have hLp : (0 : Int) < (m : Int) := by have := htc16 rfl; omega
        have hLI : (m : Int) ≤ 60 := by have := HL60.out; have := HLM.out; omega
        have hy0 := box1 HY19.out
        go_wp2_with fail
        refine (below_exV x19 B len cap ao zs su19 m K19.out.cur hl HZ.out).mono ?_
        rintro e x20 ⟨bx, su20, rfl, bx0, bx1, hC20, hg20⟩
        have HX20 : Hid (x20.heap[w.heap.size]? = some (.cells #[.slice none 0 0] 26)) := blk_curV HX19.out hg20 (by have := HBW.out; omega)
        have HY20 : Hid (x20.heap[w.heap.size + 1]? = some (.cells #[.slice p (m) c] 26)) := blk_curV HY19.out hg20 (by have := HBW.out; omega)
        have HO20 : Hid (x20.ownsRow (w.heap.size + 2) 88 2 (.slice p (m) c) (m) (rPair L)) := own_curV HO19.out hg20 (by have := HBW.out; omega)
        have K20 : Hid (Kd w x20 B ao len cap zs su20) := K19.out.call hC20 hg20
        clear hC20 hg20
        have bx2 := bx1 hLp
        clear bx1 hy0
        go_wp2
        go_meet
        case rel => exact ⟨256 + bx, su20, rfl, K20, HX20, HY20, HO20⟩
    case rest =>
    generalize wc = x22 at hcut ⊢
    obtain ⟨b3x, su22, rfl, K22, HX22, HY22, HO22⟩ := hcut
    have h60 := HL60.out
    have hm60 : (m) ≤ 60 := by rw [← HLM.out]; exact h60
    obtain ⟨v1, y1, hrun, hown1, hb1⟩ := cpPr p L c x22 (by have := HLM.out; omega) (by rw [HLM.out]; exact RowR.own HO22.out)
    rw [HLM.out] at hrun hown1
    have HN1 : Hid (y1.ownsRow x22.heap.size 88 2 v1 (m) (rPair L)) := hown1
    have hy0 := box1 HY22.out
    have hne0 : ¬ w.heap.size + 1 = x22.heap.size := by have := lt_of_some HY22.out; omega
    have hlt0 : w.heap.size + 1 < x22.heap.size := lt_of_some HY22.out
    have hsz1 : x22.heap.size ≤ y1.heap.size := hb1.size
    obtain ⟨q1, c1, hv1⟩ := own_sliceV hown1
    subst hv1
    have hml : (1048577 : Nat) ≤ maxLen := by unfold maxLen; omega
    go_wp2_with (first | (at_builtin; refine wpList_append_run rfl _ _ 24 rfl _ _ rfl rfl _ _ hrun ?_) | (at_builtin; refine wpList_append_own _ rfl _ _ 24 rfl x22.heap.size 88 i0 (.agg #[.int .i64 0, .int .i64 0]) 2 16 Try.underlying24 hi hz0 hz1 hz2 rfl (by decide) _ _ _ rfl (hown1.alloc _) ⟨y1.heap.size, 0, none⟩ 1 1 [.int .i64 a3, .int .i64 b3x] rfl rfl (cell_two_newV _ _ _ _) (by intro u hu; simp at hu; rcases hu with rfl | rfl <;> rfl) (by omega) (by omega) (by simp; omega) ?_))
    clear hrun hy0 hne0 hlt0
    intro v' y2 hown2 hgrow _
    replace hown2 : y2.ownsRow x22.heap.size 88 2 v' (m + 1) (rPair L ++ [.int .i64 a3, .int .i64 b3x]) := hown2
    have hb2 : Below x22.heap.size x22 y2 := below_append hb1 (Nat.le_refl _) hown1 hgrow
    obtain ⟨q2, c2, hv2⟩ := own_sliceV hown2
    subst hv2
    have R2 : y2.ownsRow x22.heap.size 88 2 (.slice q2 (m + 1) c2) (L ++ ([⟨a3, b3x⟩] : List S_Pair)).length (rPair (L ++ ([⟨a3, b3x⟩] : List S_Pair))) := by rw [rPair_oneV, List.length_append, HLM.out]; exact hown2
    obtain ⟨M, hM⟩ : ∃ M, L ++ ([⟨a3, b3x⟩] : List S_Pair) = M := ⟨_, rfl⟩
    have HML : Hid (M.length = m + 1) := by show _ = _; rw [← hM, List.length_append, HLM.out]; rfl
    rw [hM, HML.out] at R2
    clear hM hown2 hgrow hown1 hsz1 HN1
    obtain ⟨y3, hy3⟩ : ∃ W, W = y2.alloc (.cells #[.slice q2 (m + 1) c2] 26) := ⟨_, rfl⟩
    have Hy3 : Hid (y2.alloc (.cells #[.slice q2 (m + 1) c2] 26) = y3) := hy3.symm
    have hb3 : Below x22.heap.size x22 y3 := by rw [hy3]; exact hb2.alloc hb2.size _
    have HU3 : Hid (y3.heap[y2.heap.size]? = some (.cells #[.slice q2 (m + 1) c2] 26)) := by rw [hy3]; exact alloc_last _ _
    have HR3 : Hid (y3.ownsRow x22.heap.size 88 2 (.slice q2 (m + 1) c2) (m + 1) (rPair M)) := by rw [hy3]; exact R2.alloc _
    have HB3 : Hid (Below x22.heap.size x22 y3) := hb3
    have HRR : Hid (RowR y3 (.slice q2 M.length c2) M.length 2 (rPair M)) := by rw [HML.out]; exact RowR.own HR3.out
    clear hy3 R2 hb1 hb2 hb3
    go_wp2_with fail
    rw [Hy3.out]
    have hvok := specVok_c M q2 c2 y3 (by have := HML.out; omega) HRR.out
    rw [HML.out] at hvok
    refine hvok.mono ?_
    clear hvok
    rintro e y4 ⟨rfl, b4⟩
    have HB4 : Hid (Below x22.heap.size x22 y4) := HB3.out.trans (b4.mono HB3.out.size)
    have HU4 : Hid (y4.heap[y2.heap.size]? = some (.cells #[.slice q2 (m + 1) c2] 26)) := (b4.block _ (lt_of_some HU3.out)).trans HU3.out
    have HR4 : Hid (y4.ownsRow x22.heap.size 88 2 (.slice q2 (m + 1) c2) (m + 1) (rPair M)) := own_bel HR3.out b4 (Nat.le_refl _)
    have HX4 : Hid (y4.heap[w.heap.size]? = some (.cells #[.slice none 0 0] 26)) := (HB4.out.block _ (lt_of_some HX22.out)).trans HX22.out
    have HY4 : Hid (y4.heap[w.heap.size + 1]? = some (.cells #[.slice p (m) c] 26)) := (HB4.out.block _ (lt_of_some HY22.out)).trans HY22.out
    have HO4 : Hid (y4.ownsRow (w.heap.size + 2) 88 2 (.slice p (m) c) (m) (rPair L)) := own_bel HO22.out HB4.out (Nat.le_refl _)
    have K4 : Hid (Kd w y4 B ao len cap zs su22) := K22.out.bel HB4.out
    have HSZ : Hid (w.heap.size + 2 ≤ x22.heap.size) := by have := lt_of_some HY22.out; show _ ≤ _; omega
    clear b4
    by_cases hok : okV M
    rotate_left
    · rw [decide_eq_false hok]
      clear hok
      go_wp2
      go_roundw
      case rel => exact ⟨n, L, p, c, su22, by go_num, hn2, HL60, K4, HX4, by rw [HLM.out]; exact HY4, by rw [HLM.out]; exact HO4⟩
      case measure => simp [intOf] <;> omega
    · rw [decide_eq_true hok]
      have HM60 : Hid (M.length ≤ 60) := okV_len hok
      clear hok
      have hu := box1 HU4.out
      have hy5 := box1 HY4.out
      have hyf := frz1V HY4.out 0
      have HX5 : Hid ((y4.setCell ⟨w.heap.size + 1, 0, none⟩ (.slice q2 (m + 1) c2)).heap[w.heap.size]? = some (.cells #[.slice none 0 0] 26)) := by show _ = _; rw [Below.heap_setCell _ _ _ _ (by show w.heap.size ≠ w.heap.size + 1; omega)]; exact HX4.out
      have HY5 : Hid ((y4.setCell ⟨w.heap.size + 1, 0, none⟩ (.slice q2 (m + 1) c2)).heap[w.heap.size + 1]? = some (.cells #[.slice q2 M.length c2] 26)) := by rw [HML.out]; exact set1V HY4.out _
      have HO5 : Hid ((y4.setCell ⟨w.heap.size + 1, 0, none⟩ (.slice q2 (m + 1) c2)).ownsRow (w.heap.size + 2) 88 2 (.slice q2 M.length c2) M.length (rPair M)) := by rw [HML.out]; exact own_low (own_set_lt HR4.out _ (by have := HSZ.out; show w.heap.size + 1 < _; omega)) HSZ.out
      have K5 : Hid (Kd w (y4.setCell ⟨w.heap.size + 1, 0, none⟩ (.slice q2 (m + 1) c2)) B ao len cap zs su22) := K4.out.set HBW.out ⟨w.heap.size + 1, 0, none⟩ (by show w.heap.size ≤ w.heap.size + 1; omega) _
      go_wp2
      go_roundw
      case rel => exact ⟨n, M, q2, c2, su22, by go_num, hn2, HM60, K5, HX5, HY5, HO5⟩
      case measure => simp [intOf] <;> omega

end Go.Proofs.Ytdggkcohidijcaa
