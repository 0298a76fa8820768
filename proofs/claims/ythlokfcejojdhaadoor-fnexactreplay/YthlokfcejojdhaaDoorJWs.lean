/- What the walks on a laid record use. -/
import Derived.Test.YthlokfcejojdhaaDoorWyMath
import Derived.Test.YthlokfcejojdhaaDoorRgTold
import Derived.Test.YthlokfcejojdhaaDoorRgCut
import Derived.Test.YthlokfcejojdhaaDoorFrClone
import Derived.Test.YthlokfcejojdhaaDoorRgHeld
namespace Go.Proofs.YthlokfcejojdhaaDoor
open Go.RowKit
set_option linter.unusedVariables false
set_option linter.unusedSimpArgs false

theorem store5 {w : World} {b : Nat} {T : TypeId} {c0 c1 c2 c3 c4 : Value} (a0 a1 a2 a3 a4 : Value) (h : w.heap[b]? = some (.cells #[c0, c1, c2, c3, c4] T)) : ((((((w.setCell ⟨b, 0, none⟩ (a0)).setCell ⟨b, 1, none⟩ (a1)).setCell ⟨b, 2, none⟩ (a2)).setCell ⟨b, 3, none⟩ (a3)).setCell ⟨b, 4, none⟩ (a4))).heap[b]? = some (.cells #[a0, a1, a2, a3, a4] T) :=
  heap_setCell_same _ b 4 _ _ a4 (heap_setCell_same _ b 3 _ _ a3 (heap_setCell_same _ b 2 _ _ a2 (heap_setCell_same _ b 1 _ _ a1 (heap_setCell_same w b 0 _ _ a0 h))))

theorem store5_ne {w : World} {b k : Nat} (a0 a1 a2 a3 a4 : Value) (h : k ≠ b) : ((((((w.setCell ⟨b, 0, none⟩ (a0)).setCell ⟨b, 1, none⟩ (a1)).setCell ⟨b, 2, none⟩ (a2)).setCell ⟨b, 3, none⟩ (a3)).setCell ⟨b, 4, none⟩ (a4))).heap[k]? = w.heap[k]? := by
  rw [Below.heap_setCell _ _ _ _ h, Below.heap_setCell _ _ _ _ h, Below.heap_setCell _ _ _ _ h, Below.heap_setCell _ _ _ _ h, Below.heap_setCell _ _ _ _ h]

theorem store5_bel {w w0 : World} {b B : Nat} (a0 a1 a2 a3 a4 : Value) (h : Below B w0 w) (hb : B ≤ b) : Below B w0 ((((((w.setCell ⟨b, 0, none⟩ (a0)).setCell ⟨b, 1, none⟩ (a1)).setCell ⟨b, 2, none⟩ (a2)).setCell ⟨b, 3, none⟩ (a3)).setCell ⟨b, 4, none⟩ (a4))) :=
  ((((h.setCell (by exact hb) _).setCell (by exact hb) _).setCell (by exact hb) _).setCell (by exact hb) _).setCell (by exact hb) _

theorem store5_own {w : World} {b base : Nat} {e : TypeId} {size n : Nat} {v : Value} {xs : List Value} (a0 a1 a2 a3 a4 : Value) (h : w.ownsRow base e size v n xs) (hb : b < base) : ((((((w.setCell ⟨b, 0, none⟩ (a0)).setCell ⟨b, 1, none⟩ (a1)).setCell ⟨b, 2, none⟩ (a2)).setCell ⟨b, 3, none⟩ (a3)).setCell ⟨b, 4, none⟩ (a4))).ownsRow base e size v n xs :=
  own_set_lt (own_set_lt (own_set_lt (own_set_lt (own_set_lt h _ (by exact hb)) _ (by exact hb)) _ (by exact hb)) _ (by exact hb)) _ (by exact hb)

theorem frz5 {w : World} {b : Nat} {c0 c1 c2 c3 c4 : Value} {T : TypeId} (h : w.heap[b]? = some (.cells #[c0, c1, c2, c3, c4] T)) (o : Nat) : w.frozen? ⟨b, o, none⟩ = false := by
  simp [World.frozen?, h]

theorem wpList_append_toS {P : Program} {ops : Array Oper} {rest : List Oper} {op : Oper} {a : Act} {w : World} {Q : Exit → Act → World → Prop} (hgd : op.guard = none) (s y : Operand) (t : TypeId)
    (ho : op.op = .call { callee := .builtin .append, args := #[s, y], argTypes := #[t, t] }) (v u : Value) (hs : a.eval s = v) (hx : a.eval y = u) (v' : Value) (w' : World)
    (hrun : (Builtin.append_ #[t, t] op.type #[v, u]).run P w = .ok v' w') (h : wpList P ops Q rest (a.put op.dst v') w') : wpList P ops Q (op :: rest) a w := by
  refine wpList_plain hgd fun K hK => ?_
  unfold Oper.wp execOp
  simp only [ho, resolve, invoke, builtin, Sem.run_bind, Sem.run_pure, Result.andThen_ok, List.map_toArray, List.map_cons, List.map_nil, hs, hx, hrun]
  exact hK _ _ h

theorem run_nilEn (w : World) (g c : Nat) : (Builtin.append_ #[24, 24] 24 #[.slice (some ⟨g, 0, none⟩) 0 0, .slice none 0 c]).run Tryd.prog w = .ok (.slice (some ⟨g, 0, none⟩) 0 0) w := by kernel_rfl

theorem run_empEn (w : World) (g c : Nat) (a : Addr) : (Builtin.append_ #[24, 24] 24 #[.slice (some ⟨g, 0, none⟩) 0 0, .slice (some a) 0 c]).run Tryd.prog w = .ok (.slice (some ⟨g, 0, none⟩) 0 0) w := by kernel_rfl

theorem cpEn (p : Option Addr) (L : List S_Entry) (cap : Nat) (w : World) (hn : L.length ≤ 1048576) (hr : RowR w (.slice p L.length cap) L.length 2 (rEntry L)) :
    ∃ v' w', (Builtin.append_ #[24, 24] 24 #[.slice (some ⟨w.heap.size, 0, none⟩) 0 0, .slice p L.length cap]).run Tryd.prog (w.alloc (.cells #[] 63)) = .ok v' w' ∧ w'.ownsRow w.heap.size 63 2 v' L.length (rEntry L) ∧ Below w.heap.size w w' := by
  have hb0 : Below w.heap.size w (w.alloc (.cells #[] 63)) := (Below.refl _ _).alloc (Nat.le_refl _) _
  have HO0 := World.ownsRow_made (base := w.heap.size) (e := 63) (size := 2) w #[] 0 (by simp) (by decide) (by simp)
  rcases Nat.eq_zero_or_pos L.length with h0 | h0
  · have e : L = [] := List.eq_nil_of_length_eq_zero h0
    subst e
    refine ⟨.slice (some ⟨w.heap.size, 0, none⟩) 0 0, _, ?_, HO0, hb0⟩
    cases p with
    | none => exact run_nilEn _ _ _
    | some a => exact run_empEn _ _ _ a
  · obtain ⟨i0, hi, hz0, hz1, hz2⟩ := info_parts infoEntry
    obtain ⟨b, off, cap', hv, hb, hc⟩ := hr.some h0 (by decide)
    simp only [Value.slice.injEq, true_and] at hv
    obtain ⟨rfl, rfl⟩ := hv
    obtain ⟨v', w', hrun, r1, r2, _⟩ := run_append_own (P := Tryd.prog) (w.alloc (.cells #[] 63)) w.heap.size 24 24 63 i0 (.agg #[.int .i64 0, .string ⟨#[]⟩]) 2 24 Tryd.underlying24 hi hz0 hz1 hz2 rfl (by decide) _ _ _ HO0 ⟨b, off, none⟩ L.length cap (rEntry L) (rEntry_len _) (fun j u hj => by
        have hjl : j < L.length * 2 := by
          rcases Nat.lt_or_ge j (L.length * 2) with h | h
          · exact h
          · rw [List.getElem?_eq_none (by rw [rEntry_len]; exact h)] at hj; simp at hj
        rw [Addr.add_mid, World.cell?_alloc_lt _ _ ⟨b, off + j, none⟩ hb, hc j hjl]
        exact hj) (fun u hu => by
        unfold rEntry at hu
        obtain ⟨y, _, hy⟩ := List.mem_flatMap.1 hu
        simp [cEntry] at hy
        rcases hy with rfl | rfl <;> rfl) (by unfold maxLen; omega) (by omega) (by simp)
    exact ⟨v', w', hrun, by simpa using r1, hb0.grown r2 (by simp) (fun k hk => by simp only [Value.ownBlock, Option.some.injEq] at hk; omega)⟩

theorem own_sliceS {w : World} {base : Nat} {e : TypeId} {size n : Nat} {v : Value} {xs : List Value} (h : w.ownsRow base e size v n xs) : ∃ p c, v = .slice p n c := by
  obtain ⟨_, ⟨rfl, rfl⟩ | ⟨g, cap, cur, rfl, _, _, hc, _⟩⟩ := h
  · exact ⟨none, 0, rfl⟩
  · exact ⟨_, cap, rfl⟩

end Go.Proofs.YthlokfcejojdhaaDoor

/- That a record fits, by the specification. -/
namespace Go.Proofs.YthlokfcejojdhaaDoor
open Go.RowKit
set_option linter.unusedVariables false
set_option linter.unusedSimpArgs false

set_option maxRecDepth 20000 in
set_option maxHeartbeats 4000000 in
theorem specCopyW_c (x : S_Wal) (p : Option Addr) (cap : Nat) (w : World) (hn : x.f4.length ≤ 1048576) (hr : RowR w (.slice p x.f4.length cap) x.f4.length 2 (rEntry x.f4)) :
    Calls Tryd.prog 56 #[.agg #[.int .i64 x.f0, .int .i64 x.f1, .int .i64 x.f2, .int .i64 x.f3, .slice p x.f4.length cap]] w fun e w' => ∃ q c, e = .returned (.agg #[.int .i64 x.f0, .int .i64 x.f1, .int .i64 x.f2, .int .i64 x.f3, .slice q x.f4.length c]) ∧ OwWal w' w.heap.size x (.slice q x.f4.length c) ∧ Below w.heap.size w w' := by
  obtain ⟨W0, hW0⟩ : ∃ W, W = (w.alloc (.cells #[.int .i64 x.f0, .int .i64 x.f1, .int .i64 x.f2, .int .i64 x.f3, .slice p x.f4.length cap] 26)).alloc (.cells #[.int .i64 0, .int .i64 0, .int .i64 0, .int .i64 0, .slice none 0 0] 26) := ⟨_, rfl⟩
  have HW0 : Hid ((w.alloc (.cells #[.int .i64 x.f0, .int .i64 x.f1, .int .i64 x.f2, .int .i64 x.f3, .slice p x.f4.length cap] 26)).alloc (.cells #[.int .i64 0, .int .i64 0, .int .i64 0, .int .i64 0, .slice none 0 0] 26) = W0) := hW0.symm
  have HZ0 : Hid (W0.heap.size = w.heap.size + 2) := by show _ = _; rw [hW0]; simp
  have HB0 : Hid (Below w.heap.size w W0) := by rw [hW0]; exact ((Below.refl _ _).alloc (Nat.le_refl _) _).alloc (by simp) _
  have HX0 : Hid (W0.heap[w.heap.size]? = some (.cells #[.int .i64 x.f0, .int .i64 x.f1, .int .i64 x.f2, .int .i64 x.f3, .slice p x.f4.length cap] 26)) := by rw [hW0]; exact (((Below.refl (w.heap.size + 1) (w.alloc (.cells #[.int .i64 x.f0, .int .i64 x.f1, .int .i64 x.f2, .int .i64 x.f3, .slice p x.f4.length cap] 26))).alloc (by simp) _).block _ (Nat.lt_succ_self _)).trans (alloc_last _ _)
  have HY0 : Hid (W0.heap[w.heap.size + 1]? = some (.cells #[.int .i64 0, .int .i64 0, .int .i64 0, .int .i64 0, .slice none 0 0] 26)) := by
    rw [hW0]
    have := alloc_last (w.alloc (.cells #[.int .i64 x.f0, .int .i64 x.f1, .int .i64 x.f2, .int .i64 x.f3, .slice p x.f4.length cap] 26)) (.cells #[.int .i64 0, .int .i64 0, .int .i64 0, .int .i64 0, .slice none 0 0] 26)
    rw [World.size_alloc] at this
    exact this
  obtain ⟨v', w1, hrun, hown, hb1⟩ := cpEn p x.f4 cap W0 hn (RowR.keep hr HB0.out (Nat.le_refl _))
  have HX1 : Hid (w1.heap[w.heap.size]? = some (.cells #[.int .i64 x.f0, .int .i64 x.f1, .int .i64 x.f2, .int .i64 x.f3, .slice p x.f4.length cap] 26)) := (hb1.block _ (lt_of_some HX0.out)).trans HX0.out
  have HY1 : Hid (w1.heap[w.heap.size + 1]? = some (.cells #[.int .i64 0, .int .i64 0, .int .i64 0, .int .i64 0, .slice none 0 0] 26)) := (hb1.block _ (lt_of_some HY0.out)).trans HY0.out
  have HO1 : Hid (w1.ownsRow W0.heap.size 63 2 v' x.f4.length (rEntry x.f4)) := hown
  have HB1 : Hid (Below w.heap.size w w1) := HB0.out.trans (hb1.mono HB0.out.size)
  obtain ⟨q, c, rfl⟩ := own_sliceS hown
  rw [HZ0.out] at hrun
  clear hn hr hW0 hown hb1
  obtain ⟨x0, x1, x2, x3, x4⟩ := box5 HX0.out
  obtain ⟨u0, u1, u2, u3, u4⟩ := box5 HX1.out
  have xf := frz5 HX1.out 4
  obtain ⟨z0, z1, z2, z3, z4⟩ := box5 HY1.out
  have zf := frz5 HY1.out
  go_enter Tryd.func56, Tryd.ntmps56
  go_wp2_with (at_builtin; rw [HW0.out]; refine wpList_append_toS rfl _ _ 24 rfl _ _ rfl rfl _ _ hrun ?_)
  clear hrun
  have HX2 : Hid ((w1.setCell ⟨w.heap.size, 4, none⟩ (.slice q x.f4.length c)).heap[w.heap.size]? = some (.cells #[.int .i64 x.f0, .int .i64 x.f1, .int .i64 x.f2, .int .i64 x.f3, .slice q x.f4.length c] 26)) := heap_setCell_same w1 w.heap.size 4 _ _ (.slice q x.f4.length c) HX1.out
  have HY2 : Hid ((w1.setCell ⟨w.heap.size, 4, none⟩ (.slice q x.f4.length c)).heap[w.heap.size + 1]? = some (.cells #[.int .i64 0, .int .i64 0, .int .i64 0, .int .i64 0, .slice none 0 0] 26)) := (Below.heap_setCell _ _ _ _ (by show w.heap.size + 1 ≠ w.heap.size; omega)).trans HY1.out
  have HO2 : Hid ((w1.setCell ⟨w.heap.size, 4, none⟩ (.slice q x.f4.length c)).ownsRow W0.heap.size 63 2 (.slice q x.f4.length c) x.f4.length (rEntry x.f4)) := own_set_lt HO1.out _ (by show w.heap.size < _; rw [HZ0.out]; omega)
  have HB2 : Hid (Below w.heap.size w (w1.setCell ⟨w.heap.size, 4, none⟩ (.slice q x.f4.length c))) := HB1.out.setCell (Nat.le_refl _) _
  have HO3 : Hid ((((((((w1.setCell ⟨w.heap.size, 4, none⟩ (.slice q x.f4.length c)).setCell ⟨w.heap.size + 1, 0, none⟩ ((.int .i64 x.f0))).setCell ⟨w.heap.size + 1, 1, none⟩ ((.int .i64 x.f1))).setCell ⟨w.heap.size + 1, 2, none⟩ ((.int .i64 x.f2))).setCell ⟨w.heap.size + 1, 3, none⟩ ((.int .i64 x.f3))).setCell ⟨w.heap.size + 1, 4, none⟩ ((.slice q x.f4.length c)))).ownsRow w.heap.size 63 2 (.slice q x.f4.length c) x.f4.length (rEntry x.f4)) := own_low (store5_own _ _ _ _ _ HO2.out (by rw [HZ0.out]; omega)) (by rw [HZ0.out]; omega)
  have HB3 : Hid (Below w.heap.size w (((((((w1.setCell ⟨w.heap.size, 4, none⟩ (.slice q x.f4.length c)).setCell ⟨w.heap.size + 1, 0, none⟩ ((.int .i64 x.f0))).setCell ⟨w.heap.size + 1, 1, none⟩ ((.int .i64 x.f1))).setCell ⟨w.heap.size + 1, 2, none⟩ ((.int .i64 x.f2))).setCell ⟨w.heap.size + 1, 3, none⟩ ((.int .i64 x.f3))).setCell ⟨w.heap.size + 1, 4, none⟩ ((.slice q x.f4.length c))))) := store5_bel _ _ _ _ _ HB2.out (by omega)
  obtain ⟨y0, y1, y2, y3, y4⟩ := box5 (store5 (.int .i64 x.f0) (.int .i64 x.f1) (.int .i64 x.f2) (.int .i64 x.f3) (.slice q x.f4.length c) HY2.out)
  refine bodyPost_ret (v := .agg #[.int .i64 x.f0, .int .i64 x.f1, .int .i64 x.f2, .int .i64 x.f3, .slice q x.f4.length c]) (by simp [results, Tryd.results56, go_sem, y0, y1, y2, y3, y4, z0, z1, z2, z3, z4]) rfl ?_
  exact ⟨_, _, rfl, HO3.out, HB3.out⟩

set_option maxRecDepth 20000 in
set_option maxHeartbeats 4000000 in
theorem specLast_c (x : S_Wal) (p : Option Addr) (cap : Nat) (w : World) (hn : x.f4.length ≤ 1048576) (hr : RowR w (.slice p x.f4.length cap) x.f4.length 2 (rEntry x.f4)) :
    Calls Tryd.prog 78 #[.agg #[.int .i64 x.f0, .int .i64 x.f1, .int .i64 x.f2, .int .i64 x.f3, .slice p x.f4.length cap]] w fun e w' => e = .returned (.int .i64 (lastT x)) ∧ Below w.heap.size w w' := by
  have hn' : (x.f4.length : Int) ≤ 1048576 := by omega
  rcases Nat.eq_zero_or_pos x.f4.length with h0 | h0
  · have HF : Hid (lastT x = x.f3) := lastT_none h0
    have h0' : ((x.f4.length : Int) == 0) = true := beq_iff_eq.2 (by omega)
    clear h0 hr hn
    go_enter Tryd.func78, Tryd.ntmps78
    go_wp2
    go_ret
    exact ⟨by rw [HF.out]; rfl, (Below.refl _ _).alloc (Nat.le_refl _) _⟩
  · have hlt : x.f4.length - 1 < x.f4.length := by omega
    have HF : Hid (lastT x = x.f4[x.f4.length - 1].f0) := lastT_some hlt
    obtain ⟨b, off, cap', hv, hb, hc⟩ := hr.some h0 (by decide)
    simp only [Value.slice.injEq, true_and] at hv
    obtain ⟨rfl, rfl⟩ := hv
    have c0 : w.cell? ⟨b, off + (x.f4.length - 1) * 2, none⟩ = some (.int .i64 (x.f4[x.f4.length - 1]).f0) := by
      rw [hc ((x.f4.length - 1) * 2) (by omega)]
      exact flat_at cEntry 2 cEntry_len x.f4 (x.f4.length - 1) 0 hlt (by decide)
    have h0' : ((x.f4.length : Int) == 0) = false := beq_eq_false_iff_ne.2 (by omega)
    obtain ⟨m, hm⟩ : ∃ m, m = x.f4.length - 1 := ⟨_, rfl⟩
    have hw : IntKind.i64.wrap ((x.f4.length : Int) - 1) = (m : Int) := by rw [IntWalk.i64_in _ (by omega)]; omega
    have hml : (m : Int) < (x.f4.length : Int) := by omega
    have hbw : b < w.heap.size := hb
    have hne : ¬ b = w.heap.size := by omega
    have c1 : w.cell? ⟨b, off + m * 2, none⟩ = some (.int .i64 (x.f4[x.f4.length - 1]).f0) := by rw [hm]; exact c0
    clear c0
    clear hc hr hn
    generalize (x.f4[x.f4.length - 1]).f0 = Y at c1 HF
    clear hlt h0 hm
    go_enter Tryd.func78, Tryd.ntmps78
    go_wp2
    go_ret
    exact ⟨by rw [HF.out]; rfl, (Below.refl _ _).alloc (Nat.le_refl _) _⟩

set_option maxRecDepth 20000 in
set_option maxHeartbeats 4000000 in
theorem cellsS {w W : World} {b : Nat} {c0 c1 c2 c3 c4 : Value} {T : TypeId} (h : w.heap[b]? = some (.cells #[c0, c1, c2, c3, c4] T)) (hS : Below w.heap.size w W) : ∀ j u, [c0, c1, c2, c3, c4][j]? = some u → W.cell? ((⟨b, 0, none⟩ : Addr).add j) = some u := by
  have h' : W.heap[b]? = some (.cells #[c0, c1, c2, c3, c4] T) := (hS.block _ (lt_of_some h)).trans h
  obtain ⟨a0, a1, a2, a3, a4⟩ := box5 h'
  intro j u hj
  rw [Addr.add_mid, Nat.zero_add]
  rcases j with _ | _ | _ | _ | _ | j
  · simp only [List.getElem?_cons_zero, Option.some.injEq] at hj; rw [← hj]; exact a0
  · simp only [List.getElem?_cons_succ, List.getElem?_cons_zero, Option.some.injEq] at hj; rw [← hj]; exact a1
  · simp only [List.getElem?_cons_succ, List.getElem?_cons_zero, Option.some.injEq] at hj; rw [← hj]; exact a2
  · simp only [List.getElem?_cons_succ, List.getElem?_cons_zero, Option.some.injEq] at hj; rw [← hj]; exact a3
  · simp only [List.getElem?_cons_succ, List.getElem?_cons_zero, Option.some.injEq] at hj; rw [← hj]; exact a4
  · simp at hj

set_option maxRecDepth 20000 in
set_option maxHeartbeats 4000000 in
theorem specFitsR_c (x : S_Wal) (r : S_Rec) (p : Option Addr) (cap : Nat) (w : World) (hn : x.f4.length ≤ 1048576) (h2 : 0 ≤ x.f2 ∧ x.f2 ≤ 100000) (hr : RowR w (.slice p x.f4.length cap) x.f4.length 2 (rEntry x.f4)) :
    Calls Tryd.prog 58 #[.agg #[.int .i64 x.f0, .int .i64 x.f1, .int .i64 x.f2, .int .i64 x.f3, .slice p x.f4.length cap], .agg #[.int .i64 r.f0, .int .i64 r.f1, .int .i64 r.f2, .int .i64 r.f3, .string r.f4]] w fun e w' => e = .returned (.bool (decide (fitsR x r))) ∧ Below w.heap.size w w' := by
  obtain ⟨W0, hW0⟩ : ∃ W, W = (w.alloc (.cells #[.int .i64 x.f0, .int .i64 x.f1, .int .i64 x.f2, .int .i64 x.f3, .slice p x.f4.length cap] 26)).alloc (.cells #[.int .i64 r.f0, .int .i64 r.f1, .int .i64 r.f2, .int .i64 r.f3, .string r.f4] 57) := ⟨_, rfl⟩
  have HW0 : Hid ((w.alloc (.cells #[.int .i64 x.f0, .int .i64 x.f1, .int .i64 x.f2, .int .i64 x.f3, .slice p x.f4.length cap] 26)).alloc (.cells #[.int .i64 r.f0, .int .i64 r.f1, .int .i64 r.f2, .int .i64 r.f3, .string r.f4] 57) = W0) := hW0.symm
  have HZ0 : Hid (W0.heap.size = w.heap.size + 2) := by show _ = _; rw [hW0]; simp
  have HB0 : Hid (Below w.heap.size w W0) := by rw [hW0]; exact ((Below.refl _ _).alloc (Nat.le_refl _) _).alloc (by simp) _
  have HX0 : Hid (W0.heap[w.heap.size]? = some (.cells #[.int .i64 x.f0, .int .i64 x.f1, .int .i64 x.f2, .int .i64 x.f3, .slice p x.f4.length cap] 26)) := by rw [hW0]; exact (((Below.refl (w.heap.size + 1) (w.alloc (.cells #[.int .i64 x.f0, .int .i64 x.f1, .int .i64 x.f2, .int .i64 x.f3, .slice p x.f4.length cap] 26))).alloc (by simp) _).block _ (Nat.lt_succ_self _)).trans (alloc_last _ _)
  have HY0 : Hid (W0.heap[w.heap.size + 1]? = some (.cells #[.int .i64 r.f0, .int .i64 r.f1, .int .i64 r.f2, .int .i64 r.f3, .string r.f4] 57)) := by
    rw [hW0]
    have := alloc_last (w.alloc (.cells #[.int .i64 x.f0, .int .i64 x.f1, .int .i64 x.f2, .int .i64 x.f3, .slice p x.f4.length cap] 26)) (.cells #[.int .i64 r.f0, .int .i64 r.f1, .int .i64 r.f2, .int .i64 r.f3, .string r.f4] 57)
    rw [World.size_alloc] at this
    exact this
  have HRW : Hid (RowR W0 (.slice p x.f4.length cap) x.f4.length 2 (rEntry x.f4)) := RowR.keep hr HB0.out (Nat.le_refl _)
  have HN : Hid (x.f4.length ≤ 1048576) := hn
  obtain ⟨h2a, h2b⟩ := h2
  have hn' : (x.f4.length : Int) ≤ 1048576 := by omega
  have hwl : IntKind.i64.wrap (x.f2 + (x.f4.length : Int)) = x.f2 + (x.f4.length : Int) := IntWalk.i64_in _ (by omega)
  have hwl1 : IntKind.i64.wrap (x.f2 + (x.f4.length : Int) + 1) = x.f2 + (x.f4.length : Int) + 1 := IntWalk.i64_in _ (by omega)
  clear hn hr hW0
  obtain ⟨d0, d1, d2, d3, d4⟩ := box5 HX0.out
  obtain ⟨e0, e1, e2, e3, e4⟩ := box5 HY0.out
  by_cases q1 : r.f0 = 1
  · skip
    have k1 : (r.f0 == 1) = true := beq_iff_eq.2 (by omega)
    by_cases h1 : x.f0 < r.f1
    · have HF : Hid (fitsR x r) := (fits_1 q1).2 (.inl h1)
      clear q1
      go_enter Tryd.func58, Tryd.ntmps58
      go_wp2_with fail
      rw [HW0.out]
      go_ret
      exact ⟨ret_t HF.out, HB0.out⟩
    by_cases h3 : r.f1 = x.f0
    rotate_left
    · have HF : Hid (¬ fitsR x r) := fun h => ((fits_1 q1).1 h).elim h1 (fun h => h3 h.1)
      have b3 : (r.f1 == x.f0) = false := by simpa using h3
      clear q1 h3
      go_enter Tryd.func58, Tryd.ntmps58
      go_wp2_with fail
      rw [HW0.out]
      go_ret
      exact ⟨ret_f HF.out, HB0.out⟩
    have b3 : (r.f1 == x.f0) = true := by simpa using h3
    by_cases h4 : x.f1 = -1
    · have HF : Hid (fitsR x r) := (fits_1 q1).2 (.inr ⟨h3, .inl h4⟩)
      have b4 : (x.f1 == -1) = true := by simpa using h4
      clear q1 h3 h4
      go_enter Tryd.func58, Tryd.ntmps58
      go_wp2_with fail
      rw [HW0.out]
      go_ret
      exact ⟨ret_t HF.out, HB0.out⟩
    have b4 : (x.f1 == -1) = false := by simpa using h4
    by_cases h5 : r.f3 = x.f1
    · have HF : Hid (fitsR x r) := (fits_1 q1).2 (.inr ⟨h3, .inr h5⟩)
      have b5 : (r.f3 == x.f1) = true := by simpa using h5
      clear q1 h3 h4 h5
      go_enter Tryd.func58, Tryd.ntmps58
      go_wp2_with fail
      rw [HW0.out]
      go_ret
      exact ⟨ret_t HF.out, HB0.out⟩
    · have HF : Hid (¬ fitsR x r) := fun h => ((fits_1 q1).1 h).elim h1 (fun h => h.2.elim h4 h5)
      have b5 : (r.f3 == x.f1) = false := by simpa using h5
      clear q1 h3 h4 h5
      go_enter Tryd.func58, Tryd.ntmps58
      go_wp2_with fail
      rw [HW0.out]
      go_ret
      exact ⟨ret_f HF.out, HB0.out⟩
  by_cases q2 : r.f0 = 2
  · skip
    have k1 : (r.f0 == 1) = false := beq_eq_false_iff_ne.2 (by omega)
    have k2 : (r.f0 == 2) = true := beq_iff_eq.2 (by omega)
    by_cases g0 : r.f2 = x.f2 + (x.f4.length : Int) + 1
    rotate_left
    · have HF : Hid (¬ fitsR x r) := fun h' => g0 (by have h := (fits_2 q2).1 h'; exact h.1)
      have t0 : (r.f2 == x.f2 + (x.f4.length : Int) + 1) = false := by simpa using g0
      clear q1 q2 g0
      go_enter Tryd.func58, Tryd.ntmps58
      go_upto_region 6 with fail
      rw [HW0.out]
      refine wp_region_told (fun W => Below W0.heap.size W0 W) (by kernel_rfl) (by kernel_rfl) ((Below.refl W0.heap.size W0).drew) ?_
      refine told_pure (some 42) (.pointer (some ⟨w.heap.size + 1, 2, none⟩)) rfl (by kernel_rfl) (fun _ => by kernel_rfl) ?_
      refine told_load (some 43) ⟨w.heap.size + 1, 2, none⟩ (.int .i64 r.f2) rfl (by kernel_rfl) (fun _ => by kernel_rfl) (fun _ hS => atB hS e2) ?_
      refine told_pure (some 44) (.int .i64 (x.f2 + (x.f4.length : Int))) rfl (by kernel_rfl) (fun _ => by kernel_rfl) ?_
      refine told_is (some 45) (.int .i64 (IntKind.i64.wrap (x.f2 + (x.f4.length : Int) + 1))) (.int .i64 (x.f2 + (x.f4.length : Int) + 1)) (by rw [hwl1]) rfl (by kernel_rfl) (fun _ => by kernel_rfl) ?_
      refine told_is (some 46) (.bool (r.f2 == x.f2 + (x.f4.length : Int) + 1)) (.bool false) (by rw [t0]) rfl (by kernel_rfl) (fun _ => by kernel_rfl) ?_
      refine told_pure (some 47) (.bool false) rfl (by kernel_rfl) (fun _ => by kernel_rfl) ?_
      refine told_skip (some 48) rfl (by kernel_rfl) ?_
      refine told_skip (some 49) rfl (by kernel_rfl) ?_
      refine told_skip (some 50) rfl (by kernel_rfl) ?_
      refine told_skip (some 51) rfl (by kernel_rfl) ?_
      refine told_pure (some 52) (.bool false) rfl (by kernel_rfl) (fun _ => by kernel_rfl) ?_
      refine told_pure (some 53) (.bool false) rfl (by kernel_rfl) (fun _ => by kernel_rfl) ?_
      refine told_skip (some 54) rfl (by kernel_rfl) ?_
      refine told_skip (some 55) rfl (by kernel_rfl) ?_
      refine told_skip (some 56) rfl (by kernel_rfl) ?_
      refine told_skip (some 57) rfl (by kernel_rfl) ?_
      refine told_skip (some 58) rfl (by kernel_rfl) ?_
      refine told_pure (some 59) (.bool false) rfl (by kernel_rfl) (fun _ => by kernel_rfl) ?_
      refine told_pure (some 60) (.bool false) rfl (by kernel_rfl) (fun _ => by kernel_rfl) ?_
      refine told_skip (some 61) rfl (by kernel_rfl) ?_
      refine told_skip (some 62) rfl (by kernel_rfl) ?_
      refine told_skip (some 63) rfl (by kernel_rfl) ?_
      refine told_skip (some 64) rfl (by kernel_rfl) ?_
      refine told_skip (some 65) rfl (by kernel_rfl) ?_
      refine told_pure (some 66) (.bool false) rfl (by kernel_rfl) (fun _ => by kernel_rfl) ?_
      refine told_pure (some 4) (.bool false) rfl (by kernel_rfl) (fun _ => by kernel_rfl) ?_
      refine told_nil ?_
      intro w9 hS9
      simp only [Act.put, List.setIfInBounds_toArray, List.set_cons_zero, List.set_cons_succ]
      have HB9 : Hid (Below w.heap.size w w9) := HB0.out.trans (Below.mono hS9 HB0.out.size)
      clear hS9
      go_wp2
      go_ret
      exact ⟨ret_f HF.out, HB9.out⟩
    have t0 : (r.f2 == x.f2 + (x.f4.length : Int) + 1) = true := by simpa using g0
    by_cases g1 : (x.f4.length : Int) < 60
    rotate_left
    · have HF : Hid (¬ fitsR x r) := fun h' => g1 (by have h := (fits_2 q2).1 h'; exact h.2.1)
      have t1 : decide ((x.f4.length : Int) < 60) = false := decide_eq_false g1
      clear q1 q2 g0 g1
      go_enter Tryd.func58, Tryd.ntmps58
      go_upto_region 6 with fail
      rw [HW0.out]
      refine wp_region_told (fun W => Below W0.heap.size W0 W) (by kernel_rfl) (by kernel_rfl) ((Below.refl W0.heap.size W0).drew) ?_
      refine told_pure (some 42) (.pointer (some ⟨w.heap.size + 1, 2, none⟩)) rfl (by kernel_rfl) (fun _ => by kernel_rfl) ?_
      refine told_load (some 43) ⟨w.heap.size + 1, 2, none⟩ (.int .i64 r.f2) rfl (by kernel_rfl) (fun _ => by kernel_rfl) (fun _ hS => atB hS e2) ?_
      refine told_pure (some 44) (.int .i64 (x.f2 + (x.f4.length : Int))) rfl (by kernel_rfl) (fun _ => by kernel_rfl) ?_
      refine told_is (some 45) (.int .i64 (IntKind.i64.wrap (x.f2 + (x.f4.length : Int) + 1))) (.int .i64 (x.f2 + (x.f4.length : Int) + 1)) (by rw [hwl1]) rfl (by kernel_rfl) (fun _ => by kernel_rfl) ?_
      refine told_is (some 46) (.bool (r.f2 == x.f2 + (x.f4.length : Int) + 1)) (.bool true) (by rw [t0]) rfl (by kernel_rfl) (fun _ => by kernel_rfl) ?_
      refine told_pure (some 47) (.bool true) rfl (by kernel_rfl) (fun _ => by kernel_rfl) ?_
      refine told_pure (some 48) (.pointer (some ⟨w.heap.size, 4, none⟩)) rfl (by kernel_rfl) (fun _ => by kernel_rfl) ?_
      refine told_load (some 49) ⟨w.heap.size, 4, none⟩ (.slice p x.f4.length cap) rfl (by kernel_rfl) (fun _ => by kernel_rfl) (fun _ hS => atB hS d4) ?_
      refine told_pure (some 50) (.int .i64 x.f4.length) rfl (by kernel_rfl) (fun _ => by kernel_rfl) ?_
      refine told_is (some 51) (.bool (decide ((x.f4.length : Int) < 60))) (.bool false) (by rw [t1]) rfl (by kernel_rfl) (fun _ => by kernel_rfl) ?_
      refine told_pure (some 52) (.bool false) rfl (by kernel_rfl) (fun _ => by kernel_rfl) ?_
      refine told_pure (some 53) (.bool false) rfl (by kernel_rfl) (fun _ => by kernel_rfl) ?_
      refine told_skip (some 54) rfl (by kernel_rfl) ?_
      refine told_skip (some 55) rfl (by kernel_rfl) ?_
      refine told_skip (some 56) rfl (by kernel_rfl) ?_
      refine told_skip (some 57) rfl (by kernel_rfl) ?_
      refine told_skip (some 58) rfl (by kernel_rfl) ?_
      refine told_pure (some 59) (.bool false) rfl (by kernel_rfl) (fun _ => by kernel_rfl) ?_
      refine told_pure (some 60) (.bool false) rfl (by kernel_rfl) (fun _ => by kernel_rfl) ?_
      refine told_skip (some 61) rfl (by kernel_rfl) ?_
      refine told_skip (some 62) rfl (by kernel_rfl) ?_
      refine told_skip (some 63) rfl (by kernel_rfl) ?_
      refine told_skip (some 64) rfl (by kernel_rfl) ?_
      refine told_skip (some 65) rfl (by kernel_rfl) ?_
      refine told_pure (some 66) (.bool false) rfl (by kernel_rfl) (fun _ => by kernel_rfl) ?_
      refine told_pure (some 4) (.bool false) rfl (by kernel_rfl) (fun _ => by kernel_rfl) ?_
      refine told_nil ?_
      intro w9 hS9
      simp only [Act.put, List.setIfInBounds_toArray, List.set_cons_zero, List.set_cons_succ]
      have HB9 : Hid (Below w.heap.size w w9) := HB0.out.trans (Below.mono hS9 HB0.out.size)
      clear hS9
      go_wp2
      go_ret
      exact ⟨ret_f HF.out, HB9.out⟩
    have t1 : decide ((x.f4.length : Int) < 60) = true := decide_eq_true g1
    by_cases g2 : lastT x ≤ r.f1
    rotate_left
    · have HF : Hid (¬ fitsR x r) := fun h' => g2 (by have h := (fits_2 q2).1 h'; exact h.2.2.1)
      have t2 : decide (lastT x ≤ r.f1) = false := decide_eq_false g2
      clear q1 q2 g0 g1 g2
      go_enter Tryd.func58, Tryd.ntmps58
      go_upto_region 6 with fail
      rw [HW0.out]
      refine wp_region_told (fun W => Below W0.heap.size W0 W) (by kernel_rfl) (by kernel_rfl) ((Below.refl W0.heap.size W0).drew) ?_
      refine told_pure (some 42) (.pointer (some ⟨w.heap.size + 1, 2, none⟩)) rfl (by kernel_rfl) (fun _ => by kernel_rfl) ?_
      refine told_load (some 43) ⟨w.heap.size + 1, 2, none⟩ (.int .i64 r.f2) rfl (by kernel_rfl) (fun _ => by kernel_rfl) (fun _ hS => atB hS e2) ?_
      refine told_pure (some 44) (.int .i64 (x.f2 + (x.f4.length : Int))) rfl (by kernel_rfl) (fun _ => by kernel_rfl) ?_
      refine told_is (some 45) (.int .i64 (IntKind.i64.wrap (x.f2 + (x.f4.length : Int) + 1))) (.int .i64 (x.f2 + (x.f4.length : Int) + 1)) (by rw [hwl1]) rfl (by kernel_rfl) (fun _ => by kernel_rfl) ?_
      refine told_is (some 46) (.bool (r.f2 == x.f2 + (x.f4.length : Int) + 1)) (.bool true) (by rw [t0]) rfl (by kernel_rfl) (fun _ => by kernel_rfl) ?_
      refine told_pure (some 47) (.bool true) rfl (by kernel_rfl) (fun _ => by kernel_rfl) ?_
      refine told_pure (some 48) (.pointer (some ⟨w.heap.size, 4, none⟩)) rfl (by kernel_rfl) (fun _ => by kernel_rfl) ?_
      refine told_load (some 49) ⟨w.heap.size, 4, none⟩ (.slice p x.f4.length cap) rfl (by kernel_rfl) (fun _ => by kernel_rfl) (fun _ hS => atB hS d4) ?_
      refine told_pure (some 50) (.int .i64 x.f4.length) rfl (by kernel_rfl) (fun _ => by kernel_rfl) ?_
      refine told_is (some 51) (.bool (decide ((x.f4.length : Int) < 60))) (.bool true) (by rw [t1]) rfl (by kernel_rfl) (fun _ => by kernel_rfl) ?_
      refine told_pure (some 52) (.bool true) rfl (by kernel_rfl) (fun _ => by kernel_rfl) ?_
      refine told_pure (some 53) (.bool true) rfl (by kernel_rfl) (fun _ => by kernel_rfl) ?_
      refine told_pure (some 54) (.pointer (some ⟨w.heap.size + 1, 1, none⟩)) rfl (by kernel_rfl) (fun _ => by kernel_rfl) ?_
      refine told_load (some 55) ⟨w.heap.size + 1, 1, none⟩ (.int .i64 r.f1) rfl (by kernel_rfl) (fun _ => by kernel_rfl) (fun _ hS => atB hS e1) ?_
      refine told_loads (some 56) ⟨w.heap.size, 0, none⟩ [(.int .i64 x.f0), (.int .i64 x.f1), (.int .i64 x.f2), (.int .i64 x.f3), .slice p x.f4.length cap] rfl (by kernel_rfl) (fun _ => by kernel_rfl) (fun _ hS => cellsS (HX0.out) hS) ?_
      refine told_call (some 57) (.int .i64 (lastT x)) 78 #[.agg #[.int .i64 x.f0, .int .i64 x.f1, .int .i64 x.f2, .int .i64 x.f3, .slice p x.f4.length cap]] rfl (by kernel_rfl) (fun _ => by kernel_rfl) (fun W hS => below_S (specLast_c x p cap W HN.out (RowR.keep HRW.out hS (Nat.le_refl _))) hS) ?_
      refine told_is (some 58) (.bool (decide (lastT x ≤ r.f1))) (.bool false) (by rw [t2]) rfl (by kernel_rfl) (fun _ => by kernel_rfl) ?_
      refine told_pure (some 59) (.bool false) rfl (by kernel_rfl) (fun _ => by kernel_rfl) ?_
      refine told_pure (some 60) (.bool false) rfl (by kernel_rfl) (fun _ => by kernel_rfl) ?_
      refine told_skip (some 61) rfl (by kernel_rfl) ?_
      refine told_skip (some 62) rfl (by kernel_rfl) ?_
      refine told_skip (some 63) rfl (by kernel_rfl) ?_
      refine told_skip (some 64) rfl (by kernel_rfl) ?_
      refine told_skip (some 65) rfl (by kernel_rfl) ?_
      refine told_pure (some 66) (.bool false) rfl (by kernel_rfl) (fun _ => by kernel_rfl) ?_
      refine told_pure (some 4) (.bool false) rfl (by kernel_rfl) (fun _ => by kernel_rfl) ?_
      refine told_nil ?_
      intro w9 hS9
      simp only [Act.put, List.setIfInBounds_toArray, List.set_cons_zero, List.set_cons_succ]
      have HB9 : Hid (Below w.heap.size w w9) := HB0.out.trans (Below.mono hS9 HB0.out.size)
      clear hS9
      go_wp2
      go_ret
      exact ⟨ret_f HF.out, HB9.out⟩
    have t2 : decide (lastT x ≤ r.f1) = true := decide_eq_true g2
    by_cases g3 : r.f1 ≤ x.f0
    rotate_left
    · have HF : Hid (¬ fitsR x r) := fun h' => g3 (by have h := (fits_2 q2).1 h'; exact h.2.2.2)
      have t3 : decide (r.f1 ≤ x.f0) = false := decide_eq_false g3
      clear q1 q2 g0 g1 g2 g3
      go_enter Tryd.func58, Tryd.ntmps58
      go_upto_region 6 with fail
      rw [HW0.out]
      refine wp_region_told (fun W => Below W0.heap.size W0 W) (by kernel_rfl) (by kernel_rfl) ((Below.refl W0.heap.size W0).drew) ?_
      refine told_pure (some 42) (.pointer (some ⟨w.heap.size + 1, 2, none⟩)) rfl (by kernel_rfl) (fun _ => by kernel_rfl) ?_
      refine told_load (some 43) ⟨w.heap.size + 1, 2, none⟩ (.int .i64 r.f2) rfl (by kernel_rfl) (fun _ => by kernel_rfl) (fun _ hS => atB hS e2) ?_
      refine told_pure (some 44) (.int .i64 (x.f2 + (x.f4.length : Int))) rfl (by kernel_rfl) (fun _ => by kernel_rfl) ?_
      refine told_is (some 45) (.int .i64 (IntKind.i64.wrap (x.f2 + (x.f4.length : Int) + 1))) (.int .i64 (x.f2 + (x.f4.length : Int) + 1)) (by rw [hwl1]) rfl (by kernel_rfl) (fun _ => by kernel_rfl) ?_
      refine told_is (some 46) (.bool (r.f2 == x.f2 + (x.f4.length : Int) + 1)) (.bool true) (by rw [t0]) rfl (by kernel_rfl) (fun _ => by kernel_rfl) ?_
      refine told_pure (some 47) (.bool true) rfl (by kernel_rfl) (fun _ => by kernel_rfl) ?_
      refine told_pure (some 48) (.pointer (some ⟨w.heap.size, 4, none⟩)) rfl (by kernel_rfl) (fun _ => by kernel_rfl) ?_
      refine told_load (some 49) ⟨w.heap.size, 4, none⟩ (.slice p x.f4.length cap) rfl (by kernel_rfl) (fun _ => by kernel_rfl) (fun _ hS => atB hS d4) ?_
      refine told_pure (some 50) (.int .i64 x.f4.length) rfl (by kernel_rfl) (fun _ => by kernel_rfl) ?_
      refine told_is (some 51) (.bool (decide ((x.f4.length : Int) < 60))) (.bool true) (by rw [t1]) rfl (by kernel_rfl) (fun _ => by kernel_rfl) ?_
      refine told_pure (some 52) (.bool true) rfl (by kernel_rfl) (fun _ => by kernel_rfl) ?_
      refine told_pure (some 53) (.bool true) rfl (by kernel_rfl) (fun _ => by kernel_rfl) ?_
      refine told_pure (some 54) (.pointer (some ⟨w.heap.size + 1, 1, none⟩)) rfl (by kernel_rfl) (fun _ => by kernel_rfl) ?_
      refine told_load (some 55) ⟨w.heap.size + 1, 1, none⟩ (.int .i64 r.f1) rfl (by kernel_rfl) (fun _ => by kernel_rfl) (fun _ hS => atB hS e1) ?_
      refine told_loads (some 56) ⟨w.heap.size, 0, none⟩ [(.int .i64 x.f0), (.int .i64 x.f1), (.int .i64 x.f2), (.int .i64 x.f3), .slice p x.f4.length cap] rfl (by kernel_rfl) (fun _ => by kernel_rfl) (fun _ hS => cellsS (HX0.out) hS) ?_
      refine told_call (some 57) (.int .i64 (lastT x)) 78 #[.agg #[.int .i64 x.f0, .int .i64 x.f1, .int .i64 x.f2, .int .i64 x.f3, .slice p x.f4.length cap]] rfl (by kernel_rfl) (fun _ => by kernel_rfl) (fun W hS => below_S (specLast_c x p cap W HN.out (RowR.keep HRW.out hS (Nat.le_refl _))) hS) ?_
      refine told_is (some 58) (.bool (decide (lastT x ≤ r.f1))) (.bool true) (by rw [t2]) rfl (by kernel_rfl) (fun _ => by kernel_rfl) ?_
      refine told_pure (some 59) (.bool true) rfl (by kernel_rfl) (fun _ => by kernel_rfl) ?_
      refine told_pure (some 60) (.bool true) rfl (by kernel_rfl) (fun _ => by kernel_rfl) ?_
      refine told_pure (some 61) (.pointer (some ⟨w.heap.size + 1, 1, none⟩)) rfl (by kernel_rfl) (fun _ => by kernel_rfl) ?_
      refine told_load (some 62) ⟨w.heap.size + 1, 1, none⟩ (.int .i64 r.f1) rfl (by kernel_rfl) (fun _ => by kernel_rfl) (fun _ hS => atB hS e1) ?_
      refine told_pure (some 63) (.pointer (some ⟨w.heap.size, 0, none⟩)) rfl (by kernel_rfl) (fun _ => by kernel_rfl) ?_
      refine told_load (some 64) ⟨w.heap.size, 0, none⟩ (.int .i64 x.f0) rfl (by kernel_rfl) (fun _ => by kernel_rfl) (fun _ hS => atB hS d0) ?_
      refine told_is (some 65) (.bool (decide (r.f1 ≤ x.f0))) (.bool false) (by rw [t3]) rfl (by kernel_rfl) (fun _ => by kernel_rfl) ?_
      refine told_pure (some 66) (.bool false) rfl (by kernel_rfl) (fun _ => by kernel_rfl) ?_
      refine told_pure (some 4) (.bool false) rfl (by kernel_rfl) (fun _ => by kernel_rfl) ?_
      refine told_nil ?_
      intro w9 hS9
      simp only [Act.put, List.setIfInBounds_toArray, List.set_cons_zero, List.set_cons_succ]
      have HB9 : Hid (Below w.heap.size w w9) := HB0.out.trans (Below.mono hS9 HB0.out.size)
      clear hS9
      go_wp2
      go_ret
      exact ⟨ret_f HF.out, HB9.out⟩
    have t3 : decide (r.f1 ≤ x.f0) = true := decide_eq_true g3
    have HF : Hid (fitsR x r) := (fits_2 q2).2 ⟨g0, g1, g2, g3⟩
    clear q1 q2 g0 g1 g2 g3
    go_enter Tryd.func58, Tryd.ntmps58
    go_upto_region 6 with fail
    rw [HW0.out]
    refine wp_region_told (fun W => Below W0.heap.size W0 W) (by kernel_rfl) (by kernel_rfl) ((Below.refl W0.heap.size W0).drew) ?_
    refine told_pure (some 42) (.pointer (some ⟨w.heap.size + 1, 2, none⟩)) rfl (by kernel_rfl) (fun _ => by kernel_rfl) ?_
    refine told_load (some 43) ⟨w.heap.size + 1, 2, none⟩ (.int .i64 r.f2) rfl (by kernel_rfl) (fun _ => by kernel_rfl) (fun _ hS => atB hS e2) ?_
    refine told_pure (some 44) (.int .i64 (x.f2 + (x.f4.length : Int))) rfl (by kernel_rfl) (fun _ => by kernel_rfl) ?_
    refine told_is (some 45) (.int .i64 (IntKind.i64.wrap (x.f2 + (x.f4.length : Int) + 1))) (.int .i64 (x.f2 + (x.f4.length : Int) + 1)) (by rw [hwl1]) rfl (by kernel_rfl) (fun _ => by kernel_rfl) ?_
    refine told_is (some 46) (.bool (r.f2 == x.f2 + (x.f4.length : Int) + 1)) (.bool true) (by rw [t0]) rfl (by kernel_rfl) (fun _ => by kernel_rfl) ?_
    refine told_pure (some 47) (.bool true) rfl (by kernel_rfl) (fun _ => by kernel_rfl) ?_
    refine told_pure (some 48) (.pointer (some ⟨w.heap.size, 4, none⟩)) rfl (by kernel_rfl) (fun _ => by kernel_rfl) ?_
    refine told_load (some 49) ⟨w.heap.size, 4, none⟩ (.slice p x.f4.length cap) rfl (by kernel_rfl) (fun _ => by kernel_rfl) (fun _ hS => atB hS d4) ?_
    refine told_pure (some 50) (.int .i64 x.f4.length) rfl (by kernel_rfl) (fun _ => by kernel_rfl) ?_
    refine told_is (some 51) (.bool (decide ((x.f4.length : Int) < 60))) (.bool true) (by rw [t1]) rfl (by kernel_rfl) (fun _ => by kernel_rfl) ?_
    refine told_pure (some 52) (.bool true) rfl (by kernel_rfl) (fun _ => by kernel_rfl) ?_
    refine told_pure (some 53) (.bool true) rfl (by kernel_rfl) (fun _ => by kernel_rfl) ?_
    refine told_pure (some 54) (.pointer (some ⟨w.heap.size + 1, 1, none⟩)) rfl (by kernel_rfl) (fun _ => by kernel_rfl) ?_
    refine told_load (some 55) ⟨w.heap.size + 1, 1, none⟩ (.int .i64 r.f1) rfl (by kernel_rfl) (fun _ => by kernel_rfl) (fun _ hS => atB hS e1) ?_
    refine told_loads (some 56) ⟨w.heap.size, 0, none⟩ [(.int .i64 x.f0), (.int .i64 x.f1), (.int .i64 x.f2), (.int .i64 x.f3), .slice p x.f4.length cap] rfl (by kernel_rfl) (fun _ => by kernel_rfl) (fun _ hS => cellsS (HX0.out) hS) ?_
    refine told_call (some 57) (.int .i64 (lastT x)) 78 #[.agg #[.int .i64 x.f0, .int .i64 x.f1, .int .i64 x.f2, .int .i64 x.f3, .slice p x.f4.length cap]] rfl (by kernel_rfl) (fun _ => by kernel_rfl) (fun W hS => below_S (specLast_c x p cap W HN.out (RowR.keep HRW.out hS (Nat.le_refl _))) hS) ?_
    refine told_is (some 58) (.bool (decide (lastT x ≤ r.f1))) (.bool true) (by rw [t2]) rfl (by kernel_rfl) (fun _ => by kernel_rfl) ?_
    refine told_pure (some 59) (.bool true) rfl (by kernel_rfl) (fun _ => by kernel_rfl) ?_
    refine told_pure (some 60) (.bool true) rfl (by kernel_rfl) (fun _ => by kernel_rfl) ?_
    refine told_pure (some 61) (.pointer (some ⟨w.heap.size + 1, 1, none⟩)) rfl (by kernel_rfl) (fun _ => by kernel_rfl) ?_
    refine told_load (some 62) ⟨w.heap.size + 1, 1, none⟩ (.int .i64 r.f1) rfl (by kernel_rfl) (fun _ => by kernel_rfl) (fun _ hS => atB hS e1) ?_
    refine told_pure (some 63) (.pointer (some ⟨w.heap.size, 0, none⟩)) rfl (by kernel_rfl) (fun _ => by kernel_rfl) ?_
    refine told_load (some 64) ⟨w.heap.size, 0, none⟩ (.int .i64 x.f0) rfl (by kernel_rfl) (fun _ => by kernel_rfl) (fun _ hS => atB hS d0) ?_
    refine told_is (some 65) (.bool (decide (r.f1 ≤ x.f0))) (.bool true) (by rw [t3]) rfl (by kernel_rfl) (fun _ => by kernel_rfl) ?_
    refine told_pure (some 66) (.bool true) rfl (by kernel_rfl) (fun _ => by kernel_rfl) ?_
    refine told_pure (some 4) (.bool true) rfl (by kernel_rfl) (fun _ => by kernel_rfl) ?_
    refine told_nil ?_
    intro w9 hS9
    simp only [Act.put, List.setIfInBounds_toArray, List.set_cons_zero, List.set_cons_succ]
    have HB9 : Hid (Below w.heap.size w w9) := HB0.out.trans (Below.mono hS9 HB0.out.size)
    clear hS9
    go_wp2
    go_ret
    exact ⟨ret_t HF.out, HB9.out⟩
  by_cases q3 : r.f0 = 3
  · skip
    have k1 : (r.f0 == 1) = false := beq_eq_false_iff_ne.2 (by omega)
    have k2 : (r.f0 == 2) = false := beq_eq_false_iff_ne.2 (by omega)
    have k3 : (r.f0 == 3) = true := beq_iff_eq.2 (by omega)
    by_cases g0 : x.f2 < r.f2
    rotate_left
    · have HF : Hid (¬ fitsR x r) := fun h' => g0 ((fits_3 q3).1 h').1
      clear q1 q2 q3
      go_enter Tryd.func58, Tryd.ntmps58
      go_wp2_with fail
      rw [HW0.out]
      go_ret
      exact ⟨ret_f HF.out, HB0.out⟩
    by_cases g1 : r.f2 ≤ x.f2 + (x.f4.length : Int)
    rotate_left
    · have HF : Hid (¬ fitsR x r) := fun h' => g1 ((fits_3 q3).1 h').2
      clear q1 q2 q3
      go_enter Tryd.func58, Tryd.ntmps58
      go_wp2_with fail
      rw [HW0.out]
      go_ret
      exact ⟨ret_f HF.out, HB0.out⟩
    have HF : Hid (fitsR x r) := (fits_3 q3).2 ⟨g0, g1⟩
    clear q1 q2 q3
    go_enter Tryd.func58, Tryd.ntmps58
    go_wp2_with fail
    rw [HW0.out]
    go_ret
    exact ⟨ret_t HF.out, HB0.out⟩
  have HF : Hid (¬ fitsR x r) := fits_0 q1 q2 q3
  have k1 : (r.f0 == 1) = false := beq_eq_false_iff_ne.2 (by omega)
  have k2 : (r.f0 == 2) = false := beq_eq_false_iff_ne.2 (by omega)
  have k3 : (r.f0 == 3) = false := beq_eq_false_iff_ne.2 (by omega)
  clear q1 q2 q3
  go_enter Tryd.func58, Tryd.ntmps58
  go_wp2_with fail
  rw [HW0.out]
  go_ret
  exact ⟨ret_f HF.out, HB0.out⟩

end Go.Proofs.YthlokfcejojdhaaDoor

/- WalStep of the specification. -/
namespace Go.Proofs.YthlokfcejojdhaaDoor
open Go.RowKit
set_option linter.unusedVariables false
set_option linter.unusedSimpArgs false

/-- What a call that lays a record behind a log answers. -/
def WsR (x : S_Wal) (r : S_Rec) (w : World) (e : Ending) (w' : World) : Prop :=
  ∃ q c, e = .returned (.tuple #[.agg #[.int .i64 (wsF x r).f0, .int .i64 (wsF x r).f1, .int .i64 (wsF x r).f2, .int .i64 (wsF x r).f3, .slice q (wsF x r).f4.length c], .bool (wsB x r)]) ∧ OwWal w' w.heap.size (wsF x r) (.slice q (wsF x r).f4.length c) ∧ Below w.heap.size w w'

theorem wsR_mk {x : S_Wal} {r : S_Rec} {w w' : World} {y : S_Wal} {b : Bool} {q : Option Addr} {c : Nat} (h : wsF x r = y ∧ wsB x r = b) (ho : OwWal w' w.heap.size y (.slice q y.f4.length c)) (hb : Below w.heap.size w w') : WsR x r w (.returned (.tuple #[.agg #[.int .i64 y.f0, .int .i64 y.f1, .int .i64 y.f2, .int .i64 y.f3, .slice q y.f4.length c], .bool b])) w' := by
  obtain ⟨h1, h2⟩ := h
  unfold WsR
  rw [h1, h2]
  exact ⟨q, c, rfl, ho, hb⟩

theorem cell_two_newS (w : World) (a b : Value) (t : TypeId) : ∀ j u, ([a, b] : List Value)[j]? = some u → (w.alloc (.cells #[a, b] t)).cell? ((⟨w.heap.size, 0, none⟩ : Addr).add j) = some u := fun j u h => by
  rw [Addr.add_mid, Nat.zero_add]
  simp only [World.cell?, alloc_last]
  simpa using h

/-- What stands below the call's own row stays behind an append. -/
theorem heap_grownS {w w1 : World} {base k : Nat} {e : TypeId} {size n : Nat} {v : Value} {xs : List Value} {o o2 : Obj} (ho : w.ownsRow base e size v n xs) (hg : (w.alloc o2).grownBy w1 v.ownBlock) (hk : k < base) (h : w.heap[k]? = some o) : w1.heap[k]? = some o := by
  have hlt := lt_of_some h
  rw [hg.block k (by rw [World.size_alloc]; omega) (fun e1 => by have := (ho.lt k e1.symm).1; omega)]
  rw [← h]
  exact (((Below.refl w.heap.size w).alloc (Nat.le_refl _) o2).block k hlt)

set_option maxRecDepth 20000 in
set_option maxHeartbeats 4000000 in
theorem specWalStep_c (x : S_Wal) (r : S_Rec) (p : Option Addr) (cap : Nat) (w : World) (hn : x.f4.length ≤ 1048576) (hs : ∀ y ∈ x.f4, sEntry y) (hz : sRec r) (hr : RowR w (.slice p x.f4.length cap) x.f4.length 2 (rEntry x.f4)) :
    Calls Tryd.prog 32 #[.agg #[.int .i64 x.f0, .int .i64 x.f1, .int .i64 x.f2, .int .i64 x.f3, .slice p x.f4.length cap], .agg #[.int .i64 r.f0, .int .i64 r.f1, .int .i64 r.f2, .int .i64 r.f3, .string r.f4]] w (WsR x r w) := by
  obtain ⟨W0, hW0⟩ : ∃ W, W = ((w.alloc (.cells #[.int .i64 x.f0, .int .i64 x.f1, .int .i64 x.f2, .int .i64 x.f3, .slice p x.f4.length cap] 26)).alloc (.cells #[.int .i64 r.f0, .int .i64 r.f1, .int .i64 r.f2, .int .i64 r.f3, .string r.f4] 57)).alloc (.cells #[.int .i64 0, .int .i64 0, .int .i64 0, .int .i64 0, .slice none 0 0] 26) := ⟨_, rfl⟩
  have HW0 : Hid (((w.alloc (.cells #[.int .i64 x.f0, .int .i64 x.f1, .int .i64 x.f2, .int .i64 x.f3, .slice p x.f4.length cap] 26)).alloc (.cells #[.int .i64 r.f0, .int .i64 r.f1, .int .i64 r.f2, .int .i64 r.f3, .string r.f4] 57)).alloc (.cells #[.int .i64 0, .int .i64 0, .int .i64 0, .int .i64 0, .slice none 0 0] 26) = W0) := hW0.symm
  have HZ0 : Hid (W0.heap.size = w.heap.size + 3) := by show _ = _; rw [hW0]; simp
  have HB0 : Hid (Below w.heap.size w W0) := by rw [hW0]; exact (((Below.refl _ _).alloc (Nat.le_refl _) _).alloc (by simp) _).alloc (by simp; omega) _
  have HX0 : Hid (W0.heap[w.heap.size]? = some (.cells #[.int .i64 x.f0, .int .i64 x.f1, .int .i64 x.f2, .int .i64 x.f3, .slice p x.f4.length cap] 26)) := by
    rw [hW0, Below.heap_alloc _ _ _ (by simp; omega), Below.heap_alloc _ _ _ (by simp)]
    exact alloc_last _ _
  have HY0 : Hid (W0.heap[w.heap.size + 1]? = some (.cells #[.int .i64 r.f0, .int .i64 r.f1, .int .i64 r.f2, .int .i64 r.f3, .string r.f4] 57)) := by
    rw [hW0, Below.heap_alloc _ _ _ (by simp)]
    have := alloc_last (w.alloc (.cells #[.int .i64 x.f0, .int .i64 x.f1, .int .i64 x.f2, .int .i64 x.f3, .slice p x.f4.length cap] 26)) (.cells #[.int .i64 r.f0, .int .i64 r.f1, .int .i64 r.f2, .int .i64 r.f3, .string r.f4] 57)
    rw [World.size_alloc] at this
    exact this
  have HV0 : Hid (W0.heap[w.heap.size + 2]? = some (.cells #[.int .i64 0, .int .i64 0, .int .i64 0, .int .i64 0, .slice none 0 0] 26)) := by
    rw [hW0]
    have := alloc_last ((w.alloc (.cells #[.int .i64 x.f0, .int .i64 x.f1, .int .i64 x.f2, .int .i64 x.f3, .slice p x.f4.length cap] 26)).alloc (.cells #[.int .i64 r.f0, .int .i64 r.f1, .int .i64 r.f2, .int .i64 r.f3, .string r.f4] 57)) (.cells #[.int .i64 0, .int .i64 0, .int .i64 0, .int .i64 0, .slice none 0 0] 26)
    rw [World.size_alloc, World.size_alloc] at this
    exact this
  have HRW : Hid (RowR W0 (.slice p x.f4.length cap) x.f4.length 2 (rEntry x.f4)) := RowR.keep hr HB0.out (Nat.le_refl _)
  have HN : Hid (x.f4.length ≤ 1048576) := hn
  have HS : Hid (∀ y ∈ x.f4, sEntry y) := hs
  have HSR : Hid (sRec r) := hz
  clear hn hr hW0 hs hz
  obtain ⟨d0, d1, d2, d3, d4⟩ := box5 HX0.out
  go_enter Tryd.func32, Tryd.ntmps32
  go_wp2_with fail
  rw [HW0.out]
  refine (specWalOk_c x p cap W0 HN.out HS.out HRW.out).mono ?_
  rintro e w1 ⟨rfl, b1⟩
  have HX1 : Hid (w1.heap[w.heap.size]? = some (.cells #[.int .i64 x.f0, .int .i64 x.f1, .int .i64 x.f2, .int .i64 x.f3, .slice p x.f4.length cap] 26)) := (b1.block _ (lt_of_some HX0.out)).trans HX0.out
  have HY1 : Hid (w1.heap[w.heap.size + 1]? = some (.cells #[.int .i64 r.f0, .int .i64 r.f1, .int .i64 r.f2, .int .i64 r.f3, .string r.f4] 57)) := (b1.block _ (lt_of_some HY0.out)).trans HY0.out
  have HV1 : Hid (w1.heap[w.heap.size + 2]? = some (.cells #[.int .i64 0, .int .i64 0, .int .i64 0, .int .i64 0, .slice none 0 0] 26)) := (b1.block _ (lt_of_some HV0.out)).trans HV0.out
  have HB1 : Hid (Below w.heap.size w w1) := HB0.out.trans (b1.mono HB0.out.size)
  have HZ1 : Hid (w.heap.size + 3 ≤ w1.heap.size) := by have := b1.size; have := HZ0.out; show _ ≤ _; omega
  have HR1 : Hid (RowR w1 (.slice p x.f4.length cap) x.f4.length 2 (rEntry x.f4)) := RowR.keep HRW.out b1 (Nat.le_refl _)
  clear b1 d0 d1 d2 d3 d4
  by_cases hok : okW x
  rotate_left
  · rw [decide_eq_false hok]
    have HE : Hid (wsF x r = zeroW ∧ wsB x r = false) := ws_bad hok
    clear hok
    obtain ⟨z0, z1, z2, z3, z4⟩ := box5 HV1.out
    have zf := frz5 HV1.out
    have HOF : Hid (OwWal ((((((w1.setCell ⟨w.heap.size + 2, 0, none⟩ ((.int .i64 0))).setCell ⟨w.heap.size + 2, 1, none⟩ ((.int .i64 0))).setCell ⟨w.heap.size + 2, 2, none⟩ ((.int .i64 0))).setCell ⟨w.heap.size + 2, 3, none⟩ ((.int .i64 0))).setCell ⟨w.heap.size + 2, 4, none⟩ ((.slice none 0 0)))) w.heap.size (zeroW) (.slice none 0 0)) := own_low (store5_own (.int .i64 0) (.int .i64 0) (.int .i64 0) (.int .i64 0) (.slice none 0 0) (show w1.ownsRow (w.heap.size + 3) _ 2 (.slice none 0 0) 0 (rEntry []) from ⟨rfl, Or.inl ⟨rfl, rfl⟩⟩) (by omega)) (by omega)
    have HBF : Hid (Below w.heap.size w ((((((w1.setCell ⟨w.heap.size + 2, 0, none⟩ ((.int .i64 0))).setCell ⟨w.heap.size + 2, 1, none⟩ ((.int .i64 0))).setCell ⟨w.heap.size + 2, 2, none⟩ ((.int .i64 0))).setCell ⟨w.heap.size + 2, 3, none⟩ ((.int .i64 0))).setCell ⟨w.heap.size + 2, 4, none⟩ ((.slice none 0 0))))) := store5_bel (.int .i64 0) (.int .i64 0) (.int .i64 0) (.int .i64 0) (.slice none 0 0) HB1.out (by omega)
    obtain ⟨t0, t1, t2, t3, t4⟩ := box5 (store5 (.int .i64 0) (.int .i64 0) (.int .i64 0) (.int .i64 0) (.slice none 0 0) HV1.out)
    go_wp2
    refine bodyPost_ret (v := .tuple #[.agg #[.int .i64 0, .int .i64 0, .int .i64 0, .int .i64 0, .slice none 0 0], .bool false]) (by simp [results, Tryd.results32, go_sem, t0, t1, t2, t3, t4]) rfl ?_
    exact wsR_mk (y := zeroW) HE.out HOF.out HBF.out
  rw [decide_eq_true hok]
  have HOK : Hid (okW x) := hok
  have HLN : Hid (x.f4.length ≤ 60 ∧ (0 ≤ x.f2 ∧ x.f2 ≤ 100000)) := okW_len hok
  clear hok
  obtain ⟨d0, d1, d2, d3, d4⟩ := box5 HX1.out
  go_wp2_with fail
  refine (specCopyW_c x p cap w1 HN.out HR1.out).mono ?_
  rintro e w2 ⟨q, c, rfl, ho2, b2⟩
  have HX2 : Hid (w2.heap[w.heap.size]? = some (.cells #[.int .i64 x.f0, .int .i64 x.f1, .int .i64 x.f2, .int .i64 x.f3, .slice p x.f4.length cap] 26)) := (b2.block _ (lt_of_some HX1.out)).trans HX1.out
  have HY2 : Hid (w2.heap[w.heap.size + 1]? = some (.cells #[.int .i64 r.f0, .int .i64 r.f1, .int .i64 r.f2, .int .i64 r.f3, .string r.f4] 57)) := (b2.block _ (lt_of_some HY1.out)).trans HY1.out
  have HV2 : Hid (w2.heap[w.heap.size + 2]? = some (.cells #[.int .i64 0, .int .i64 0, .int .i64 0, .int .i64 0, .slice none 0 0] 26)) := (b2.block _ (lt_of_some HV1.out)).trans HV1.out
  have HB2 : Hid (Below w.heap.size w w2) := HB1.out.trans (b2.mono HB1.out.size)
  clear d0 d1 d2 d3 d4
  obtain ⟨d0, d1, d2, d3, d4⟩ := box5 HX2.out
  have df := frz5 HX2.out
  obtain ⟨e0, e1, e2, e3, e4⟩ := box5 HY2.out
  obtain ⟨W3, hW3⟩ : ∃ W, W = (((((w2.setCell ⟨w.heap.size, 0, none⟩ ((.int .i64 x.f0))).setCell ⟨w.heap.size, 1, none⟩ ((.int .i64 x.f1))).setCell ⟨w.heap.size, 2, none⟩ ((.int .i64 x.f2))).setCell ⟨w.heap.size, 3, none⟩ ((.int .i64 x.f3))).setCell ⟨w.heap.size, 4, none⟩ ((.slice q x.f4.length c))) := ⟨_, rfl⟩
  have HW3 : Hid ((((((w2.setCell ⟨w.heap.size, 0, none⟩ ((.int .i64 x.f0))).setCell ⟨w.heap.size, 1, none⟩ ((.int .i64 x.f1))).setCell ⟨w.heap.size, 2, none⟩ ((.int .i64 x.f2))).setCell ⟨w.heap.size, 3, none⟩ ((.int .i64 x.f3))).setCell ⟨w.heap.size, 4, none⟩ ((.slice q x.f4.length c))) = W3) := hW3.symm
  have HX3 : Hid (W3.heap[w.heap.size]? = some (.cells #[.int .i64 x.f0, .int .i64 x.f1, .int .i64 x.f2, .int .i64 x.f3, .slice q x.f4.length c] 26)) := by rw [hW3]; exact store5 (.int .i64 x.f0) (.int .i64 x.f1) (.int .i64 x.f2) (.int .i64 x.f3) (.slice q x.f4.length c) HX2.out
  have HY3 : Hid (W3.heap[w.heap.size + 1]? = some (.cells #[.int .i64 r.f0, .int .i64 r.f1, .int .i64 r.f2, .int .i64 r.f3, .string r.f4] 57)) := by rw [hW3]; exact (store5_ne (.int .i64 x.f0) (.int .i64 x.f1) (.int .i64 x.f2) (.int .i64 x.f3) (.slice q x.f4.length c) (by omega)).trans HY2.out
  have HV3 : Hid (W3.heap[w.heap.size + 2]? = some (.cells #[.int .i64 0, .int .i64 0, .int .i64 0, .int .i64 0, .slice none 0 0] 26)) := by rw [hW3]; exact (store5_ne (.int .i64 x.f0) (.int .i64 x.f1) (.int .i64 x.f2) (.int .i64 x.f3) (.slice q x.f4.length c) (by omega)).trans HV2.out
  have HB3 : Hid (Below w.heap.size w W3) := by rw [hW3]; exact store5_bel (.int .i64 x.f0) (.int .i64 x.f1) (.int .i64 x.f2) (.int .i64 x.f3) (.slice q x.f4.length c) HB2.out (Nat.le_refl _)
  have HO3 : Hid (W3.ownsRow w1.heap.size 63 2 (.slice q x.f4.length c) x.f4.length (rEntry x.f4)) := by rw [hW3]; exact store5_own (.int .i64 x.f0) (.int .i64 x.f1) (.int .i64 x.f2) (.int .i64 x.f3) (.slice q x.f4.length c) ho2 (by have := HZ1.out; omega)
  have HSZ3 : Hid (w1.heap.size ≤ W3.heap.size) := by show _ ≤ _; have := b2.size; rw [hW3]; simpa using this
  clear hW3 ho2 b2
  go_wp2_with fail
  rw [HW3.out]
  refine (specRecOk_c r W3 HSR.out).mono ?_
  rintro e w4 ⟨rfl, b4⟩
  have HX4 : Hid (w4.heap[w.heap.size]? = some (.cells #[.int .i64 x.f0, .int .i64 x.f1, .int .i64 x.f2, .int .i64 x.f3, .slice q x.f4.length c] 26)) := (b4.block _ (lt_of_some HX3.out)).trans HX3.out
  have HY4 : Hid (w4.heap[w.heap.size + 1]? = some (.cells #[.int .i64 r.f0, .int .i64 r.f1, .int .i64 r.f2, .int .i64 r.f3, .string r.f4] 57)) := (b4.block _ (lt_of_some HY3.out)).trans HY3.out
  have HV4 : Hid (w4.heap[w.heap.size + 2]? = some (.cells #[.int .i64 0, .int .i64 0, .int .i64 0, .int .i64 0, .slice none 0 0] 26)) := (b4.block _ (lt_of_some HV3.out)).trans HV3.out
  have HB4 : Hid (Below w.heap.size w w4) := HB3.out.trans (b4.mono HB3.out.size)
  have HSZ4 : Hid (w1.heap.size ≤ w4.heap.size) := Nat.le_trans HSZ3.out b4.size
  have HO4 : Hid (w4.ownsRow w1.heap.size 63 2 (.slice q x.f4.length c) x.f4.length (rEntry x.f4)) := own_bel HO3.out b4 (Nat.le_refl _)
  have HZ1' : Hid (w.heap.size < w1.heap.size) := by have := HZ1.out; show _ < _; omega
  clear b4 d0 d1 d2 d3 d4 df e0 e1 e2 e3 e4
  by_cases hrk : okR r
  rotate_left
  · rw [decide_eq_false hrk]
    have HE : Hid (¬ (okR r ∧ fitsR x r)) := fun h => hrk h.1
    clear hrk
    obtain ⟨a0, a1, a2, a3, a4⟩ := box5 HX4.out
    obtain ⟨z0, z1, z2, z3, z4⟩ := box5 HV4.out
    have zf := frz5 HV4.out
    have HOF : Hid (OwWal ((((((w4.setCell ⟨w.heap.size + 2, 0, none⟩ ((.int .i64 x.f0))).setCell ⟨w.heap.size + 2, 1, none⟩ ((.int .i64 x.f1))).setCell ⟨w.heap.size + 2, 2, none⟩ ((.int .i64 x.f2))).setCell ⟨w.heap.size + 2, 3, none⟩ ((.int .i64 x.f3))).setCell ⟨w.heap.size + 2, 4, none⟩ ((.slice q x.f4.length c)))) w.heap.size (x) (.slice q x.f4.length c)) := own_low (store5_own (.int .i64 x.f0) (.int .i64 x.f1) (.int .i64 x.f2) (.int .i64 x.f3) (.slice q x.f4.length c) HO4.out (by have := HZ1.out; omega)) (by have := HZ1.out; omega)
    have HBF : Hid (Below w.heap.size w ((((((w4.setCell ⟨w.heap.size + 2, 0, none⟩ ((.int .i64 x.f0))).setCell ⟨w.heap.size + 2, 1, none⟩ ((.int .i64 x.f1))).setCell ⟨w.heap.size + 2, 2, none⟩ ((.int .i64 x.f2))).setCell ⟨w.heap.size + 2, 3, none⟩ ((.int .i64 x.f3))).setCell ⟨w.heap.size + 2, 4, none⟩ ((.slice q x.f4.length c))))) := store5_bel (.int .i64 x.f0) (.int .i64 x.f1) (.int .i64 x.f2) (.int .i64 x.f3) (.slice q x.f4.length c) HB4.out (by omega)
    obtain ⟨t0, t1, t2, t3, t4⟩ := box5 (store5 (.int .i64 x.f0) (.int .i64 x.f1) (.int .i64 x.f2) (.int .i64 x.f3) (.slice q x.f4.length c) HV4.out)
    go_wp2
    refine bodyPost_ret (v := .tuple #[.agg #[.int .i64 x.f0, .int .i64 x.f1, .int .i64 x.f2, .int .i64 x.f3, .slice q x.f4.length c], .bool false]) (by simp [results, Tryd.results32, go_sem, t0, t1, t2, t3, t4]) rfl ?_
    exact wsR_mk (y := x) (ws_no HOK.out HE.out) HOF.out HBF.out
  rw [decide_eq_true hrk]
  have HRK : Hid (okR r) := hrk
  clear hrk
  obtain ⟨d0, d1, d2, d3, d4⟩ := box5 HX4.out
  obtain ⟨e0, e1, e2, e3, e4⟩ := box5 HY4.out
  go_wp2_with fail
  refine (specFitsR_c x r q c w4 HN.out HLN.out.2 (RowR.own HO4.out)).mono ?_
  rintro e w5 ⟨rfl, b5⟩
  have HX5 : Hid (w5.heap[w.heap.size]? = some (.cells #[.int .i64 x.f0, .int .i64 x.f1, .int .i64 x.f2, .int .i64 x.f3, .slice q x.f4.length c] 26)) := (b5.block _ (lt_of_some HX4.out)).trans HX4.out
  have HY5 : Hid (w5.heap[w.heap.size + 1]? = some (.cells #[.int .i64 r.f0, .int .i64 r.f1, .int .i64 r.f2, .int .i64 r.f3, .string r.f4] 57)) := (b5.block _ (lt_of_some HY4.out)).trans HY4.out
  have HV5 : Hid (w5.heap[w.heap.size + 2]? = some (.cells #[.int .i64 0, .int .i64 0, .int .i64 0, .int .i64 0, .slice none 0 0] 26)) := (b5.block _ (lt_of_some HV4.out)).trans HV4.out
  have HB5 : Hid (Below w.heap.size w w5) := HB4.out.trans (b5.mono HB4.out.size)
  have HSZ : Hid (w1.heap.size ≤ w5.heap.size) := Nat.le_trans HSZ4.out b5.size
  have HO5 : Hid (w5.ownsRow w1.heap.size 63 2 (.slice q x.f4.length c) x.f4.length (rEntry x.f4)) := own_bel HO4.out b5 (Nat.le_refl _)
  clear b5 d0 d1 d2 d3 d4 e0 e1 e2 e3 e4
  by_cases hfit : fitsR x r
  rotate_left
  · rw [decide_eq_false hfit]
    have HE : Hid (¬ (okR r ∧ fitsR x r)) := fun h => hfit h.2
    clear hfit
    obtain ⟨a0, a1, a2, a3, a4⟩ := box5 HX5.out
    obtain ⟨z0, z1, z2, z3, z4⟩ := box5 HV5.out
    have zf := frz5 HV5.out
    have HOF : Hid (OwWal ((((((w5.setCell ⟨w.heap.size + 2, 0, none⟩ ((.int .i64 x.f0))).setCell ⟨w.heap.size + 2, 1, none⟩ ((.int .i64 x.f1))).setCell ⟨w.heap.size + 2, 2, none⟩ ((.int .i64 x.f2))).setCell ⟨w.heap.size + 2, 3, none⟩ ((.int .i64 x.f3))).setCell ⟨w.heap.size + 2, 4, none⟩ ((.slice q x.f4.length c)))) w.heap.size (x) (.slice q x.f4.length c)) := own_low (store5_own (.int .i64 x.f0) (.int .i64 x.f1) (.int .i64 x.f2) (.int .i64 x.f3) (.slice q x.f4.length c) HO5.out (by have := HZ1.out; omega)) (by have := HZ1.out; omega)
    have HBF : Hid (Below w.heap.size w ((((((w5.setCell ⟨w.heap.size + 2, 0, none⟩ ((.int .i64 x.f0))).setCell ⟨w.heap.size + 2, 1, none⟩ ((.int .i64 x.f1))).setCell ⟨w.heap.size + 2, 2, none⟩ ((.int .i64 x.f2))).setCell ⟨w.heap.size + 2, 3, none⟩ ((.int .i64 x.f3))).setCell ⟨w.heap.size + 2, 4, none⟩ ((.slice q x.f4.length c))))) := store5_bel (.int .i64 x.f0) (.int .i64 x.f1) (.int .i64 x.f2) (.int .i64 x.f3) (.slice q x.f4.length c) HB5.out (by omega)
    obtain ⟨t0, t1, t2, t3, t4⟩ := box5 (store5 (.int .i64 x.f0) (.int .i64 x.f1) (.int .i64 x.f2) (.int .i64 x.f3) (.slice q x.f4.length c) HV5.out)
    go_wp2
    refine bodyPost_ret (v := .tuple #[.agg #[.int .i64 x.f0, .int .i64 x.f1, .int .i64 x.f2, .int .i64 x.f3, .slice q x.f4.length c], .bool false]) (by simp [results, Tryd.results32, go_sem, t0, t1, t2, t3, t4]) rfl ?_
    exact wsR_mk (y := x) (ws_no HOK.out HE.out) HOF.out HBF.out
  rw [decide_eq_true hfit]
  have HE : Hid (wsF x r = stepF x r ∧ wsB x r = true) := ws_yes HOK.out ⟨HRK.out, hfit⟩
  by_cases q1 : r.f0 = 1
  · have HE1 : Hid (wsF x r = ⟨r.f1, r.f3, x.f2, x.f3, x.f4⟩ ∧ wsB x r = true) := by have := HE.out; rw [step_1 q1] at this; exact this
    have k1 : (r.f0 == 1) = true := beq_iff_eq.2 q1
    clear hfit q1
    obtain ⟨d0, d1, d2, d3, d4⟩ := box5 HX5.out
    have df := frz5 HX5.out
    obtain ⟨e0, e1, e2, e3, e4⟩ := box5 HY5.out
    obtain ⟨z0, z1, z2, z3, z4⟩ := box5 HV5.out
    have zf := frz5 HV5.out
    have HV6 : Hid (((w5.setCell ⟨w.heap.size, 0, none⟩ (.int .i64 r.f1)).setCell ⟨w.heap.size, 1, none⟩ (.int .i64 r.f3)).heap[w.heap.size + 2]? = some (.cells #[.int .i64 0, .int .i64 0, .int .i64 0, .int .i64 0, .slice none 0 0] 26)) := by show _ = _; rw [Below.heap_setCell _ _ _ _ (by show w.heap.size + 2 ≠ w.heap.size; omega), Below.heap_setCell _ _ _ _ (by show w.heap.size + 2 ≠ w.heap.size; omega)]; exact HV5.out
    have HO6 : Hid (((w5.setCell ⟨w.heap.size, 0, none⟩ (.int .i64 r.f1)).setCell ⟨w.heap.size, 1, none⟩ (.int .i64 r.f3)).ownsRow w1.heap.size 63 2 (.slice q x.f4.length c) x.f4.length (rEntry x.f4)) := own_set_lt (own_set_lt HO5.out _ (by exact HZ1'.out)) _ (by exact HZ1'.out)
    have HB6 : Hid (Below w.heap.size w ((w5.setCell ⟨w.heap.size, 0, none⟩ (.int .i64 r.f1)).setCell ⟨w.heap.size, 1, none⟩ (.int .i64 r.f3))) := (HB5.out.setCell (Nat.le_refl _) _).setCell (Nat.le_refl _) _
    have HOF : Hid (OwWal ((((((((w5.setCell ⟨w.heap.size, 0, none⟩ (.int .i64 r.f1)).setCell ⟨w.heap.size, 1, none⟩ (.int .i64 r.f3)).setCell ⟨w.heap.size + 2, 0, none⟩ ((.int .i64 r.f1))).setCell ⟨w.heap.size + 2, 1, none⟩ ((.int .i64 r.f3))).setCell ⟨w.heap.size + 2, 2, none⟩ ((.int .i64 x.f2))).setCell ⟨w.heap.size + 2, 3, none⟩ ((.int .i64 x.f3))).setCell ⟨w.heap.size + 2, 4, none⟩ ((.slice q x.f4.length c)))) w.heap.size (⟨r.f1, r.f3, x.f2, x.f3, x.f4⟩) (.slice q x.f4.length c)) := own_low (store5_own (.int .i64 r.f1) (.int .i64 r.f3) (.int .i64 x.f2) (.int .i64 x.f3) (.slice q x.f4.length c) HO6.out (by have := HZ1.out; omega)) (by have := HZ1.out; omega)
    have HBF : Hid (Below w.heap.size w ((((((((w5.setCell ⟨w.heap.size, 0, none⟩ (.int .i64 r.f1)).setCell ⟨w.heap.size, 1, none⟩ (.int .i64 r.f3)).setCell ⟨w.heap.size + 2, 0, none⟩ ((.int .i64 r.f1))).setCell ⟨w.heap.size + 2, 1, none⟩ ((.int .i64 r.f3))).setCell ⟨w.heap.size + 2, 2, none⟩ ((.int .i64 x.f2))).setCell ⟨w.heap.size + 2, 3, none⟩ ((.int .i64 x.f3))).setCell ⟨w.heap.size + 2, 4, none⟩ ((.slice q x.f4.length c))))) := store5_bel (.int .i64 r.f1) (.int .i64 r.f3) (.int .i64 x.f2) (.int .i64 x.f3) (.slice q x.f4.length c) HB6.out (by omega)
    obtain ⟨t0, t1, t2, t3, t4⟩ := box5 (store5 (.int .i64 r.f1) (.int .i64 r.f3) (.int .i64 x.f2) (.int .i64 x.f3) (.slice q x.f4.length c) HV6.out)
    go_wp2
    refine bodyPost_ret (v := .tuple #[.agg #[.int .i64 r.f1, .int .i64 r.f3, .int .i64 x.f2, .int .i64 x.f3, .slice q x.f4.length c], .bool true]) (by simp [results, Tryd.results32, go_sem, t0, t1, t2, t3, t4]) rfl ?_
    exact wsR_mk (y := ⟨r.f1, r.f3, x.f2, x.f3, x.f4⟩) HE1.out HOF.out HBF.out
  have k1 : (r.f0 == 1) = false := beq_eq_false_iff_ne.2 q1
  by_cases q2 : r.f0 = 2
  · have HE1 : Hid (wsF x r = ⟨x.f0, x.f1, x.f2, x.f3, x.f4 ++ ([⟨r.f1, r.f4⟩] : List S_Entry)⟩ ∧ wsB x r = true) := by have := HE.out; rw [step_2 q2] at this; exact this
    have k2 : (r.f0 == 2) = true := beq_iff_eq.2 q2
    clear hfit q1 q2
    obtain ⟨i0, hi, hz0, hz1, hz2⟩ := info_parts infoEntry
    have hml : (1048577 : Nat) ≤ maxLen := by unfold maxLen; omega
    have hlen := HLN.out.1
    have hown1 := HO5.out
    have hsz1 : w1.heap.size ≤ w5.heap.size := by
      rcases hown1.2 with ⟨h1, h2⟩ | ⟨g, _, _, _, hg, hh, _⟩
      · exact HSZ.out
      · exact HSZ.out
    obtain ⟨d0, d1, d2, d3, d4⟩ := box5 HX5.out
    have df := frz5 HX5.out
    obtain ⟨e0, e1, e2, e3, e4⟩ := box5 HY5.out
    go_wp2_with (at_builtin; refine wpList_append_own _ rfl _ _ 24 rfl w1.heap.size 63 i0 (.agg #[.int .i64 0, .string ⟨#[]⟩]) 2 24 Tryd.underlying24 hi hz0 hz1 hz2 rfl (by decide) _ _ _ rfl (hown1.alloc _) ⟨w5.heap.size, 0, none⟩ 1 1 [.int .i64 r.f1, .string r.f4] rfl rfl (cell_two_newS _ _ _ _) (by intro u hu; simp at hu; rcases hu with rfl | rfl <;> rfl) (by omega) (by omega) (by simp; omega) ?_)
    intro v' w6 hown6 hgrow _
    obtain ⟨q3, c3, hv3⟩ := own_sliceS hown6
    subst hv3
    have R1 : w6.ownsRow w1.heap.size 63 2 (.slice q3 (x.f4.length + 1) c3) (x.f4 ++ ([⟨r.f1, r.f4⟩] : List S_Entry)).length (rEntry (x.f4 ++ ([⟨r.f1, r.f4⟩] : List S_Entry))) := by rw [rEntry_one, List.length_append]; exact hown6
    have HX6 : Hid (w6.heap[w.heap.size]? = some (.cells #[.int .i64 x.f0, .int .i64 x.f1, .int .i64 x.f2, .int .i64 x.f3, .slice q x.f4.length c] 26)) := heap_grownS hown1 hgrow (by have := HZ1.out; omega) HX5.out
    have HV6 : Hid (w6.heap[w.heap.size + 2]? = some (.cells #[.int .i64 0, .int .i64 0, .int .i64 0, .int .i64 0, .slice none 0 0] 26)) := heap_grownS hown1 hgrow (by have := HZ1.out; omega) HV5.out
    have hB6 := below_append HB5.out (Nat.le_refl _) (own_low hown1 (by have := HZ1.out; omega)) hgrow
    have HV7 : Hid ((w6.setCell ⟨w.heap.size, 4, none⟩ (.slice q3 (x.f4.length + 1) c3)).heap[w.heap.size + 2]? = some (.cells #[.int .i64 0, .int .i64 0, .int .i64 0, .int .i64 0, .slice none 0 0] 26)) := by show _ = _; rw [Below.heap_setCell _ _ _ _ (by show w.heap.size + 2 ≠ w.heap.size; omega)]; exact HV6.out
    have HO7 : Hid ((w6.setCell ⟨w.heap.size, 4, none⟩ (.slice q3 (x.f4.length + 1) c3)).ownsRow w1.heap.size 63 2 (.slice q3 (x.f4.length + 1) c3) (x.f4 ++ ([⟨r.f1, r.f4⟩] : List S_Entry)).length (rEntry (x.f4 ++ ([⟨r.f1, r.f4⟩] : List S_Entry)))) := own_set_lt R1 _ (by exact HZ1'.out)
    have HB7 : Hid (Below w.heap.size w (w6.setCell ⟨w.heap.size, 4, none⟩ (.slice q3 (x.f4.length + 1) c3))) := hB6.setCell (Nat.le_refl _) _
    clear hown6 hgrow hown1 R1 hB6 d0 d1 d2 d3 d4 df e0 e1 e2 e3 e4
    obtain ⟨d0, d1, d2, d3, d4⟩ := box5 HX6.out
    have df := frz5 HX6.out 4
    obtain ⟨z0, z1, z2, z3, z4⟩ := box5 HV6.out
    have zf := frz5 HV6.out
    have HOF : Hid (OwWal (((((((w6.setCell ⟨w.heap.size, 4, none⟩ (.slice q3 (x.f4.length + 1) c3)).setCell ⟨w.heap.size + 2, 0, none⟩ ((.int .i64 x.f0))).setCell ⟨w.heap.size + 2, 1, none⟩ ((.int .i64 x.f1))).setCell ⟨w.heap.size + 2, 2, none⟩ ((.int .i64 x.f2))).setCell ⟨w.heap.size + 2, 3, none⟩ ((.int .i64 x.f3))).setCell ⟨w.heap.size + 2, 4, none⟩ ((.slice q3 (x.f4.length + 1) c3)))) w.heap.size (⟨x.f0, x.f1, x.f2, x.f3, x.f4 ++ ([⟨r.f1, r.f4⟩] : List S_Entry)⟩) (.slice q3 (x.f4.length + 1) c3)) := own_low (store5_own (.int .i64 x.f0) (.int .i64 x.f1) (.int .i64 x.f2) (.int .i64 x.f3) (.slice q3 (x.f4.length + 1) c3) HO7.out (by have := HZ1.out; omega)) (by have := HZ1.out; omega)
    have HBF : Hid (Below w.heap.size w (((((((w6.setCell ⟨w.heap.size, 4, none⟩ (.slice q3 (x.f4.length + 1) c3)).setCell ⟨w.heap.size + 2, 0, none⟩ ((.int .i64 x.f0))).setCell ⟨w.heap.size + 2, 1, none⟩ ((.int .i64 x.f1))).setCell ⟨w.heap.size + 2, 2, none⟩ ((.int .i64 x.f2))).setCell ⟨w.heap.size + 2, 3, none⟩ ((.int .i64 x.f3))).setCell ⟨w.heap.size + 2, 4, none⟩ ((.slice q3 (x.f4.length + 1) c3))))) := store5_bel (.int .i64 x.f0) (.int .i64 x.f1) (.int .i64 x.f2) (.int .i64 x.f3) (.slice q3 (x.f4.length + 1) c3) HB7.out (by omega)
    obtain ⟨t0, t1, t2, t3, t4⟩ := box5 (store5 (.int .i64 x.f0) (.int .i64 x.f1) (.int .i64 x.f2) (.int .i64 x.f3) (.slice q3 (x.f4.length + 1) c3) HV7.out)
    go_wp2
    refine bodyPost_ret (v := .tuple #[.agg #[.int .i64 x.f0, .int .i64 x.f1, .int .i64 x.f2, .int .i64 x.f3, .slice q3 (x.f4.length + 1) c3], .bool true]) (by simp [results, Tryd.results32, go_sem, t0, t1, t2, t3, t4]) rfl ?_
    have HL7 : (x.f4 ++ [(⟨r.f1, r.f4⟩ : S_Entry)]).length = x.f4.length + 1 := by rw [List.length_append]; rfl
    have := wsR_mk (q := q3) (c := c3) (y := ⟨x.f0, x.f1, x.f2, x.f3, x.f4 ++ ([⟨r.f1, r.f4⟩] : List S_Entry)⟩) HE1.out (by rw [HL7]; exact HOF.out) HBF.out
    rw [HL7] at this
    exact this
  have k2 : (r.f0 == 2) = false := beq_eq_false_iff_ne.2 q2
  have q3 : r.f0 = 3 := by
    rcases hfit with h | h | h
    · exact absurd h.1 q1
    · exact absurd h.1 q2
    · exact h.1
  have hf3 := (fits_3 q3).1 hfit
  obtain ⟨k, hk⟩ : ∃ k, k = (r.f2 - x.f2 - 1).toNat := ⟨_, rfl⟩
  have HKL : Hid (k ≤ x.f4.length) := by unfold fit3 at hf3; show _ ≤ _; omega
  have HE1 : Hid (wsF x r = ⟨x.f0, x.f1, x.f2, x.f3, x.f4.take k⟩ ∧ wsB x r = true) := by have := HE.out; rw [step_3 q3, ← hk] at this; exact this
  have hw1 : IntKind.i64.wrap (r.f2 - x.f2) = r.f2 - x.f2 := IntWalk.i64_in _ (by have := HLN.out; unfold fit3 at hf3; omega)
  have hw2 : IntKind.i64.wrap (r.f2 - x.f2 - 1) = (k : Int) := by rw [IntWalk.i64_in _ (by have := HLN.out; unfold fit3 at hf3; omega)]; unfold fit3 at hf3; omega
  have hkc : k ≤ c := by
    have h := HKL.out
    rcases HO5.out.2 with ⟨h1, h2⟩ | ⟨g, cap', _, hv, _, _, hle, _⟩
    · omega
    · simp only [Value.slice.injEq] at hv; omega
  clear hk
  have hsl : ∀ W, (Instr.slice 24 (.slice q x.f4.length c) none (some (.int .i64 (k : Int))) none).run Tryd.prog W = .ok (.slice q k c) W := fun W => by
    have hkc' : (k : Int) ≤ (c : Int) := by omega
    go_simp
  have HL7 : Hid ((x.f4.take k).length = k) := by have := HKL.out; show _ = _; rw [List.length_take]; omega
  have HO6 : Hid (w5.ownsRow w1.heap.size 63 2 (.slice q k c) (x.f4.take k).length (rEntry (x.f4.take k))) := own_cutS HO5.out HKL.out
  clear hfit q1 q2 q3 hf3 hkc
  obtain ⟨d0, d1, d2, d3, d4⟩ := box5 HX5.out
  have df := frz5 HX5.out 4
  obtain ⟨e0, e1, e2, e3, e4⟩ := box5 HY5.out
  obtain ⟨z0, z1, z2, z3, z4⟩ := box5 HV5.out
  have zf := frz5 HV5.out
  have HV7 : Hid ((w5.setCell ⟨w.heap.size, 4, none⟩ (.slice q k c)).heap[w.heap.size + 2]? = some (.cells #[.int .i64 0, .int .i64 0, .int .i64 0, .int .i64 0, .slice none 0 0] 26)) := by show _ = _; rw [Below.heap_setCell _ _ _ _ (by show w.heap.size + 2 ≠ w.heap.size; omega)]; exact HV5.out
  have HO7 : Hid ((w5.setCell ⟨w.heap.size, 4, none⟩ (.slice q k c)).ownsRow w1.heap.size 63 2 (.slice q k c) (x.f4.take k).length (rEntry (x.f4.take k))) := own_set_lt HO6.out _ (by exact HZ1'.out)
  have HB7 : Hid (Below w.heap.size w (w5.setCell ⟨w.heap.size, 4, none⟩ (.slice q k c))) := HB5.out.setCell (Nat.le_refl _) _
  have HOF : Hid (OwWal (((((((w5.setCell ⟨w.heap.size, 4, none⟩ (.slice q k c)).setCell ⟨w.heap.size + 2, 0, none⟩ ((.int .i64 x.f0))).setCell ⟨w.heap.size + 2, 1, none⟩ ((.int .i64 x.f1))).setCell ⟨w.heap.size + 2, 2, none⟩ ((.int .i64 x.f2))).setCell ⟨w.heap.size + 2, 3, none⟩ ((.int .i64 x.f3))).setCell ⟨w.heap.size + 2, 4, none⟩ ((.slice q k c)))) w.heap.size (⟨x.f0, x.f1, x.f2, x.f3, x.f4.take k⟩) (.slice q k c)) := own_low (store5_own (.int .i64 x.f0) (.int .i64 x.f1) (.int .i64 x.f2) (.int .i64 x.f3) (.slice q k c) HO7.out (by have := HZ1.out; omega)) (by have := HZ1.out; omega)
  have HBF : Hid (Below w.heap.size w (((((((w5.setCell ⟨w.heap.size, 4, none⟩ (.slice q k c)).setCell ⟨w.heap.size + 2, 0, none⟩ ((.int .i64 x.f0))).setCell ⟨w.heap.size + 2, 1, none⟩ ((.int .i64 x.f1))).setCell ⟨w.heap.size + 2, 2, none⟩ ((.int .i64 x.f2))).setCell ⟨w.heap.size + 2, 3, none⟩ ((.int .i64 x.f3))).setCell ⟨w.heap.size + 2, 4, none⟩ ((.slice q k c))))) := store5_bel (.int .i64 x.f0) (.int .i64 x.f1) (.int .i64 x.f2) (.int .i64 x.f3) (.slice q k c) HB7.out (by omega)
  obtain ⟨t0, t1, t2, t3, t4⟩ := box5 (store5 (.int .i64 x.f0) (.int .i64 x.f1) (.int .i64 x.f2) (.int .i64 x.f3) (.slice q k c) HV7.out)
  go_wp2
  refine bodyPost_ret (v := .tuple #[.agg #[.int .i64 x.f0, .int .i64 x.f1, .int .i64 x.f2, .int .i64 x.f3, .slice q k c], .bool true]) (by simp [results, Tryd.results32, go_sem, t0, t1, t2, t3, t4]) rfl ?_
  have := wsR_mk (q := q) (c := c) (y := ⟨x.f0, x.f1, x.f2, x.f3, x.f4.take k⟩) HE1.out (by rw [HL7.out]; exact HOF.out) HBF.out
  rw [HL7.out] at this
  exact this

end Go.Proofs.YthlokfcejojdhaaDoor

/- copyWal and lastTerm of the program. -/
namespace Go.Proofs.YthlokfcejojdhaaDoor
open Go.RowKit
set_option linter.unusedVariables false
set_option linter.unusedSimpArgs false

theorem box2S {w : World} {b : Nat} {a0 a1 : Value} {t : TypeId} (h : w.heap[b]? = some (.cells #[a0, a1] t)) : w.cell? ⟨b, 0, none⟩ = some a0 ∧ w.cell? ⟨b, 1, none⟩ = some a1 := by
  simp [World.cell?, h]

set_option maxRecDepth 20000 in
set_option maxHeartbeats 4000000 in
theorem lastTerm_c (x : S_Wal) (b : Nat) (p : Option Addr) (cap : Nat) (w : World) (hn : x.f4.length ≤ 1048576) (hx : w.heap[b]? = some (.cells #[.int .i64 x.f0, .int .i64 x.f1, .int .i64 x.f2, .int .i64 x.f3, .slice p x.f4.length cap] 26)) (hr : RowR w (.slice p x.f4.length cap) x.f4.length 2 (rEntry x.f4)) :
    Calls Tryd.prog 108 #[.pointer (some ⟨b, 0, none⟩)] w fun e w' => e = .returned (.int .i64 (lastT x)) ∧ Below w.heap.size w w' := by
  have HX : Hid (w.heap[b]? = some (.cells #[.int .i64 x.f0, .int .i64 x.f1, .int .i64 x.f2, .int .i64 x.f3, .slice p x.f4.length cap] 26)) := hx
  have hn' : (x.f4.length : Int) ≤ 1048576 := by omega
  clear hx
  obtain ⟨d0, d1, d2, d3, d4⟩ := box5 HX.out
  rcases Nat.eq_zero_or_pos x.f4.length with h0 | h0
  · have HF : Hid (lastT x = x.f3) := lastT_none h0
    have h0' : ((x.f4.length : Int) == 0) = true := beq_iff_eq.2 (by omega)
    clear h0 hr hn
    go_enter Tryd.func108, Tryd.ntmps108
    go_wp2
    go_ret
    exact ⟨by rw [HF.out]; rfl, Below.refl _ _⟩
  · have hlt : x.f4.length - 1 < x.f4.length := by omega
    have HF : Hid (lastT x = x.f4[x.f4.length - 1].f0) := lastT_some hlt
    obtain ⟨g, off, cap', hv, hb, hc⟩ := hr.some h0 (by decide)
    simp only [Value.slice.injEq, true_and] at hv
    obtain ⟨rfl, rfl⟩ := hv
    have c0 : w.cell? ⟨g, off + (x.f4.length - 1) * 2, none⟩ = some (.int .i64 (x.f4[x.f4.length - 1]).f0) := by
      rw [hc ((x.f4.length - 1) * 2) (by omega)]
      exact flat_at cEntry 2 cEntry_len x.f4 (x.f4.length - 1) 0 hlt (by decide)
    have h0' : ((x.f4.length : Int) == 0) = false := beq_eq_false_iff_ne.2 (by omega)
    obtain ⟨m, hm⟩ : ∃ m, m = x.f4.length - 1 := ⟨_, rfl⟩
    have hw : IntKind.i64.wrap ((x.f4.length : Int) - 1) = (m : Int) := by rw [IntWalk.i64_in _ (by omega)]; omega
    have hml : (m : Int) < (x.f4.length : Int) := by omega
    have c1 : w.cell? ⟨g, off + m * 2, none⟩ = some (.int .i64 (x.f4[x.f4.length - 1]).f0) := by rw [hm]; exact c0
    clear c0 hc hr hn
    generalize (x.f4[x.f4.length - 1]).f0 = Y at c1 HF
    clear hlt h0 hm
    go_enter Tryd.func108, Tryd.ntmps108
    go_upto_region 3 with fail
    refine wp_region_told (fun W => Below w.heap.size w W) (by kernel_rfl) (by kernel_rfl) ((Below.refl w.heap.size w).drew) ?_
    refine told_pure (some 13) (.pointer (some ⟨b, 0, none⟩)) rfl (by kernel_rfl) (fun _ => by kernel_rfl) ?_
    refine told_pure (some 14) (.pointer (some ⟨b, 0, none⟩)) rfl (by kernel_rfl) (fun _ => by kernel_rfl) ?_
    refine told_pure (some 15) (.pointer (some ⟨b, 4, none⟩)) rfl (by kernel_rfl) (fun _ => by kernel_rfl) ?_
    refine told_load (some 16) ⟨b, 4, none⟩ (.slice (some ⟨g, off, none⟩) x.f4.length cap) rfl (by kernel_rfl) (fun _ => by kernel_rfl) (fun _ hS => atB hS d4) ?_
    refine told_pure (some 17) (.pointer (some ⟨b, 0, none⟩)) rfl (by kernel_rfl) (fun _ => by kernel_rfl) ?_
    refine told_pure (some 18) (.pointer (some ⟨b, 0, none⟩)) rfl (by kernel_rfl) (fun _ => by kernel_rfl) ?_
    refine told_pure (some 19) (.pointer (some ⟨b, 4, none⟩)) rfl (by kernel_rfl) (fun _ => by kernel_rfl) ?_
    refine told_load (some 20) ⟨b, 4, none⟩ (.slice (some ⟨g, off, none⟩) x.f4.length cap) rfl (by kernel_rfl) (fun _ => by kernel_rfl) (fun _ hS => atB hS d4) ?_
    refine told_pure (some 21) (.int .i64 x.f4.length) rfl (by kernel_rfl) (fun _ => by kernel_rfl) ?_
    refine told_is (some 22) (.int .i64 (IntKind.i64.wrap ((x.f4.length : Int) - 1))) (.int .i64 (m : Int)) (by rw [hw]) rfl (by kernel_rfl) (fun _ => by kernel_rfl) ?_
    refine told_pure (some 23) (.pointer (some ⟨g, off + m * 2, none⟩)) rfl (by kernel_rfl) (fun w => by go_simp) ?_
    refine told_pure (some 24) (.pointer (some ⟨g, off + m * 2, none⟩)) rfl (by kernel_rfl) (fun _ => by kernel_rfl) ?_
    refine told_load (some 25) ⟨g, off + m * 2, none⟩ (.int .i64 Y) rfl (by kernel_rfl) (fun _ => by kernel_rfl) (fun _ hS => atB hS c1) ?_
    refine told_pure (some 2) (.int .i64 Y) rfl (by kernel_rfl) (fun _ => by kernel_rfl) ?_
    refine told_nil ?_
    intro w9 hS9
    simp only [Act.put, List.setIfInBounds_toArray, List.set_cons_zero, List.set_cons_succ]
    have HB9 : Hid (Below w.heap.size w w9) := hS9
    clear hS9
    go_wp2
    go_ret
    exact ⟨by rw [HF.out]; rfl, HB9.out⟩

end Go.Proofs.YthlokfcejojdhaaDoor
