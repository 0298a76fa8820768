/- What the walks on a laid record use. -/
import Derived.Test.YtengfkakiohfaaaWyMath
import Derived.Test.YtengfkakiohfaaaRgTold
import Derived.Test.YtengfkakiohfaaaRgCut
namespace Go.Proofs.Ytengfkakiohfaaa
open Go.RowKit
set_option linter.unusedVariables false
set_option linter.unusedSimpArgs false

theorem store5 {w : World} {b : Nat} {T : TypeId} {c0 c1 c2 c3 c4 : Value} (a0 a1 a2 a3 a4 : Value) (h : w.heap[b]? = some (.cells #[c0, c1, c2, c3, c4] T)) : ((((((w.setCell ⟨b, 0, none⟩ (a0)).setCell ⟨b, 1, none⟩ (a1)).setCell ⟨b, 2, none⟩ (a2)).setCell ⟨b, 3, none⟩ (a3)).setCell ⟨b, 4, none⟩ (a4))).heap[b]? = some (.cells #[a0, a1, a2, a3, a4] T) :=
  heap_setCell_same _ b 4 _ _ a4 (heap_setCell_same _ b 3 _ _ a3 (heap_setCell_same _ b 2 _ _ a2 (heap_setCell_same _ b 1 _ _ a1 (heap_setCell_same w b 0 _ _ a0 h))))

theorem store5_ne {w : World} {b k : Nat} (a0 a1 a2 a3 a4 : Value) (h : k ≠ b) : ((((((w.setCell ⟨b, 0, none⟩ (a0)).setCell ⟨b, 1, none⟩ (a1)).setCell ⟨b, 2, none⟩ (a2)).setCell ⟨b, 3, none⟩ (a3)).setCell ⟨b, 4, none⟩ (a4))).heap[k]? = w.heap[k]? := by
  rw [Below.heap_setCell _ _ _ _ h, Below.heap_setCell _ _ _ _ h, Below.heap_setCell _ _ _ _ h, Below.heap_setCell _ _ _ _ h, Below.heap_setCell _ _ _ _ h]

theorem store5_bel {w w0 : World} {b B : Nat} (a0 a1 a2 a3 a4 : Value) (h : Below B w0 w) (hb : B ≤ b) : Below B w0 ((((((w.setCell ⟨b, 0, none⟩ (a0)).setCell ⟨b, 1, none⟩ (a1)).setCell ⟨b, 2, none⟩ (a2)).setCell ⟨b, 3, none⟩ (a3)).setCell ⟨b, 4, none⟩ (a4))) :=
  ((((h.setCell (by exact hb) _).setCell (by exact hb) _).setCell (by exact hb) _).setCell (by exact hb) _).setCell (by exact hb) _

theorem store5_own {w : World} {b base : Nat} {e : TypeId} {size n : Nat} {v : Value} {xs : List Value} (a0 a1 a2 a3 a4 : Value) (h : w.ownsRow base e size v n xs) (hb : b < base) : ((((((w.setCell ⟨b, 0, none⟩ (a0)).setCell ⟨b, 1, none⟩ (a1)).setCell ⟨b, 2, none⟩ (a2)).setCell ⟨b, 3, none⟩ (a3)).setCell ⟨b, 4, none⟩ (a4))).ownsRow base e size v n xs :=
  own_set_lt (own_set_lt (own_set_lt (own_set_lt (own_set_lt h _ (by exact hb)) _ (by exact hb)) _ (by exact hb)) _ (by exact hb)) _ (by exact hb)

theorem frz5 {w : World} {b : Nat} {c0 c1 c2 c3 c4 : Value} {T : TypeId} (h : w.heap[b]? = some (.cells #[c0, c1, c2, c3, c4] T)) (o : Nat) : w.frozen? ⟨b, o, none⟩ = false := by
  simp [World.frozen?, h]

theorem wpList_append_toS {P : Program} {ops : Array Oper} {rest : List Oper} {op : Oper} {a : Act} {w : World} {Q : Exit → Act → World → Prop} (hgd : op.guard = none) (s y : Operand) (t : TypeId)
    (ho : op.op = .call { callee := .builtin .append, args := #[s, y], argTypes := #[t, t] }) (v u : Value) (hs : a.eval s = v) (hx : a.eval y = u) (v' : Value) (w' : World)
    (hrun : (Builtin.append_ #[t, t] op.type #[v, u]).run P w = .ok v' w') (h : wpList P ops Q rest (a.put op.dst v') w') : wpList P ops Q (op :: rest) a w := by
  refine wpList_plain hgd fun K hK => ?_
  unfold Oper.wp execOp
  simp only [ho, resolve, invoke, builtin, Sem.run_bind, Sem.run_pure, Result.andThen_ok, List.map_toArray, List.map_cons, List.map_nil, hs, hx, hrun]
  exact hK _ _ h

theorem run_nilEn (w : World) (g c : Nat) : (Builtin.append_ #[24, 24] 24 #[.slice (some ⟨g, 0, none⟩) 0 0, .slice none 0 c]).run Try.prog w = .ok (.slice (some ⟨g, 0, none⟩) 0 0) w := by kernel_rfl

theorem run_empEn (w : World) (g c : Nat) (a : Addr) : (Builtin.append_ #[24, 24] 24 #[.slice (some ⟨g, 0, none⟩) 0 0, .slice (some a) 0 c]).run Try.prog w = .ok (.slice (some ⟨g, 0, none⟩) 0 0) w := by kernel_rfl

theorem cpEn (p : Option Addr) (L : List S_Entry) (cap : Nat) (w : World) (hn : L.length ≤ 1048576) (hr : RowR w (.slice p L.length cap) L.length 2 (rEntry L)) :
    ∃ v' w', (Builtin.append_ #[24, 24] 24 #[.slice (some ⟨w.heap.size, 0, none⟩) 0 0, .slice p L.length cap]).run Try.prog (w.alloc (.cells #[] 68)) = .ok v' w' ∧ w'.ownsRow w.heap.size 68 2 v' L.length (rEntry L) ∧ Below w.heap.size w w' := by
  have hb0 : Below w.heap.size w (w.alloc (.cells #[] 68)) := (Below.refl _ _).alloc (Nat.le_refl _) _
  have HO0 := World.ownsRow_made (base := w.heap.size) (e := 68) (size := 2) w #[] 0 (by simp) (by decide) (by simp)
  rcases Nat.eq_zero_or_pos L.length with h0 | h0
  · have e : L = [] := List.eq_nil_of_length_eq_zero h0
    subst e
    refine ⟨.slice (some ⟨w.heap.size, 0, none⟩) 0 0, _, ?_, HO0, hb0⟩
    cases p with
    | none => exact run_nilEn _ _ _
    | some a => exact run_empEn _ _ _ a
  · obtain ⟨i0, hi, hz0, hz1, hz2⟩ := info_parts infoEntry
    obtain ⟨b, off, cap', hv, hb, hc⟩ := hr.some h0 (by decide)
    simp only [Value.slice.injEq, true_and] at hv
    obtain ⟨rfl, rfl⟩ := hv
    obtain ⟨v', w', hrun, r1, r2, _⟩ := run_append_own (P := Try.prog) (w.alloc (.cells #[] 68)) w.heap.size 24 24 68 i0 (.agg #[.int .i64 0, .string ⟨#[]⟩]) 2 24 Try.underlying24 hi hz0 hz1 hz2 rfl (by decide) _ _ _ HO0 ⟨b, off, none⟩ L.length cap (rEntry L) (rEntry_len _) (fun j u hj => by
        have hjl : j < L.length * 2 := by
          rcases Nat.lt_or_ge j (L.length * 2) with h | h
          · exact h
          · rw [List.getElem?_eq_none (by rw [rEntry_len]; exact h)] at hj; simp at hj
        rw [Addr.add_mid, World.cell?_alloc_lt _ _ ⟨b, off + j, none⟩ hb, hc j hjl]
        exact hj) (fun u hu => by
        unfold rEntry at hu
        obtain ⟨y, _, hy⟩ := List.mem_flatMap.1 hu
        simp [cEntry] at hy
        rcases hy with rfl | rfl <;> rfl) (by unfold maxLen; omega) (by omega) (by simp)
    exact ⟨v', w', hrun, by simpa using r1, hb0.grown r2 (by simp) (fun k hk => by simp only [Value.ownBlock, Option.some.injEq] at hk; omega)⟩

theorem own_sliceS {w : World} {base : Nat} {e : TypeId} {size n : Nat} {v : Value} {xs : List Value} (h : w.ownsRow base e size v n xs) : ∃ p c, v = .slice p n c := by
  obtain ⟨_, ⟨rfl, rfl⟩ | ⟨g, cap, cur, rfl, _, _, hc, _⟩⟩ := h
  · exact ⟨none, 0, rfl⟩
  · exact ⟨_, cap, rfl⟩

end Go.Proofs.Ytengfkakiohfaaa
