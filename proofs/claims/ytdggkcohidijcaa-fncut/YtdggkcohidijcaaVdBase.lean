/- What the laws on vocabularies draw by. -/
import Derived.Test.YtdggkcohidijcaaVcOk
import Derived.Test.YtdggkcohidijcaaJD
namespace Go.Proofs.Ytdggkcohidijcaa
open Go.RowKit
set_option linter.unusedVariables false
set_option linter.unusedSimpArgs false

theorem grownV {w w' : World} (h : Below w.heap.size w w') : w.grownBy w' none := ⟨h.os, h.tape, h.output, h.size, fun k hk _ => h.block k hk⟩

/-- The cursor, and that nothing but its block has turned of what was there. -/
structure Kd (w W : World) (B : Nat) (ao : Option Addr) (len cap : Nat) (zs : List Int) (st : Nat × Int) : Prop where
  cur : Cur W B ao len cap zs st
  grown : w.grownBy W (some B)

theorem set_grownV (w : World) (a : Addr) (v : Value) : w.grownBy (w.setCell a v) (some a.block) :=
  ⟨rfl, rfl, rfl, by simp [World.setCell], fun k _ hne => Below.heap_setCell _ _ _ _ (fun e => hne (by rw [e]))⟩

theorem Kd.call {w W W' : World} {B len cap : Nat} {ao : Option Addr} {zs : List Int} {st st' : Nat × Int} (h : Kd w W B ao len cap zs st) (hC : Cur W' B ao len cap zs st') (hg : W.grownBy W' (some B)) : Kd w W' B ao len cap zs st' := ⟨hC, h.grown.trans hg⟩

theorem Kd.bel {w W W' : World} {B len cap : Nat} {ao : Option Addr} {zs : List Int} {st : Nat × Int} (h : Kd w W B ao len cap zs st) (hb : Below W.heap.size W W') : Kd w W' B ao len cap zs st :=
  ⟨h.cur.keep (grownV hb) (by simp), h.grown.andThen (grownV hb) (by simp)⟩

theorem Kd.set {w W : World} {B len cap : Nat} {ao : Option Addr} {zs : List Int} {st : Nat × Int} (h : Kd w W B ao len cap zs st) (hB : B < w.heap.size) (a : Addr) (ha : w.heap.size ≤ a.block) (v : Value) : Kd w (W.setCell a v) B ao len cap zs st :=
  ⟨h.cur.keep (set_grownV W a v) (fun k hk => by cases hk; omega), h.grown.andThen (set_grownV W a v) (fun j hj => .inl (by cases hj; exact ha))⟩

/-- A block of one's own, made behind the cursor, stays while something is drawn. -/
theorem blk_curV {W W' : World} {B b : Nat} {o : Obj} (h : W.heap[b]? = some o) (hg : W.grownBy W' (some B)) (hb : b ≠ B) : W'.heap[b]? = some o :=
  (hg.block b (lt_of_some h) (fun e => hb (Option.some.inj e))).trans h

theorem own_curV {W W' : World} {B base : Nat} {e : TypeId} {size n : Nat} {v : Value} {xs : List Value} (h : W.ownsRow base e size v n xs) (hg : W.grownBy W' (some B)) (hb : B < base) : W'.ownsRow base e size v n xs := by
  obtain ⟨h1, ⟨rfl, h2⟩ | ⟨g, cap, cur, rfl, hg2, hh, r⟩⟩ := h
  · exact ⟨h1, .inl ⟨rfl, h2⟩⟩
  · exact ⟨h1, .inr ⟨g, cap, cur, rfl, hg2, blk_curV hh hg (by omega), r⟩⟩

theorem below_exV (w : World) (B len cap : Nat) (ao : Option Addr) (zs : List Int) (st : Nat × Int) (n : Int) (hC : Cur w B ao len cap zs st) (hl : len ≤ 1048576) (hz : ∀ j, 0 ≤ zs.getD j 0 ∧ zs.getD j 0 ≤ 255) :
    Calls Try.prog 60 #[.pointer (some ⟨B, 0, none⟩), .int .i64 n] w fun e w' => ∃ (q : Int) (st' : Nat × Int), e = .returned (.int .i64 q) ∧ 0 ≤ q ∧ (0 < n → q < n) ∧ Cur w' B ao len cap zs st' ∧ w.grownBy w' (some B) :=
  (below_any w B len cap ao zs st n hC hl hz).mono fun e w' ⟨he, h1, h2⟩ => ⟨_, _, he, (belowF_range zs len n st).1, (belowF_range zs len n st).2, h1, h2⟩

theorem once_exV (w : World) (B len cap : Nat) (ao : Option Addr) (zs : List Int) (st : Nat × Int) (n : Int) (hC : Cur w B ao len cap zs st) (hl : len ≤ 1048576) (hz : ∀ j, 0 ≤ zs.getD j 0 ∧ zs.getD j 0 ≤ 255) :
    Calls Try.prog 42 #[.pointer (some ⟨B, 0, none⟩), .int .i64 n] w fun e w' => ∃ (b : Bool) (st' : Nat × Int), e = .returned (.bool b) ∧ Cur w' B ao len cap zs st' ∧ w.grownBy w' (some B) :=
  (once_any w B len cap ao zs st n hC hl hz).mono fun e w' ⟨he, h1, h2⟩ => ⟨_, _, he, h1, h2⟩

set_option maxHeartbeats 1000000 in
theorem pick_exV (w : World) (B len cap : Nat) (ao : Option Addr) (zs : List Int) (st : Nat × Int) (L : Nat) (ps : List Int) (hp0 : 0 < ps.length) (hp1 : ps.length ≤ 100) (hC : Cur w B ao len cap zs st) (hl : len ≤ 1048576) (hz : ∀ j, 0 ≤ zs.getD j 0 ∧ zs.getD j 0 ≤ 255)
    (hL : L ≠ B) (hp : w.heap[L]? = some (.cells (ps.map (Value.int .i64)).toArray 3)) :
    Calls Try.prog 61 #[.pointer (some ⟨B, 0, none⟩), .slice (some ⟨L, 0, none⟩) ps.length ps.length] w fun e w' => ∃ (q : Int) (st' : Nat × Int), e = .returned (.int .i64 q) ∧ Cur w' B ao len cap zs st' ∧ w.grownBy w' (some B) := by
  have HP : Hid (w.heap[L]? = some (.cells (ps.map (Value.int .i64)).toArray 3)) := hp
  have HZ : Hid (∀ j, 0 ≤ zs.getD j 0 ∧ zs.getD j 0 ≤ 255) := hz
  have HC : Hid (Cur w B ao len cap zs st) := hC
  obtain ⟨n, hn⟩ : ∃ n, ps.length = n := ⟨_, rfl⟩
  rw [hn] at hp0 hp1 ⊢
  have HN : Hid (ps.length = n) := hn
  clear hp hz hC hn
  go_enter Try.func61, Try.ntmps61
  go_wp2_with fail
  refine (below_exV _ B len cap ao zs st n HC.out hl HZ.out).mono ?_
  rintro e w1 ⟨x, st1, rfl, r0, r2, hC1, hg1⟩
  obtain ⟨k, rfl⟩ := Int.eq_ofNat_of_zero_le r0
  have hkn := r2 (by omega)
  have hkl : k < ps.length := by have := HN.out; omega
  have hb := blk_curV HP.out hg1 hL
  have hcell : w1.cell? ⟨L, k, none⟩ = some (.int .i64 ps[k]) := by
    simp only [World.cell?, hb]
    simp [hkl]
  have K1 : Hid (Cur w1 B ao len cap zs st1 ∧ w.grownBy w1 (some B)) := ⟨hC1, hg1⟩
  generalize ps[k] = p at hcell
  clear hC1 hg1 hb r2 hkl
  go_wp2
  go_ret
  exact ⟨p, st1, rfl, K1.out.1, K1.out.2⟩

theorem run_nilPr (w : World) (g c : Nat) : (Builtin.append_ #[24, 24] 24 #[.slice (some ⟨g, 0, none⟩) 0 0, .slice none 0 c]).run Try.prog w = .ok (.slice (some ⟨g, 0, none⟩) 0 0) w := by kernel_rfl

theorem run_empPr (w : World) (g c : Nat) (a : Addr) : (Builtin.append_ #[24, 24] 24 #[.slice (some ⟨g, 0, none⟩) 0 0, .slice (some a) 0 c]).run Try.prog w = .ok (.slice (some ⟨g, 0, none⟩) 0 0) w := by kernel_rfl

theorem infoPd : (Try.prog.info? 88).map (fun i => (i.zero, i.size, i.bytes)) = some (some (.agg #[.int .i64 0, .int .i64 0]), 2, 16) := by kernel_rfl

theorem cpPr (p : Option Addr) (L : List S_Pair) (cap : Nat) (w : World) (hn : L.length ≤ 1048576) (hr : RowR w (.slice p L.length cap) L.length 2 (rPair L)) :
    ∃ v' w', (Builtin.append_ #[24, 24] 24 #[.slice (some ⟨w.heap.size, 0, none⟩) 0 0, .slice p L.length cap]).run Try.prog (w.alloc (.cells #[] 88)) = .ok v' w' ∧ w'.ownsRow w.heap.size 88 2 v' L.length (rPair L) ∧ Below w.heap.size w w' := by
  have hb0 : Below w.heap.size w (w.alloc (.cells #[] 88)) := (Below.refl _ _).alloc (Nat.le_refl _) _
  have HO0 := World.ownsRow_made (base := w.heap.size) (e := 88) (size := 2) w #[] 0 (by simp) (by decide) (by simp)
  rcases Nat.eq_zero_or_pos L.length with h0 | h0
  · have e : L = [] := List.eq_nil_of_length_eq_zero h0
    subst e
    refine ⟨.slice (some ⟨w.heap.size, 0, none⟩) 0 0, _, ?_, HO0, hb0⟩
    cases p with
    | none => exact run_nilPr _ _ _
    | some a => exact run_empPr _ _ _ a
  · obtain ⟨i0, hi, hz0, hz1, hz2⟩ := info_parts infoPd
    obtain ⟨b, off, cap', hv, hb, hc⟩ := hr.some h0 (by decide)
    simp only [Value.slice.injEq, true_and] at hv
    obtain ⟨rfl, rfl⟩ := hv
    obtain ⟨v', w', hrun, r1, r2, _⟩ := run_append_own (P := Try.prog) (w.alloc (.cells #[] 88)) w.heap.size 24 24 88 i0 (.agg #[.int .i64 0, .int .i64 0]) 2 16 Try.underlying24 hi hz0 hz1 hz2 rfl (by decide) _ _ _ HO0 ⟨b, off, none⟩ L.length cap (rPair L) (rPair_len _) (fun j u hj => by
        have hjl : j < L.length * 2 := by
          rcases Nat.lt_or_ge j (L.length * 2) with h | h
          · exact h
          · rw [List.getElem?_eq_none (by rw [rPair_len]; exact h)] at hj; simp at hj
        rw [Addr.add_mid, World.cell?_alloc_lt _ _ ⟨b, off + j, none⟩ hb, hc j hjl]
        exact hj) (fun u hu => by
        unfold rPair at hu
        obtain ⟨y, _, hy⟩ := List.mem_flatMap.1 hu
        simp [cPair] at hy
        rcases hy with rfl | rfl <;> rfl) (by unfold maxLen; omega) (by omega) (by simp)
    exact ⟨v', w', hrun, by simpa using r1, hb0.grown r2 (by simp) (fun k hk => by simp only [Value.ownBlock, Option.some.injEq] at hk; omega)⟩

theorem wpList_append_stop {P : Program} {ops : Array Oper} {rest : List Oper} {op : Oper} {a : Act} {w : World} {Q : Exit → Act → World → Prop} (hgd : op.guard = none) (s y : Operand) (t : TypeId)
    (ho : op.op = .call { callee := .builtin .append, args := #[s, y], argTypes := #[t, t] }) (v u : Value) (hs : a.eval s = v) (hx : a.eval y = u) (v' : Value) (w' : World)
    (hrun : (Builtin.append_ #[t, t] op.type #[v, u]).run P w = .ok v' w') (h : ∀ x y, x = v' → y = w' → wpList P ops Q rest (a.put op.dst x) y) : wpList P ops Q (op :: rest) a w := by
  refine wpList_plain hgd fun K hK => ?_
  unfold Oper.wp execOp
  simp only [ho, resolve, invoke, builtin, Sem.run_bind, Sem.run_pure, Result.andThen_ok, List.map_toArray, List.map_cons, List.map_nil, hs, hx, hrun]
  exact hK _ _ (h _ _ rfl rfl)

/-- What a call that draws a vocabulary answers. -/
def VoD (w : World) (B len cap : Nat) (ao : Option Addr) (zs : List Int) (m : Nat) (e : Ending) (w' : World) : Prop :=
  ∃ (L : List S_Pair) (p : Option Addr) (c : Nat) (st' : Nat × Int), e = .returned (.agg #[.slice p L.length c]) ∧ L.length ≤ m ∧ w'.ownsRow w.heap.size 88 2 (.slice p L.length c) L.length (rPair L) ∧ Cur w' B ao len cap zs st' ∧ w.grownBy w' (some B)

theorem cell_two_newV (w : World) (a b : Value) (t : TypeId) : ∀ j u, ([a, b] : List Value)[j]? = some u → (w.alloc (.cells #[a, b] t)).cell? ((⟨w.heap.size, 0, none⟩ : Addr).add j) = some u := fun j u h => by
  rw [Addr.add_mid, Nat.zero_add]
  simp only [World.cell?, alloc_last]
  simpa using h

theorem rPair_oneV (L : List S_Pair) (p : S_Pair) : rPair (L ++ [p]) = rPair L ++ [.int .i64 p.f0, .int .i64 p.f1] := by
  unfold rPair
  rw [List.flatMap_append]
  rfl

theorem frz1V {w : World} {b : Nat} {a0 : Value} {t : TypeId} (h : w.heap[b]? = some (.cells #[a0] t)) (o : Nat) : w.frozen? ⟨b, o, none⟩ = false := by
  simp [World.frozen?, h]

theorem set1V {w : World} {b : Nat} {a0 : Value} {t : TypeId} (h : w.heap[b]? = some (.cells #[a0] t)) (u : Value) : (w.setCell ⟨b, 0, none⟩ u).heap[b]? = some (.cells #[u] t) := by
  simp only [World.setCell, Array.getElem?_modify, if_true, h]
  rfl

end Go.Proofs.Ytdggkcohidijcaa
