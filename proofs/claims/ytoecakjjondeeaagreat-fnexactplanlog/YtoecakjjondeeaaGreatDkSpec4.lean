/- The specification's links with one more, by its contract. -/
import Derived.Test.YtoecakjjondeeaaGreatDkSpec3
import Derived.BigQuiet
import Derived.Maps.AppendAt
namespace Go.Proofs.YtoecakjjondeeaaGreat
open Go.RowKit
set_option linter.unusedVariables false

/-- Is the first name less? -/
def lt4 (x y : S_Link) : Bool := Op.bytesLess x.f0.toList y.f0.toList

/-- One more, ahead of the first that is greater. -/
def insF (x : S_Link) : List S_Link → List S_Link
  | [] => [x]
  | y :: ys => if lt4 x y then x :: y :: ys else y :: insF x ys

theorem insF_yes (x y : S_Link) (ys : List S_Link) (h : lt4 x y = true) : insF x (y :: ys) = x :: y :: ys := by simp [insF, h]

theorem insF_no (x y : S_Link) (ys : List S_Link) (h : lt4 x y = false) : insF x (y :: ys) = y :: insF x ys := by simp [insF, h]

theorem insF_len (x : S_Link) : ∀ L, (insF x L).length = L.length + 1
  | [] => rfl
  | y :: ys => by
    simp only [insF]
    split
    · simp
    · simp [insF_len x ys]

/-- The links with one more. -/
def wi (x : S_Link) (L : List S_Link) : List S_Link := insF x (wo x.f0 L)

theorem wo_len (nm : ByteArray) (L : List S_Link) : (wo nm L).length ≤ L.length := List.length_filter_le _ _

theorem ownsRow_drewN4 {w : World} {base : Nat} {e : TypeId} {size : Nat} {v : Value} {n : Nat} {xs : List Value} (h : w.ownsRow base e size v n xs) (k : Nat) : (w.drewN k).ownsRow base e size v n xs := by
  induction k with
  | zero => exact h
  | succ k ih => exact ih

theorem But.drewN {g : Nat} {a w : World} (h : But g a w) (n : Nat) : But g a (w.drewN n) := ⟨h.os, h.tape, h.output, h.size, h.block⟩

theorem but_append {g : Nat} {w1 wr w2 : World} {o : Obj} {v : Value} (h : But g w1 wr) (hgr : (wr.alloc o).grownBy w2 v.ownBlock) (hq : ∀ q, v.ownBlock = some q → q = g ∨ w1.heap.size ≤ q) : But g w1 w2 := by
  have hs := h.size
  have hgs := hgr.size
  rw [World.size_alloc] at hgs
  refine ⟨hgr.os.trans h.os, hgr.tape.trans h.tape, hgr.output.trans h.output, by omega, fun k hk hne => ?_⟩
  rw [hgr.block k (by rw [World.size_alloc]; omega) (fun e => by rcases hq k e.symm with h1 | h1 <;> omega), Below.heap_alloc _ _ _ (by omega)]
  exact h.block k hk hne

theorem But.cell {g : Nat} {w w' : World} (h : But g w w') {a : Addr} (h1 : a.block < w.heap.size) (h2 : a.block ≠ g) : w'.cell? a = w.cell? a := World.cell?_of_block (h.block _ h1 h2)

theorem own_cells2 {w : World} {base : Nat} {p : Option Addr} {cap : Nat} {M : List S_Link} (h : w.ownsRow base 114 2 (.slice p M.length cap) M.length (rLink M)) :
    ∀ k (hk : k < M.length), ∃ g, p = some ⟨g, 0, none⟩ ∧ base ≤ g ∧ g < w.heap.size ∧ w.cell? ⟨g, k * 2, none⟩ = some (.string M[k].f0) ∧ w.cell? ⟨g, k * 2 + 1, none⟩ = some (.int .i64 M[k].f1) := by
  intro k hk
  have h' := h
  obtain ⟨_, ⟨_, h2⟩ | ⟨g, c, cur, hv, hg, hh, _⟩⟩ := h'
  · omega
  · simp only [Value.slice.injEq, true_and] at hv
    obtain ⟨rfl, rfl⟩ := hv
    have c0 := h.cellAt (k * 2) (by omega)
    have c1 := h.cellAt (k * 2 + 1) (by omega)
    have f0 := flat_at cLink 2 cLink_len M k 0 hk (by decide)
    have f1 := flat_at cLink 2 cLink_len M k 1 hk (by decide)
    exact ⟨g, rfl, hg, lt_of_some hh, by rw [c0]; exact f0, by rw [c1]; exact f1⟩

set_option maxRecDepth 20000 in
set_option maxHeartbeats 2000000 in
theorem with_c (v : Value) (L : List S_Link) (x : S_Link) (w : World) (hn : L.length ≤ 1048576) (hr : RowR w v L.length 2 (rLink L)) :
    Calls Tryz.prog 126 #[v, .agg #[.string x.f0, .int .i64 x.f1]] w fun e w' => ∃ v', e = .returned v' ∧ w'.ownsRow w.heap.size 114 2 v' (wi x L).length (rLink (wi x L)) ∧ Below w.heap.size w w' := by
  obtain ⟨i0, hi, hz0, hz1, hz2⟩ := info_parts infoLink
  obtain ⟨W, hW⟩ : ∃ W, W = (w.alloc (.cells #[.string x.f0, .int .i64 x.f1] 114)).alloc (.cells #[] 114) := ⟨_, rfl⟩
  have HW : Hid ((w.alloc (.cells #[.string x.f0, .int .i64 x.f1] 114)).alloc (.cells #[] 114) = W) := hW.symm
  have hWs : W.heap.size = w.heap.size + 1 + 1 := by rw [hW]; simp
  have HB0 : Hid (Below w.heap.size w W) := by rw [hW]; exact ((Below.refl _ _).alloc (Nat.le_refl _) _).alloc (by simp) _
  have HX : Hid (∀ W', Below (w.heap.size + 1) W W' → W'.cell? ⟨w.heap.size, 0, none⟩ = some (.string x.f0) ∧ W'.cell? ⟨w.heap.size, 1, none⟩ = some (.int .i64 x.f1)) := fun W' hb => by
    have e : ∀ j, W.cell? ⟨w.heap.size, j, none⟩ = #[Value.string x.f0, .int .i64 x.f1][j]? := fun j => by
      rw [hW, World.cell?_alloc_lt _ _ ⟨w.heap.size, j, none⟩ (by simp), box_cell]
    exact ⟨by rw [hb.cell (by show w.heap.size < w.heap.size + 1; omega), e]; rfl, by rw [hb.cell (by show w.heap.size < w.heap.size + 1; omega), e]; rfl⟩
  have HO0 : Hid (W.ownsRow (w.heap.size + 1) 114 2 (.slice (some ⟨w.heap.size + 1, 0, none⟩) 0 0) ([] : List S_Link).length (rLink [])) := by
    rw [hW]
    have := World.ownsRow_made (base := w.heap.size + 1) (e := 114) (size := 2) (w.alloc (.cells #[.string x.f0, .int .i64 x.f1] 114)) #[] 0 (by simp) (by decide) (by simp)
    rw [World.size_alloc] at this
    exact this
  have HR : Hid (RowR W v L.length 2 (rLink L)) := hr.keep HB0.out (Nat.le_refl _)
  clear hW hr
  go_enter Tryz.func126, Tryz.ntmps126
  go_wp2_with fail
  rw [HW.out]
  refine (without_c v L x.f0 W hn HR.out).mono ?_
  rintro e w1 ⟨u, rfl, own1, b1⟩
  have hML : (wo x.f0 L).length ≤ 1048576 := Nat.le_trans (wo_len _ _) hn
  have HI : Hid (wi x L = insF x (wo x.f0 L)) := rfl
  generalize wo x.f0 L = M at own1 hML HI
  have hM' : (M.length : Int) ≤ 1048576 := by omega
  obtain ⟨_, p, cap, hv, _⟩ := RowR.own own1
  subst hv
  have HRM : Hid (∀ k (hk : k < M.length), ∃ g, p = some ⟨g, 0, none⟩ ∧ W.heap.size ≤ g ∧ g < w1.heap.size ∧ w1.cell? ⟨g, k * 2, none⟩ = some (.string M[k].f0) ∧ w1.cell? ⟨g, k * 2 + 1, none⟩ = some (.int .i64 M[k].f1)) := own_cells2 own1
  have HO1 : Hid (w1.ownsRow (w.heap.size + 1) 114 2 (.slice (some ⟨w.heap.size + 1, 0, none⟩) 0 0) ([] : List S_Link).length (rLink [])) := own_bel HO0.out b1 (Nat.le_refl _)
  have HB1 : Hid (Below w.heap.size w w1) := HB0.out.trans (b1.mono (by omega))
  have HC1 : Hid (Below (w.heap.size + 1) W w1) := b1.mono (by omega)
  have HA1 : Hid (W.heap.size ≤ w1.heap.size) := b1.size
  clear own1 b1 HO0
  obtain ⟨xc0, xc1⟩ := HX.out w1 HC1.out
  have XC0 : Hid (w1.cell? ⟨w.heap.size, 0, none⟩ = some (.string x.f0)) := xc0
  have XC1 : Hid (w1.cell? ⟨w.heap.size, 1, none⟩ = some (.int .i64 x.f1)) := xc1
  have hw1 : w.heap.size + 2 ≤ w1.heap.size := by have := HA1.out; omega
  clear xc0 xc1
  go_wp2
  go_loopw [5, 6, 7] (fun v' pv i wr => ∃ (acc : List S_Link) (put : Bool) (k : Nat), k ≤ M.length ∧ acc.length ≤ k + put.toNat ∧ pv = .bool put ∧ i = .int .i64 (k : Int) ∧ Hid (wr.ownsRow (w.heap.size + 1) 114 2 v' acc.length (rLink acc)) ∧ Hid (But (w.heap.size + 1) w1 wr) ∧ Hid (∀ q, v'.ownBlock = some q → q = w.heap.size + 1 ∨ w1.heap.size ≤ q) ∧ Hid (acc ++ (if put then M.drop k else insF x (M.drop k)) = insF x M)) (fun _ _ i _ => M.length - (intOf i).toNat)
  case atStart => exact ⟨[], false, 0, Nat.zero_le _, Nat.le_refl _, rfl, rfl, HO1, But.refl _ _, fun q hq => Or.inl (by simpa [Value.ownBlock] using hq.symm), by show _ = _; simp⟩
  case round =>
    obtain ⟨acc, put, k, hk, hal, rfl, rfl, HO, HT, HQ, HE⟩ := hrel
    have hsz := HT.out.size
    have X0 : wr.cell? ⟨w.heap.size, 0, none⟩ = some (.string x.f0) := by rw [HT.out.cell (by show w.heap.size < w1.heap.size; omega) (by show w.heap.size ≠ w.heap.size + 1; omega)]; exact XC0.out
    have X1 : wr.cell? ⟨w.heap.size, 1, none⟩ = some (.int .i64 x.f1) := by rw [HT.out.cell (by show w.heap.size < w1.heap.size; omega) (by show w.heap.size ≠ w.heap.size + 1; omega)]; exact XC1.out
    by_cases hlt : k < M.length
    · have hlt' : (k : Int) < M.length := by omega
      obtain ⟨g, hp, hg1, hg2, d0, d1⟩ := HRM.out k hlt
      subst hp
      have c0 : wr.cell? ⟨g, k * 2, none⟩ = some (.string M[k].f0) := by rw [HT.out.cell (by exact hg2) (by show g ≠ w.heap.size + 1; omega)]; exact d0
      have c1 : wr.cell? ⟨g, k * 2 + 1, none⟩ = some (.int .i64 M[k].f1) := by rw [HT.out.cell (by exact hg2) (by show g ≠ w.heap.size + 1; omega)]; exact d1
      have HD : Hid (M.drop k = M[k] :: M.drop (k + 1)) := List.drop_eq_getElem_cons hlt
      clear d0 d1
      generalize M[k] = Y at c0 c1 HD
      have hown := HO.out
      cases put with
      | true =>
        have hal2 : acc.length ≤ 1048577 := by simp at hal; omega
        have HE2 : Hid ((acc ++ [Y]) ++ (if true then M.drop (k + 1) else insF x (M.drop (k + 1))) = insF x M) := by
          have := HE.out
          rw [HD.out] at this
          show _ = _
          simpa using this
        clear HE HD HO
        go_wp2
        go_quiet (fail)
        go_wp2_with (at_builtin; refine wpList_append_own_at _ rfl _ _ 32 rfl (w.heap.size + 1) 114 i0 (.agg #[.string ⟨#[]⟩, .int .i64 0]) 2 24 Tryz.underlying32 hi hz0 hz1 hz2 rfl (by decide) _ _ _ rfl ((ownsRow_drewN4 hown _).alloc _) ⟨wr.heap.size, 0, none⟩ 1 1 [.string Y.f0, .int .i64 Y.f1] rfl rfl (cell_new2 _ _ _ _) (by intro u hu; simp at hu; rcases hu with rfl | rfl <;> rfl) (by unfold maxLen; omega) (by omega) (by simp; omega) ?_)
        intro va w2 own2 hgrow _ hblk
        have R1a : Hid (w2.ownsRow (w.heap.size + 1) 114 2 va (acc ++ [Y]).length (rLink (acc ++ [Y]))) := link_snoc own2
        have R2a : Hid (But (w.heap.size + 1) w1 w2) := but_append (HT.out.drewN _) hgrow HQ.out
        have R3a : Hid (∀ q, va.ownBlock = some q → q = w.heap.size + 1 ∨ w1.heap.size ≤ q) := fun q hq => by
          rcases hblk with h | h
          · exact HQ.out q (by rw [← h]; exact hq)
          · rw [h] at hq
            simp only [Option.some.injEq] at hq
            right; omega
        clear own2 hgrow hblk
        clear hown HT HQ c0 c1 X0 X1
        go_wp2
        go_roundw
        case rel => first | exact ⟨acc ++ [Y], true, k + 1, by omega, by simp at hal ⊢; omega, rfl, by go_num, R1a, R2a, R3a, HE2⟩ | ((repeat apply Exists.intro); exact ⟨⟨acc ++ [Y], true, k + 1, by omega, by simp at hal ⊢; omega, rfl, by go_num, R1a, R2a, R3a, HE2⟩, rfl⟩)
        case measure => simp [intOf]; omega
      | false =>
        have hal2 : acc.length ≤ 1048576 := by simp at hal; omega
        cases hless : lt4 x Y with
        | true =>
          have HE2 : Hid ((acc ++ [x] ++ [Y]) ++ (if true then M.drop (k + 1) else insF x (M.drop (k + 1))) = insF x M) := by
            have := HE.out
            rw [HD.out] at this
            show _ = _
            simp only [Bool.false_eq_true, if_false, insF_yes _ _ _ hless] at this
            simpa using this
          have hls : Op.bytesLess x.f0.toList Y.f0.toList = true := hless
          clear HE HD HO hless
          go_wp2
          go_quiet (fail)
          go_wp2_with (at_builtin; refine wpList_append_own_at _ rfl _ _ 32 rfl (w.heap.size + 1) 114 i0 (.agg #[.string ⟨#[]⟩, .int .i64 0]) 2 24 Tryz.underlying32 hi hz0 hz1 hz2 rfl (by decide) _ _ _ rfl ((ownsRow_drewN4 hown _).alloc _) ⟨wr.heap.size, 0, none⟩ 1 1 [.string x.f0, .int .i64 x.f1] rfl rfl (cell_new2 _ _ _ _) (by intro u hu; simp at hu; rcases hu with rfl | rfl <;> rfl) (by unfold maxLen; omega) (by omega) (by simp; omega) ?_)
          intro va w2 own2 hgrow _ hblk
          have R1a : Hid (w2.ownsRow (w.heap.size + 1) 114 2 va (acc ++ [x]).length (rLink (acc ++ [x]))) := link_snoc own2
          have R2a : Hid (But (w.heap.size + 1) w1 w2) := but_append (HT.out.drewN _) hgrow HQ.out
          have R3a : Hid (∀ q, va.ownBlock = some q → q = w.heap.size + 1 ∨ w1.heap.size ≤ q) := fun q hq => by
            rcases hblk with h | h
            · exact HQ.out q (by rw [← h]; exact hq)
            · rw [h] at hq
              simp only [Option.some.injEq] at hq
              right; omega
          clear own2 hgrow hblk
          have hown2 := R1a.out
          have hsz2 := R2a.out.size
          have hal3 : (acc ++ [x]).length ≤ 1048577 := by simp; omega
          have e0 : w2.cell? ⟨g, k * 2, none⟩ = some (.string Y.f0) := by
            rw [R2a.out.cell (by exact hg2) (by show g ≠ w.heap.size + 1; omega), ← HT.out.cell (by exact hg2) (by show g ≠ w.heap.size + 1; omega)]; exact c0
          have e1 : w2.cell? ⟨g, k * 2 + 1, none⟩ = some (.int .i64 Y.f1) := by
            rw [R2a.out.cell (by exact hg2) (by show g ≠ w.heap.size + 1; omega), ← HT.out.cell (by exact hg2) (by show g ≠ w.heap.size + 1; omega)]; exact c1
          have hal4 : (acc ++ [x]).length ≤ k + 1 := by simp at hal ⊢; omega
          clear hown HT HQ c0 c1 X0 X1 R1a hls hal hal2
          generalize acc ++ [x] = acc2 at hown2 hal3 hal4 HE2
          go_wp2_with (at_builtin; refine wpList_append_own_at _ rfl _ _ 32 rfl (w.heap.size + 1) 114 i0 (.agg #[.string ⟨#[]⟩, .int .i64 0]) 2 24 Tryz.underlying32 hi hz0 hz1 hz2 rfl (by decide) _ _ _ rfl (hown2.alloc _) ⟨w2.heap.size, 0, none⟩ 1 1 [.string Y.f0, .int .i64 Y.f1] rfl rfl (cell_new2 _ _ _ _) (by intro u hu; simp at hu; rcases hu with rfl | rfl <;> rfl) (by unfold maxLen; omega) (by omega) (by simp; omega) ?_)
          intro vb w3 own2 hgrow _ hblk
          have R1b : Hid (w3.ownsRow (w.heap.size + 1) 114 2 vb (acc2 ++ [Y]).length (rLink (acc2 ++ [Y]))) := link_snoc own2
          have R2b : Hid (But (w.heap.size + 1) w1 w3) := but_append (R2a.out) hgrow R3a.out
          have R3b : Hid (∀ q, vb.ownBlock = some q → q = w.heap.size + 1 ∨ w1.heap.size ≤ q) := fun q hq => by
            rcases hblk with h | h
            · exact R3a.out q (by rw [← h]; exact hq)
            · rw [h] at hq
              simp only [Option.some.injEq] at hq
              right; omega
          clear own2 hgrow hblk
          clear hown2 R2a R3a e0 e1
          go_wp2
          go_roundw
          case rel => first | exact ⟨acc2 ++ [Y], true, k + 1, by omega, by simp; omega, rfl, by go_num, R1b, R2b, R3b, HE2⟩ | ((repeat apply Exists.intro); exact ⟨⟨acc2 ++ [Y], true, k + 1, by omega, by simp; omega, rfl, by go_num, R1b, R2b, R3b, HE2⟩, rfl⟩)
          case measure => simp [intOf]; omega
        | false =>
          have HE2 : Hid ((acc ++ [Y]) ++ (if false then M.drop (k + 1) else insF x (M.drop (k + 1))) = insF x M) := by
            have := HE.out
            rw [HD.out] at this
            show _ = _
            simp only [Bool.false_eq_true, if_false, insF_no _ _ _ hless] at this
            simpa using this
          have hls : Op.bytesLess x.f0.toList Y.f0.toList = false := hless
          clear HE HD HO hless
          go_wp2
          go_quiet (fail)
          go_wp2_with (at_builtin; refine wpList_append_own_at _ rfl _ _ 32 rfl (w.heap.size + 1) 114 i0 (.agg #[.string ⟨#[]⟩, .int .i64 0]) 2 24 Tryz.underlying32 hi hz0 hz1 hz2 rfl (by decide) _ _ _ rfl ((ownsRow_drewN4 hown _).alloc _) ⟨wr.heap.size, 0, none⟩ 1 1 [.string Y.f0, .int .i64 Y.f1] rfl rfl (cell_new2 _ _ _ _) (by intro u hu; simp at hu; rcases hu with rfl | rfl <;> rfl) (by unfold maxLen; omega) (by omega) (by simp; omega) ?_)
          intro va w2 own2 hgrow _ hblk
          have R1a : Hid (w2.ownsRow (w.heap.size + 1) 114 2 va (acc ++ [Y]).length (rLink (acc ++ [Y]))) := link_snoc own2
          have R2a : Hid (But (w.heap.size + 1) w1 w2) := but_append (HT.out.drewN _) hgrow HQ.out
          have R3a : Hid (∀ q, va.ownBlock = some q → q = w.heap.size + 1 ∨ w1.heap.size ≤ q) := fun q hq => by
            rcases hblk with h | h
            · exact HQ.out q (by rw [← h]; exact hq)
            · rw [h] at hq
              simp only [Option.some.injEq] at hq
              right; omega
          clear own2 hgrow hblk
          clear hown HT HQ c0 c1 X0 X1 hls
          go_wp2
          go_roundw
          case rel => first | exact ⟨acc ++ [Y], false, k + 1, by omega, by simp at hal ⊢; omega, rfl, by go_num, R1a, R2a, R3a, HE2⟩ | ((repeat apply Exists.intro); exact ⟨⟨acc ++ [Y], false, k + 1, by omega, by simp at hal ⊢; omega, rfl, by go_num, R1a, R2a, R3a, HE2⟩, rfl⟩)
          case measure => simp [intOf]; omega
    · have hke : k = M.length := by omega
      subst hke
      have hown := HO.out
      have HBw : Hid (Below w.heap.size w wr) := HB1.out.trans (HT.out.below (by omega) (by omega))
      cases put with
      | true =>
        have HF : Hid (wr.ownsRow w.heap.size 114 2 u5 (wi x L).length (rLink (wi x L))) := by
          have := HE.out
          simp at this
          show World.ownsRow _ _ _ _ _ _ _
          rw [HI.out, ← this]
          exact own_low hown (by omega)
        clear HE HO hown
        go_wp2
        go_ret
        exact ⟨_, rfl, HF.out, HBw.out⟩
      | false =>
        have hal2 : acc.length ≤ 1048576 := by simp at hal; omega
        have HE2 : Hid (acc ++ [x] = insF x M) := by
          have := HE.out
          show _ = _
          simpa [insF] using this
        clear HE HO
        go_wp2_with (at_builtin; refine wpList_append_own_at _ rfl _ _ 32 rfl (w.heap.size + 1) 114 i0 (.agg #[.string ⟨#[]⟩, .int .i64 0]) 2 24 Tryz.underlying32 hi hz0 hz1 hz2 rfl (by decide) _ _ _ rfl (hown.alloc _) ⟨wr.heap.size, 0, none⟩ 1 1 [.string x.f0, .int .i64 x.f1] rfl rfl (cell_new2 _ _ _ _) (by intro u hu; simp at hu; rcases hu with rfl | rfl <;> rfl) (by unfold maxLen; omega) (by omega) (by simp; omega) ?_)
        intro va w2 own2 hgrow _ hblk
        have R1a : Hid (w2.ownsRow (w.heap.size + 1) 114 2 va (acc ++ [x]).length (rLink (acc ++ [x]))) := link_snoc own2
        have R2a : Hid (But (w.heap.size + 1) w1 w2) := but_append (HT.out) hgrow HQ.out
        have R3a : Hid (∀ q, va.ownBlock = some q → q = w.heap.size + 1 ∨ w1.heap.size ≤ q) := fun q hq => by
          rcases hblk with h | h
          · exact HQ.out q (by rw [← h]; exact hq)
          · rw [h] at hq
            simp only [Option.some.injEq] at hq
            right; omega
        clear own2 hgrow hblk
        have HF : Hid (w2.ownsRow w.heap.size 114 2 va (wi x L).length (rLink (wi x L))) := by
          show World.ownsRow _ _ _ _ _ _ _
          rw [HI.out, ← HE2.out]
          exact own_low R1a.out (by omega)
        have HBw2 : Hid (Below w.heap.size w w2) := HB1.out.trans (R2a.out.below (by omega) (by omega))
        clear hown R1a R2a R3a HE2
        go_wp2
        go_ret
        exact ⟨_, rfl, HF.out, HBw2.out⟩

end Go.Proofs.YtoecakjjondeeaaGreat
