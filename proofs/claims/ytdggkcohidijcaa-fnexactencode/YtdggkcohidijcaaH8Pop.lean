/- The least item is handed out. -/
import Derived.Test.YtdggkcohidijcaaH8Sink
import Derived.Test.YtdggkcohidijcaaRgCut
namespace Go.Proofs.Ytdggkcohidijcaa
open Go.RowKit
set_option linter.unusedVariables false
set_option linter.unusedSimpArgs false

/-- The beginning of a row is a row. -/
theorem own_pre {w : World} {base : Nat} {e : TypeId} {size m n g c : Nat} {xs : List Value} (h : w.ownsRow base e size (.slice (some ⟨g, 0, none⟩) n c) n xs) (hm : m ≤ n) : w.ownsRow base e size (.slice (some ⟨g, 0, none⟩) m c) m (xs.take (m * size)) := by
  obtain ⟨h1, ⟨hv, _⟩ | ⟨g2, cap, cur, hv, hg, hh, h3, h4, h5, h6⟩⟩ := h
  · cases hv
  · simp only [Value.slice.injEq, Option.some.injEq, Addr.mk.injEq, and_true, true_and] at hv
    obtain ⟨rfl, rfl⟩ := hv
    have hmn : m * size ≤ n * size := Nat.mul_le_mul_right _ hm
    refine ⟨by rw [List.length_take, h1]; omega, .inr ⟨g, c, cur, rfl, hg, hh, by omega, h4, h5, ?_⟩⟩
    rw [← h6, List.take_take]
    congr 1
    omega

theorem set2J {w : World} {b : Nat} {a0 a1 : Value} {t : TypeId} (h : w.heap[b]? = some (.cells #[a0, a1] t)) (u v : Value) : ((w.setCell ⟨b, 0, none⟩ u).setCell ⟨b, 1, none⟩ v).heap[b]? = some (.cells #[u, v] t) := by
  simp only [World.setCell, Array.getElem?_modify, if_true, h]
  rfl

theorem frz2J {w : World} {b : Nat} {a0 a1 : Value} {t : TypeId} (h : w.heap[b]? = some (.cells #[a0, a1] t)) (o : Nat) : w.frozen? ⟨b, o, none⟩ = false := by
  simp [World.frozen?, h]

/-- The items of a row are told anew. -/
theorem HqS.lay {w : World} {R B : Nat} {mv fv : Value} {X Y : List Jt} {p p' : Option Addr} {n n' c c' : Nat} (S : HqS w R B mv fv X p n c) (hY : w.ownsRow B 112 2 (.slice p' n' c') n' (rJ Y)) (hl : Y.length = n') (hm : ∀ z ∈ Y, Sym w z.b z.a) : HqS (w.setCell ⟨R, 3, none⟩ (.slice p' n' c')) R B mv fv Y p' n' c' := by
  have hne := kind_ne hY S.row (by decide)
  refine ⟨?_, ?_, hl, fun z hz => ?_⟩
  · simp only [World.setCell, Array.getElem?_modify, if_true, S.row]
    rfl
  · obtain ⟨h1, ⟨hv, h2⟩ | ⟨g, cp, cur, hv, hg, hh, r⟩⟩ := hY
    · exact ⟨h1, .inl ⟨hv, h2⟩⟩
    · refine ⟨h1, .inr ⟨g, cp, cur, hv, hg, ?_, r⟩⟩
      rw [Below.heap_setCell _ _ _ _ (fun e => hne (by rw [hv]; exact congrArg some e))]
      exact hh
  · obtain ⟨t, q1, q2, hs⟩ := hm z hz
    exact ⟨t, q1, q2, by rw [Below.heap_setCell _ _ _ _ (fun e => by rw [show z.b = R from e, S.row] at hs; simp at hs)]; exact hs⟩

theorem Fr8.setR {R : Nat} {v : Value} {w w' : World} (h : Fr8 R v w w') (o : Nat) (u : Value) : Fr8 R v w (w'.setCell ⟨R, o, none⟩ u) :=
  ⟨h.os, h.tape, h.output, by have := h.size; simpa [World.setCell] using this, fun k hk h1 h2 => by rw [Below.heap_setCell _ _ _ _ (by exact h1)]; exact h.block k hk h1 h2⟩

set_option maxRecDepth 20000 in
set_option maxHeartbeats 4000000 in
theorem pop_none (X : List Jt) (w : World) (R B : Nat) (mv fv : Value) (p : Option Addr) (c : Nat) (S : HqS w R B mv fv X p 0 c) :
    Calls Try.prog 74 #[.pointer (some ⟨R, 2, none⟩)] w fun e w' => e = .returned (.tuple #[.agg #[.int .i64 0, .pointer none], .bool false]) ∧ Below w.heap.size w w' := by
  have HS : Hid (HqS w R B mv fv X p 0 c) := S
  have hRw : R < w.heap.size := lt_of_some S.row
  clear S
  go_enter Try.func74, Try.ntmps74
  go_upto_region 2 with fail
  refine wp_genW (fun W => Hid (W.heap[w.heap.size]? = some (.cells #[.int .i64 0, .pointer none] 112)) ∧ Hid (W.heap[w.heap.size + 1]? = some (.cells #[.int .i64 0, .pointer none] 112)) ∧ Hid (Below w.heap.size w W)) ⟨by rw [Below.heap_alloc _ _ _ (by simp)]; exact alloc_last _ _, by
    have := alloc_last (w.alloc (.cells #[.int .i64 0, .pointer none] 112)) (.cells #[.int .i64 0, .pointer none] 112)
    rw [World.size_alloc] at this
    exact this, ((Below.refl _ _).alloc (Nat.le_refl _) _).alloc (by simp) _⟩ ?_
  rintro W0 ⟨HA, HB, HW⟩
  have S0 := HS.out.bel HW.out
  have hsl := S0.cells.2.2.2
  obtain ⟨a0, a1⟩ := box2 HA.out
  obtain ⟨b0, b1⟩ := box2 HB.out
  have fzA := frz2J HA.out
  have z := box2 (set2J HA.out (.int .i64 0) (.pointer none))
  obtain ⟨z0, z1⟩ := z
  have HF : Hid (Below w.heap.size w ((W0.setCell ⟨w.heap.size, 0, none⟩ (.int .i64 0)).setCell ⟨w.heap.size, 1, none⟩ (.pointer none))) := (HW.out.setCell (Nat.le_refl _) _).setCell (Nat.le_refl _) _
  clear S0
  go_wp2
  exact bodyPost_ret (v := .tuple #[.agg #[.int .i64 0, .pointer none], .bool false]) (by simp [results, Try.results74, go_sem, z0, z1]) rfl ⟨rfl, HF.out⟩

set_option maxRecDepth 20000 in
set_option maxHeartbeats 4000000 in
theorem pop_some (X : List Jt) (w : World) (R B : Nat) (mv fv : Value) (p : Option Addr) (m c : Nat) (hn : m + 1 ≤ 4000) (S : HqS w R B mv fv X p (m + 1) c) (hk : HpOk X) :
    Calls Try.prog 74 #[.pointer (some ⟨R, 2, none⟩)] w fun e w' => ∃ x0 Y, X[0]? = some x0 ∧ e = .returned (.tuple #[.agg #[.int .i64 x0.r, .pointer (some ⟨x0.b, 0, none⟩)], .bool true]) ∧ HqS w' R B mv fv Y p m c ∧ HpOk Y ∧ (∀ z ∈ Y, z ∈ X) ∧ (∀ z ∈ X, z = x0 ∨ z ∈ Y) ∧ Fr8 R (.slice p (m + 1) c) w w' := by
  have HS : Hid (HqS w R B mv fv X p (m + 1) c) := S
  have HK : Hid (HpOk X) := hk
  have hRw : R < w.heap.size := lt_of_some S.row
  obtain ⟨n, hnm⟩ : ∃ n, m + 1 = n := ⟨_, rfl⟩
  have HNM : Hid (m + 1 = n) := hnm
  rw [hnm] at S hn HS ⊢
  have hmn : m < n := by omega
  obtain ⟨g, rfl, hgw, hBg, hnc, hgR, hcl⟩ := S.items (by omega)
  obtain ⟨x0, hx0⟩ : ∃ x, X[0]? = some x := ⟨_, List.getElem?_eq_getElem (by rw [S.len]; omega)⟩
  obtain ⟨xm, hxm⟩ : ∃ x, X[m]? = some x := ⟨_, List.getElem?_eq_getElem (by rw [S.len]; omega)⟩
  have HX0 : Hid (X[0]? = some x0) := hx0
  have HXm : Hid (X[m]? = some xm) := hxm
  have HXL : Hid (X.length = m + 1) := by rw [← hnm] at S; exact S.len
  have hc0 := hcl 0 x0 hx0 0 _ rfl
  have hc1 := hcl 0 x0 hx0 1 _ rfl
  rw [Addr.add_mid, Nat.zero_mul, Nat.zero_add] at hc0 hc1
  have hmi : (0 : Int) ≤ (m : Int) := by omega
  have hmc : (m : Int) ≤ (c : Int) := by omega
  have e5 : IntKind.i64.wrap ((n : Int) - 1) = (m : Int) := by rw [IntWalk.i64_in _ (by omega)]; omega
  have hnz : ((n : Int) == 0) = false := by rw [beq_eq_false_iff_ne]; omega
  have hnp : (0 : Int) < (n : Int) := by omega
  have hgA : ¬ g = w.heap.size + 1 := by omega
  have hRA : ¬ R = w.heap.size + 1 := by omega
  clear S hk hcl hx0 hxm hnm
  go_enter Try.func74, Try.ntmps74
  go_upto_region 2 with fail
  refine wp_genW (fun W => Hid (W.heap[w.heap.size]? = some (.cells #[.int .i64 0, .pointer none] 112)) ∧ Hid (W.heap[w.heap.size + 1]? = some (.cells #[.int .i64 0, .pointer none] 112)) ∧ Hid (Below w.heap.size w W)) ⟨by rw [Below.heap_alloc _ _ _ (by simp)]; exact alloc_last _ _, by
    have := alloc_last (w.alloc (.cells #[.int .i64 0, .pointer none] 112)) (.cells #[.int .i64 0, .pointer none] 112)
    rw [World.size_alloc] at this
    exact this, ((Below.refl _ _).alloc (Nat.le_refl _) _).alloc (by simp) _⟩ ?_
  rintro W0 ⟨HA, HB, HW⟩
  have S0 := HS.out.bel HW.out
  have hsl := S0.cells.2.2.2
  obtain ⟨b0, b1⟩ := box2 HB.out
  have fzB := frz2J HB.out
  have k0 : W0.cell? ⟨g, 0, none⟩ = some (.int .i64 x0.r) := by rw [HW.out.cell (by exact hgw)]; exact hc0
  have k1 : W0.cell? ⟨g, 1, none⟩ = some (.pointer (some ⟨x0.b, 0, none⟩)) := by rw [HW.out.cell (by exact hgw)]; exact hc1
  clear hc0 hc1 S0
  go_upto_region 5 with fail
  refine wp_genW (fun W => Hid (W.heap[w.heap.size]? = some (.cells #[.int .i64 0, .pointer none] 112)) ∧ Hid (W.heap[w.heap.size + 1]? = some (.cells #[.int .i64 x0.r, .pointer (some ⟨x0.b, 0, none⟩)] 112)) ∧ Hid (Below w.heap.size w W)) ⟨by rw [Below.heap_setCell _ _ _ _ (by show w.heap.size ≠ w.heap.size + 1; omega), Below.heap_setCell _ _ _ _ (by show w.heap.size ≠ w.heap.size + 1; omega)]; exact HA.out, set2J HB.out _ _, (HW.out.setCell (by show w.heap.size ≤ w.heap.size + 1; omega) _).setCell (by show w.heap.size ≤ w.heap.size + 1; omega) _⟩ ?_
  clear hsl b0 b1 fzB k0 k1 HA HB HW
  rintro W1 ⟨HA, HB, HW⟩
  have S1 : Hid (HqS W1 R B mv fv X (some ⟨g, 0, none⟩) n c) := HS.out.bel HW.out
  have hsl := S1.out.cells.2.2.2
  go_wp2_with fail
  refine Calls.mono (swap_c X 0 m x0 xm W1 R B mv fv _ n c hn HX0.out HXm.out S1.out) ?_
  rintro e W2 ⟨rfl, hS2, hf2⟩
  clear hsl
  have hsw := swp_set HX0.out HXm.out
  obtain ⟨Y, hY⟩ : ∃ Y, (X.set 0 xm).set m x0 = Y := ⟨_, rfl⟩
  rw [hY] at hS2 hsw
  have HSW : Hid (Swp X Y 0 m) := hsw
  have S2 : Hid (HqS W2 R B mv fv Y (some ⟨g, 0, none⟩) n c) := hS2
  have HF2 : Hid (Fr8 R (.slice (some ⟨g, 0, none⟩) n c) W1 W2) := hf2
  have hlA1 := lt_of_some HA.out
  have hlB1 := lt_of_some HB.out
  have HA2 : Hid (W2.heap[w.heap.size]? = some (.cells #[.int .i64 0, .pointer none] 112)) := (hf2.block _ hlA1 (by omega) (by intro e; simp only [Value.ownBlock, Option.some.injEq] at e; omega)).trans HA.out
  have HB2 : Hid (W2.heap[w.heap.size + 1]? = some (.cells #[.int .i64 x0.r, .pointer (some ⟨x0.b, 0, none⟩)] 112)) := (hf2.block _ hlB1 (by omega) (by intro e; simp only [Value.ownBlock, Option.some.injEq] at e; omega)).trans HB.out
  have hsl := S2.out.cells.2.2.2
  have hfz := S2.out.frz
  clear hS2 hf2 hsw hY
  go_upto_region 8 with fail
  refine wp_genW (fun W => Hid (W.heap[w.heap.size]? = some (.cells #[.int .i64 0, .pointer none] 112)) ∧ Hid (W.heap[w.heap.size + 1]? = some (.cells #[.int .i64 x0.r, .pointer (some ⟨x0.b, 0, none⟩)] 112)) ∧ Hid (HqS W R B mv fv (Y.take m) (some ⟨g, 0, none⟩) m c) ∧ Hid (Fr8 R (.slice (some ⟨g, 0, none⟩) n c) w W)) ⟨by rw [Below.heap_setCell _ _ _ _ (by show w.heap.size ≠ R; omega)]; exact HA2.out, by rw [Below.heap_setCell _ _ _ _ (by show w.heap.size + 1 ≠ R; omega)]; exact HB2.out, ?_, ((Fr8.of_bel HW.out).trans (Nxt8.refl _ _) HF2.out).setR _ _⟩ ?_
  · have hYl : Y.length = n := S2.out.len
    have ho := own_pre S2.out.own (Nat.le_of_lt hmn)
    rw [← rJ_take Y m (by omega)] at ho
    exact S2.out.lay ho (by rw [List.length_take]; omega) (fun z hz => S2.out.ats z (List.mem_of_mem_take hz))
  clear hsl hfz HA2 HB2 HA HB
  rintro W3 ⟨HA, HB, S3, HF3⟩
  have HD3 : Hid (DnI (Y.take m) 0) := dn_start HXL.out HSW.out HK.out
  go_wp2_with fail
  refine (sink_c (Y.take m) W3 R B mv fv _ m c (by omega) S3.out HD3.out).mono ?_
  rintro e W4 ⟨rfl, Z, hS4, hk4, hm4, hf4⟩
  have S4 : Hid (HqS W4 R B mv fv Z (some ⟨g, 0, none⟩) m c) := hS4
  have HK4 : Hid (HpOk Z) := hk4
  have hpm := pop_mem HXL.out HX0.out HSW.out
  have HM1 : Hid (∀ z ∈ Z, z ∈ X) := fun z hz => hpm.1 z ((hm4 z).1 hz)
  have HM2 : Hid (∀ z ∈ X, z = x0 ∨ z ∈ Z) := fun z hz => (hpm.2 z hz).imp id (fun h => (hm4 z).2 h)
  have HF4 : Hid (Fr8 R (.slice (some ⟨g, 0, none⟩) n c) w W4) := HF3.out.trans (v' := .slice (some ⟨g, 0, none⟩) m c) (fun k hk => .inl hk) hf4
  have HA4 : Hid (W4.heap[w.heap.size]? = some (.cells #[.int .i64 0, .pointer none] 112)) := (hf4.block _ (lt_of_some HA.out) (by omega) (by intro e; simp only [Value.ownBlock, Option.some.injEq] at e; omega)).trans HA.out
  have HB4 : Hid (W4.heap[w.heap.size + 1]? = some (.cells #[.int .i64 x0.r, .pointer (some ⟨x0.b, 0, none⟩)] 112)) := (hf4.block _ (lt_of_some HB.out) (by omega) (by intro e; simp only [Value.ownBlock, Option.some.injEq] at e; omega)).trans HB.out
  clear hS4 hk4 hm4 hf4 hpm HA HB
  obtain ⟨a0, a1⟩ := box2 HA4.out
  obtain ⟨b0, b1⟩ := box2 HB4.out
  have fzA := frz2J HA4.out
  obtain ⟨z0, z1⟩ := box2 (set2J HA4.out (.int .i64 x0.r) (.pointer (some ⟨x0.b, 0, none⟩)))
  have hgA' : ¬ g = w.heap.size := by omega
  have HE : Hid (HqS ((W4.setCell ⟨w.heap.size, 0, none⟩ (.int .i64 x0.r)).setCell ⟨w.heap.size, 1, none⟩ (.pointer (some ⟨x0.b, 0, none⟩))) R B mv fv Z (some ⟨g, 0, none⟩) m c) := by
    have key : ∀ W, HqS W R B mv fv Z (some ⟨g, 0, none⟩) m c → ∀ (o : Nat) (u : Value), (∀ z ∈ Z, z.b ≠ w.heap.size) → HqS (W.setCell ⟨w.heap.size, o, none⟩ u) R B mv fv Z (some ⟨g, 0, none⟩) m c := fun W S o u hz => by
      refine ⟨by rw [Below.heap_setCell _ _ _ _ (by show R ≠ w.heap.size; omega)]; exact S.row, ?_, S.len, fun z hzz => ?_⟩
      · obtain ⟨h1, ⟨hv, _⟩ | ⟨g2, cp, cur, hv, hg2, hh, r⟩⟩ := S.own
        · cases hv
        · simp only [Value.slice.injEq, Option.some.injEq, Addr.mk.injEq, and_true, true_and] at hv
          obtain ⟨rfl, rfl⟩ := hv
          exact ⟨h1, .inr ⟨g, c, cur, rfl, hg2, by rw [Below.heap_setCell _ _ _ _ (by show g ≠ w.heap.size; omega)]; exact hh, r⟩⟩
      · obtain ⟨t, q1, q2, hs⟩ := S.ats z hzz
        exact ⟨t, q1, q2, by rw [Below.heap_setCell _ _ _ _ (by exact hz z hzz)]; exact hs⟩
    have hz : ∀ z ∈ Z, z.b ≠ w.heap.size := fun z hzz e => by
      obtain ⟨t, q1, q2, hs⟩ := S4.out.ats z hzz
      rw [e, HA4.out] at hs
      simp at hs
    exact key _ (key _ S4.out 0 _ hz) 1 _ hz
  have HFE : Hid (Fr8 R (.slice (some ⟨g, 0, none⟩) n c) w ((W4.setCell ⟨w.heap.size, 0, none⟩ (.int .i64 x0.r)).setCell ⟨w.heap.size, 1, none⟩ (.pointer (some ⟨x0.b, 0, none⟩)))) :=
    ⟨HF4.out.os, HF4.out.tape, HF4.out.output, by have := HF4.out.size; simpa [World.setCell] using this, fun k hk h1 h2 => by rw [Below.heap_setCell _ _ _ _ (by show k ≠ w.heap.size; omega), Below.heap_setCell _ _ _ _ (by show k ≠ w.heap.size; omega)]; exact HF4.out.block k hk h1 h2⟩
  go_wp2
  exact bodyPost_ret (v := .tuple #[.agg #[.int .i64 x0.r, .pointer (some ⟨x0.b, 0, none⟩)], .bool true]) (by simp [results, Try.results74, go_sem, z0, z1]) rfl ⟨x0, Z, HX0.out, rfl, HE.out, HK4.out, HM1.out, HM2.out, HFE.out⟩

end Go.Proofs.Ytdggkcohidijcaa
