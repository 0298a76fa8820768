/- The walk of what brings a block in (the specification's own). -/
import Derived.Test.YtdhbhifgmbppjaaDoorJSa
import Derived.Test.YtdhbhifgmbppjaaDoorJSb
import Derived.Deep.QuietTactic
import Derived.BigQuiet
import Derived.Deep.RegionLaw
import Derived.Deep.RegionHeld3
import Derived.Deep.AppendLies
import Derived.Deep.DrawnRows
namespace Go.Proofs.YtdhbhifgmbppjaaDoor
open Go.RowKit
set_option linter.unusedVariables false
attribute [local go_sem ↓] Go.wp_at_zero Go.wp_at_succ

theorem nums_at (b : ByteArray) (j : Nat) (h : j < b.size) : (nums b).getD j 0 = ((b[j]'h).toNat : Int) := by
  have h2 : j < b.data.toList.length := by rw [Array.length_toList]; exact h
  simp only [nums, List.getD, List.getElem?_map, List.getElem?_eq_getElem h2]
  rfl

theorem or_at (i : Nat) (x y : Int) (h0 : 0 ≤ x) (h1 : x % 2 ^ i = 0) (h2 : x < 4294967296) (h3 : 0 ≤ y) (h4 : y < 2 ^ i) (h5 : y < 4294967296) : bits .or .u32 x y = x + y :=
  bits_join .u32 32 (by decide) (fun n a b => by simp [IntKind.wrap, IntKind.bits, IntKind.signed]; omega) i x y h0 h1 (by omega) h3 h4 (by omega)

theorem index_str (b : ByteArray) (j : Nat) (i : Int) (h : j < b.size) (hi : i = j) (w : World) : (Instr.index 9 (.string b) (.int .i64 i)).run Tryd.prog w = .ok (.int .u8 ((b[j]'h).toNat : Int)) w := by
  subst hi
  have h0 : (0 : Int) ≤ (j : Int) := by omega
  simp [Instr.index, asIntOf, go_sem, h]

theorem below_app1 {B : Nat} {w wr w1 : World} {o : Obj} {e : TypeId} {size : Nat} {v : Value} {n : Nat} {xs : List Value} (hbel : Below B w wr) (hB : B ≤ w.heap.size)
    (hown : wr.ownsRow B e size v n xs) (hgrow : (wr.alloc o).grownBy w1 v.ownBlock) : Below B w w1 := by
  have hs := hbel.size
  exact (hbel.alloc (by omega) _).grown hgrow (by simp; omega) (fun k hk => (hown.lt k hk).1)

theorem map_at (l : List Int) (j : Nat) (h : j < l.length) : (l.map (Value.int .u32))[j]? = some (.int .u32 (l.getD j 0)) := by
  simp [List.getD, List.getElem?_eq_getElem h]

theorem nums_range (b : ByteArray) (j : Nat) : 0 ≤ (nums b).getD j 0 ∧ (nums b).getD j 0 ≤ 255 := by
  by_cases h : j < b.size
  · rw [nums_at b j h]
    have := (b[j]'h).toNat_lt
    omega
  · rw [List.getD, List.getElem?_eq_none (by rw [nums_length]; omega)]
    simp

theorem wp_gen1 {P : Program} {c : Code} {Q : Exit → Act → World → Prop} {a : Act} (F : World → Prop) {W0 : World} (h0 : F W0) (h : ∀ W, F W → Code.wp P c Q a W) : Code.wp P c Q a W0 := h W0 h0

theorem add8_take (x y : V8) (m : Nat) (h : m < 8) : (add8 x y).l.take (m + 1) = (add8 x y).l.take m ++ [(x.l.getD m 0 + y.l.getD m 0) % 4294967296] := by
  rcases m with _ | _ | _ | _ | _ | _ | _ | _ | m
  all_goals first | rfl | omega

theorem exec_index {P : Program} {a : Act} {o : Oper} {t : TypeId} {x i : Operand} {X I : Value} {W : World} {v : Value} (ho : o.op = .index t x i) (hx : a.eval x = X) (hi : a.eval i = I) (h : (Instr.index t X I).run P W = .ok v W) : (execOp a.eval o).run P W = .ok (.value v) W := by
  simp [execOp, ho, hx, hi, h]

set_option maxRecDepth 20000 in
set_option maxHeartbeats 8000000 in
theorem block_any (w : World) (hb hcap kb kcap : Nat) (st : V8) (ks : List Int) (b : ByteArray) (hbs : b.size = 64) (hok : st.ok) (hkl : ks.length = 64) (hkr : ∀ j, 0 ≤ ks.getD j 0 ∧ ks.getD j 0 ≤ 4294967295)
    (hh : RowAt w hb st.l) (hk : RowAt w kb ks) (hhb : hb < w.heap.size) (hkb : kb < w.heap.size) :
    Calls Tryd.prog 29 #[.slice (some ⟨hb, 0, none⟩) 8 hcap, .slice (some ⟨kb, 0, none⟩) 64 kcap, .string b] w fun e w' => ∃ g cap, e = .returned (.slice (some ⟨g, 0, none⟩) 8 cap) ∧ RowAt w' g (blk ks st (nums b)).l ∧ g < w'.heap.size ∧ Below w.heap.size w w' := by
  obtain ⟨i0, hi, hz0, hz1, hz2⟩ := info_parts info29
  have HH : Hid (RowAt w hb st.l) := hh
  have HKK : Hid (RowAt w kb ks) := hk
  have HKR : Hid (∀ j, 0 ≤ ks.getD j 0 ∧ ks.getD j 0 ≤ 4294967295) := hkr
  have HOK : Hid st.ok := hok
  clear hh hk hkr hok
  go_enter Tryd.func29, Tryd.ntmps29
  go_wp2
  go_loopw [7, 8] (fun v i wr => ∃ k : Nat, k ≤ 16 ∧ i = .int .i64 k ∧ wr.ownsRow w.heap.size 63 1 v (wL (nums b) k).length ((wL (nums b) k).map (Value.int .u32)) ∧ Below w.heap.size w wr) (fun _ i _ => 16 - (intOf i).toNat)
  case atStart => exact ⟨0, Nat.zero_le _, rfl, World.ownsRow_made w _ 0 (Nat.le_refl _) (by decide) (by simp), (Below.refl _ _).alloc (Nat.le_refl _) _⟩
  case round =>
    obtain ⟨k, hk, rfl, hown, hbel⟩ := hrel
    have hsz := hbel.size
    have hl := wL_length (nums b) k
    by_cases hlt : k < 16
    · have i0' : (0 : Int) ≤ 4 * (k : Int) := by omega
      have i1 : 4 * (k : Int) < 64 := by omega
      have i2 : (0 : Int) ≤ 4 * (k : Int) + 1 := by omega
      have i3 : 4 * (k : Int) + 1 < 64 := by omega
      have i4 : (0 : Int) ≤ 4 * (k : Int) + 2 := by omega
      have i5 : 4 * (k : Int) + 2 < 64 := by omega
      have i6 : (0 : Int) ≤ 4 * (k : Int) + 3 := by omega
      have i7 : 4 * (k : Int) + 3 < 64 := by omega
      have r0 : IntKind.i64.wrap (4 * (k : Int)) = 4 * (k : Int) := by rw [IntWalk.i64_left]; exact IntWalk.wrap64_in _ (by omega)
      have r1 : IntKind.i64.wrap (4 * (k : Int) + 1) = 4 * (k : Int) + 1 := by rw [IntWalk.i64_left]; exact IntWalk.wrap64_in _ (by omega)
      have r2 : IntKind.i64.wrap (4 * (k : Int) + 2) = 4 * (k : Int) + 2 := by rw [IntWalk.i64_left]; exact IntWalk.wrap64_in _ (by omega)
      have r3 : IntKind.i64.wrap (4 * (k : Int) + 3) = 4 * (k : Int) + 3 := by rw [IntWalk.i64_left]; exact IntWalk.wrap64_in _ (by omega)
      have l0 : 4 * k < b.size := by omega
      have l1 : 4 * k + 1 < b.size := by omega
      have l2 : 4 * k + 2 < b.size := by omega
      have l3 : 4 * k + 3 < b.size := by omega
      obtain ⟨x0, hx0⟩ : ∃ x, ((b[4 * k]'l0).toNat : Int) = x := ⟨_, rfl⟩
      obtain ⟨x1, hx1⟩ : ∃ x, ((b[4 * k + 1]'l1).toNat : Int) = x := ⟨_, rfl⟩
      obtain ⟨x2, hx2⟩ : ∃ x, ((b[4 * k + 2]'l2).toNat : Int) = x := ⟨_, rfl⟩
      obtain ⟨x3, hx3⟩ : ∃ x, ((b[4 * k + 3]'l3).toNat : Int) = x := ⟨_, rfl⟩
      have y0 : 0 ≤ x0 ∧ x0 ≤ 255 := by have := (b[4 * k]'l0).toNat_lt; omega
      have y1 : 0 ≤ x1 ∧ x1 ≤ 255 := by have := (b[4 * k + 1]'l1).toNat_lt; omega
      have y2 : 0 ≤ x2 ∧ x2 ≤ 255 := by have := (b[4 * k + 2]'l2).toNat_lt; omega
      have y3 : 0 ≤ x3 ∧ x3 ≤ 255 := by have := (b[4 * k + 3]'l3).toNat_lt; omega
      obtain ⟨y00, y01⟩ := y0
      obtain ⟨y10, y11⟩ := y1
      obtain ⟨y20, y21⟩ := y2
      obtain ⟨y30, y31⟩ := y3
      have v0 : IntKind.u32.wrap x0 = x0 := by rw [IntKind.wrap_u32]; omega
      have v1 : IntKind.u32.wrap x1 = x1 := by rw [IntKind.wrap_u32]; omega
      have v2 : IntKind.u32.wrap x2 = x2 := by rw [IntKind.wrap_u32]; omega
      have v3 : IntKind.u32.wrap x3 = x3 := by rw [IntKind.wrap_u32]; omega
      have u0 : IntKind.u32.wrap (x0 * 16777216) = x0 * 16777216 := by rw [IntKind.wrap_u32]; omega
      have u1 : IntKind.u32.wrap (x1 * 65536) = x1 * 65536 := by rw [IntKind.wrap_u32]; omega
      have u2 : IntKind.u32.wrap (x2 * 256) = x2 * 256 := by rw [IntKind.wrap_u32]; omega
      have o1 : bits .or .u32 (x0 * 16777216) (x1 * 65536) = x0 * 16777216 + x1 * 65536 := or_at 24 _ _ (by omega) (by omega) (by omega) (by omega) (by omega) (by omega)
      have o2 : bits .or .u32 (x0 * 16777216 + x1 * 65536) (x2 * 256) = x0 * 16777216 + x1 * 65536 + x2 * 256 := or_at 16 _ _ (by omega) (by omega) (by omega) (by omega) (by omega) (by omega)
      have o3 : bits .or .u32 (x0 * 16777216 + x1 * 65536 + x2 * 256) x3 = x0 * 16777216 + x1 * 65536 + x2 * 256 + x3 := or_at 8 _ _ (by omega) (by omega) (by omega) (by omega) (by omega) (by omega)
      obtain ⟨X, hX⟩ : ∃ X, x0 * 16777216 + x1 * 65536 + x2 * 256 + x3 = X := ⟨_, rfl⟩
      rw [hX] at o3
      have hw4 : Hid (w4 (nums b) k = X) := by
        show w4 (nums b) k = X
        unfold w4
        rw [nums_at b _ l0, nums_at b _ l1, nums_at b _ l2, nums_at b _ l3, hx0, hx1, hx2, hx3, hX]
      have q0 := index_str b (4 * k) (4 * (k : Int)) l0 (by omega)
      have q1 := index_str b (4 * k + 1) (4 * (k : Int) + 1) l1 (by omega)
      have q2 := index_str b (4 * k + 2) (4 * (k : Int) + 2) l2 (by omega)
      have q3 := index_str b (4 * k + 3) (4 * (k : Int) + 3) l3 (by omega)
      rw [hx0] at q0
      rw [hx1] at q1
      rw [hx2] at q2
      rw [hx3] at q3
      clear hx0 hx1 hx2 hx3 hX
      go_wp2
      refine wp_region_any (by kernel_rfl) ?_
      refine wpAny_take (i := 0) (v := ?_) rfl (by kernel_rfl) (by kernel_rfl) (by kernel_rfl) (fun _ _ _ h => h) (Or.inl ⟨by rfl, ?_⟩) ?_
      rotate_left
      · (intro W; go_simp; try with_reducible rfl)
      simp only [Act.put, List.setIfInBounds_toArray, List.set_cons_zero, List.set_cons_succ, List.getElem_toArray, List.getElem_cons_zero]
      refine wpAny_take (i := 1) (v := ?_) rfl (by kernel_rfl) (by kernel_rfl) (by kernel_rfl) (fun _ _ _ h => h) (Or.inl ⟨by rfl, ?_⟩) ?_
      rotate_left
      · (intro W; go_simp; try with_reducible rfl)
      simp only [Act.put, List.setIfInBounds_toArray, List.set_cons_zero, List.set_cons_succ, List.getElem_toArray, List.getElem_cons_zero, List.getElem_cons_succ]
      refine wpAny_take (i := 2) (v := ?_) rfl (by kernel_rfl) (by kernel_rfl) (by kernel_rfl) (fun _ _ _ h => h) (Or.inl ⟨by rfl, ?_⟩) ?_
      rotate_left
      · (intro W; go_simp; try with_reducible rfl)
      simp only [Act.put, List.setIfInBounds_toArray, List.set_cons_zero, List.set_cons_succ, List.getElem_toArray, List.getElem_cons_zero, List.getElem_cons_succ]
      refine wpAny_take (i := 3) (v := ?_) rfl (by kernel_rfl) (by kernel_rfl) (by kernel_rfl) (fun _ _ _ h => h) (Or.inl ⟨by rfl, ?_⟩) ?_
      rotate_left
      · (intro W; go_simp; try with_reducible rfl)
      simp only [Act.put, List.setIfInBounds_toArray, List.set_cons_zero, List.set_cons_succ, List.getElem_toArray, List.getElem_cons_zero, List.getElem_cons_succ]
      refine wpAny_take (i := 4) (v := .int .u8 x0) rfl (by kernel_rfl) (by kernel_rfl) (by kernel_rfl) (fun _ _ _ h => h) (Or.inl ⟨by rfl, fun W => exec_index (X := .string b) (I := .int .i64 (4 * (k : Int))) (by rfl) (by rfl) (by rfl) (q0 W)⟩) ?_
      simp only [Act.put, List.setIfInBounds_toArray, List.set_cons_zero, List.set_cons_succ, List.getElem_toArray, List.getElem_cons_zero, List.getElem_cons_succ]
      refine wpAny_take (i := 5) (v := ?_) rfl (by kernel_rfl) (by kernel_rfl) (by kernel_rfl) (fun _ _ _ h => h) (Or.inl ⟨by rfl, ?_⟩) ?_
      rotate_left
      · (intro W; go_simp; try with_reducible rfl)
      simp only [Act.put, List.setIfInBounds_toArray, List.set_cons_zero, List.set_cons_succ, List.getElem_toArray, List.getElem_cons_zero, List.getElem_cons_succ]
      refine wpAny_take (i := 6) (v := ?_) rfl (by kernel_rfl) (by kernel_rfl) (by kernel_rfl) (fun _ _ _ h => h) (Or.inl ⟨by rfl, ?_⟩) ?_
      rotate_left
      · (intro W; go_simp; try with_reducible rfl)
      simp only [Act.put, List.setIfInBounds_toArray, List.set_cons_zero, List.set_cons_succ, List.getElem_toArray, List.getElem_cons_zero, List.getElem_cons_succ]
      refine wpAny_take (i := 7) (v := ?_) rfl (by kernel_rfl) (by kernel_rfl) (by kernel_rfl) (fun _ _ _ h => h) (Or.inl ⟨by rfl, ?_⟩) ?_
      rotate_left
      · (intro W; go_simp; try with_reducible rfl)
      simp only [Act.put, List.setIfInBounds_toArray, List.set_cons_zero, List.set_cons_succ, List.getElem_toArray, List.getElem_cons_zero, List.getElem_cons_succ]
      refine wpAny_take (i := 8) (v := ?_) rfl (by kernel_rfl) (by kernel_rfl) (by kernel_rfl) (fun _ _ _ h => h) (Or.inl ⟨by rfl, ?_⟩) ?_
      rotate_left
      · (intro W; go_simp; try with_reducible rfl)
      simp only [Act.put, List.setIfInBounds_toArray, List.set_cons_zero, List.set_cons_succ, List.getElem_toArray, List.getElem_cons_zero, List.getElem_cons_succ]
      refine wpAny_take (i := 9) (v := ?_) rfl (by kernel_rfl) (by kernel_rfl) (by kernel_rfl) (fun _ _ _ h => h) (Or.inl ⟨by rfl, ?_⟩) ?_
      rotate_left
      · (intro W; go_simp; try with_reducible rfl)
      simp only [Act.put, List.setIfInBounds_toArray, List.set_cons_zero, List.set_cons_succ, List.getElem_toArray, List.getElem_cons_zero, List.getElem_cons_succ]
      refine wpAny_take (i := 10) (v := ?_) rfl (by kernel_rfl) (by kernel_rfl) (by kernel_rfl) (fun _ _ _ h => h) (Or.inl ⟨by rfl, ?_⟩) ?_
      rotate_left
      · (intro W; go_simp; try with_reducible rfl)
      simp only [Act.put, List.setIfInBounds_toArray, List.set_cons_zero, List.set_cons_succ, List.getElem_toArray, List.getElem_cons_zero, List.getElem_cons_succ]
      refine wpAny_take (i := 11) (v := .int .u8 x1) rfl (by kernel_rfl) (by kernel_rfl) (by kernel_rfl) (fun _ _ _ h => h) (Or.inl ⟨by rfl, fun W => exec_index (X := .string b) (I := .int .i64 (4 * (k : Int) + 1)) (by rfl) (by rfl) (by rfl) (q1 W)⟩) ?_
      simp only [Act.put, List.setIfInBounds_toArray, List.set_cons_zero, List.set_cons_succ, List.getElem_toArray, List.getElem_cons_zero, List.getElem_cons_succ]
      refine wpAny_take (i := 12) (v := ?_) rfl (by kernel_rfl) (by kernel_rfl) (by kernel_rfl) (fun _ _ _ h => h) (Or.inl ⟨by rfl, ?_⟩) ?_
      rotate_left
      · (intro W; go_simp; try with_reducible rfl)
      simp only [Act.put, List.setIfInBounds_toArray, List.set_cons_zero, List.set_cons_succ, List.getElem_toArray, List.getElem_cons_zero, List.getElem_cons_succ]
      refine wpAny_take (i := 13) (v := ?_) rfl (by kernel_rfl) (by kernel_rfl) (by kernel_rfl) (fun _ _ _ h => h) (Or.inl ⟨by rfl, ?_⟩) ?_
      rotate_left
      · (intro W; go_simp; try with_reducible rfl)
      simp only [Act.put, List.setIfInBounds_toArray, List.set_cons_zero, List.set_cons_succ, List.getElem_toArray, List.getElem_cons_zero, List.getElem_cons_succ]
      refine wpAny_take (i := 14) (v := ?_) rfl (by kernel_rfl) (by kernel_rfl) (by kernel_rfl) (fun _ _ _ h => h) (Or.inl ⟨by rfl, ?_⟩) ?_
      rotate_left
      · (intro W; go_simp; try with_reducible rfl)
      simp only [Act.put, List.setIfInBounds_toArray, List.set_cons_zero, List.set_cons_succ, List.getElem_toArray, List.getElem_cons_zero, List.getElem_cons_succ]
      refine wpAny_take (i := 15) (v := ?_) rfl (by kernel_rfl) (by kernel_rfl) (by kernel_rfl) (fun _ _ _ h => h) (Or.inl ⟨by rfl, ?_⟩) ?_
      rotate_left
      · (intro W; go_simp; try with_reducible rfl)
      simp only [Act.put, List.setIfInBounds_toArray, List.set_cons_zero, List.set_cons_succ, List.getElem_toArray, List.getElem_cons_zero, List.getElem_cons_succ]
      refine wpAny_take (i := 16) (v := ?_) rfl (by kernel_rfl) (by kernel_rfl) (by kernel_rfl) (fun _ _ _ h => h) (Or.inl ⟨by rfl, ?_⟩) ?_
      rotate_left
      · (intro W; go_simp; try with_reducible rfl)
      simp only [Act.put, List.setIfInBounds_toArray, List.set_cons_zero, List.set_cons_succ, List.getElem_toArray, List.getElem_cons_zero, List.getElem_cons_succ]
      refine wpAny_take (i := 17) (v := ?_) rfl (by kernel_rfl) (by kernel_rfl) (by kernel_rfl) (fun _ _ _ h => h) (Or.inl ⟨by rfl, ?_⟩) ?_
      rotate_left
      · (intro W; go_simp; try with_reducible rfl)
      simp only [Act.put, List.setIfInBounds_toArray, List.set_cons_zero, List.set_cons_succ, List.getElem_toArray, List.getElem_cons_zero, List.getElem_cons_succ]
      refine wpAny_take (i := 18) (v := ?_) rfl (by kernel_rfl) (by kernel_rfl) (by kernel_rfl) (fun _ _ _ h => h) (Or.inl ⟨by rfl, ?_⟩) ?_
      rotate_left
      · (intro W; go_simp; try with_reducible rfl)
      simp only [Act.put, List.setIfInBounds_toArray, List.set_cons_zero, List.set_cons_succ, List.getElem_toArray, List.getElem_cons_zero, List.getElem_cons_succ]
      refine wpAny_take (i := 19) (v := .int .u8 x2) rfl (by kernel_rfl) (by kernel_rfl) (by kernel_rfl) (fun _ _ _ h => h) (Or.inl ⟨by rfl, fun W => exec_index (X := .string b) (I := .int .i64 (4 * (k : Int) + 2)) (by rfl) (by rfl) (by rfl) (q2 W)⟩) ?_
      simp only [Act.put, List.setIfInBounds_toArray, List.set_cons_zero, List.set_cons_succ, List.getElem_toArray, List.getElem_cons_zero, List.getElem_cons_succ]
      refine wpAny_take (i := 20) (v := ?_) rfl (by kernel_rfl) (by kernel_rfl) (by kernel_rfl) (fun _ _ _ h => h) (Or.inl ⟨by rfl, ?_⟩) ?_
      rotate_left
      · (intro W; go_simp; try with_reducible rfl)
      simp only [Act.put, List.setIfInBounds_toArray, List.set_cons_zero, List.set_cons_succ, List.getElem_toArray, List.getElem_cons_zero, List.getElem_cons_succ]
      refine wpAny_take (i := 21) (v := ?_) rfl (by kernel_rfl) (by kernel_rfl) (by kernel_rfl) (fun _ _ _ h => h) (Or.inl ⟨by rfl, ?_⟩) ?_
      rotate_left
      · (intro W; go_simp; try with_reducible rfl)
      simp only [Act.put, List.setIfInBounds_toArray, List.set_cons_zero, List.set_cons_succ, List.getElem_toArray, List.getElem_cons_zero, List.getElem_cons_succ]
      refine wpAny_take (i := 22) (v := ?_) rfl (by kernel_rfl) (by kernel_rfl) (by kernel_rfl) (fun _ _ _ h => h) (Or.inl ⟨by rfl, ?_⟩) ?_
      rotate_left
      · (intro W; go_simp; try with_reducible rfl)
      simp only [Act.put, List.setIfInBounds_toArray, List.set_cons_zero, List.set_cons_succ, List.getElem_toArray, List.getElem_cons_zero, List.getElem_cons_succ]
      refine wpAny_take (i := 23) (v := ?_) rfl (by kernel_rfl) (by kernel_rfl) (by kernel_rfl) (fun _ _ _ h => h) (Or.inl ⟨by rfl, ?_⟩) ?_
      rotate_left
      · (intro W; go_simp; try with_reducible rfl)
      simp only [Act.put, List.setIfInBounds_toArray, List.set_cons_zero, List.set_cons_succ, List.getElem_toArray, List.getElem_cons_zero, List.getElem_cons_succ]
      refine wpAny_take (i := 24) (v := ?_) rfl (by kernel_rfl) (by kernel_rfl) (by kernel_rfl) (fun _ _ _ h => h) (Or.inl ⟨by rfl, ?_⟩) ?_
      rotate_left
      · (intro W; go_simp; try with_reducible rfl)
      simp only [Act.put, List.setIfInBounds_toArray, List.set_cons_zero, List.set_cons_succ, List.getElem_toArray, List.getElem_cons_zero, List.getElem_cons_succ]
      refine wpAny_take (i := 25) (v := ?_) rfl (by kernel_rfl) (by kernel_rfl) (by kernel_rfl) (fun _ _ _ h => h) (Or.inl ⟨by rfl, ?_⟩) ?_
      rotate_left
      · (intro W; go_simp; try with_reducible rfl)
      simp only [Act.put, List.setIfInBounds_toArray, List.set_cons_zero, List.set_cons_succ, List.getElem_toArray, List.getElem_cons_zero, List.getElem_cons_succ]
      refine wpAny_take (i := 26) (v := ?_) rfl (by kernel_rfl) (by kernel_rfl) (by kernel_rfl) (fun _ _ _ h => h) (Or.inl ⟨by rfl, ?_⟩) ?_
      rotate_left
      · (intro W; go_simp; try with_reducible rfl)
      simp only [Act.put, List.setIfInBounds_toArray, List.set_cons_zero, List.set_cons_succ, List.getElem_toArray, List.getElem_cons_zero, List.getElem_cons_succ]
      refine wpAny_take (i := 27) (v := .int .u8 x3) rfl (by kernel_rfl) (by kernel_rfl) (by kernel_rfl) (fun _ _ _ h => h) (Or.inl ⟨by rfl, fun W => exec_index (X := .string b) (I := .int .i64 (4 * (k : Int) + 3)) (by rfl) (by rfl) (by rfl) (q3 W)⟩) ?_
      simp only [Act.put, List.setIfInBounds_toArray, List.set_cons_zero, List.set_cons_succ, List.getElem_toArray, List.getElem_cons_zero, List.getElem_cons_succ]
      refine wpAny_take (i := 28) (v := ?_) rfl (by kernel_rfl) (by kernel_rfl) (by kernel_rfl) (fun _ _ _ h => h) (Or.inl ⟨by rfl, ?_⟩) ?_
      rotate_left
      · (intro W; go_simp; try with_reducible rfl)
      simp only [Act.put, List.setIfInBounds_toArray, List.set_cons_zero, List.set_cons_succ, List.getElem_toArray, List.getElem_cons_zero, List.getElem_cons_succ]
      refine wpAny_take (i := 29) (v := ?_) rfl (by kernel_rfl) (by kernel_rfl) (by kernel_rfl) (fun _ _ _ h => h) (Or.inl ⟨by rfl, ?_⟩) ?_
      rotate_left
      · (intro W; go_simp; try with_reducible rfl)
      simp only [Act.put, List.setIfInBounds_toArray, List.set_cons_zero, List.set_cons_succ, List.getElem_toArray, List.getElem_cons_zero, List.getElem_cons_succ]
      refine wpAny_ready (rs := [30]) (by kernel_rfl) (by simp) ?_
      refine AllReady.cons rfl (fun K hK => ?_) AllReady.nil
      go_simp
      refine hK _ _ ?_
      clear hK K
      refine wpAny_ready (rs := [31]) (by kernel_rfl) (by simp) ?_
      refine AllReady.cons rfl (fun K hK => ?_) AllReady.nil
      refine step_append_lies _ (by rfl) _ _ 59 (by rfl) w.heap.size 63 i0 (.int .u32 0) 1 4 Tryd.underlying59 hi hz0 hz1 hz2 rfl (by decide) _ _ _ (by rfl) (hown.alloc _) ⟨wr.heap.size, 0, none⟩ 1 1 [.int .u32 X] (by rfl) rfl (cell_one_new _ _ _) (by intro u hu; simp at hu; subst hu; rfl) (by decide) (by unfold maxLen; omega) (by omega) (by simp; omega) _ rfl ?_
      intro g2 cap2 w1 hown' hgrow hat hlt1
      refine hK _ _ ?_
      clear hK K
      refine wpAny_take (i := 32) (v := ?_) rfl (by kernel_rfl) (by kernel_rfl) (by kernel_rfl) (fun _ _ _ h => h) (Or.inl ⟨by rfl, ?_⟩) ?_
      rotate_left
      · (intro W; go_simp; try with_reducible rfl)
      simp only [Act.put, List.setIfInBounds_toArray, List.set_cons_zero, List.set_cons_succ, List.getElem_toArray, List.getElem_cons_zero, List.getElem_cons_succ]
      refine wpAny_done (by kernel_rfl) ?_ _
      have R1 : w1.ownsRow w.heap.size 63 1 (.slice (some ⟨g2, 0, none⟩) (k + 1) cap2) (wL (nums b) (k + 1)).length ((wL (nums b) (k + 1)).map (Value.int .u32)) := by
        rw [hl] at hown'
        rw [wL_length, wL_low _ _ hlt, hw4.out]
        simpa using hown'
      have R2 : Below w.heap.size w w1 := below_app1 hbel.drew (Nat.le_refl _) hown hgrow
      clear hown' hgrow hown hbel hat
      go_wp2
      go_roundw
      case rel => first | exact ⟨k + 1, by omega, by go_num, R1, R2⟩ | ((repeat apply Exists.intro); exact ⟨⟨k + 1, by omega, by go_num, R1, R2⟩, rfl⟩)
      case measure => simp [intOf]; omega
    · have : k = 16 := by omega
      subst this
      rw [hl] at hown
      obtain ⟨g0, cap0, rfl, hg0, hg1⟩ := hown.form (by omega)
      clear hl
      go_wp2
      go_loopw [7, 9] (fun v i wr => ∃ n g cap : Nat, 16 ≤ n ∧ n ≤ 64 ∧ i = .int .i64 n ∧ v = .slice (some ⟨g, 0, none⟩) n cap ∧ wr.ownsRow w.heap.size 63 1 (.slice (some ⟨g, 0, none⟩) n cap) n ((wL (nums b) n).map (Value.int .u32)) ∧ Below w.heap.size w wr) (fun _ i _ => 64 - (intOf i).toNat)
      case atStart => exact ⟨16, g0, cap0, by omega, by omega, rfl, rfl, hown, hbel⟩
      case round =>
        clear hown hbel
        obtain ⟨n, g, cap, hn16, hn, rfl, rfl, hown, hbel⟩ := hrel
        have hsz := hbel.size
        have hgl := (hown.lt g rfl).2
        by_cases hln : n < 64
        · have HW : Hid ((wL (nums b) n).length = n) := wL_length (nums b) n
          have HZ : Hid (∀ j, 0 ≤ (nums b).getD j 0 ∧ (nums b).getD j 0 ≤ 255) := nums_range b
          obtain ⟨xa, hxa⟩ : ∃ x, (wL (nums b) n).getD (n - 16) 0 = x := ⟨_, rfl⟩
          obtain ⟨xb, hxb⟩ : ∃ x, (wL (nums b) n).getD (n - 15) 0 = x := ⟨_, rfl⟩
          obtain ⟨xc, hxc⟩ : ∃ x, (wL (nums b) n).getD (n - 7) 0 = x := ⟨_, rfl⟩
          obtain ⟨xd, hxd⟩ : ∃ x, (wL (nums b) n).getD (n - 2) 0 = x := ⟨_, rfl⟩
          have HL : Hid (wL (nums b) (n + 1) = wL (nums b) n ++ [wnext xa xb xc xd]) := by show wL (nums b) (n + 1) = _; rw [wL_high (nums b) n (by omega), hxa, hxb, hxc, hxd]
          obtain ⟨a0, a1⟩ := wL_range (nums b) HZ.out n (n - 16)
          obtain ⟨b0, b1⟩ := wL_range (nums b) HZ.out n (n - 15)
          obtain ⟨c0, c1⟩ := wL_range (nums b) HZ.out n (n - 7)
          obtain ⟨d0, d1⟩ := wL_range (nums b) HZ.out n (n - 2)
          rw [hxa] at a0 a1
          rw [hxb] at b0 b1
          rw [hxc] at c0 c1
          rw [hxd] at d0 d1
          have ca : wr.cell? ⟨g, n - 16, none⟩ = some (.int .u32 xa) := by rw [hown.cellAt (n - 16) (by omega), ← hxa]; exact map_at _ _ (by rw [HW.out]; omega)
          have cb : wr.cell? ⟨g, n - 15, none⟩ = some (.int .u32 xb) := by rw [hown.cellAt (n - 15) (by omega), ← hxb]; exact map_at _ _ (by rw [HW.out]; omega)
          have cc : wr.cell? ⟨g, n - 7, none⟩ = some (.int .u32 xc) := by rw [hown.cellAt (n - 7) (by omega), ← hxc]; exact map_at _ _ (by rw [HW.out]; omega)
          have cd : wr.cell? ⟨g, n - 2, none⟩ = some (.int .u32 xd) := by rw [hown.cellAt (n - 2) (by omega), ← hxd]; exact map_at _ _ (by rw [HW.out]; omega)
          have i0' : (0 : Int) ≤ (n : Int) := by omega
          have i1 : (n : Int) < 64 := by omega
          have i2 : (16 : Int) ≤ (n : Int) := by omega
          have r2 : IntKind.i64.wrap ((n : Int) - 2) = (n : Int) - 2 := by rw [IntWalk.i64_left]; exact IntWalk.wrap64_in _ (by omega)
          have r7 : IntKind.i64.wrap ((n : Int) - 7) = (n : Int) - 7 := by rw [IntWalk.i64_left]; exact IntWalk.wrap64_in _ (by omega)
          have r15 : IntKind.i64.wrap ((n : Int) - 15) = (n : Int) - 15 := by rw [IntWalk.i64_left]; exact IntWalk.wrap64_in _ (by omega)
          have r16 : IntKind.i64.wrap ((n : Int) - 16) = (n : Int) - 16 := by rw [IntWalk.i64_left]; exact IntWalk.wrap64_in _ (by omega)
          have t2 : ((n : Int) - 2).toNat = n - 2 := by omega
          have t7 : ((n : Int) - 7).toNat = n - 7 := by omega
          have t15 : ((n : Int) - 15).toNat = n - 15 := by omega
          have t16 : ((n : Int) - 16).toNat = n - 16 := by omega
          have k2 : (2 : Int) ≤ (n : Int) := by omega
          have k7 : (7 : Int) ≤ (n : Int) := by omega
          have k15 : (15 : Int) ≤ (n : Int) := by omega
          have j0 : (0 : Int) ≤ (n : Int) - 2 := by omega
          have j1 : (n : Int) - 2 < (n : Int) := by omega
          have j2 : (0 : Int) ≤ (n : Int) - 7 := by omega
          have j3 : (n : Int) - 7 < (n : Int) := by omega
          have j4 : (0 : Int) ≤ (n : Int) - 15 := by omega
          have j5 : (n : Int) - 15 < (n : Int) := by omega
          have j6 : (0 : Int) ≤ (n : Int) - 16 := by omega
          have j7 : (n : Int) - 16 < (n : Int) := by omega
          obtain ⟨S0, hS0⟩ : ∃ x, bits .xor .u32 (bits .xor .u32 (rt xb 7) (rt xb 18)) (xb / 8) = x := ⟨_, rfl⟩
          obtain ⟨S1, hS1⟩ : ∃ x, bits .xor .u32 (bits .xor .u32 (rt xd 17) (rt xd 19)) (xd / 1024) = x := ⟨_, rfl⟩
          have HN : Hid (wnext xa xb xc xd = (xa + S0 + xc + S1) % 4294967296) := by rw [← hS0, ← hS1]; rfl
          obtain ⟨Y, hY⟩ : ∃ x, (xa + S0 + xc + S1) % 4294967296 = x := ⟨_, rfl⟩
          have HY : Hid (wnext xa xb xc xd = Y) := by show _ = _; rw [HN.out, hY]
          have hY2 : IntKind.u32.wrap (IntKind.u32.wrap (IntKind.u32.wrap (xa + S0) + xc) + S1) = Y := by rw [IntKind.wrap_u32, IntKind.wrap_u32, IntKind.wrap_u32, ← hY]; omega
          clear hxa hxb hxc hxd hY HN
          go_wp2
          go_quiet ((first | (go_at_call 46; exact Calls.quiet_of_same (turn_any _ _ 7 _ (by rfl) b0 b1 (by omega) (by omega))) | (go_at_call 46; exact Calls.quiet_of_same (turn_any _ _ 18 _ (by rfl) b0 b1 (by omega) (by omega)))))
          go_wp2
          refine wp_gen1 (fun W => (W.ownsRow w.heap.size 63 1 (.slice (some ⟨g, 0, none⟩) n cap) n ((wL (nums b) n).map (Value.int .u32)) ∧ Below w.heap.size w W) ∧ W.cell? ⟨g, n - 16, none⟩ = some (.int .u32 xa) ∧ W.cell? ⟨g, n - 7, none⟩ = some (.int .u32 xc) ∧ W.cell? ⟨g, n - 2, none⟩ = some (.int .u32 xd)) ⟨⟨own_drewN hown _, below_drewN hbel _⟩, ca, cc, cd⟩ ?_
          clear ca cb cc cd hown hbel hsz hgl
          clear wr
          rintro wr ⟨⟨hown, hbel⟩, ca, cc, cd⟩
          have hsz := hbel.size
          have hgl := (hown.lt g rfl).2
          go_quiet ((first | (go_at_call 46; exact Calls.quiet_of_same (turn_any _ _ 17 _ (by rfl) d0 d1 (by omega) (by omega))) | (go_at_call 46; exact Calls.quiet_of_same (turn_any _ _ 19 _ (by rfl) d0 d1 (by omega) (by omega)))))
          go_wp2
          refine wp_gen1 (fun W => (W.ownsRow w.heap.size 63 1 (.slice (some ⟨g, 0, none⟩) n cap) n ((wL (nums b) n).map (Value.int .u32)) ∧ Below w.heap.size w W) ∧ W.cell? ⟨g, n - 16, none⟩ = some (.int .u32 xa) ∧ W.cell? ⟨g, n - 7, none⟩ = some (.int .u32 xc)) ⟨⟨own_drewN hown _, below_drewN hbel _⟩, ca, cc⟩ ?_
          clear ca cc cd hown hbel hsz hgl
          clear wr
          rintro wr ⟨⟨hown, hbel⟩, ca, cc⟩
          have hsz := hbel.size
          have hgl := (hown.lt g rfl).2
          refine wp_region_any (by kernel_rfl) ?_
          refine wpAny_take (i := 0) (v := ?_) rfl (by kernel_rfl) (by kernel_rfl) (by kernel_rfl) (fun _ _ _ h => h) (Or.inl ⟨by rfl, ?_⟩) ?_
          rotate_left
          · (intro W; go_simp; try with_reducible rfl)
          simp only [Act.put, List.setIfInBounds_toArray, List.set_cons_zero, List.set_cons_succ, List.getElem_toArray, List.getElem_cons_zero]
          refine wpAny_take (i := 1) (v := ?_) rfl (by kernel_rfl) (by kernel_rfl) (by kernel_rfl) (fun _ _ _ h => h) (Or.inl ⟨by rfl, ?_⟩) ?_
          rotate_left
          · (intro W; go_simp; try with_reducible rfl)
          simp only [Act.put, List.setIfInBounds_toArray, List.set_cons_zero, List.set_cons_succ, List.getElem_toArray, List.getElem_cons_zero, List.getElem_cons_succ]
          refine wpAny_take (i := 2) (v := ?_) rfl (by kernel_rfl) (by kernel_rfl) (by kernel_rfl) (fun _ _ _ h => h) (Or.inl ⟨by rfl, ?_⟩) ?_
          rotate_left
          · (intro W; go_simp; try with_reducible rfl)
          simp only [Act.put, List.setIfInBounds_toArray, List.set_cons_zero, List.set_cons_succ, List.getElem_toArray, List.getElem_cons_zero, List.getElem_cons_succ]
          refine wpAny_take (i := 3) (v := ?_) rfl (by kernel_rfl) (by kernel_rfl) (by kernel_rfl) (fun _ _ _ h => h) (Or.inl ⟨by rfl, ?_⟩) ?_
          rotate_left
          · (intro W; go_simp; try with_reducible rfl)
          simp only [Act.put, List.setIfInBounds_toArray, List.set_cons_zero, List.set_cons_succ, List.getElem_toArray, List.getElem_cons_zero, List.getElem_cons_succ]
          refine wpAny_take (i := 4) (v := ?_) rfl (by kernel_rfl) (by kernel_rfl) (by kernel_rfl) (fun _ _ _ h => h) (Or.inl ⟨by rfl, ?_⟩) ?_
          rotate_left
          · (intro W; go_simp; try with_reducible rfl)
          simp only [Act.put, List.setIfInBounds_toArray, List.set_cons_zero, List.set_cons_succ, List.getElem_toArray, List.getElem_cons_zero, List.getElem_cons_succ]
          refine wpAny_take (i := 6) (v := ?_) rfl (by kernel_rfl) (by kernel_rfl) (by kernel_rfl) (fun _ _ _ h => h) (Or.inl ⟨by rfl, ?_⟩) ?_
          rotate_left
          · (intro W; go_simp; try with_reducible rfl)
          simp only [Act.put, List.setIfInBounds_toArray, List.set_cons_zero, List.set_cons_succ, List.getElem_toArray, List.getElem_cons_zero, List.getElem_cons_succ]
          refine wpAny_take (i := 8) (v := ?_) rfl (by kernel_rfl) (by kernel_rfl) (by kernel_rfl) (fun _ _ _ h => h) (Or.inl ⟨by rfl, ?_⟩) ?_
          rotate_left
          · (intro W; go_simp; try with_reducible rfl)
          simp only [Act.put, List.setIfInBounds_toArray, List.set_cons_zero, List.set_cons_succ, List.getElem_toArray, List.getElem_cons_zero, List.getElem_cons_succ]
          refine wpAny_take (i := 9) (v := ?_) rfl (by kernel_rfl) (by kernel_rfl) (by kernel_rfl) (fun _ _ _ h => h) (Or.inl ⟨by rfl, ?_⟩) ?_
          rotate_left
          · (intro W; go_simp; try with_reducible rfl)
          simp only [Act.put, List.setIfInBounds_toArray, List.set_cons_zero, List.set_cons_succ, List.getElem_toArray, List.getElem_cons_zero, List.getElem_cons_succ]
          refine wpAny_take (i := 10) (v := ?_) rfl (by kernel_rfl) (by kernel_rfl) (by kernel_rfl) (fun _ _ _ h => h) (Or.inl ⟨by rfl, ?_⟩) ?_
          rotate_left
          · (intro W; go_simp; try with_reducible rfl)
          simp only [Act.put, List.setIfInBounds_toArray, List.set_cons_zero, List.set_cons_succ, List.getElem_toArray, List.getElem_cons_zero, List.getElem_cons_succ]
          refine wpAny_take (i := 11) (v := ?_) rfl (by kernel_rfl) (by kernel_rfl) (by kernel_rfl) (fun _ _ _ h => h) (Or.inl ⟨by rfl, ?_⟩) ?_
          rotate_left
          · (intro W; go_simp; try with_reducible rfl)
          simp only [Act.put, List.setIfInBounds_toArray, List.set_cons_zero, List.set_cons_succ, List.getElem_toArray, List.getElem_cons_zero, List.getElem_cons_succ]
          refine wpAny_take (i := 14) (v := ?_) rfl (by kernel_rfl) (by kernel_rfl) (by kernel_rfl) (fun _ _ _ h => h) (Or.inl ⟨by rfl, ?_⟩) ?_
          rotate_left
          · (intro W; go_simp; try with_reducible rfl)
          simp only [Act.put, List.setIfInBounds_toArray, List.set_cons_zero, List.set_cons_succ, List.getElem_toArray, List.getElem_cons_zero, List.getElem_cons_succ]
          refine wpAny_ready (rs := [5, 12]) (by kernel_rfl) (by simp) ?_
          refine AllReady.cons rfl (fun K hK => ?_) (AllReady.cons rfl (fun K hK => ?_) AllReady.nil)
          · go_simp
            refine hK _ _ ?_
            clear hK K
            refine wpAny_take (i := 7) (v := ?_) rfl (by kernel_rfl) (by kernel_rfl) (by kernel_rfl) (fun _ _ _ h => h) (Or.inl ⟨by rfl, ?_⟩) ?_
            rotate_left
            · (intro W; go_simp; try with_reducible rfl)
            simp only [Act.put, List.setIfInBounds_toArray, List.set_cons_zero, List.set_cons_succ, List.getElem_toArray, List.getElem_cons_zero, List.getElem_cons_succ]
            refine wpAny_ready (rs := [12]) (by kernel_rfl) (by simp) ?_
            refine AllReady.cons rfl (fun K hK => ?_) AllReady.nil
            go_simp
            refine hK _ _ ?_
            clear hK K
            refine wpAny_take (i := 13) (v := ?_) rfl (by kernel_rfl) (by kernel_rfl) (by kernel_rfl) (fun _ _ _ h => h) (Or.inl ⟨by rfl, ?_⟩) ?_
            rotate_left
            · (intro W; go_simp; try with_reducible rfl)
            simp only [Act.put, List.setIfInBounds_toArray, List.set_cons_zero, List.set_cons_succ, List.getElem_toArray, List.getElem_cons_zero, List.getElem_cons_succ]
            refine wpAny_take (i := 15) (v := ?_) rfl (by kernel_rfl) (by kernel_rfl) (by kernel_rfl) (fun _ _ _ h => h) (Or.inl ⟨by rfl, ?_⟩) ?_
            rotate_left
            · (intro W; go_simp; try with_reducible rfl)
            simp only [Act.put, List.setIfInBounds_toArray, List.set_cons_zero, List.set_cons_succ, List.getElem_toArray, List.getElem_cons_zero, List.getElem_cons_succ]
            refine wpAny_ready (rs := [16]) (by kernel_rfl) (by simp) ?_
            refine AllReady.cons rfl (fun K hK => ?_) AllReady.nil
            go_simp
            refine hK _ _ ?_
            clear hK K
            refine wpAny_ready (rs := [17]) (by kernel_rfl) (by simp) ?_
            refine AllReady.cons rfl (fun K hK => ?_) AllReady.nil
            refine step_append_lies _ (by rfl) _ _ 59 (by rfl) w.heap.size 63 i0 (.int .u32 0) 1 4 Tryd.underlying59 hi hz0 hz1 hz2 rfl (by decide) _ _ _ (by rfl) (hown.alloc _) ⟨wr.heap.size, 0, none⟩ 1 1 [.int .u32 Y] (by rfl) rfl (cell_one_new _ _ _) (by intro u hu; simp at hu; subst hu; rfl) (by decide) (by unfold maxLen; omega) (by omega) (by simp; omega) _ rfl ?_
            intro g2 cap2 w1 hown' hgrow hat hlt1
            refine hK _ _ ?_
            clear hK K
            refine wpAny_take (i := 18) (v := ?_) rfl (by kernel_rfl) (by kernel_rfl) (by kernel_rfl) (fun _ _ _ h => h) (Or.inl ⟨by rfl, ?_⟩) ?_
            rotate_left
            · (intro W; go_simp; try with_reducible rfl)
            simp only [Act.put, List.setIfInBounds_toArray, List.set_cons_zero, List.set_cons_succ, List.getElem_toArray, List.getElem_cons_zero, List.getElem_cons_succ]
            refine wpAny_done (by kernel_rfl) ?_ _
            have R1 : w1.ownsRow w.heap.size 63 1 (.slice (some ⟨g2, 0, none⟩) (n + 1) cap2) (n + 1) ((wL (nums b) (n + 1)).map (Value.int .u32)) := by
              rw [HL.out, HY.out]
              simpa using hown'
            have R2 : Below w.heap.size w w1 := below_app1 hbel.drew (Nat.le_refl _) hown hgrow
            clear hown' hgrow hown hbel hat
            go_wp2
            go_roundw
            case rel => first | exact ⟨n + 1, g2, cap2, by omega, by omega, by go_num, rfl, R1, R2⟩ | ((repeat apply Exists.intro); exact ⟨⟨n + 1, g2, cap2, by omega, by omega, by go_num, rfl, R1, R2⟩, rfl⟩)
            case measure => simp [intOf]; omega
          · go_simp
            refine hK _ _ ?_
            clear hK K
            refine wpAny_ready (rs := [5]) (by kernel_rfl) (by simp) ?_
            refine AllReady.cons rfl (fun K hK => ?_) AllReady.nil
            go_simp
            refine hK _ _ ?_
            clear hK K
            refine wpAny_take (i := 7) (v := ?_) rfl (by kernel_rfl) (by kernel_rfl) (by kernel_rfl) (fun _ _ _ h => h) (Or.inl ⟨by rfl, ?_⟩) ?_
            rotate_left
            · (intro W; go_simp; try with_reducible rfl)
            simp only [Act.put, List.setIfInBounds_toArray, List.set_cons_zero, List.set_cons_succ, List.getElem_toArray, List.getElem_cons_zero, List.getElem_cons_succ]
            refine wpAny_take (i := 13) (v := ?_) rfl (by kernel_rfl) (by kernel_rfl) (by kernel_rfl) (fun _ _ _ h => h) (Or.inl ⟨by rfl, ?_⟩) ?_
            rotate_left
            · (intro W; go_simp; try with_reducible rfl)
            simp only [Act.put, List.setIfInBounds_toArray, List.set_cons_zero, List.set_cons_succ, List.getElem_toArray, List.getElem_cons_zero, List.getElem_cons_succ]
            refine wpAny_take (i := 15) (v := ?_) rfl (by kernel_rfl) (by kernel_rfl) (by kernel_rfl) (fun _ _ _ h => h) (Or.inl ⟨by rfl, ?_⟩) ?_
            rotate_left
            · (intro W; go_simp; try with_reducible rfl)
            simp only [Act.put, List.setIfInBounds_toArray, List.set_cons_zero, List.set_cons_succ, List.getElem_toArray, List.getElem_cons_zero, List.getElem_cons_succ]
            refine wpAny_ready (rs := [16]) (by kernel_rfl) (by simp) ?_
            refine AllReady.cons rfl (fun K hK => ?_) AllReady.nil
            go_simp
            refine hK _ _ ?_
            clear hK K
            refine wpAny_ready (rs := [17]) (by kernel_rfl) (by simp) ?_
            refine AllReady.cons rfl (fun K hK => ?_) AllReady.nil
            refine step_append_lies _ (by rfl) _ _ 59 (by rfl) w.heap.size 63 i0 (.int .u32 0) 1 4 Tryd.underlying59 hi hz0 hz1 hz2 rfl (by decide) _ _ _ (by rfl) (hown.alloc _) ⟨wr.heap.size, 0, none⟩ 1 1 [.int .u32 Y] (by rfl) rfl (cell_one_new _ _ _) (by intro u hu; simp at hu; subst hu; rfl) (by decide) (by unfold maxLen; omega) (by omega) (by simp; omega) _ rfl ?_
            intro g2 cap2 w1 hown' hgrow hat hlt1
            refine hK _ _ ?_
            clear hK K
            refine wpAny_take (i := 18) (v := ?_) rfl (by kernel_rfl) (by kernel_rfl) (by kernel_rfl) (fun _ _ _ h => h) (Or.inl ⟨by rfl, ?_⟩) ?_
            rotate_left
            · (intro W; go_simp; try with_reducible rfl)
            simp only [Act.put, List.setIfInBounds_toArray, List.set_cons_zero, List.set_cons_succ, List.getElem_toArray, List.getElem_cons_zero, List.getElem_cons_succ]
            refine wpAny_done (by kernel_rfl) ?_ _
            have R1 : w1.ownsRow w.heap.size 63 1 (.slice (some ⟨g2, 0, none⟩) (n + 1) cap2) (n + 1) ((wL (nums b) (n + 1)).map (Value.int .u32)) := by
              rw [HL.out, HY.out]
              simpa using hown'
            have R2 : Below w.heap.size w w1 := below_app1 hbel.drew (Nat.le_refl _) hown hgrow
            clear hown' hgrow hown hbel hat
            go_wp2
            go_roundw
            case rel => first | exact ⟨n + 1, g2, cap2, by omega, by omega, by go_num, rfl, R1, R2⟩ | ((repeat apply Exists.intro); exact ⟨⟨n + 1, g2, cap2, by omega, by omega, by go_num, rfl, R1, R2⟩, rfl⟩)
            case measure => simp [intOf]; omega
        · have : n = 64 := by omega
          subst this
          have HRG : Hid (RowAt wr g (wL (nums b) 64)) := by
            intro j hj
            rw [wL_length] at hj
            rw [hown.cellAt j (by omega)]
            exact map_at _ _ (by rw [wL_length]; exact hj)
          have hnews : ∀ (o : Obj) j u, (st.l.map (Value.int .u32))[j]? = some u → (wr.alloc o).cell? ((⟨hb, 0, none⟩ : Addr).add j) = some u := by
            intro o j u hu
            have hj : j < 8 := (List.getElem?_eq_some_iff.1 hu).1
            rw [Addr.add_mid, Nat.zero_add, ← hu, map_at _ _ hj]
            have h1 : (wr.alloc o).cell? ⟨hb, j, none⟩ = wr.cell? ⟨hb, j, none⟩ := World.cell?_of_block (Below.heap_alloc wr o hb (by omega))
            rw [h1, hbel.cell (p := ⟨hb, j, none⟩) hhb]
            exact HH.out j hj
          have hone : ∀ u ∈ st.l.map (Value.int .u32), u.oneCell' = true := by
            intro u hu
            obtain ⟨x, _, rfl⟩ := List.mem_map.1 hu
            rfl
          have HNW : Hid _ := hnews
          have HON : Hid _ := hone
          clear hnews hone hown
          go_wp2_with (first
            | (at_builtin; refine wpList_append_lies _ (by rfl) _ _ 59 (by rfl) w.heap.size 63 i0 (.int .u32 0) 1 4 Tryd.underlying59 hi hz0 hz1 hz2 rfl (by decide) _ 0 [] (by rfl) (World.ownsRow_made wr _ 0 hsz (by decide) (by simp)) ⟨hb, 0, none⟩ 8 hcap (st.l.map (Value.int .u32)) (by rfl) rfl (HNW _) HON (by decide) (by unfold maxLen; omega) (by omega) (by simp; omega) _ rfl ?_; intro gv capv w1 hownv hgrow hat hltv)
            | fail)
          have HV0 : Hid (RowAt w1 gv st.l) := by
            intro j hj
            have hj8 : j < 8 := hj
            rw [hownv.cellAt j (by omega)]
            exact map_at _ _ hj
          have hg1' : w1.heap[g]? = wr.heap[g]? := by
            rw [hgrow.block g (by simp; omega) (by simp [Value.ownBlock]; omega)]
            exact Below.heap_alloc wr _ g hgl
          have HG0 : Hid (RowAt w1 g (wL (nums b) 64)) := fun j hj => by
            rw [World.cell?_of_block (a := ⟨g, j, none⟩) hg1']
            exact HRG.out j hj
          have hb1 : Below w.heap.size w w1 := (hbel.alloc hsz _).grown hgrow (by simp; omega) (fun q hq => by simp [Value.ownBlock] at hq; omega)
          have hgl1 : g < w1.heap.size := by have := hgrow.size; simp at this; omega
          clear hownv hgrow hat HRG HNW HON hg1' hbel hsz hgl
          go_loopw [12, 13] (fun v i wr => ∃ n gv capv : Nat, n ≤ 64 ∧ i = .int .i64 n ∧ v = .slice (some ⟨gv, 0, none⟩) 8 capv ∧ Hid (RowAt wr gv (rds ks (wL (nums b) 64) st n).l) ∧ Hid (RowAt wr g (wL (nums b) 64)) ∧ g < wr.heap.size ∧ gv < wr.heap.size ∧ Below w.heap.size w wr) (fun _ i _ => 64 - (intOf i).toNat)
          case atStart => exact ⟨0, gv, capv, by omega, rfl, rfl, HV0, HG0, hgl1, hltv, hb1⟩
          case round =>
            clear HV0 HG0 hgl1 hb1 hltv
            obtain ⟨n, gx, capx, hn, rfl, rfl, HV, HG, hgl, hgv, hbel⟩ := hrel
            have hsz := hbel.size
            have HOKV : Hid ((rds ks (wL (nums b) 64) st n).ok) := rds_ok _ _ _ HOK.out n
            have HS : Hid (rds ks (wL (nums b) 64) st (n + 1) = rnd (rds ks (wL (nums b) 64) st n) (ks.getD n 0) ((wL (nums b) 64).getD n 0)) := rfl
            generalize hv : rds ks (wL (nums b) 64) st n = v at *
            have HN : Hid (rds ks (wL (nums b) 64) st n = v) := hv
            clear hv
            by_cases hlt3 : n < 64
            · obtain ⟨va, vb, vc, vd, ve, vf, vg, vh⟩ := v
              obtain ⟨⟨a0, a1⟩, ⟨b0, b1⟩, ⟨cc0, cc1⟩, ⟨d0, d1⟩, ⟨e0, e1⟩, ⟨f0, f1⟩, ⟨g0', g1'⟩, ⟨h0, h1⟩⟩ := HOKV.out
              simp only at a0 a1 b0 b1 cc0 cc1 d0 d1 e0 e1 f0 f1 g0' g1' h0 h1
              have c0 : wr.cell? ⟨gx, 0, none⟩ = some (.int .u32 va) := HV.out 0 (by show 0 < 8; omega)
              have c1 : wr.cell? ⟨gx, 1, none⟩ = some (.int .u32 vb) := HV.out 1 (by show 1 < 8; omega)
              have c2 : wr.cell? ⟨gx, 2, none⟩ = some (.int .u32 vc) := HV.out 2 (by show 2 < 8; omega)
              have c3 : wr.cell? ⟨gx, 3, none⟩ = some (.int .u32 vd) := HV.out 3 (by show 3 < 8; omega)
              have c4 : wr.cell? ⟨gx, 4, none⟩ = some (.int .u32 ve) := HV.out 4 (by show 4 < 8; omega)
              have c5 : wr.cell? ⟨gx, 5, none⟩ = some (.int .u32 vf) := HV.out 5 (by show 5 < 8; omega)
              have c6 : wr.cell? ⟨gx, 6, none⟩ = some (.int .u32 vg) := HV.out 6 (by show 6 < 8; omega)
              have c7 : wr.cell? ⟨gx, 7, none⟩ = some (.int .u32 vh) := HV.out 7 (by show 7 < 8; omega)
              have ck : wr.cell? ⟨kb, n, none⟩ = some (.int .u32 (ks.getD n 0)) := by
                rw [hbel.cell (p := ⟨kb, n, none⟩) hkb]; exact HKK.out n (by omega)
              have cw : wr.cell? ⟨g, n, none⟩ = some (.int .u32 ((wL (nums b) 64).getD n 0)) := HG.out n (by rw [wL_length]; exact hlt3)
              generalize ks.getD n 0 = kn at *
              generalize (wL (nums b) 64).getD n 0 = wn at *
              have i1 : (0 : Int) ≤ (n : Int) := by omega
              have i2 : (n : Int) < 64 := by omega
              obtain ⟨E1, hE1⟩ : ∃ x, bits .xor .u32 (bits .xor .u32 (rt ve 6) (rt ve 11)) (rt ve 25) = x := ⟨_, rfl⟩
              obtain ⟨NV, hNV⟩ : ∃ x, bits .xor .u32 (if IntKind.u32.signed = true then -1 else IntKind.u32.max) ve = x := ⟨_, rfl⟩
              obtain ⟨CH, hCH⟩ : ∃ x, bits .xor .u32 (bits .and .u32 ve vf) (bits .and .u32 NV vg) = x := ⟨_, rfl⟩
              obtain ⟨A0, hA0⟩ : ∃ x, bits .xor .u32 (bits .xor .u32 (rt va 2) (rt va 13)) (rt va 22) = x := ⟨_, rfl⟩
              obtain ⟨MJ, hMJ⟩ : ∃ x, bits .xor .u32 (bits .xor .u32 (bits .and .u32 va vb) (bits .and .u32 va vc)) (bits .and .u32 vb vc) = x := ⟨_, rfl⟩
              obtain ⟨T1, hT1⟩ : ∃ x, (vh + E1 + CH + kn + wn) % 4294967296 = x := ⟨_, rfl⟩
              obtain ⟨U1, hU1⟩ : ∃ x, (A0 + MJ) % 4294967296 = x := ⟨_, rfl⟩
              have HS2 : Hid (rds ks (wL (nums b) 64) st (n + 1) = ⟨(T1 + U1) % 4294967296, va, vb, vc, (vd + T1) % 4294967296, ve, vf, vg⟩) := by
                show rds ks (wL (nums b) 64) st (n + 1) = _
                have e : (T1 + U1) % 4294967296 = (T1 + A0 + MJ) % 4294967296 := by rw [← hU1]; omega
                rw [HS.out, e, ← hT1, ← hMJ, ← hA0, ← hCH, ← hNV, ← hE1]
                rfl
              have hT2 : IntKind.u32.wrap (IntKind.u32.wrap (IntKind.u32.wrap (IntKind.u32.wrap (vh + E1) + CH) + kn) + wn) = T1 := by
                rw [IntKind.wrap_u32, IntKind.wrap_u32, IntKind.wrap_u32, IntKind.wrap_u32, ← hT1]; omega
              have hT3 : ((vh + E1 + CH + kn) % 4294967296 + wn) % 4294967296 = T1 := by rw [← hT1]; omega
              have hU2 : IntKind.u32.wrap (A0 + MJ) = U1 := by rw [IntKind.wrap_u32]; exact hU1
              clear HS
              go_wp2
              go_quiet ((first | (go_at_call 46; exact Calls.quiet_of_same (turn_any _ _ 6 _ (by rfl) e0 e1 (by omega) (by omega))) | (go_at_call 46; exact Calls.quiet_of_same (turn_any _ _ 11 _ (by rfl) e0 e1 (by omega) (by omega))) | (go_at_call 46; exact Calls.quiet_of_same (turn_any _ _ 25 _ (by rfl) e0 e1 (by omega) (by omega)))))
              go_wp2
              go_quiet (fail)
              go_wp2
              rw [hT3]
              refine wp_gen1 (fun W => Below w.heap.size w W ∧ Hid (RowAt W gx (V8.mk va vb vc vd ve vf vg vh).l) ∧ Hid (RowAt W g (wL (nums b) 64)) ∧ g < W.heap.size ∧ gx < W.heap.size) ⟨below_drewN (below_drewN hbel _) _, HV, HG, hgl, hgv⟩ ?_
              clear c0 c1 c2 c3 c4 c5 c6 c7 ck cw hbel HV HG hgl hgv hsz hE1 hNV hCH hT1 hT2 hT3
              clear wr
              rintro wr ⟨hbel, HV, HG, hgl, hgv⟩
              have hsz := hbel.size
              have c0 : wr.cell? ⟨gx, 0, none⟩ = some (.int .u32 va) := HV.out 0 (by show 0 < 8; omega)
              have c1 : wr.cell? ⟨gx, 1, none⟩ = some (.int .u32 vb) := HV.out 1 (by show 1 < 8; omega)
              have c2 : wr.cell? ⟨gx, 2, none⟩ = some (.int .u32 vc) := HV.out 2 (by show 2 < 8; omega)
              have c3 : wr.cell? ⟨gx, 3, none⟩ = some (.int .u32 vd) := HV.out 3 (by show 3 < 8; omega)
              have c4 : wr.cell? ⟨gx, 4, none⟩ = some (.int .u32 ve) := HV.out 4 (by show 4 < 8; omega)
              have c5 : wr.cell? ⟨gx, 5, none⟩ = some (.int .u32 vf) := HV.out 5 (by show 5 < 8; omega)
              have c6 : wr.cell? ⟨gx, 6, none⟩ = some (.int .u32 vg) := HV.out 6 (by show 6 < 8; omega)
              go_quiet ((first | (go_at_call 46; exact Calls.quiet_of_same (turn_any _ _ 2 _ (by rfl) a0 a1 (by omega) (by omega))) | (go_at_call 46; exact Calls.quiet_of_same (turn_any _ _ 13 _ (by rfl) a0 a1 (by omega) (by omega))) | (go_at_call 46; exact Calls.quiet_of_same (turn_any _ _ 22 _ (by rfl) a0 a1 (by omega) (by omega)))))
              go_wp2
              go_quiet (fail)
              go_wp2
              refine wp_gen1 (fun W => Below w.heap.size w W ∧ Hid (RowAt W gx (V8.mk va vb vc vd ve vf vg vh).l) ∧ Hid (RowAt W g (wL (nums b) 64)) ∧ g < W.heap.size ∧ gx < W.heap.size) ⟨below_drewN (below_drewN hbel _) _, HV, HG, hgl, hgv⟩ ?_
              clear c0 c1 c2 c3 c4 c5 c6 hbel HV HG hgl hgv hsz hA0 hMJ hU1 hU2
              clear wr
              rintro wr ⟨hbel, HV, HG, hgl, hgv⟩
              have hsz := hbel.size
              have c0 : wr.cell? ⟨gx, 0, none⟩ = some (.int .u32 va) := HV.out 0 (by show 0 < 8; omega)
              have c1 : wr.cell? ⟨gx, 1, none⟩ = some (.int .u32 vb) := HV.out 1 (by show 1 < 8; omega)
              have c2 : wr.cell? ⟨gx, 2, none⟩ = some (.int .u32 vc) := HV.out 2 (by show 2 < 8; omega)
              have c3 : wr.cell? ⟨gx, 3, none⟩ = some (.int .u32 vd) := HV.out 3 (by show 3 < 8; omega)
              have c4 : wr.cell? ⟨gx, 4, none⟩ = some (.int .u32 ve) := HV.out 4 (by show 4 < 8; omega)
              have c5 : wr.cell? ⟨gx, 5, none⟩ = some (.int .u32 vf) := HV.out 5 (by show 5 < 8; omega)
              have c6 : wr.cell? ⟨gx, 6, none⟩ = some (.int .u32 vg) := HV.out 6 (by show 6 < 8; omega)
              have s1 : IntKind.u32.wrap (T1 + U1) = (T1 + U1) % 4294967296 := IntKind.wrap_u32 _
              have s2 : IntKind.u32.wrap (vd + T1) = (vd + T1) % 4294967296 := IntKind.wrap_u32 _
              go_region_held3 (fun w' => w'.cell? ⟨gx, 0, none⟩ = some (.int .u32 va) ∧ w'.cell? ⟨gx, 1, none⟩ = some (.int .u32 vb) ∧ w'.cell? ⟨gx, 2, none⟩ = some (.int .u32 vc) ∧ w'.cell? ⟨gx, 3, none⟩ = some (.int .u32 vd) ∧ w'.cell? ⟨gx, 4, none⟩ = some (.int .u32 ve) ∧ w'.cell? ⟨gx, 5, none⟩ = some (.int .u32 vf) ∧ w'.cell? ⟨gx, 6, none⟩ = some (.int .u32 vg)) (go_keep) (fail)
              go_wp2
              have RN := RowAt.new wr (V8.mk ((T1 + U1) % 4294967296) va vb vc ((vd + T1) % 4294967296) ve vf vg).l 63
              have RG : RowAt (wr.alloc (.cells ((V8.mk ((T1 + U1) % 4294967296) va vb vc ((vd + T1) % 4294967296) ve vf vg).l.map (Value.int .u32)).toArray 63)) g (wL (nums b) 64) := HG.out.below ((Below.refl wr.heap.size wr).alloc (Nat.le_refl _) _) hgl
              exact ⟨⟨n + 1, wr.heap.size, 8, by omega, by go_num, rfl, by rw [HS2.out]; exact RN, RG, by simp; omega, by simp, (hbel.alloc hsz _).drew⟩, by simp [intOf]; omega⟩
            · have : n = 64 := by omega
              subst this
              clear HS HG hgl
              rename World => wr0
              go_wp2
              go_loopw [18, 19] (fun u i wx => ∃ m : Nat, m ≤ 8 ∧ i = .int .i64 m ∧ wx.ownsRow wr0.heap.size 63 1 u m (((add8 st v).l.take m).map (Value.int .u32)) ∧ Below wr0.heap.size wr0 wx) (fun _ i _ => 8 - (intOf i).toNat)
              case atStart => exact ⟨0, by omega, rfl, World.ownsRow_made wr0 _ 0 (Nat.le_refl _) (by decide) (by simp), (Below.refl _ _).alloc (Nat.le_refl _) _⟩
              case round =>
                obtain ⟨m, hm, rfl, hown, hbx⟩ := hrel
                rename World => wx
                have hsx := hbx.size
                by_cases hlm : m < 8
                · have ch : wx.cell? ⟨hb, m, none⟩ = some (.int .u32 (st.l.getD m 0)) := by
                    rw [hbx.cell (p := ⟨hb, m, none⟩) (by show hb < wr0.heap.size; omega), hbel.cell (p := ⟨hb, m, none⟩) hhb]
                    exact HH.out m (by show m < 8; omega)
                  have cv : wx.cell? ⟨gx, m, none⟩ = some (.int .u32 (v.l.getD m 0)) := by
                    rw [hbx.cell (p := ⟨gx, m, none⟩) hgv]
                    exact HV.out m (by show m < 8; omega)
                  have HT : Hid ((add8 st v).l.take (m + 1) = (add8 st v).l.take m ++ [(st.l.getD m 0 + v.l.getD m 0) % 4294967296]) := add8_take st v m hlm
                  obtain ⟨xh, hxh⟩ : ∃ x, st.l.getD m 0 = x := ⟨_, rfl⟩
                  obtain ⟨xv, hxv⟩ : ∃ x, v.l.getD m 0 = x := ⟨_, rfl⟩
                  rw [hxh] at ch HT
                  rw [hxv] at cv HT
                  obtain ⟨Z, hZ⟩ : ∃ x, (xh + xv) % 4294967296 = x := ⟨_, rfl⟩
                  rw [hZ] at HT
                  have hZ2 : IntKind.u32.wrap (xh + xv) = Z := by rw [IntKind.wrap_u32]; exact hZ
                  have i1 : (0 : Int) ≤ (m : Int) := by omega
                  have i2 : (m : Int) < 8 := by omega
                  clear hxh hxv
                  go_wp2
                  refine wp_region_any (by kernel_rfl) ?_
                  refine wpAny_take (i := 0) (v := ?_) rfl (by kernel_rfl) (by kernel_rfl) (by kernel_rfl) (fun _ _ _ h => h) (Or.inl ⟨by rfl, ?_⟩) ?_
                  rotate_left
                  · (intro W; go_simp; try with_reducible rfl)
                  simp only [Act.put, List.setIfInBounds_toArray, List.set_cons_zero, List.set_cons_succ, List.getElem_toArray, List.getElem_cons_zero]
                  refine wpAny_take (i := 1) (v := ?_) rfl (by kernel_rfl) (by kernel_rfl) (by kernel_rfl) (fun _ _ _ h => h) (Or.inl ⟨by rfl, ?_⟩) ?_
                  rotate_left
                  · (intro W; go_simp; try with_reducible rfl)
                  simp only [Act.put, List.setIfInBounds_toArray, List.set_cons_zero, List.set_cons_succ, List.getElem_toArray, List.getElem_cons_zero, List.getElem_cons_succ]
                  refine wpAny_take (i := 2) (v := ?_) rfl (by kernel_rfl) (by kernel_rfl) (by kernel_rfl) (fun _ _ _ h => h) (Or.inl ⟨by rfl, ?_⟩) ?_
                  rotate_left
                  · (intro W; go_simp; try with_reducible rfl)
                  simp only [Act.put, List.setIfInBounds_toArray, List.set_cons_zero, List.set_cons_succ, List.getElem_toArray, List.getElem_cons_zero, List.getElem_cons_succ]
                  refine wpAny_take (i := 3) (v := ?_) rfl (by kernel_rfl) (by kernel_rfl) (by kernel_rfl) (fun _ _ _ h => h) (Or.inl ⟨by rfl, ?_⟩) ?_
                  rotate_left
                  · (intro W; go_simp; try with_reducible rfl)
                  simp only [Act.put, List.setIfInBounds_toArray, List.set_cons_zero, List.set_cons_succ, List.getElem_toArray, List.getElem_cons_zero, List.getElem_cons_succ]
                  refine wpAny_take (i := 5) (v := ?_) rfl (by kernel_rfl) (by kernel_rfl) (by kernel_rfl) (fun _ _ _ h => h) (Or.inl ⟨by rfl, ?_⟩) ?_
                  rotate_left
                  · (intro W; go_simp; try with_reducible rfl)
                  simp only [Act.put, List.setIfInBounds_toArray, List.set_cons_zero, List.set_cons_succ, List.getElem_toArray, List.getElem_cons_zero, List.getElem_cons_succ]
                  refine wpAny_take (i := 6) (v := ?_) rfl (by kernel_rfl) (by kernel_rfl) (by kernel_rfl) (fun _ _ _ h => h) (Or.inl ⟨by rfl, ?_⟩) ?_
                  rotate_left
                  · (intro W; go_simp; try with_reducible rfl)
                  simp only [Act.put, List.setIfInBounds_toArray, List.set_cons_zero, List.set_cons_succ, List.getElem_toArray, List.getElem_cons_zero, List.getElem_cons_succ]
                  refine wpAny_take (i := 7) (v := ?_) rfl (by kernel_rfl) (by kernel_rfl) (by kernel_rfl) (fun _ _ _ h => h) (Or.inl ⟨by rfl, ?_⟩) ?_
                  rotate_left
                  · (intro W; go_simp; try with_reducible rfl)
                  simp only [Act.put, List.setIfInBounds_toArray, List.set_cons_zero, List.set_cons_succ, List.getElem_toArray, List.getElem_cons_zero, List.getElem_cons_succ]
                  refine wpAny_ready (rs := [4, 8]) (by kernel_rfl) (by simp) ?_
                  refine AllReady.cons rfl (fun K hK => ?_) (AllReady.cons rfl (fun K hK => ?_) AllReady.nil)
                  · go_simp
                    refine hK _ _ ?_
                    clear hK K
                    refine wpAny_ready (rs := [8]) (by kernel_rfl) (by simp) ?_
                    refine AllReady.cons rfl (fun K hK => ?_) AllReady.nil
                    go_simp
                    refine hK _ _ ?_
                    clear hK K
                    refine wpAny_take (i := 9) (v := ?_) rfl (by kernel_rfl) (by kernel_rfl) (by kernel_rfl) (fun _ _ _ h => h) (Or.inl ⟨by rfl, ?_⟩) ?_
                    rotate_left
                    · (intro W; go_simp; try with_reducible rfl)
                    simp only [Act.put, List.setIfInBounds_toArray, List.set_cons_zero, List.set_cons_succ, List.getElem_toArray, List.getElem_cons_zero, List.getElem_cons_succ]
                    refine wpAny_ready (rs := [10]) (by kernel_rfl) (by simp) ?_
                    refine AllReady.cons rfl (fun K hK => ?_) AllReady.nil
                    go_simp
                    refine hK _ _ ?_
                    clear hK K
                    refine wpAny_ready (rs := [11]) (by kernel_rfl) (by simp) ?_
                    refine AllReady.cons rfl (fun K hK => ?_) AllReady.nil
                    refine step_append_lies _ (by rfl) _ _ 59 (by rfl) wr0.heap.size 63 i0 (.int .u32 0) 1 4 Tryd.underlying59 hi hz0 hz1 hz2 rfl (by decide) _ _ _ (by rfl) (hown.alloc _) ⟨wx.heap.size, 0, none⟩ 1 1 [.int .u32 Z] (by rfl) rfl (cell_one_new _ _ _) (by intro u hu; simp at hu; subst hu; rfl) (by decide) (by unfold maxLen; omega) (by omega) (by simp; omega) _ rfl ?_
                    intro g2 cap2 w1 hown' hgrow hat hlt1
                    refine hK _ _ ?_
                    clear hK K
                    refine wpAny_take (i := 12) (v := ?_) rfl (by kernel_rfl) (by kernel_rfl) (by kernel_rfl) (fun _ _ _ h => h) (Or.inl ⟨by rfl, ?_⟩) ?_
                    rotate_left
                    · (intro W; go_simp; try with_reducible rfl)
                    simp only [Act.put, List.setIfInBounds_toArray, List.set_cons_zero, List.set_cons_succ, List.getElem_toArray, List.getElem_cons_zero, List.getElem_cons_succ]
                    refine wpAny_done (by kernel_rfl) ?_ _
                    have R1 : w1.ownsRow wr0.heap.size 63 1 (.slice (some ⟨g2, 0, none⟩) (m + 1) cap2) (m + 1) (((add8 st v).l.take (m + 1)).map (Value.int .u32)) := by
                      rw [HT.out]
                      simpa using hown'
                    have R2 : Below wr0.heap.size wr0 w1 := below_app1 hbx.drew (Nat.le_refl _) hown hgrow
                    clear hown' hgrow hown hbx hat
                    go_wp2
                    go_roundw
                    case rel => first | exact ⟨m + 1, by omega, by go_num, R1, R2⟩ | ((repeat apply Exists.intro); exact ⟨⟨m + 1, by omega, by go_num, R1, R2⟩, rfl⟩)
                    case measure => simp [intOf]; omega
                  · go_simp
                    refine hK _ _ ?_
                    clear hK K
                    refine wpAny_ready (rs := [4]) (by kernel_rfl) (by simp) ?_
                    refine AllReady.cons rfl (fun K hK => ?_) AllReady.nil
                    go_simp
                    refine hK _ _ ?_
                    clear hK K
                    refine wpAny_take (i := 9) (v := ?_) rfl (by kernel_rfl) (by kernel_rfl) (by kernel_rfl) (fun _ _ _ h => h) (Or.inl ⟨by rfl, ?_⟩) ?_
                    rotate_left
                    · (intro W; go_simp; try with_reducible rfl)
                    simp only [Act.put, List.setIfInBounds_toArray, List.set_cons_zero, List.set_cons_succ, List.getElem_toArray, List.getElem_cons_zero, List.getElem_cons_succ]
                    refine wpAny_ready (rs := [10]) (by kernel_rfl) (by simp) ?_
                    refine AllReady.cons rfl (fun K hK => ?_) AllReady.nil
                    go_simp
                    refine hK _ _ ?_
                    clear hK K
                    refine wpAny_ready (rs := [11]) (by kernel_rfl) (by simp) ?_
                    refine AllReady.cons rfl (fun K hK => ?_) AllReady.nil
                    refine step_append_lies _ (by rfl) _ _ 59 (by rfl) wr0.heap.size 63 i0 (.int .u32 0) 1 4 Tryd.underlying59 hi hz0 hz1 hz2 rfl (by decide) _ _ _ (by rfl) (hown.alloc _) ⟨wx.heap.size, 0, none⟩ 1 1 [.int .u32 Z] (by rfl) rfl (cell_one_new _ _ _) (by intro u hu; simp at hu; subst hu; rfl) (by decide) (by unfold maxLen; omega) (by omega) (by simp; omega) _ rfl ?_
                    intro g2 cap2 w1 hown' hgrow hat hlt1
                    refine hK _ _ ?_
                    clear hK K
                    refine wpAny_take (i := 12) (v := ?_) rfl (by kernel_rfl) (by kernel_rfl) (by kernel_rfl) (fun _ _ _ h => h) (Or.inl ⟨by rfl, ?_⟩) ?_
                    rotate_left
                    · (intro W; go_simp; try with_reducible rfl)
                    simp only [Act.put, List.setIfInBounds_toArray, List.set_cons_zero, List.set_cons_succ, List.getElem_toArray, List.getElem_cons_zero, List.getElem_cons_succ]
                    refine wpAny_done (by kernel_rfl) ?_ _
                    have R1 : w1.ownsRow wr0.heap.size 63 1 (.slice (some ⟨g2, 0, none⟩) (m + 1) cap2) (m + 1) (((add8 st v).l.take (m + 1)).map (Value.int .u32)) := by
                      rw [HT.out]
                      simpa using hown'
                    have R2 : Below wr0.heap.size wr0 w1 := below_app1 hbx.drew (Nat.le_refl _) hown hgrow
                    clear hown' hgrow hown hbx hat
                    go_wp2
                    go_roundw
                    case rel => first | exact ⟨m + 1, by omega, by go_num, R1, R2⟩ | ((repeat apply Exists.intro); exact ⟨⟨m + 1, by omega, by go_num, R1, R2⟩, rfl⟩)
                    case measure => simp [intOf]; omega
                · have : m = 8 := by omega
                  subst this
                  obtain ⟨g4, cap4, rfl, hg4, hg4l⟩ := hown.form (by omega)
                  have HR : Hid (RowAt wx g4 (blk ks st (nums b)).l) := by
                    intro j hj
                    have hj8 : j < 8 := hj
                    rw [hown.cellAt j (by omega)]
                    have e : (add8 st v).l.take 8 = (blk ks st (nums b)).l := by
                      show (add8 st v).l = (add8 st (rds ks (wL (nums b) 64) st 64)).l
                      rw [HN.out]
                    rw [e]
                    exact map_at _ _ hj
                  have HB : Hid (Below w.heap.size w wx) := hbel.trans (hbx.mono hsz)
                  clear hown
                  go_wp2
                  go_ret
                  exact ⟨g4, cap4, rfl, HR.out, hg4l, HB.out⟩

end Go.Proofs.YtdhbhifgmbppjaaDoor
