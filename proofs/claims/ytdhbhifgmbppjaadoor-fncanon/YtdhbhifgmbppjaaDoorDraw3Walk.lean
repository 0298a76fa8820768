/- The walks of what draws a number, a chance, a text. -/
import Derived.Test.YtdhbhifgmbppjaaDoorDraw2Walk
namespace Go.Proofs.YtdhbhifgmbppjaaDoor
open Go.RowKit
set_option linter.unusedVariables false

/-- A cursor stays behind a new block. -/
theorem Cur.alloc {w : World} {B len cap : Nat} {ao : Option Addr} {zs : List Int} {st : Nat × Int} (hC : Cur w B ao len cap zs st) (o : Obj) : Cur (w.alloc o) B ao len cap zs st :=
  hC.keep (World.grownBy_alloc w o none) (by simp)

theorem Cur.drew {w : World} {B len cap : Nat} {ao : Option Addr} {zs : List Int} {st : Nat × Int} (hC : Cur w B ao len cap zs st) : Cur w.drew B ao len cap zs st :=
  ⟨hC.own.drew, hC.code⟩

set_option maxRecDepth 100000 in
set_option maxHeartbeats 400000 in
theorem once_any (w : World) (B len cap : Nat) (ao : Option Addr) (zs : List Int) (st : Nat × Int) (n : Int) (hC : Cur w B ao len cap zs st) (hl : len ≤ 1048576) (hz : ∀ j, 0 ≤ zs.getD j 0 ∧ zs.getD j 0 ≤ 255) :
    Calls Tryd.prog 32 #[.pointer (some ⟨B, 0, none⟩), .int .i64 n] w fun e w' => e = .returned (.bool ((belowF zs len n st).1 == 0)) ∧ Cur w' B ao len cap zs (belowF zs len n st).2 ∧ w.grownBy w' (some B) := by
  have HZ : Hid (∀ j, 0 ≤ zs.getD j 0 ∧ zs.getD j 0 ≤ 255) := hz
  have HC : Hid (Cur w B ao len cap zs st) := hC
  clear hz hC
  go_enter Tryd.func32, Tryd.ntmps32
  go_wp2_with fail
  refine (below_any _ B len cap ao zs st n HC.out hl HZ.out).mono ?_
  rintro e w1 ⟨rfl, hC1, hg1⟩
  have K1 : Hid (Cur w1 B ao len cap zs (belowF zs len n st).2 ∧ w.grownBy w1 (some B)) := ⟨hC1, hg1⟩
  clear hC1 hg1
  go_wp2
  go_ret
  exact ⟨rfl, K1.out.1, K1.out.2⟩

/-- A row that was made behind the cursor stays while the cursor is moved. -/
theorem own_cur {w w' : World} {B base : Nat} {e : TypeId} {v : Value} {n : Nat} {xs : List Value} (h : w.ownsRow base e 1 v n xs) (hg : w.grownBy w' (some B)) (hB : B < base) : w'.ownsRow base e 1 v n xs :=
  h.kept hg (.inr (fun he => by have := (h.lt B he).1; omega))

set_option maxHeartbeats 2000000 in
set_option maxRecDepth 100000 in
theorem text_any (w : World) (B len cap : Nat) (ao : Option Addr) (zs : List Int) (st : Nat × Int) (most : Nat) (hC : Cur w B ao len cap zs st) (hl : len ≤ 1048576) (hz : ∀ j, 0 ≤ zs.getD j 0 ∧ zs.getD j 0 ≤ 255) (hm : most ≤ 100) :
    Calls Tryd.prog 48 #[.pointer (some ⟨B, 0, none⟩), .int .i64 (most : Int)] w fun e w' => e = .returned (.string (strOfNums (textF zs len most st).1)) ∧ Cur w' B ao len cap zs (textF zs len most st).2 ∧ w.grownBy w' (some B) := by
  have HZ : Hid (∀ j, 0 ≤ zs.getD j 0 ∧ zs.getD j 0 ≤ 255) := hz
  have HC : Hid (Cur w B ao len cap zs st) := hC
  clear hz hC
  have hBw := HC.out.lt
  obtain ⟨i0, hi, hz0, hz1, hz2⟩ := info_parts info5
  obtain ⟨s0, s1'⟩ := belowF_range zs len 4 st
  have s1 := s1' (by omega)
  obtain ⟨n0, n1'⟩ := belowF_range zs len ((most : Int) + 1) (belowF zs len 4 st).2
  have n1 := n1' (by omega)
  clear s1' n1'
  obtain ⟨style, hst⟩ : ∃ x, (belowF zs len 4 st).1 = x := ⟨_, rfl⟩
  obtain ⟨nn, hnn⟩ : ∃ x, (belowF zs len ((most : Int) + 1) (belowF zs len 4 st).2).1 = x := ⟨_, rfl⟩
  have HT : Hid (textF zs len most st = textGo zs len style nn.toNat ([], (belowF zs len ((most : Int) + 1) (belowF zs len 4 st).2).2)) := by
    show textF zs len most st = _; unfold textF; rw [hst, hnn]
  have hb4 := fun w (h : Cur w B ao len cap zs st) => below_any w B len cap ao zs st 4 h hl HZ.out
  have hbn := fun w (h : Cur w B ao len cap zs (belowF zs len 4 st).2) => below_any w B len cap ao zs (belowF zs len 4 st).2 ((most : Int) + 1) h hl HZ.out
  rw [hst] at hb4 s0 s1
  rw [hnn] at hbn n0 n1
  have HB4 : Hid _ := hb4
  have HBN : Hid _ := hbn
  clear hst hnn hb4 hbn
  go_enter Tryd.func48, Tryd.ntmps48
  go_wp2_with fail
  refine (HB4.out _ (HC.out.alloc _)).mono ?_
  rintro e w1 ⟨rfl, hC1, hg1⟩
  have hown1 := own_cur (World.ownsRow_made (base := w.heap.size) (e := 5) (size := 1) w #[] 0 (Nat.le_refl _) (by decide) (by simp)) hg1 hBw
  have K1 : Hid (Cur w1 B ao len cap zs (belowF zs len 4 st).2 ∧ w.grownBy w1 (some B) ∧ w1.ownsRow w.heap.size 5 1 (.slice (some ⟨w.heap.size, 0, none⟩) 0 0) 0 []) :=
    ⟨hC1, ((World.grownBy_alloc w _ none).but (some B)).trans hg1, hown1⟩
  clear hC1 hg1 hown1
  go_wp2_with fail
  refine (HBN.out _ K1.out.1).mono ?_
  rintro e w2 ⟨rfl, hC2, hg2⟩
  have K2 : Hid (Cur w2 B ao len cap zs (belowF zs len ((most : Int) + 1) (belowF zs len 4 st).2).2 ∧ w.grownBy w2 (some B) ∧ w2.ownsRow w.heap.size 5 1 (.slice (some ⟨w.heap.size, 0, none⟩) 0 0) 0 []) :=
    ⟨hC2, K1.out.2.1.trans hg2, own_cur K1.out.2.2 hg2 hBw⟩
  clear hC2 hg2 K1 HB4 HBN
  go_wp2_with fail
  go_loopw [5, 7] (fun v i wr => ∃ (m : Nat) (acc : List Int) (st' : Nat × Int), i = .int .i64 m ∧ m + acc.length ≤ 101 ∧ wr.ownsRow w.heap.size 5 1 v acc.length (acc.map (Value.int .u8)) ∧ Hid (Cur wr B ao len cap zs st') ∧ Hid (w.grownBy wr (some B)) ∧ Hid (textGo zs len style m (acc, st') = textF zs len most st)) (fun _ i _ => (intOf i).toNat)
  case atStart => exact ⟨nn.toNat, [], (belowF zs len ((most : Int) + 1) (belowF zs len 4 st).2).2, by rw [Int.toNat_of_nonneg n0], by simp; omega, K2.out.2.2, K2.out.1, K2.out.2.1, HT.out.symm⟩
  case round =>
    obtain ⟨m, acc, st', rfl, hacc, hown, HCr, HGr, HE⟩ := hrel
    have hszr := HGr.out.size
    rcases m with _ | m
    · have HR : Hid (textF zs len most st = (acc, st')) := HE.out.symm
      have hconv := run_string_of_own acc rfl hown
      clear hown HE
      go_wp2
      go_ret
      exact ⟨ret_str (by rw [HR.out]), by rw [HR.out]; exact HCr.out, HGr.out⟩
    · obtain ⟨x0, x1⟩ := bF_range zs len st'
      obtain ⟨x, hx⟩ : ∃ x, (bF zs len st').1 = x := ⟨_, rfl⟩
      have HE' : Hid (textGo zs len style m (acc ++ [tb style x], (bF zs len st').2) = textF zs len most st) := by
        have := HE.out; rw [textGo, hx] at this; exact this
      have hb := fun w (h : Cur w B ao len cap zs st') => byte_any w B len cap ao zs st' h hl HZ.out
      rw [hx] at hb x0 x1
      have HB : Hid _ := hb
      obtain ⟨y0, y1⟩ := tb_range style x x0 x1
      clear hb hx HE
      have hmm : (0 : Int) < (m : Int) + 1 := by omega
      by_cases e1 : style = 1
      · have t1 : (style == 1) = true := by simp [e1]
        have t2 : (style == 2) = false := by simp [e1]
        have ht : tb style x = x % 2 := by unfold tb; rw [if_pos e1]
        rw [ht] at y0 y1
        have HE2 : Hid (textGo zs len style m (acc ++ [x % 2], (bF zs len st').2) = textF zs len most st) := by have := HE'.out; rw [ht] at this; exact this
        clear HE' ht e1
        go_wp2_with fail
        refine (HB.out _ HCr.out).mono ?_
        rintro e w3 ⟨rfl, hC3, hg3⟩
        have hown3 := own_cur hown hg3 hBw
        have K3 : Hid (Cur w3 B ao len cap zs (bF zs len st').2 ∧ w.grownBy w3 (some B)) := ⟨hC3, HGr.out.trans hg3⟩
        have hsz3 := K3.out.2.size
        clear hC3 hg3 hown
        go_wp2_with (at_builtin; refine wpList_append_own _ rfl _ _ 22 rfl w.heap.size 5 i0 (.int .u8 0) 1 1 Tryd.underlying22 hi hz0 hz1 hz2 rfl (by decide) _ _ _ rfl (hown3.alloc _) ⟨w3.heap.size, 0, none⟩ 1 1 [.int .u8 (x % 2)] rfl rfl (cell_one_new _ _ _) (by intro u hu; simp at hu; subst hu; rfl) (by unfold maxLen; omega) (by omega) (by simp; omega) ?_)
        intro v' w4 hown4 hgrow _
        have R1 := own_snoc hown4
        have hrow : ∀ j, Value.ownBlock _ = some j → w.heap.size ≤ j := fun j hj => (hown3.lt j hj).1
        have g34 : w3.grownBy w4 (Value.ownBlock _) := (World.grownBy_alloc w3 _ _).trans hgrow
        have K4 : Hid (Cur w4 B ao len cap zs (bF zs len st').2) := K3.out.1.keep g34 (fun k hk => by have := hrow k hk; omega)
        have G4 : Hid (w.grownBy w4 (some B)) := K3.out.2.andThen g34 (fun j hj => .inl (hrow j hj))
        clear hown4 hgrow hown3 hrow g34
        go_wp2
        go_roundw
        case rel => first | exact ⟨m, acc ++ [x % 2], (bF zs len st').2, by go_num, by simp; omega, R1, K4, G4, HE2⟩ | ((repeat apply Exists.intro); exact ⟨⟨m, acc ++ [x % 2], (bF zs len st').2, by go_num, by simp; omega, R1, K4, G4, HE2⟩, rfl⟩)
        case measure => simp [intOf]
      · have t1 : (style == 1) = false := by simp [e1]
        by_cases e2 : style = 2
        · have t2 : (style == 2) = true := by simp [e2]
          have ht : tb style x = 97 + x % 4 := by unfold tb; rw [if_neg e1, if_pos e2]
          rw [ht] at y0 y1
          have HE2 : Hid (textGo zs len style m (acc ++ [97 + x % 4], (bF zs len st').2) = textF zs len most st) := by have := HE'.out; rw [ht] at this; exact this
          clear HE' ht e1 e2
          go_wp2_with fail
          refine (HB.out _ HCr.out).mono ?_
          rintro e w3 ⟨rfl, hC3, hg3⟩
          have hown3 := own_cur hown hg3 hBw
          have K3 : Hid (Cur w3 B ao len cap zs (bF zs len st').2 ∧ w.grownBy w3 (some B)) := ⟨hC3, HGr.out.trans hg3⟩
          have hsz3 := K3.out.2.size
          clear hC3 hg3 hown
          go_wp2_with (at_builtin; refine wpList_append_own _ rfl _ _ 22 rfl w.heap.size 5 i0 (.int .u8 0) 1 1 Tryd.underlying22 hi hz0 hz1 hz2 rfl (by decide) _ _ _ rfl (hown3.alloc _) ⟨w3.heap.size, 0, none⟩ 1 1 [.int .u8 (97 + x % 4)] rfl rfl (cell_one_new _ _ _) (by intro u hu; simp at hu; subst hu; rfl) (by unfold maxLen; omega) (by omega) (by simp; omega) ?_)
          intro v' w4 hown4 hgrow _
          have R1 := own_snoc hown4
          have hrow : ∀ j, Value.ownBlock _ = some j → w.heap.size ≤ j := fun j hj => (hown3.lt j hj).1
          have g34 : w3.grownBy w4 (Value.ownBlock _) := (World.grownBy_alloc w3 _ _).trans hgrow
          have K4 : Hid (Cur w4 B ao len cap zs (bF zs len st').2) := K3.out.1.keep g34 (fun k hk => by have := hrow k hk; omega)
          have G4 : Hid (w.grownBy w4 (some B)) := K3.out.2.andThen g34 (fun j hj => .inl (hrow j hj))
          clear hown4 hgrow hown3 hrow g34
          go_wp2
          go_roundw
          case rel => first | exact ⟨m, acc ++ [97 + x % 4], (bF zs len st').2, by go_num, by simp; omega, R1, K4, G4, HE2⟩ | ((repeat apply Exists.intro); exact ⟨⟨m, acc ++ [97 + x % 4], (bF zs len st').2, by go_num, by simp; omega, R1, K4, G4, HE2⟩, rfl⟩)
          case measure => simp [intOf]
        · have t2 : (style == 2) = false := by simp [e2]
          have ht : tb style x = x := by unfold tb; rw [if_neg e1, if_neg e2]
          rw [ht] at y0 y1
          have HE2 : Hid (textGo zs len style m (acc ++ [x], (bF zs len st').2) = textF zs len most st) := by have := HE'.out; rw [ht] at this; exact this
          clear HE' ht e1 e2
          go_wp2_with fail
          refine (HB.out _ HCr.out).mono ?_
          rintro e w3 ⟨rfl, hC3, hg3⟩
          have hown3 := own_cur hown hg3 hBw
          have K3 : Hid (Cur w3 B ao len cap zs (bF zs len st').2 ∧ w.grownBy w3 (some B)) := ⟨hC3, HGr.out.trans hg3⟩
          have hsz3 := K3.out.2.size
          clear hC3 hg3 hown
          go_wp2_with (at_builtin; refine wpList_append_own _ rfl _ _ 22 rfl w.heap.size 5 i0 (.int .u8 0) 1 1 Tryd.underlying22 hi hz0 hz1 hz2 rfl (by decide) _ _ _ rfl (hown3.alloc _) ⟨w3.heap.size, 0, none⟩ 1 1 [.int .u8 (x)] rfl rfl (cell_one_new _ _ _) (by intro u hu; simp at hu; subst hu; rfl) (by unfold maxLen; omega) (by omega) (by simp; omega) ?_)
          intro v' w4 hown4 hgrow _
          have R1 := own_snoc hown4
          have hrow : ∀ j, Value.ownBlock _ = some j → w.heap.size ≤ j := fun j hj => (hown3.lt j hj).1
          have g34 : w3.grownBy w4 (Value.ownBlock _) := (World.grownBy_alloc w3 _ _).trans hgrow
          have K4 : Hid (Cur w4 B ao len cap zs (bF zs len st').2) := K3.out.1.keep g34 (fun k hk => by have := hrow k hk; omega)
          have G4 : Hid (w.grownBy w4 (some B)) := K3.out.2.andThen g34 (fun j hj => .inl (hrow j hj))
          clear hown4 hgrow hown3 hrow g34
          go_wp2
          go_roundw
          case rel => first | exact ⟨m, acc ++ [x], (bF zs len st').2, by go_num, by simp; omega, R1, K4, G4, HE2⟩ | ((repeat apply Exists.intro); exact ⟨⟨m, acc ++ [x], (bF zs len st').2, by go_num, by simp; omega, R1, K4, G4, HE2⟩, rfl⟩)
          case measure => simp [intOf]

end Go.Proofs.YtdhbhifgmbppjaaDoor
