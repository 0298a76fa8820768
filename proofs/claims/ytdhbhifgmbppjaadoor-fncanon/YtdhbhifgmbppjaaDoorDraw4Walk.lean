/- The walk of what spoils a drawn text. -/
import Derived.Test.YtdhbhifgmbppjaaDoorDraw3Walk
import Derived.Deep.RegionWith
namespace Go.Proofs.YtdhbhifgmbppjaaDoor
open Go.RowKit
set_option linter.unusedVariables false

theorem grownBy_drew {w w' : World} {row : Option Nat} (h : w.grownBy w' row) : w.grownBy w'.drew row := ⟨h.os, h.tape, h.output, h.size, h.block⟩

theorem run_add_small (a b : ByteArray) (h : a.size + b.size ≤ 9223372036854775807) : ∀ w, (Op.stringOp .add a b).run Tryd.prog w = .ok (.string (a ++ b)) w := fun w => run_string_add_sum w a b h

set_option maxHeartbeats 1000000 in
set_option maxRecDepth 100000 in
theorem spoil_zero (w : World) (B len cap : Nat) (ao : Option Addr) (zs : List Int) (st : Nat × Int) (s : ByteArray) (hC : Cur w B ao len cap zs st) (hl : len ≤ 1048576) (hz : ∀ j, 0 ≤ zs.getD j 0 ∧ zs.getD j 0 ≤ 255) (hs : s.size = 0) :
    Calls Tryd.prog 33 #[.pointer (some ⟨B, 0, none⟩), .string s] w fun e w' => e = .returned (.string (spoilF zs len s st).1) ∧ Cur w' B ao len cap zs (spoilF zs len s st).2 ∧ w.grownBy w' (some B) := by
  have HZ : Hid (∀ j, 0 ≤ zs.getD j 0 ∧ zs.getD j 0 ≤ 255) := hz
  have HC : Hid (Cur w B ao len cap zs st) := hC
  have HF : Hid (spoilF zs len s st = (strOfNums (textF zs len 3 st).1, (textF zs len 3 st).2)) := by show spoilF zs len s st = _; unfold spoilF; rw [if_pos hs]
  have ht : ((s.size : Int) == 0) = true := by simp [hs]
  clear hz hC hs
  go_enter Tryd.func33, Tryd.ntmps33
  go_wp2_with fail
  refine (text_any _ B len cap ao zs st 3 HC.out hl HZ.out (by omega)).mono ?_
  rintro e w1 ⟨rfl, hC1, hg1⟩
  have K1 : Hid (Cur w1 B ao len cap zs (textF zs len 3 st).2 ∧ w.grownBy w1 (some B)) := ⟨hC1, hg1⟩
  clear hC1 hg1
  go_wp2
  go_ret
  exact ⟨ret_str (by rw [HF.out]), by rw [HF.out]; exact K1.out.1, K1.out.2⟩

set_option maxHeartbeats 2000000 in
set_option maxRecDepth 100000 in
theorem spoil_some (w : World) (B len cap : Nat) (ao : Option Addr) (zs : List Int) (st : Nat × Int) (s : ByteArray) (hC : Cur w B ao len cap zs st) (hl : len ≤ 1048576) (hz : ∀ j, 0 ≤ zs.getD j 0 ∧ zs.getD j 0 ≤ 255) (hs : 0 < s.size) (hs2 : s.size ≤ 1048576) :
    Calls Tryd.prog 33 #[.pointer (some ⟨B, 0, none⟩), .string s] w fun e w' => e = .returned (.string (spoilF zs len s st).1) ∧ Cur w' B ao len cap zs (spoilF zs len s st).2 ∧ w.grownBy w' (some B) := by
  have HZ : Hid (∀ j, 0 ≤ zs.getD j 0 ∧ zs.getD j 0 ≤ 255) := hz
  have HC : Hid (Cur w B ao len cap zs st) := hC
  have ht : ((s.size : Int) == 0) = false := by rw [beq_eq_false_iff_ne]; omega
  clear hz hC
  obtain ⟨k0, k1'⟩ := belowF_range zs len s.size st
  have k1 := k1' (by omega)
  clear k1'
  have hb := fun w (h : Cur w B ao len cap zs st) => below_any w B len cap ao zs st s.size h hl HZ.out
  obtain ⟨p, hp⟩ : ∃ p, belowF zs len s.size st = p := ⟨_, rfl⟩
  obtain ⟨x, st1⟩ := p
  have hF0 : spoilF zs len s st = spoilF zs len s st := rfl
  conv at hF0 => rhs; unfold spoilF
  rw [if_neg (by omega)] at hF0
  simp only [] at hF0
  rw [hp] at hF0 hb k0 k1
  simp only [] at hF0 k0 k1
  obtain ⟨k, rfl⟩ := Int.eq_ofNat_of_zero_le k0
  rw [Int.toNat_natCast] at hF0
  have hks : k < s.size := by omega
  have hki : (k : Int) < s.size := by omega
  have hki1 : (k : Int) + 1 ≤ s.size := by omega
  have hkl : k ≤ s.size := by omega
  have hkl1 : k + 1 ≤ s.size := by omega
  have hb4 := fun w (h : Cur w B ao len cap zs st1) => below_any w B len cap ao zs st1 4 h hl HZ.out
  obtain ⟨c, hc⟩ : ∃ c, belowF zs len 4 st1 = c := ⟨_, rfl⟩
  obtain ⟨y, st2⟩ := c
  obtain ⟨y0, y1'⟩ := belowF_range zs len 4 st1
  have y1 := y1' (by omega)
  rw [hc] at hF0 hb4 y0 y1
  simp only [] at hF0 y0 y1
  have HB : Hid _ := hb
  have HB4 : Hid _ := hb4
  clear hb hb4 hp hc y1'
  have z1 : (s.extract 0 k).size = k := by simp; omega
  have z2 : (s.extract (k + 1) s.size).size = s.size - (k + 1) := by simp
  have z3 : (s.extract k s.size).size = s.size - k := by simp
  have hb1 : (s.data[k]?.getD 0) = s[k] := by rw [Array.getElem?_eq_getElem (by exact hks)]; rfl
  by_cases e0 : y = 0
  · have t0 : (y == 0) = true := by simp [e0]
    rw [if_pos e0] at hF0
    have HF : Hid (spoilF zs len s st = (s.extract 0 k ++ s.extract (k + 1) s.size, st2)) := hF0
    have had := run_add_small (s.extract 0 k) (s.extract (k + 1) s.size) (by omega)
    clear e0 hF0
    go_enter Tryd.func33, Tryd.ntmps33
    go_wp2_with fail
    refine (HB.out _ HC.out).mono ?_
    rintro e w1 ⟨rfl, hC1, hg1⟩
    have K1 : Hid (Cur w1 B ao len cap zs st1 ∧ w.grownBy w1 (some B)) := ⟨hC1, hg1⟩
    clear hC1 hg1
    go_wp2_with fail
    refine (HB4.out _ K1.out.1).mono ?_
    rintro e w2 ⟨rfl, hC2, hg2⟩
    have K2 : Hid (Cur w2 B ao len cap zs st2 ∧ w.grownBy w2 (some B)) := ⟨hC2, K1.out.2.trans hg2⟩
    clear hC2 hg2
    go_wp2
    go_quiet (fail)
    go_wp2
    go_ret
    exact ⟨ret_str (by rw [HF.out]), by rw [HF.out]; exact K2.out.1.drewN _, grownBy_drewN K2.out.2 _⟩
  · have t0 : (y == 0) = false := by simp [e0]
    rw [if_neg e0] at hF0
    by_cases e1 : y = 1
    · have t1 : (y == 1) = true := by simp [e1]
      rw [if_pos e1] at hF0
      have hbb := fun w (h : Cur w B ao len cap zs st2) => byte_any w B len cap ao zs st2 h hl HZ.out
      obtain ⟨x0, x1⟩ := bF_range zs len st2
      obtain ⟨X, hX⟩ : ∃ X, (bF zs len st2).1 = X := ⟨_, rfl⟩
      rw [hX] at hF0 hbb x0 x1
      have HF : Hid (spoilF zs len s st = (s.extract 0 k ++ strOfNums [X] ++ s.extract k s.size, (bF zs len st2).2)) := hF0
      have HBB : Hid _ := hbb
      have z4 : (strOfNums [X]).size = 1 := by rw [strOfNums_size]; rfl
      have had := run_add_small (s.extract 0 k) (strOfNums [X]) (by omega)
      have had2 := run_add_small (s.extract 0 k ++ strOfNums [X]) (s.extract k s.size) (by rw [ByteArray.size_append]; omega)
      have hco := conv_one
      have hw8 : IntKind.u8.wrap X = X := by rw [IntKind.wrap_u8']; omega
      have hcode : ∀ o : Obj, (w.grownBy w (some B)) := fun _ => World.grownBy.refl _ _
      clear e0 e1 hF0 hbb hX hcode
      go_enter Tryd.func33, Tryd.ntmps33
      go_wp2_with fail
      refine (HB.out _ HC.out).mono ?_
      rintro e w1 ⟨rfl, hC1, hg1⟩
      have K1 : Hid (Cur w1 B ao len cap zs st1 ∧ w.grownBy w1 (some B)) := ⟨hC1, hg1⟩
      clear hC1 hg1
      go_wp2_with fail
      refine (HB4.out _ K1.out.1).mono ?_
      rintro e w2 ⟨rfl, hC2, hg2⟩
      have K2 : Hid (Cur w2 B ao len cap zs st2 ∧ w.grownBy w2 (some B)) := ⟨hC2, K1.out.2.trans hg2⟩
      clear hC2 hg2
      go_wp2
      go_region_with (go_at_call 49; refine (HBB.out _ K2.out.1.drew).mono ?_; rintro e w3 ⟨rfl, hC3, hg3⟩)
      all_goals
        have K3 : Hid (Cur w3 B ao len cap zs (bF zs len st2).2 ∧ w.grownBy w3 (some B)) := ⟨hC3, (grownBy_drew K2.out.2).trans hg3⟩
        clear hC3 hg3
        go_wp2
        go_ret
        exact ⟨ret_str (by rw [HF.out]), by rw [HF.out]; exact K3.out.1.alloc _, K3.out.2.andThen (World.grownBy_alloc w3 _ none) (by simp)⟩
    · have t1 : (y == 1) = false := by simp [e1]
      rw [if_neg e1] at hF0
      by_cases e2 : y = 2
      · have t2 : (y == 2) = true := by simp [e2]
        rw [if_pos e2] at hF0
        have HF : Hid (spoilF zs len s st = (s.extract 0 k, st2)) := hF0
        clear e0 e1 e2 hF0
        go_enter Tryd.func33, Tryd.ntmps33
        go_wp2_with fail
        refine (HB.out _ HC.out).mono ?_
        rintro e w1 ⟨rfl, hC1, hg1⟩
        have K1 : Hid (Cur w1 B ao len cap zs st1 ∧ w.grownBy w1 (some B)) := ⟨hC1, hg1⟩
        clear hC1 hg1
        go_wp2_with fail
        refine (HB4.out _ K1.out.1).mono ?_
        rintro e w2 ⟨rfl, hC2, hg2⟩
        have K2 : Hid (Cur w2 B ao len cap zs st2 ∧ w.grownBy w2 (some B)) := ⟨hC2, K1.out.2.trans hg2⟩
        clear hC2 hg2
        go_wp2
        go_ret
        exact ⟨ret_str (by rw [HF.out]), by rw [HF.out]; exact K2.out.1, K2.out.2⟩
      · have t2 : (y == 2) = false := by simp [e2]
        rw [if_neg e2] at hF0
        have hbb := fun w (h : Cur w B ao len cap zs st2) => below_any w B len cap ao zs st2 255 h hl HZ.out
        obtain ⟨x0, x1'⟩ := belowF_range zs len 255 st2
        have x1 := x1' (by omega)
        obtain ⟨X, hX⟩ : ∃ X, (belowF zs len 255 st2).1 = X := ⟨_, rfl⟩
        have hbo : byteOf s k = ((s[k]).toNat : Int) := by unfold byteOf; rw [hb1]
        have hbl := (s[k]).toNat_lt
        rw [hX, hbo] at hF0
        rw [hX] at hbb x0 x1
        obtain ⟨Y, hY⟩ : ∃ Y, bits .xor .i64 ((s[k]).toNat : Int) (1 + X) % 256 = Y := ⟨_, rfl⟩
        rw [hY] at hF0
        have HF : Hid (spoilF zs len s st = (s.extract 0 k ++ strOfNums [Y] ++ s.extract (k + 1) s.size, (belowF zs len 255 st2).2)) := hF0
        have HBB : Hid _ := hbb
        have z4 : (strOfNums [Y]).size = 1 := by rw [strOfNums_size]; rfl
        have had := run_add_small (s.extract 0 k) (strOfNums [Y]) (by omega)
        have had2 := run_add_small (s.extract 0 k ++ strOfNums [Y]) (s.extract (k + 1) s.size) (by rw [ByteArray.size_append]; omega)
        have hco := conv_one
        have hw8 : IntKind.u8.wrap (bits .xor .i64 ((s[k]).toNat : Int) (1 + X)) = Y := by rw [IntKind.wrap_u8']; exact hY
        have r1 : IntKind.i64.wrap ((s[k]).toNat : Int) = ((s[k]).toNat : Int) := wrap_i64_in _ (by omega)
        have r2 : IntKind.i64.wrap (1 + X) = 1 + X := wrap_i64_in _ (by omega)
        have r3 : IntKind.i64.wrap ((k : Int) + 1) = (k : Int) + 1 := wrap_i64_in _ (by omega)
        have r4 : ((k : Int) + 1).toNat = k + 1 := by omega
        have r5 : 0 ≤ (k : Int) + 1 := by omega
        clear e0 e1 e2 hF0 hbb hX hbo hY x1' hb1
        go_enter Tryd.func33, Tryd.ntmps33
        go_wp2_with fail
        refine (HB.out _ HC.out).mono ?_
        rintro e w1 ⟨rfl, hC1, hg1⟩
        have K1 : Hid (Cur w1 B ao len cap zs st1 ∧ w.grownBy w1 (some B)) := ⟨hC1, hg1⟩
        clear hC1 hg1
        go_wp2_with fail
        refine (HB4.out _ K1.out.1).mono ?_
        rintro e w2 ⟨rfl, hC2, hg2⟩
        have K2 : Hid (Cur w2 B ao len cap zs st2 ∧ w.grownBy w2 (some B)) := ⟨hC2, K1.out.2.trans hg2⟩
        clear hC2 hg2
        go_wp2
        go_region_with (go_at_call 36; refine (HBB.out _ K2.out.1.drew).mono ?_; rintro e w3 ⟨rfl, hC3, hg3⟩)
        all_goals
          have K3 : Hid (Cur w3 B ao len cap zs (belowF zs len 255 st2).2 ∧ w.grownBy w3 (some B)) := ⟨hC3, (grownBy_drew K2.out.2).trans hg3⟩
          clear hC3 hg3
          go_wp2
          go_ret
          exact ⟨ret_str (by rw [HF.out]), by rw [HF.out]; exact K3.out.1.alloc _, K3.out.2.andThen (World.grownBy_alloc w3 _ none) (by simp)⟩

theorem spoil_any (w : World) (B len cap : Nat) (ao : Option Addr) (zs : List Int) (st : Nat × Int) (s : ByteArray) (hC : Cur w B ao len cap zs st) (hl : len ≤ 1048576) (hz : ∀ j, 0 ≤ zs.getD j 0 ∧ zs.getD j 0 ≤ 255) (hs2 : s.size ≤ 1048576) :
    Calls Tryd.prog 33 #[.pointer (some ⟨B, 0, none⟩), .string s] w fun e w' => e = .returned (.string (spoilF zs len s st).1) ∧ Cur w' B ao len cap zs (spoilF zs len s st).2 ∧ w.grownBy w' (some B) := by
  by_cases hs : s.size = 0
  · exact spoil_zero w B len cap ao zs st s hC hl hz hs
  · exact spoil_some w B len cap ao zs st s hC hl hz (by omega) hs2

end Go.Proofs.YtdhbhifgmbppjaaDoor
