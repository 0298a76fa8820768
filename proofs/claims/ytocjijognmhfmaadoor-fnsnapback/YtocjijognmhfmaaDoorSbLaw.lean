/- The law FnSnapBack: a snapshot that is written is read as it was; nothing but a whole one is read. -/
import Derived.Test.YtocjijognmhfmaaDoorSbDraw
import Derived.Test.YtocjijognmhfmaaDoorSbMath
import Derived.Test.YtocjijognmhfmaaDoorKrLaw
namespace Go.Proofs.YtocjijognmhfmaaDoor
open Go.RowKit
set_option linter.unusedVariables false
set_option linter.unusedSimpArgs false

theorem hideS {p : Prop} (h : p) : Hid p := h

theorem big_c (w : World) (ao : Option Addr) (len cap : Nat) (b : Bool) (h : decide ((1048576 : Int) < len) = b) :
    Calls Tryd.prog 6 #[.slice ao len cap] w fun e w' => e = .returned (.bool b) ∧ w' = w := by
  go_enter Tryd.func6, Tryd.ntmps6
  go_wp2
  go_ret
  exact ⟨rfl, rfl⟩

theorem sl_to (s : ByteArray) (b : Nat) (x : Int) (hx : x = (b : Int)) (h : b ≤ s.size) : ∀ W, (Instr.slice 9 (.string s) none (some (.int .i64 x)) none).run Tryd.prog W = .ok (.string (s.extract 0 b)) W := fun W => by
  subst hx
  rw [run_slice_string_h (P := Tryd.prog) W 9 s Tryd.underlying9 .i64 (b : Int) (by omega) (by omega)]
  rw [Int.toNat_natCast]

theorem eqSS (x : S_Snap) (W : World) : (binOp .eql 25 (.agg #[.int .i64 x.f0, .int .i64 x.f1, .string x.f2]) (.agg #[.int .i64 x.f0, .int .i64 x.f1, .string x.f2])).run Tryd.prog W = .ok (.bool true) W := by
  go_simp

theorem sb_none (f0 f1 : Int) (f2 : ByteArray) (w : World) (a0 a2 : Addr) (hE : ErrB w a0 a2) (hG : 2 < w.heap.size) (hT : Tab w kL) (hD : f2.size ≤ 8001) (hk : ¬ okS1 ⟨f0, f1, f2⟩) (ho : ¬ okS ⟨f0, f1, f2⟩) :
    Hid (∀ W : World, Below w.heap.size w W → Calls Tryd.prog 8 #[.agg #[.int .i64 f0, .int .i64 f1, .string f2]] W fun e w' => e = .returned (.string ⟨#[]⟩) ∧ Below W.heap.size W w') ∧
      Hid (∀ W : World, Below w.heap.size w W → Calls Tryd.prog 9 #[.string ⟨#[]⟩] W fun e w' => e = .returned (.tuple #[.agg #[.int .i64 0, .int .i64 0, .string ⟨#[]⟩], .bool false]) ∧ Below W.heap.size W w') ∧
      Hid (∀ W : World, Below w.heap.size w W → Calls Tryd.prog 10 #[.agg #[.int .i64 f0, .int .i64 f1, .string f2]] W fun e w' => e = .returned (.bool false) ∧ Below W.heap.size W w') ∧
      (True) := by
  have up : ∀ W, Below w.heap.size w W → ErrB W a0 a2 ∧ 2 < W.heap.size ∧ Tab W kL := fun W hb => ⟨hE.keep hb, Nat.lt_of_lt_of_le hG hb.size, hT.below hb hG⟩
  have cSH := fun W (hb : Below w.heap.size w W) => implShowS_c ⟨f0, f1, f2⟩ W (by show f2.size ≤ _; omega) (up W hb).2.1 (up W hb).2.2
  have cSO := fun W (_ : Below w.heap.size w W) => specSnapOk_c ⟨f0, f1, f2⟩ W (by show f2.size ≤ _; unfold maxLen; omega)
  rw [snT_no hk] at cSH
  have cRD := fun W (hb : Below w.heap.size w W) => implReadS_no ⟨#[]⟩ W a0 a2 (up W hb).1 (up W hb).2.1 (up W hb).2.2 (by decide) sn_none
  rw [decide_eq_false ho] at cSO
  exact ⟨cSH, cRD, cSO, trivial⟩

theorem sb_zero (f0 f1 : Int) (f2 : ByteArray) (w : World) (a0 a2 : Addr) (hE : ErrB w a0 a2) (hG : 2 < w.heap.size) (hT : Tab w kL) (hD : f2.size ≤ 8001) (hk : ¬ okS1 ⟨f0, f1, f2⟩) (ho : okS ⟨f0, f1, f2⟩) :
    Hid (∀ W : World, Below w.heap.size w W → Calls Tryd.prog 8 #[.agg #[.int .i64 f0, .int .i64 f1, .string f2]] W fun e w' => e = .returned (.string ⟨#[]⟩) ∧ Below W.heap.size W w') ∧
      Hid (∀ W : World, Below w.heap.size w W → Calls Tryd.prog 9 #[.string ⟨#[]⟩] W fun e w' => e = .returned (.tuple #[.agg #[.int .i64 0, .int .i64 0, .string ⟨#[]⟩], .bool false]) ∧ Below W.heap.size W w') ∧
      Hid (∀ W : World, Below w.heap.size w W → Calls Tryd.prog 10 #[.agg #[.int .i64 f0, .int .i64 f1, .string f2]] W fun e w' => e = .returned (.bool true) ∧ Below W.heap.size W w') ∧
      ((f0 == 0) = true) := by
  have up : ∀ W, Below w.heap.size w W → ErrB W a0 a2 ∧ 2 < W.heap.size ∧ Tab W kL := fun W hb => ⟨hE.keep hb, Nat.lt_of_lt_of_le hG hb.size, hT.below hb hG⟩
  have cSH := fun W (hb : Below w.heap.size w W) => implShowS_c ⟨f0, f1, f2⟩ W (by show f2.size ≤ _; omega) (up W hb).2.1 (up W hb).2.2
  have cSO := fun W (_ : Below w.heap.size w W) => specSnapOk_c ⟨f0, f1, f2⟩ W (by show f2.size ≤ _; unfold maxLen; omega)
  rw [snT_no hk] at cSH
  have cRD := fun W (hb : Below w.heap.size w W) => implReadS_no ⟨#[]⟩ W a0 a2 (up W hb).1 (up W hb).2.1 (up W hb).2.2 (by decide) sn_none
  rw [decide_eq_true ho] at cSO
  have h0 : f0 = 0 := by
    rcases (okS_iff _).1 ho with h | h
    · exact absurd h hk
    · exact h.1
  exact ⟨cSH, cRD, cSO, by rw [h0]; rfl⟩

theorem sb_yes (f0 f1 : Int) (f2 : ByteArray) (w : World) (a0 a2 : Addr) (hE : ErrB w a0 a2) (hG : 2 < w.heap.size) (hT : Tab w kL) (hD : f2.size ≤ 8001) (hk : okS1 ⟨f0, f1, f2⟩) :
    ∃ T P M : ByteArray, Hid (∀ W : World, Below w.heap.size w W → Calls Tryd.prog 8 #[.agg #[.int .i64 f0, .int .i64 f1, .string f2]] W fun e w' => e = .returned (.string T) ∧ Below W.heap.size W w') ∧
      Hid (∀ W : World, Below w.heap.size w W → Calls Tryd.prog 9 #[.string T] W fun e w' => e = .returned (.tuple #[.agg #[.int .i64 f0, .int .i64 f1, .string f2], .bool true]) ∧ Below W.heap.size W w') ∧
      Hid (∀ W : World, Below w.heap.size w W → Calls Tryd.prog 10 #[.agg #[.int .i64 f0, .int .i64 f1, .string f2]] W fun e w' => e = .returned (.bool true) ∧ Below W.heap.size W w') ∧
      Hid (∀ W : World, Below w.heap.size w W → Calls Tryd.prog 9 #[.string P] W fun e w' => e = .returned (.tuple #[.agg #[.int .i64 0, .int .i64 0, .string ⟨#[]⟩], .bool false]) ∧ Below W.heap.size W w') ∧
      Hid (∀ W : World, Below w.heap.size w W → Calls Tryd.prog 9 #[.string M] W fun e w' => e = .returned (.tuple #[.agg #[.int .i64 0, .int .i64 0, .string ⟨#[]⟩], .bool false]) ∧ Below W.heap.size W w') ∧
      ((f0 == 0) = false) ∧
      (T.toList.isEmpty = false) ∧
      (T.size ≤ 1048576) ∧
      (1 ≤ T.size) ∧
      (∀ W, (Instr.slice 9 (.string T) none (some (.int .i64 ((T.size : Int) - 1))) none).run Tryd.prog W = .ok (.string P) W) ∧
      (∀ W, (Op.stringOp .add T ⟨#[120]⟩).run Tryd.prog W = .ok (.string M) W) ∧
      (∀ W, (binOp .eql 25 (.agg #[.int .i64 f0, .int .i64 f1, .string f2]) (.agg #[.int .i64 f0, .int .i64 f1, .string f2])).run Tryd.prog W = .ok (.bool true) W) := by
  have up : ∀ W, Below w.heap.size w W → ErrB W a0 a2 ∧ 2 < W.heap.size ∧ Tab W kL := fun W hb => ⟨hE.keep hb, Nat.lt_of_lt_of_le hG hb.size, hT.below hb hG⟩
  have cSH := fun W (hb : Below w.heap.size w W) => implShowS_c ⟨f0, f1, f2⟩ W (by show f2.size ≤ _; omega) (up W hb).2.1 (up W hb).2.2
  have cSO := fun W (_ : Below w.heap.size w W) => specSnapOk_c ⟨f0, f1, f2⟩ W (by show f2.size ≤ _; unfold maxLen; omega)
  have hn := sn_back hk
  have hsz : (snT ⟨f0, f1, f2⟩).size = 52 + f2.size := snT_size hk
  have hext : ((snT ⟨f0, f1, f2⟩).extract 0 ((snT ⟨f0, f1, f2⟩).size - 1)).size ≤ 1048576 := by rw [ext_size _ _ _ (by omega)]; omega
  have happ : (snT ⟨f0, f1, f2⟩ ++ ⟨#[120]⟩).size ≤ 1048576 := by rw [ByteArray.size_append, show (⟨#[120]⟩ : ByteArray).size = 1 from rfl]; omega
  have hne : ¬ snT ⟨f0, f1, f2⟩ = ⟨#[]⟩ := fun e => by have h2 := congrArg ByteArray.size e; have h3 : (⟨#[]⟩ : ByteArray).size = 0 := rfl; omega
  have cRD := fun W (hb : Below w.heap.size w W) => implReadS_yes (snT ⟨f0, f1, f2⟩) W a0 a2 (up W hb).1 (up W hb).2.1 (up W hb).2.2 (by omega) hn.1
  rw [hn.2] at cRD
  rw [decide_eq_true (show okS ⟨f0, f1, f2⟩ from (okS_iff _).2 (.inl hk))] at cSO
  have h1 : 1 ≤ f0 := hk.1.1
  exact ⟨snT ⟨f0, f1, f2⟩, _, _, cSH, cRD, cSO,
    fun W hb => implReadS_no _ W a0 a2 (up W hb).1 (up W hb).2.1 (up W hb).2.2 hext (sn_part hk),
    fun W hb => implReadS_no _ W a0 a2 (up W hb).1 (up W hb).2.1 (up W hb).2.2 happ (sn_more hk),
    by simp; omega, emptyK_no hne, by omega, by omega, sl_to _ _ _ (by omega) (by omega), add_sm _ _ (by rw [show (⟨#[120]⟩ : ByteArray).size = 1 from rfl]; omega), fun W => eqSS ⟨f0, f1, f2⟩ W⟩

set_option maxRecDepth 20000 in
set_option maxHeartbeats 4000000 in
theorem snapback_law (w : World) (ao : Option Addr) (len cap : Nat) (zs : List Int) (hrow : IsRow w ao len cap zs) (a0 a2 : Addr) (hE : ErrB w a0 a2) (hG : 2 < w.heap.size) (hT : Tab w kL) :
    Calls Tryd.prog 3 #[.slice ao len cap] w fun e w' => e = .returned (.bool true) ∧ Below w.heap.size w w' := by
  by_cases hbig : (1048576 : Int) < (len : Int)
  · have hd : decide ((1048576 : Int) < len) = true := by simp; omega
    clear hrow hE hG hT
    go_enter Tryd.func3, Tryd.ntmps3
    go_wp2_with fail
    refine (big_c _ ao len cap true hd).mono ?_
    rintro e w1 ⟨rfl, hw⟩
    replace hw := hw.symm
    subst hw
    go_wp2
    go_ret
    exact ⟨rfl, Below.refl _ _⟩
  have HD : Hid (decide ((1048576 : Int) < len) = false) := by show _ = _; simp; omega
  have HDR := hideS (drawShow_c w len cap ao zs hrow.code (by omega) hrow.range)
  have HE : Hid (ErrB w a0 a2 ∧ 2 < w.heap.size ∧ Tab w kL) := ⟨hE, hG, hT⟩
  clear hbig hrow hE hG hT
  go_enter Tryd.func3, Tryd.ntmps3
  go_wp2_with fail
  refine (big_c _ ao len cap false HD.out).mono ?_
  rintro e w0 ⟨rfl, hw⟩
  replace hw := hw.symm
  subst hw
  go_wp2_with fail
  refine HDR.out.mono ?_
  rintro e w1 ⟨⟨f0, f1, f2⟩, rfl, hD, b1⟩
  have HB1 : Hid (Below w.heap.size w w1) := b1
  clear b1 HDR
  replace hD : f2.size ≤ 8001 := hD
  by_cases hk : okS1 ⟨f0, f1, f2⟩
  rotate_left
  · by_cases ho : okS ⟨f0, f1, f2⟩
    · obtain ⟨HSH, HRD, HSO, h0⟩ := sb_zero f0 f1 f2 w a0 a2 HE.out.1 HE.out.2.1 HE.out.2.2 hD hk ho
      clear hk ho hD HE
      obtain ⟨W2, hW⟩ : ∃ W, W = w1.alloc (.cells #[.int .i64 f0, .int .i64 f1, .string f2] 25) := ⟨_, rfl⟩
      have HW2 : Hid (w1.alloc (.cells #[.int .i64 f0, .int .i64 f1, .string f2] 25) = W2) := hW.symm
      have HX2 : Hid (W2.heap[w1.heap.size]? = some (.cells #[.int .i64 f0, .int .i64 f1, .string f2] 25)) := by rw [hW]; exact alloc_lastV _ _
      have BW2 : Hid (Below w1.heap.size w1 W2) := by rw [hW]; exact (Below.refl _ _).alloc (Nat.le_refl _) _
      clear hW
      obtain ⟨x0, x1, x2⟩ := box3V HX2.out
      have HB2 : Hid (Below w.heap.size w W2) := HB1.out.trans (BW2.out.mono HB1.out.size)
      go_wp2_with fail
      rw [HW2.out]
      refine (HSH.out W2 HB2.out).mono ?_
      rintro e w3 ⟨rfl, b3⟩
      have HX3 : Hid _ := (b3.block _ (lt_of_someV HX2.out)).trans HX2.out
      have HB3 : Hid (Below w.heap.size w w3) := HB2.out.trans (b3.mono HB2.out.size)
      clear b3 x0 x1 x2
      go_wp2_with fail
      refine (HRD.out w3 HB3.out).mono ?_
      rintro e w4 ⟨rfl, b4⟩
      have HX4 : Hid _ := (b4.block _ (lt_of_someV HX3.out)).trans HX3.out
      have HB4 : Hid (Below w.heap.size w w4) := HB3.out.trans (b4.mono HB3.out.size)
      clear b4
      obtain ⟨W5, hW⟩ : ∃ W, W = w4.alloc (.cells #[.int .i64 0, .int .i64 0, .string ⟨#[]⟩] 25) := ⟨_, rfl⟩
      have HW5 : Hid (w4.alloc (.cells #[.int .i64 0, .int .i64 0, .string ⟨#[]⟩] 25) = W5) := hW.symm
      have HY5 : Hid (W5.heap[w4.heap.size]? = some (.cells #[.int .i64 0, .int .i64 0, .string ⟨#[]⟩] 25)) := by rw [hW]; exact alloc_lastV _ _
      have BW5 : Hid (Below w4.heap.size w4 W5) := by rw [hW]; exact (Below.refl _ _).alloc (Nat.le_refl _) _
      clear hW
      have HX5 : Hid _ := (BW5.out.block _ (lt_of_someV HX4.out)).trans HX4.out
      have HB5 : Hid (Below w.heap.size w W5) := HB4.out.trans (BW5.out.mono HB4.out.size)
      obtain ⟨x0, x1, x2⟩ := box3V HX4.out
      have lx : w1.heap.size < w4.heap.size := lt_of_someV HX4.out
      have nx : w1.heap.size ≠ w4.heap.size := by omega
      go_wp2_with fail
      rw [HW5.out]
      refine (HSO.out W5 HB5.out).mono ?_
      rintro e w6 ⟨rfl, b6⟩
      have HX6 : Hid _ := (b6.block _ (lt_of_someV HX5.out)).trans HX5.out
      have HY6 : Hid _ := (b6.block _ (lt_of_someV HY5.out)).trans HY5.out
      have HB6 : Hid (Below w.heap.size w w6) := HB5.out.trans (b6.mono HB5.out.size)
      clear b6 x0 x1 x2 lx nx
      obtain ⟨x0, x1, x2⟩ := box3V HX6.out
      obtain ⟨y0, y1, y2⟩ := box3V HY6.out
      go_wp2
      go_ret
      exact ⟨rfl, HB6.out⟩
    · obtain ⟨HSH, HRD, HSO, h0⟩ := sb_none f0 f1 f2 w a0 a2 HE.out.1 HE.out.2.1 HE.out.2.2 hD hk ho
      clear hk ho hD HE h0
      obtain ⟨W2, hW⟩ : ∃ W, W = w1.alloc (.cells #[.int .i64 f0, .int .i64 f1, .string f2] 25) := ⟨_, rfl⟩
      have HW2 : Hid (w1.alloc (.cells #[.int .i64 f0, .int .i64 f1, .string f2] 25) = W2) := hW.symm
      have HX2 : Hid (W2.heap[w1.heap.size]? = some (.cells #[.int .i64 f0, .int .i64 f1, .string f2] 25)) := by rw [hW]; exact alloc_lastV _ _
      have BW2 : Hid (Below w1.heap.size w1 W2) := by rw [hW]; exact (Below.refl _ _).alloc (Nat.le_refl _) _
      clear hW
      obtain ⟨x0, x1, x2⟩ := box3V HX2.out
      have HB2 : Hid (Below w.heap.size w W2) := HB1.out.trans (BW2.out.mono HB1.out.size)
      go_wp2_with fail
      rw [HW2.out]
      refine (HSH.out W2 HB2.out).mono ?_
      rintro e w3 ⟨rfl, b3⟩
      have HX3 : Hid _ := (b3.block _ (lt_of_someV HX2.out)).trans HX2.out
      have HB3 : Hid (Below w.heap.size w w3) := HB2.out.trans (b3.mono HB2.out.size)
      clear b3 x0 x1 x2
      go_wp2_with fail
      refine (HRD.out w3 HB3.out).mono ?_
      rintro e w4 ⟨rfl, b4⟩
      have HX4 : Hid _ := (b4.block _ (lt_of_someV HX3.out)).trans HX3.out
      have HB4 : Hid (Below w.heap.size w w4) := HB3.out.trans (b4.mono HB3.out.size)
      clear b4
      obtain ⟨W5, hW⟩ : ∃ W, W = w4.alloc (.cells #[.int .i64 0, .int .i64 0, .string ⟨#[]⟩] 25) := ⟨_, rfl⟩
      have HW5 : Hid (w4.alloc (.cells #[.int .i64 0, .int .i64 0, .string ⟨#[]⟩] 25) = W5) := hW.symm
      have HY5 : Hid (W5.heap[w4.heap.size]? = some (.cells #[.int .i64 0, .int .i64 0, .string ⟨#[]⟩] 25)) := by rw [hW]; exact alloc_lastV _ _
      have BW5 : Hid (Below w4.heap.size w4 W5) := by rw [hW]; exact (Below.refl _ _).alloc (Nat.le_refl _) _
      clear hW
      have HX5 : Hid _ := (BW5.out.block _ (lt_of_someV HX4.out)).trans HX4.out
      have HB5 : Hid (Below w.heap.size w W5) := HB4.out.trans (BW5.out.mono HB4.out.size)
      obtain ⟨x0, x1, x2⟩ := box3V HX4.out
      have lx : w1.heap.size < w4.heap.size := lt_of_someV HX4.out
      have nx : w1.heap.size ≠ w4.heap.size := by omega
      go_wp2_with fail
      rw [HW5.out]
      refine (HSO.out W5 HB5.out).mono ?_
      rintro e w6 ⟨rfl, b6⟩
      have HX6 : Hid _ := (b6.block _ (lt_of_someV HX5.out)).trans HX5.out
      have HY6 : Hid _ := (b6.block _ (lt_of_someV HY5.out)).trans HY5.out
      have HB6 : Hid (Below w.heap.size w w6) := HB5.out.trans (b6.mono HB5.out.size)
      clear b6 x0 x1 x2 lx nx
      obtain ⟨x0, x1, x2⟩ := box3V HX6.out
      obtain ⟨y0, y1, y2⟩ := box3V HY6.out
      go_wp2
      go_ret
      exact ⟨rfl, HB6.out⟩
  obtain ⟨T, P, M, HSH, HRD, HSO, HRP, HRM, h0, he, hs, hs1, hsl, had, heq⟩ := sb_yes f0 f1 f2 w a0 a2 HE.out.1 HE.out.2.1 HE.out.2.2 hD hk
  clear hk hD HE
  obtain ⟨W2, hW⟩ : ∃ W, W = w1.alloc (.cells #[.int .i64 f0, .int .i64 f1, .string f2] 25) := ⟨_, rfl⟩
  have HW2 : Hid (w1.alloc (.cells #[.int .i64 f0, .int .i64 f1, .string f2] 25) = W2) := hW.symm
  have HX2 : Hid (W2.heap[w1.heap.size]? = some (.cells #[.int .i64 f0, .int .i64 f1, .string f2] 25)) := by rw [hW]; exact alloc_lastV _ _
  have BW2 : Hid (Below w1.heap.size w1 W2) := by rw [hW]; exact (Below.refl _ _).alloc (Nat.le_refl _) _
  clear hW
  obtain ⟨x0, x1, x2⟩ := box3V HX2.out
  have HB2 : Hid (Below w.heap.size w W2) := HB1.out.trans (BW2.out.mono HB1.out.size)
  go_wp2_with fail
  rw [HW2.out]
  refine (HSH.out W2 HB2.out).mono ?_
  rintro e w3 ⟨rfl, b3⟩
  have HX3 : Hid _ := (b3.block _ (lt_of_someV HX2.out)).trans HX2.out
  have HB3 : Hid (Below w.heap.size w w3) := HB2.out.trans (b3.mono HB2.out.size)
  clear b3 x0 x1 x2
  go_wp2_with fail
  refine (HRD.out w3 HB3.out).mono ?_
  rintro e w4 ⟨rfl, b4⟩
  have HX4 : Hid _ := (b4.block _ (lt_of_someV HX3.out)).trans HX3.out
  have HB4 : Hid (Below w.heap.size w w4) := HB3.out.trans (b4.mono HB3.out.size)
  clear b4
  obtain ⟨W5, hW⟩ : ∃ W, W = w4.alloc (.cells #[.int .i64 f0, .int .i64 f1, .string f2] 25) := ⟨_, rfl⟩
  have HW5 : Hid (w4.alloc (.cells #[.int .i64 f0, .int .i64 f1, .string f2] 25) = W5) := hW.symm
  have HY5 : Hid (W5.heap[w4.heap.size]? = some (.cells #[.int .i64 f0, .int .i64 f1, .string f2] 25)) := by rw [hW]; exact alloc_lastV _ _
  have BW5 : Hid (Below w4.heap.size w4 W5) := by rw [hW]; exact (Below.refl _ _).alloc (Nat.le_refl _) _
  clear hW
  have HX5 : Hid _ := (BW5.out.block _ (lt_of_someV HX4.out)).trans HX4.out
  have HB5 : Hid (Below w.heap.size w W5) := HB4.out.trans (BW5.out.mono HB4.out.size)
  obtain ⟨x0, x1, x2⟩ := box3V HX4.out
  have lx : w1.heap.size < w4.heap.size := lt_of_someV HX4.out
  have nx : w1.heap.size ≠ w4.heap.size := by omega
  go_wp2_with fail
  rw [HW5.out]
  refine (HSO.out W5 HB5.out).mono ?_
  rintro e w6 ⟨rfl, b6⟩
  have HX6 : Hid _ := (b6.block _ (lt_of_someV HX5.out)).trans HX5.out
  have HY6 : Hid _ := (b6.block _ (lt_of_someV HY5.out)).trans HY5.out
  have HB6 : Hid (Below w.heap.size w w6) := HB5.out.trans (b6.mono HB5.out.size)
  clear b6 x0 x1 x2 lx nx
  obtain ⟨x0, x1, x2⟩ := box3V HX6.out
  obtain ⟨y0, y1, y2⟩ := box3V HY6.out
  go_wp2_with fail
  refine (HRP.out w6 HB6.out).mono ?_
  rintro e w7 ⟨rfl, b7⟩
  have HX7 : Hid _ := (b7.block _ (lt_of_someV HX6.out)).trans HX6.out
  have HY7 : Hid _ := (b7.block _ (lt_of_someV HY6.out)).trans HY6.out
  have HB7 : Hid (Below w.heap.size w w7) := HB6.out.trans (b7.mono HB6.out.size)
  clear b7 x0 x1 x2 y0 y1 y2
  obtain ⟨W8, hW⟩ : ∃ W, W = w7.alloc (.cells #[.int .i64 0, .int .i64 0, .string ⟨#[]⟩] 25) := ⟨_, rfl⟩
  have HW8 : Hid (w7.alloc (.cells #[.int .i64 0, .int .i64 0, .string ⟨#[]⟩] 25) = W8) := hW.symm
  have HP8 : Hid (W8.heap[w7.heap.size]? = some (.cells #[.int .i64 0, .int .i64 0, .string ⟨#[]⟩] 25)) := by rw [hW]; exact alloc_lastV _ _
  have BW8 : Hid (Below w7.heap.size w7 W8) := by rw [hW]; exact (Below.refl _ _).alloc (Nat.le_refl _) _
  clear hW
  have HX8 : Hid _ := (BW8.out.block _ (lt_of_someV HX7.out)).trans HX7.out
  have HY8 : Hid _ := (BW8.out.block _ (lt_of_someV HY7.out)).trans HY7.out
  have HB8 : Hid (Below w.heap.size w W8) := HB7.out.trans (BW8.out.mono HB7.out.size)
  go_wp2_with fail
  rw [HW8.out]
  refine (HRM.out W8 HB8.out).mono ?_
  rintro e w9 ⟨rfl, b9⟩
  have HX9 : Hid _ := (b9.block _ (lt_of_someV HX8.out)).trans HX8.out
  have HY9 : Hid _ := (b9.block _ (lt_of_someV HY8.out)).trans HY8.out
  have HB9 : Hid (Below w.heap.size w w9) := HB8.out.trans (b9.mono HB8.out.size)
  clear b9
  have lx : w1.heap.size < w9.heap.size := lt_of_someV HX9.out
  have ly : w4.heap.size < w9.heap.size := lt_of_someV HY9.out
  have nx : w1.heap.size ≠ w9.heap.size := by omega
  have ny : w4.heap.size ≠ w9.heap.size := by omega
  obtain ⟨x0, x1, x2⟩ := box3V HX9.out
  obtain ⟨y0, y1, y2⟩ := box3V HY9.out
  go_wp2
  go_ret
  exact ⟨rfl, HB9.out.alloc HB9.out.size _⟩

end Go.Proofs.YtocjijognmhfmaaDoor
