/- The walk of the law on numbers. -/
import Derived.Test.YtdhiobfalffebabDraw5Walk
import Derived.Test.YtdhiobfalffebabNumMath
import Derived.Test.YtdhiobfalffebabRdWalk
import Derived.Test.YtdhiobfalffebabFixWalk
import Derived.Test.YtdhiobfalffebabHexWalk
import Derived.Test.YtdhiobfalffebabRvWalk
import Derived.Test.YtdhiobfalffebabUnWalk
import Derived.Test.YtdhiobfalffebabRdecWalk
namespace Go.Proofs.Ytdhiobfalffebab
open Go.RowKit
set_option linter.unusedVariables false

theorem CodeAt.later {w w' : World} {ao : Option Addr} {len : Nat} {zs : List Int} (hc : CodeAt w w.heap.size ao len zs) (hb : Below w.heap.size w w') : CodeAt w' w'.heap.size ao len zs := fun j hj => by
  obtain ⟨b, off, e, hlt, hcell⟩ := hc j hj
  have := hb.size
  exact ⟨b, off, e, by omega, (hb.cell (p := ⟨b, off + j, none⟩) hlt).trans hcell⟩

theorem bel_grown {w w1 w2 : World} (h1 : Below w.heap.size w w1) (h2 : w1.grownBy w2 none) : Below w.heap.size w w2 := h1.trans ((below_of_grown h2).mono h1.size)

theorem bel_below {w w1 w2 : World} (h1 : Below w.heap.size w w1) (h2 : Below w1.heap.size w1 w2) : Below w.heap.size w w2 := h1.trans (h2.mono h1.size)

set_option maxHeartbeats 1000000 in
set_option maxRecDepth 100000 in
theorem lawNum_big (w : World) (ao : Option Addr) (len cap : Nat) (hl : 1048576 < len) (hm : len ≤ maxLen) :
    Calls Try.prog 3 #[.slice ao len cap] w fun e w' => e = .returned (.bool true) ∧ Below w.heap.size w w' := by
  unfold maxLen at hm
  have hb : (1048576 : Int) < (len : Int) := by omega
  go_enter Try.func3, Try.ntmps3
  go_wp2_with (go_at_call 4; go_in)
  go_ret
  exact ⟨rfl, Below.refl _ _⟩

set_option maxHeartbeats 4000000 in
set_option maxRecDepth 100000 in
theorem num_lowest (w : World) (ao : Option Addr) (len cap : Nat) (zs : List Int) (n x k y d z j : Int) (is : Bool) (jn : Nat) (T S ST F FT Dn HX D Z : ByteArray) (hl : ¬ ((1048576 : Int) < (len : Int))) (HC : Hid (CodeAt w w.heap.size ao len zs)) (r0 : n ≤ -1000000000)
    (HD1 : Hid (∀ w, CodeAt w w.heap.size ao len zs → Calls Try.prog 5 #[.slice ao len cap] w fun e w' => e = .returned (.int .i64 n) ∧ w.grownBy w' none))
    (HD2 : Hid (∀ w, CodeAt w w.heap.size ao len zs → Calls Try.prog 6 #[.slice ao len cap] w fun e w' => e = .returned (.string T) ∧ w.grownBy w' none))
    (HD3 : Hid (∀ w, CodeAt w w.heap.size ao len zs → Calls Try.prog 15 #[.slice ao len cap] w fun e w' => e = .returned (.string D) ∧ w.grownBy w' none))
    (HV : Hid (∀ w, Calls Try.prog 7 #[.int .i64 n] w fun e w' => e = .returned (.string ⟨#[]⟩) ∧ Below w.heap.size w w'))
    (a1 : ∀ w, (Op.stringOp .add ⟨#[]⟩ T).run Try.prog w = .ok (.string ST) w)
    (HR : Hid (∀ w, Calls Try.prog 8 #[.string ST] w fun e w' => e = .returned (.tuple #[.int .i64 x, .int .i64 k]) ∧ w' = w))
    (HF : Hid (∀ w, Calls Try.prog 9 #[.int .i64 n, .int .i64 7] w fun e w' => e = .returned (.string ⟨#[]⟩) ∧ Below w.heap.size w w'))
    (HG : Hid (∀ w, Calls Try.prog 10 #[.string ST, .int .i64 7] w fun e w' => e = .returned (.tuple #[.int .i64 y, .bool is]) ∧ w' = w))
    (HDc : Hid (∀ w, Calls Try.prog 12 #[.int .i64 n] w fun e w' => e = .returned (.string Dn) ∧ Below w.heap.size w w'))
    (HRd : Hid (∀ w, Calls Try.prog 11 #[.string Dn] w fun e w' => e = .returned (.tuple #[.int .i64 0, .bool false]) ∧ Below w.heap.size w w'))
    (HX1 : Hid (∀ w, Calls Try.prog 14 #[.string T] w fun e w' => e = .returned (.string HX) ∧ Below w.heap.size w w'))
    (HU : Hid (∀ w, Calls Try.prog 13 #[.string HX] w fun e w' => e = .returned (.tuple #[.string T, .bool true]) ∧ Below w.heap.size w w'))
    (HR2 : Hid (∀ w, Calls Try.prog 8 #[.string D] w fun e w' => e = .returned (.tuple #[.int .i64 z, .int .i64 j]) ∧ w' = w))
    (HV2 : Hid (∀ w, Calls Try.prog 7 #[.int .i64 z] w fun e w' => e = .returned (.string Z) ∧ Below w.heap.size w w'))
    (hj : j = 0 ∨ (j = (jn : Int) ∧ 0 < jn ∧ jn ≤ D.size ∧ (Z.toList == (D.extract 0 jn).toList) = true)) :
    Calls Try.prog 3 #[.slice ao len cap] w fun e w' => e = .returned (.bool true) ∧ Below w.heap.size w w' := by
  go_enter Try.func3, Try.ntmps3
  go_wp2_with (go_at_call 4; go_in)
  refine (HD1.out _ HC.out).mono ?_
  rintro e w1 ⟨rfl, hg1⟩
  have B1 : Hid (Below w.heap.size w w1) := below_of_grown hg1
  clear hg1
  go_wp2_with fail
  refine (HD2.out _ (HC.out.later B1.out)).mono ?_
  rintro e w2 ⟨rfl, hg2⟩
  have B2 : Hid (Below w.heap.size w w2) := bel_grown B1.out hg2
  clear hg2
  go_wp2_with fail
  refine (HV.out _).mono ?_
  rintro e w3 ⟨rfl, hbw3⟩
  have B3 : Hid (Below w.heap.size w w3) := bel_below B2.out hbw3
  clear hbw3
  go_wp2_with fail
  refine (HR.out _).mono ?_
  rintro e w' ⟨rfl, hq⟩
  replace hq := hq.symm
  subst hq
  go_wp2_with fail
  refine (HF.out _).mono ?_
  rintro e w5 ⟨rfl, hbw5⟩
  have B5 : Hid (Below w.heap.size w w5) := bel_below B3.out hbw5
  clear hbw5
  go_wp2_with fail
  refine (HG.out _).mono ?_
  rintro e w' ⟨rfl, hq⟩
  replace hq := hq.symm
  subst hq
  go_wp2_with fail
  refine (HDc.out _).mono ?_
  rintro e w7 ⟨rfl, hbw7⟩
  have B7 : Hid (Below w.heap.size w w7) := bel_below B5.out hbw7
  clear hbw7
  go_wp2_with fail
  refine (HRd.out _).mono ?_
  rintro e w8 ⟨rfl, hbw8⟩
  have B8 : Hid (Below w.heap.size w w8) := bel_below B7.out hbw8
  clear hbw8
  go_wp2_with fail
  refine (HX1.out _).mono ?_
  rintro e w9 ⟨rfl, hbw9⟩
  have B9 : Hid (Below w.heap.size w w9) := bel_below B8.out hbw9
  clear hbw9
  go_wp2_with fail
  refine (HU.out _).mono ?_
  rintro e w10 ⟨rfl, hbw10⟩
  have B10 : Hid (Below w.heap.size w w10) := bel_below B9.out hbw10
  clear hbw10
  go_wp2_with fail
  refine (HD3.out _ (HC.out.later B10.out)).mono ?_
  rintro e w11 ⟨rfl, hg11⟩
  have B11 : Hid (Below w.heap.size w w11) := bel_grown B10.out hg11
  clear hg11
  go_wp2_with fail
  refine (HR2.out _).mono ?_
  rintro e w' ⟨rfl, hq⟩
  replace hq := hq.symm
  subst hq
  rcases hj with hj | ⟨hj, hj0, hjs, hjt⟩
  · have j0 : (j == 0) = true := by simp [hj]
    clear hj
    go_wp2_with fail
    go_ret
    exact ⟨rfl, B11.out⟩
  · subst hj
    have j0 : ((jn : Int) == 0) = false := by rw [beq_eq_false_iff_ne]; omega
    go_wp2_with fail
    refine (HV2.out _).mono ?_
    rintro e w12 ⟨rfl, hb12⟩
    have B12 : Hid (Below w.heap.size w w12) := bel_below B11.out hb12
    clear hb12
    go_wp2_with fail
    refine (HD3.out _ (HC.out.later B12.out)).mono ?_
    rintro e w13 ⟨rfl, hg13⟩
    have B13 : Hid (Below w.heap.size w w13) := bel_grown B12.out hg13
    clear hg13
    go_wp2
    go_ret
    exact ⟨rfl, B13.out⟩

set_option maxHeartbeats 4000000 in
set_option maxRecDepth 100000 in
theorem num_low (w : World) (ao : Option Addr) (len cap : Nat) (zs : List Int) (n x k y d z j : Int) (is : Bool) (jn : Nat) (T S ST F FT Dn HX D Z : ByteArray) (hl : ¬ ((1048576 : Int) < (len : Int))) (HC : Hid (CodeAt w w.heap.size ao len zs)) (r0 : -1000000000 < n) (r1 : n < 0)
    (HD1 : Hid (∀ w, CodeAt w w.heap.size ao len zs → Calls Try.prog 5 #[.slice ao len cap] w fun e w' => e = .returned (.int .i64 n) ∧ w.grownBy w' none))
    (HD2 : Hid (∀ w, CodeAt w w.heap.size ao len zs → Calls Try.prog 6 #[.slice ao len cap] w fun e w' => e = .returned (.string T) ∧ w.grownBy w' none))
    (HD3 : Hid (∀ w, CodeAt w w.heap.size ao len zs → Calls Try.prog 15 #[.slice ao len cap] w fun e w' => e = .returned (.string D) ∧ w.grownBy w' none))
    (HV : Hid (∀ w, Calls Try.prog 7 #[.int .i64 n] w fun e w' => e = .returned (.string ⟨#[]⟩) ∧ Below w.heap.size w w'))
    (a1 : ∀ w, (Op.stringOp .add ⟨#[]⟩ T).run Try.prog w = .ok (.string ST) w)
    (HR : Hid (∀ w, Calls Try.prog 8 #[.string ST] w fun e w' => e = .returned (.tuple #[.int .i64 x, .int .i64 k]) ∧ w' = w))
    (HF : Hid (∀ w, Calls Try.prog 9 #[.int .i64 n, .int .i64 7] w fun e w' => e = .returned (.string ⟨#[]⟩) ∧ Below w.heap.size w w'))
    (HG : Hid (∀ w, Calls Try.prog 10 #[.string ST, .int .i64 7] w fun e w' => e = .returned (.tuple #[.int .i64 y, .bool is]) ∧ w' = w))
    (HDc : Hid (∀ w, Calls Try.prog 12 #[.int .i64 n] w fun e w' => e = .returned (.string Dn) ∧ Below w.heap.size w w'))
    (HRd : Hid (∀ w, Calls Try.prog 11 #[.string Dn] w fun e w' => e = .returned (.tuple #[.int .i64 n, .bool true]) ∧ Below w.heap.size w w'))
    (HX1 : Hid (∀ w, Calls Try.prog 14 #[.string T] w fun e w' => e = .returned (.string HX) ∧ Below w.heap.size w w'))
    (HU : Hid (∀ w, Calls Try.prog 13 #[.string HX] w fun e w' => e = .returned (.tuple #[.string T, .bool true]) ∧ Below w.heap.size w w'))
    (HR2 : Hid (∀ w, Calls Try.prog 8 #[.string D] w fun e w' => e = .returned (.tuple #[.int .i64 z, .int .i64 j]) ∧ w' = w))
    (HV2 : Hid (∀ w, Calls Try.prog 7 #[.int .i64 z] w fun e w' => e = .returned (.string Z) ∧ Below w.heap.size w w'))
    (hj : j = 0 ∨ (j = (jn : Int) ∧ 0 < jn ∧ jn ≤ D.size ∧ (Z.toList == (D.extract 0 jn).toList) = true)) :
    Calls Try.prog 3 #[.slice ao len cap] w fun e w' => e = .returned (.bool true) ∧ Below w.heap.size w w' := by
  go_enter Try.func3, Try.ntmps3
  go_wp2_with (go_at_call 4; go_in)
  refine (HD1.out _ HC.out).mono ?_
  rintro e w1 ⟨rfl, hg1⟩
  have B1 : Hid (Below w.heap.size w w1) := below_of_grown hg1
  clear hg1
  go_wp2_with fail
  refine (HD2.out _ (HC.out.later B1.out)).mono ?_
  rintro e w2 ⟨rfl, hg2⟩
  have B2 : Hid (Below w.heap.size w w2) := bel_grown B1.out hg2
  clear hg2
  go_wp2_with fail
  refine (HV.out _).mono ?_
  rintro e w3 ⟨rfl, hbw3⟩
  have B3 : Hid (Below w.heap.size w w3) := bel_below B2.out hbw3
  clear hbw3
  go_wp2_with fail
  refine (HR.out _).mono ?_
  rintro e w' ⟨rfl, hq⟩
  replace hq := hq.symm
  subst hq
  go_wp2_with fail
  refine (HF.out _).mono ?_
  rintro e w5 ⟨rfl, hbw5⟩
  have B5 : Hid (Below w.heap.size w w5) := bel_below B3.out hbw5
  clear hbw5
  go_wp2_with fail
  refine (HG.out _).mono ?_
  rintro e w' ⟨rfl, hq⟩
  replace hq := hq.symm
  subst hq
  go_wp2_with fail
  refine (HDc.out _).mono ?_
  rintro e w7 ⟨rfl, hbw7⟩
  have B7 : Hid (Below w.heap.size w w7) := bel_below B5.out hbw7
  clear hbw7
  go_wp2_with fail
  refine (HRd.out _).mono ?_
  rintro e w8 ⟨rfl, hbw8⟩
  have B8 : Hid (Below w.heap.size w w8) := bel_below B7.out hbw8
  clear hbw8
  go_wp2_with fail
  refine (HX1.out _).mono ?_
  rintro e w9 ⟨rfl, hbw9⟩
  have B9 : Hid (Below w.heap.size w w9) := bel_below B8.out hbw9
  clear hbw9
  go_wp2_with fail
  refine (HU.out _).mono ?_
  rintro e w10 ⟨rfl, hbw10⟩
  have B10 : Hid (Below w.heap.size w w10) := bel_below B9.out hbw10
  clear hbw10
  go_wp2_with fail
  refine (HD3.out _ (HC.out.later B10.out)).mono ?_
  rintro e w11 ⟨rfl, hg11⟩
  have B11 : Hid (Below w.heap.size w w11) := bel_grown B10.out hg11
  clear hg11
  go_wp2_with fail
  refine (HR2.out _).mono ?_
  rintro e w' ⟨rfl, hq⟩
  replace hq := hq.symm
  subst hq
  rcases hj with hj | ⟨hj, hj0, hjs, hjt⟩
  · have j0 : (j == 0) = true := by simp [hj]
    clear hj
    go_wp2_with fail
    go_ret
    exact ⟨rfl, B11.out⟩
  · subst hj
    have j0 : ((jn : Int) == 0) = false := by rw [beq_eq_false_iff_ne]; omega
    go_wp2_with fail
    refine (HV2.out _).mono ?_
    rintro e w12 ⟨rfl, hb12⟩
    have B12 : Hid (Below w.heap.size w w12) := bel_below B11.out hb12
    clear hb12
    go_wp2_with fail
    refine (HD3.out _ (HC.out.later B12.out)).mono ?_
    rintro e w13 ⟨rfl, hg13⟩
    have B13 : Hid (Below w.heap.size w w13) := bel_grown B12.out hg13
    clear hg13
    go_wp2
    go_ret
    exact ⟨rfl, B13.out⟩

set_option maxHeartbeats 4000000 in
set_option maxRecDepth 100000 in
theorem num_small (w : World) (ao : Option Addr) (len cap : Nat) (zs : List Int) (n x k y d z j : Int) (is : Bool) (jn : Nat) (T S ST F FT Dn HX D Z : ByteArray) (hl : ¬ ((1048576 : Int) < (len : Int))) (HC : Hid (CodeAt w w.heap.size ao len zs)) (r0 : 0 ≤ n) (r1 : n < 1000000000) (eS : S.toList.isEmpty = false) (kS : (k != (S.size : Int)) = false) (eF : F.toList.isEmpty = false) (kF : ((F.size : Int) != 7) = false)
    (HD1 : Hid (∀ w, CodeAt w w.heap.size ao len zs → Calls Try.prog 5 #[.slice ao len cap] w fun e w' => e = .returned (.int .i64 n) ∧ w.grownBy w' none))
    (HD2 : Hid (∀ w, CodeAt w w.heap.size ao len zs → Calls Try.prog 6 #[.slice ao len cap] w fun e w' => e = .returned (.string T) ∧ w.grownBy w' none))
    (HD3 : Hid (∀ w, CodeAt w w.heap.size ao len zs → Calls Try.prog 15 #[.slice ao len cap] w fun e w' => e = .returned (.string D) ∧ w.grownBy w' none))
    (HV : Hid (∀ w, Calls Try.prog 7 #[.int .i64 n] w fun e w' => e = .returned (.string S) ∧ Below w.heap.size w w'))
    (a1 : ∀ w, (Op.stringOp .add S T).run Try.prog w = .ok (.string ST) w)
    (HR : Hid (∀ w, Calls Try.prog 8 #[.string ST] w fun e w' => e = .returned (.tuple #[.int .i64 n, .int .i64 k]) ∧ w' = w))
    (HF : Hid (∀ w, Calls Try.prog 9 #[.int .i64 n, .int .i64 7] w fun e w' => e = .returned (.string F) ∧ Below w.heap.size w w'))
    (a2 : ∀ w, (Op.stringOp .add F T).run Try.prog w = .ok (.string FT) w)
    (HG : Hid (∀ w, Calls Try.prog 10 #[.string FT, .int .i64 7] w fun e w' => e = .returned (.tuple #[.int .i64 n, .bool true]) ∧ w' = w))
    (HDc : Hid (∀ w, Calls Try.prog 12 #[.int .i64 n] w fun e w' => e = .returned (.string Dn) ∧ Below w.heap.size w w'))
    (HRd : Hid (∀ w, Calls Try.prog 11 #[.string Dn] w fun e w' => e = .returned (.tuple #[.int .i64 n, .bool true]) ∧ Below w.heap.size w w'))
    (HX1 : Hid (∀ w, Calls Try.prog 14 #[.string T] w fun e w' => e = .returned (.string HX) ∧ Below w.heap.size w w'))
    (HU : Hid (∀ w, Calls Try.prog 13 #[.string HX] w fun e w' => e = .returned (.tuple #[.string T, .bool true]) ∧ Below w.heap.size w w'))
    (HR2 : Hid (∀ w, Calls Try.prog 8 #[.string D] w fun e w' => e = .returned (.tuple #[.int .i64 z, .int .i64 j]) ∧ w' = w))
    (HV2 : Hid (∀ w, Calls Try.prog 7 #[.int .i64 z] w fun e w' => e = .returned (.string Z) ∧ Below w.heap.size w w'))
    (hj : j = 0 ∨ (j = (jn : Int) ∧ 0 < jn ∧ jn ≤ D.size ∧ (Z.toList == (D.extract 0 jn).toList) = true)) :
    Calls Try.prog 3 #[.slice ao len cap] w fun e w' => e = .returned (.bool true) ∧ Below w.heap.size w w' := by
  go_enter Try.func3, Try.ntmps3
  go_wp2_with (go_at_call 4; go_in)
  refine (HD1.out _ HC.out).mono ?_
  rintro e w1 ⟨rfl, hg1⟩
  have B1 : Hid (Below w.heap.size w w1) := below_of_grown hg1
  clear hg1
  go_wp2_with fail
  refine (HD2.out _ (HC.out.later B1.out)).mono ?_
  rintro e w2 ⟨rfl, hg2⟩
  have B2 : Hid (Below w.heap.size w w2) := bel_grown B1.out hg2
  clear hg2
  go_wp2_with fail
  refine (HV.out _).mono ?_
  rintro e w3 ⟨rfl, hbw3⟩
  have B3 : Hid (Below w.heap.size w w3) := bel_below B2.out hbw3
  clear hbw3
  go_wp2_with fail
  refine (HR.out _).mono ?_
  rintro e w' ⟨rfl, hq⟩
  replace hq := hq.symm
  subst hq
  go_wp2_with fail
  refine (HF.out _).mono ?_
  rintro e w5 ⟨rfl, hbw5⟩
  have B5 : Hid (Below w.heap.size w w5) := bel_below B3.out hbw5
  clear hbw5
  go_wp2_with fail
  refine (HG.out _).mono ?_
  rintro e w' ⟨rfl, hq⟩
  replace hq := hq.symm
  subst hq
  go_wp2_with fail
  refine (HDc.out _).mono ?_
  rintro e w7 ⟨rfl, hbw7⟩
  have B7 : Hid (Below w.heap.size w w7) := bel_below B5.out hbw7
  clear hbw7
  go_wp2_with fail
  refine (HRd.out _).mono ?_
  rintro e w8 ⟨rfl, hbw8⟩
  have B8 : Hid (Below w.heap.size w w8) := bel_below B7.out hbw8
  clear hbw8
  go_wp2_with fail
  refine (HX1.out _).mono ?_
  rintro e w9 ⟨rfl, hbw9⟩
  have B9 : Hid (Below w.heap.size w w9) := bel_below B8.out hbw9
  clear hbw9
  go_wp2_with fail
  refine (HU.out _).mono ?_
  rintro e w10 ⟨rfl, hbw10⟩
  have B10 : Hid (Below w.heap.size w w10) := bel_below B9.out hbw10
  clear hbw10
  go_wp2_with fail
  refine (HD3.out _ (HC.out.later B10.out)).mono ?_
  rintro e w11 ⟨rfl, hg11⟩
  have B11 : Hid (Below w.heap.size w w11) := bel_grown B10.out hg11
  clear hg11
  go_wp2_with fail
  refine (HR2.out _).mono ?_
  rintro e w' ⟨rfl, hq⟩
  replace hq := hq.symm
  subst hq
  rcases hj with hj | ⟨hj, hj0, hjs, hjt⟩
  · have j0 : (j == 0) = true := by simp [hj]
    clear hj
    go_wp2_with fail
    go_ret
    exact ⟨rfl, B11.out⟩
  · subst hj
    have j0 : ((jn : Int) == 0) = false := by rw [beq_eq_false_iff_ne]; omega
    go_wp2_with fail
    refine (HV2.out _).mono ?_
    rintro e w12 ⟨rfl, hb12⟩
    have B12 : Hid (Below w.heap.size w w12) := bel_below B11.out hb12
    clear hb12
    go_wp2_with fail
    refine (HD3.out _ (HC.out.later B12.out)).mono ?_
    rintro e w13 ⟨rfl, hg13⟩
    have B13 : Hid (Below w.heap.size w w13) := bel_grown B12.out hg13
    clear hg13
    go_wp2
    go_ret
    exact ⟨rfl, B13.out⟩

set_option maxHeartbeats 4000000 in
set_option maxRecDepth 100000 in
theorem num_mid (w : World) (ao : Option Addr) (len cap : Nat) (zs : List Int) (n x k y d z j : Int) (is : Bool) (jn : Nat) (T S ST F FT Dn HX D Z : ByteArray) (hl : ¬ ((1048576 : Int) < (len : Int))) (HC : Hid (CodeAt w w.heap.size ao len zs)) (r0 : 1000000000 ≤ n) (r1 : n ≤ 562949953421311) (eS : S.toList.isEmpty = false) (kS : (k != (S.size : Int)) = false) (eF : F.toList.isEmpty = false) (kF : ((F.size : Int) != 7) = false)
    (HD1 : Hid (∀ w, CodeAt w w.heap.size ao len zs → Calls Try.prog 5 #[.slice ao len cap] w fun e w' => e = .returned (.int .i64 n) ∧ w.grownBy w' none))
    (HD2 : Hid (∀ w, CodeAt w w.heap.size ao len zs → Calls Try.prog 6 #[.slice ao len cap] w fun e w' => e = .returned (.string T) ∧ w.grownBy w' none))
    (HD3 : Hid (∀ w, CodeAt w w.heap.size ao len zs → Calls Try.prog 15 #[.slice ao len cap] w fun e w' => e = .returned (.string D) ∧ w.grownBy w' none))
    (HV : Hid (∀ w, Calls Try.prog 7 #[.int .i64 n] w fun e w' => e = .returned (.string S) ∧ Below w.heap.size w w'))
    (a1 : ∀ w, (Op.stringOp .add S T).run Try.prog w = .ok (.string ST) w)
    (HR : Hid (∀ w, Calls Try.prog 8 #[.string ST] w fun e w' => e = .returned (.tuple #[.int .i64 n, .int .i64 k]) ∧ w' = w))
    (HF : Hid (∀ w, Calls Try.prog 9 #[.int .i64 n, .int .i64 7] w fun e w' => e = .returned (.string F) ∧ Below w.heap.size w w'))
    (a2 : ∀ w, (Op.stringOp .add F T).run Try.prog w = .ok (.string FT) w)
    (HG : Hid (∀ w, Calls Try.prog 10 #[.string FT, .int .i64 7] w fun e w' => e = .returned (.tuple #[.int .i64 n, .bool true]) ∧ w' = w))
    (HDc : Hid (∀ w, Calls Try.prog 12 #[.int .i64 n] w fun e w' => e = .returned (.string Dn) ∧ Below w.heap.size w w'))
    (HRd : Hid (∀ w, Calls Try.prog 11 #[.string Dn] w fun e w' => e = .returned (.tuple #[.int .i64 0, .bool false]) ∧ Below w.heap.size w w'))
    (HX1 : Hid (∀ w, Calls Try.prog 14 #[.string T] w fun e w' => e = .returned (.string HX) ∧ Below w.heap.size w w'))
    (HU : Hid (∀ w, Calls Try.prog 13 #[.string HX] w fun e w' => e = .returned (.tuple #[.string T, .bool true]) ∧ Below w.heap.size w w'))
    (HR2 : Hid (∀ w, Calls Try.prog 8 #[.string D] w fun e w' => e = .returned (.tuple #[.int .i64 z, .int .i64 j]) ∧ w' = w))
    (HV2 : Hid (∀ w, Calls Try.prog 7 #[.int .i64 z] w fun e w' => e = .returned (.string Z) ∧ Below w.heap.size w w'))
    (hj : j = 0 ∨ (j = (jn : Int) ∧ 0 < jn ∧ jn ≤ D.size ∧ (Z.toList == (D.extract 0 jn).toList) = true)) :
    Calls Try.prog 3 #[.slice ao len cap] w fun e w' => e = .returned (.bool true) ∧ Below w.heap.size w w' := by
  go_enter Try.func3, Try.ntmps3
  go_wp2_with (go_at_call 4; go_in)
  refine (HD1.out _ HC.out).mono ?_
  rintro e w1 ⟨rfl, hg1⟩
  have B1 : Hid (Below w.heap.size w w1) := below_of_grown hg1
  clear hg1
  go_wp2_with fail
  refine (HD2.out _ (HC.out.later B1.out)).mono ?_
  rintro e w2 ⟨rfl, hg2⟩
  have B2 : Hid (Below w.heap.size w w2) := bel_grown B1.out hg2
  clear hg2
  go_wp2_with fail
  refine (HV.out _).mono ?_
  rintro e w3 ⟨rfl, hbw3⟩
  have B3 : Hid (Below w.heap.size w w3) := bel_below B2.out hbw3
  clear hbw3
  go_wp2_with fail
  refine (HR.out _).mono ?_
  rintro e w' ⟨rfl, hq⟩
  replace hq := hq.symm
  subst hq
  go_wp2_with fail
  refine (HF.out _).mono ?_
  rintro e w5 ⟨rfl, hbw5⟩
  have B5 : Hid (Below w.heap.size w w5) := bel_below B3.out hbw5
  clear hbw5
  go_wp2_with fail
  refine (HG.out _).mono ?_
  rintro e w' ⟨rfl, hq⟩
  replace hq := hq.symm
  subst hq
  go_wp2_with fail
  refine (HDc.out _).mono ?_
  rintro e w7 ⟨rfl, hbw7⟩
  have B7 : Hid (Below w.heap.size w w7) := bel_below B5.out hbw7
  clear hbw7
  go_wp2_with fail
  refine (HRd.out _).mono ?_
  rintro e w8 ⟨rfl, hbw8⟩
  have B8 : Hid (Below w.heap.size w w8) := bel_below B7.out hbw8
  clear hbw8
  go_wp2_with fail
  refine (HX1.out _).mono ?_
  rintro e w9 ⟨rfl, hbw9⟩
  have B9 : Hid (Below w.heap.size w w9) := bel_below B8.out hbw9
  clear hbw9
  go_wp2_with fail
  refine (HU.out _).mono ?_
  rintro e w10 ⟨rfl, hbw10⟩
  have B10 : Hid (Below w.heap.size w w10) := bel_below B9.out hbw10
  clear hbw10
  go_wp2_with fail
  refine (HD3.out _ (HC.out.later B10.out)).mono ?_
  rintro e w11 ⟨rfl, hg11⟩
  have B11 : Hid (Below w.heap.size w w11) := bel_grown B10.out hg11
  clear hg11
  go_wp2_with fail
  refine (HR2.out _).mono ?_
  rintro e w' ⟨rfl, hq⟩
  replace hq := hq.symm
  subst hq
  rcases hj with hj | ⟨hj, hj0, hjs, hjt⟩
  · have j0 : (j == 0) = true := by simp [hj]
    clear hj
    go_wp2_with fail
    go_ret
    exact ⟨rfl, B11.out⟩
  · subst hj
    have j0 : ((jn : Int) == 0) = false := by rw [beq_eq_false_iff_ne]; omega
    go_wp2_with fail
    refine (HV2.out _).mono ?_
    rintro e w12 ⟨rfl, hb12⟩
    have B12 : Hid (Below w.heap.size w w12) := bel_below B11.out hb12
    clear hb12
    go_wp2_with fail
    refine (HD3.out _ (HC.out.later B12.out)).mono ?_
    rintro e w13 ⟨rfl, hg13⟩
    have B13 : Hid (Below w.heap.size w w13) := bel_grown B12.out hg13
    clear hg13
    go_wp2
    go_ret
    exact ⟨rfl, B13.out⟩

set_option maxHeartbeats 4000000 in
set_option maxRecDepth 100000 in
theorem num_high (w : World) (ao : Option Addr) (len cap : Nat) (zs : List Int) (n x k y d z j : Int) (is : Bool) (jn : Nat) (T S ST F FT Dn HX D Z : ByteArray) (hl : ¬ ((1048576 : Int) < (len : Int))) (HC : Hid (CodeAt w w.heap.size ao len zs)) (r0 : 562949953421311 < n) (r1 : n < 72057594037927936) (eF : F.toList.isEmpty = false) (kF : ((F.size : Int) != 7) = false)
    (HD1 : Hid (∀ w, CodeAt w w.heap.size ao len zs → Calls Try.prog 5 #[.slice ao len cap] w fun e w' => e = .returned (.int .i64 n) ∧ w.grownBy w' none))
    (HD2 : Hid (∀ w, CodeAt w w.heap.size ao len zs → Calls Try.prog 6 #[.slice ao len cap] w fun e w' => e = .returned (.string T) ∧ w.grownBy w' none))
    (HD3 : Hid (∀ w, CodeAt w w.heap.size ao len zs → Calls Try.prog 15 #[.slice ao len cap] w fun e w' => e = .returned (.string D) ∧ w.grownBy w' none))
    (HV : Hid (∀ w, Calls Try.prog 7 #[.int .i64 n] w fun e w' => e = .returned (.string ⟨#[]⟩) ∧ Below w.heap.size w w'))
    (a1 : ∀ w, (Op.stringOp .add ⟨#[]⟩ T).run Try.prog w = .ok (.string ST) w)
    (HR : Hid (∀ w, Calls Try.prog 8 #[.string ST] w fun e w' => e = .returned (.tuple #[.int .i64 x, .int .i64 k]) ∧ w' = w))
    (HF : Hid (∀ w, Calls Try.prog 9 #[.int .i64 n, .int .i64 7] w fun e w' => e = .returned (.string F) ∧ Below w.heap.size w w'))
    (a2 : ∀ w, (Op.stringOp .add F T).run Try.prog w = .ok (.string FT) w)
    (HG : Hid (∀ w, Calls Try.prog 10 #[.string FT, .int .i64 7] w fun e w' => e = .returned (.tuple #[.int .i64 n, .bool true]) ∧ w' = w))
    (HDc : Hid (∀ w, Calls Try.prog 12 #[.int .i64 n] w fun e w' => e = .returned (.string Dn) ∧ Below w.heap.size w w'))
    (HRd : Hid (∀ w, Calls Try.prog 11 #[.string Dn] w fun e w' => e = .returned (.tuple #[.int .i64 0, .bool false]) ∧ Below w.heap.size w w'))
    (HX1 : Hid (∀ w, Calls Try.prog 14 #[.string T] w fun e w' => e = .returned (.string HX) ∧ Below w.heap.size w w'))
    (HU : Hid (∀ w, Calls Try.prog 13 #[.string HX] w fun e w' => e = .returned (.tuple #[.string T, .bool true]) ∧ Below w.heap.size w w'))
    (HR2 : Hid (∀ w, Calls Try.prog 8 #[.string D] w fun e w' => e = .returned (.tuple #[.int .i64 z, .int .i64 j]) ∧ w' = w))
    (HV2 : Hid (∀ w, Calls Try.prog 7 #[.int .i64 z] w fun e w' => e = .returned (.string Z) ∧ Below w.heap.size w w'))
    (hj : j = 0 ∨ (j = (jn : Int) ∧ 0 < jn ∧ jn ≤ D.size ∧ (Z.toList == (D.extract 0 jn).toList) = true)) :
    Calls Try.prog 3 #[.slice ao len cap] w fun e w' => e = .returned (.bool true) ∧ Below w.heap.size w w' := by
  go_enter Try.func3, Try.ntmps3
  go_wp2_with (go_at_call 4; go_in)
  refine (HD1.out _ HC.out).mono ?_
  rintro e w1 ⟨rfl, hg1⟩
  have B1 : Hid (Below w.heap.size w w1) := below_of_grown hg1
  clear hg1
  go_wp2_with fail
  refine (HD2.out _ (HC.out.later B1.out)).mono ?_
  rintro e w2 ⟨rfl, hg2⟩
  have B2 : Hid (Below w.heap.size w w2) := bel_grown B1.out hg2
  clear hg2
  go_wp2_with fail
  refine (HV.out _).mono ?_
  rintro e w3 ⟨rfl, hbw3⟩
  have B3 : Hid (Below w.heap.size w w3) := bel_below B2.out hbw3
  clear hbw3
  go_wp2_with fail
  refine (HR.out _).mono ?_
  rintro e w' ⟨rfl, hq⟩
  replace hq := hq.symm
  subst hq
  go_wp2_with fail
  refine (HF.out _).mono ?_
  rintro e w5 ⟨rfl, hbw5⟩
  have B5 : Hid (Below w.heap.size w w5) := bel_below B3.out hbw5
  clear hbw5
  go_wp2_with fail
  refine (HG.out _).mono ?_
  rintro e w' ⟨rfl, hq⟩
  replace hq := hq.symm
  subst hq
  go_wp2_with fail
  refine (HDc.out _).mono ?_
  rintro e w7 ⟨rfl, hbw7⟩
  have B7 : Hid (Below w.heap.size w w7) := bel_below B5.out hbw7
  clear hbw7
  go_wp2_with fail
  refine (HRd.out _).mono ?_
  rintro e w8 ⟨rfl, hbw8⟩
  have B8 : Hid (Below w.heap.size w w8) := bel_below B7.out hbw8
  clear hbw8
  go_wp2_with fail
  refine (HX1.out _).mono ?_
  rintro e w9 ⟨rfl, hbw9⟩
  have B9 : Hid (Below w.heap.size w w9) := bel_below B8.out hbw9
  clear hbw9
  go_wp2_with fail
  refine (HU.out _).mono ?_
  rintro e w10 ⟨rfl, hbw10⟩
  have B10 : Hid (Below w.heap.size w w10) := bel_below B9.out hbw10
  clear hbw10
  go_wp2_with fail
  refine (HD3.out _ (HC.out.later B10.out)).mono ?_
  rintro e w11 ⟨rfl, hg11⟩
  have B11 : Hid (Below w.heap.size w w11) := bel_grown B10.out hg11
  clear hg11
  go_wp2_with fail
  refine (HR2.out _).mono ?_
  rintro e w' ⟨rfl, hq⟩
  replace hq := hq.symm
  subst hq
  rcases hj with hj | ⟨hj, hj0, hjs, hjt⟩
  · have j0 : (j == 0) = true := by simp [hj]
    clear hj
    go_wp2_with fail
    go_ret
    exact ⟨rfl, B11.out⟩
  · subst hj
    have j0 : ((jn : Int) == 0) = false := by rw [beq_eq_false_iff_ne]; omega
    go_wp2_with fail
    refine (HV2.out _).mono ?_
    rintro e w12 ⟨rfl, hb12⟩
    have B12 : Hid (Below w.heap.size w w12) := bel_below B11.out hb12
    clear hb12
    go_wp2_with fail
    refine (HD3.out _ (HC.out.later B12.out)).mono ?_
    rintro e w13 ⟨rfl, hg13⟩
    have B13 : Hid (Below w.heap.size w w13) := bel_grown B12.out hg13
    clear hg13
    go_wp2
    go_ret
    exact ⟨rfl, B13.out⟩

set_option maxHeartbeats 4000000 in
set_option maxRecDepth 100000 in
theorem num_highest (w : World) (ao : Option Addr) (len cap : Nat) (zs : List Int) (n x k y d z j : Int) (is : Bool) (jn : Nat) (T S ST F FT Dn HX D Z : ByteArray) (hl : ¬ ((1048576 : Int) < (len : Int))) (HC : Hid (CodeAt w w.heap.size ao len zs)) (r0 : 72057594037927936 ≤ n)
    (HD1 : Hid (∀ w, CodeAt w w.heap.size ao len zs → Calls Try.prog 5 #[.slice ao len cap] w fun e w' => e = .returned (.int .i64 n) ∧ w.grownBy w' none))
    (HD2 : Hid (∀ w, CodeAt w w.heap.size ao len zs → Calls Try.prog 6 #[.slice ao len cap] w fun e w' => e = .returned (.string T) ∧ w.grownBy w' none))
    (HD3 : Hid (∀ w, CodeAt w w.heap.size ao len zs → Calls Try.prog 15 #[.slice ao len cap] w fun e w' => e = .returned (.string D) ∧ w.grownBy w' none))
    (HV : Hid (∀ w, Calls Try.prog 7 #[.int .i64 n] w fun e w' => e = .returned (.string ⟨#[]⟩) ∧ Below w.heap.size w w'))
    (a1 : ∀ w, (Op.stringOp .add ⟨#[]⟩ T).run Try.prog w = .ok (.string ST) w)
    (HR : Hid (∀ w, Calls Try.prog 8 #[.string ST] w fun e w' => e = .returned (.tuple #[.int .i64 x, .int .i64 k]) ∧ w' = w))
    (HF : Hid (∀ w, Calls Try.prog 9 #[.int .i64 n, .int .i64 7] w fun e w' => e = .returned (.string ⟨#[]⟩) ∧ Below w.heap.size w w'))
    (HG : Hid (∀ w, Calls Try.prog 10 #[.string ST, .int .i64 7] w fun e w' => e = .returned (.tuple #[.int .i64 y, .bool is]) ∧ w' = w))
    (HDc : Hid (∀ w, Calls Try.prog 12 #[.int .i64 n] w fun e w' => e = .returned (.string Dn) ∧ Below w.heap.size w w'))
    (HRd : Hid (∀ w, Calls Try.prog 11 #[.string Dn] w fun e w' => e = .returned (.tuple #[.int .i64 0, .bool false]) ∧ Below w.heap.size w w'))
    (HX1 : Hid (∀ w, Calls Try.prog 14 #[.string T] w fun e w' => e = .returned (.string HX) ∧ Below w.heap.size w w'))
    (HU : Hid (∀ w, Calls Try.prog 13 #[.string HX] w fun e w' => e = .returned (.tuple #[.string T, .bool true]) ∧ Below w.heap.size w w'))
    (HR2 : Hid (∀ w, Calls Try.prog 8 #[.string D] w fun e w' => e = .returned (.tuple #[.int .i64 z, .int .i64 j]) ∧ w' = w))
    (HV2 : Hid (∀ w, Calls Try.prog 7 #[.int .i64 z] w fun e w' => e = .returned (.string Z) ∧ Below w.heap.size w w'))
    (hj : j = 0 ∨ (j = (jn : Int) ∧ 0 < jn ∧ jn ≤ D.size ∧ (Z.toList == (D.extract 0 jn).toList) = true)) :
    Calls Try.prog 3 #[.slice ao len cap] w fun e w' => e = .returned (.bool true) ∧ Below w.heap.size w w' := by
  go_enter Try.func3, Try.ntmps3
  go_wp2_with (go_at_call 4; go_in)
  refine (HD1.out _ HC.out).mono ?_
  rintro e w1 ⟨rfl, hg1⟩
  have B1 : Hid (Below w.heap.size w w1) := below_of_grown hg1
  clear hg1
  go_wp2_with fail
  refine (HD2.out _ (HC.out.later B1.out)).mono ?_
  rintro e w2 ⟨rfl, hg2⟩
  have B2 : Hid (Below w.heap.size w w2) := bel_grown B1.out hg2
  clear hg2
  go_wp2_with fail
  refine (HV.out _).mono ?_
  rintro e w3 ⟨rfl, hbw3⟩
  have B3 : Hid (Below w.heap.size w w3) := bel_below B2.out hbw3
  clear hbw3
  go_wp2_with fail
  refine (HR.out _).mono ?_
  rintro e w' ⟨rfl, hq⟩
  replace hq := hq.symm
  subst hq
  go_wp2_with fail
  refine (HF.out _).mono ?_
  rintro e w5 ⟨rfl, hbw5⟩
  have B5 : Hid (Below w.heap.size w w5) := bel_below B3.out hbw5
  clear hbw5
  go_wp2_with fail
  refine (HG.out _).mono ?_
  rintro e w' ⟨rfl, hq⟩
  replace hq := hq.symm
  subst hq
  go_wp2_with fail
  refine (HDc.out _).mono ?_
  rintro e w7 ⟨rfl, hbw7⟩
  have B7 : Hid (Below w.heap.size w w7) := bel_below B5.out hbw7
  clear hbw7
  go_wp2_with fail
  refine (HRd.out _).mono ?_
  rintro e w8 ⟨rfl, hbw8⟩
  have B8 : Hid (Below w.heap.size w w8) := bel_below B7.out hbw8
  clear hbw8
  go_wp2_with fail
  refine (HX1.out _).mono ?_
  rintro e w9 ⟨rfl, hbw9⟩
  have B9 : Hid (Below w.heap.size w w9) := bel_below B8.out hbw9
  clear hbw9
  go_wp2_with fail
  refine (HU.out _).mono ?_
  rintro e w10 ⟨rfl, hbw10⟩
  have B10 : Hid (Below w.heap.size w w10) := bel_below B9.out hbw10
  clear hbw10
  go_wp2_with fail
  refine (HD3.out _ (HC.out.later B10.out)).mono ?_
  rintro e w11 ⟨rfl, hg11⟩
  have B11 : Hid (Below w.heap.size w w11) := bel_grown B10.out hg11
  clear hg11
  go_wp2_with fail
  refine (HR2.out _).mono ?_
  rintro e w' ⟨rfl, hq⟩
  replace hq := hq.symm
  subst hq
  rcases hj with hj | ⟨hj, hj0, hjs, hjt⟩
  · have j0 : (j == 0) = true := by simp [hj]
    clear hj
    go_wp2_with fail
    go_ret
    exact ⟨rfl, B11.out⟩
  · subst hj
    have j0 : ((jn : Int) == 0) = false := by rw [beq_eq_false_iff_ne]; omega
    go_wp2_with fail
    refine (HV2.out _).mono ?_
    rintro e w12 ⟨rfl, hb12⟩
    have B12 : Hid (Below w.heap.size w w12) := bel_below B11.out hb12
    clear hb12
    go_wp2_with fail
    refine (HD3.out _ (HC.out.later B12.out)).mono ?_
    rintro e w13 ⟨rfl, hg13⟩
    have B13 : Hid (Below w.heap.size w w13) := bel_grown B12.out hg13
    clear hg13
    go_wp2
    go_ret
    exact ⟨rfl, B13.out⟩

end Go.Proofs.Ytdhiobfalffebab
