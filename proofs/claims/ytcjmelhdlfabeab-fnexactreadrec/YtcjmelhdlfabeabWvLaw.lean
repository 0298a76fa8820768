/- The law FnExactReadRec. -/
import Derived.Test.YtcjmelhdlfabeabWvImpl
namespace Go.Proofs.Ytcjmelhdlfabeab
open Go.RowKit
set_option linter.unusedVariables false

set_option maxRecDepth 20000 in
set_option maxHeartbeats 1000000 in
theorem readrec_law (s : ByteArray) (w : World) (hm : s.size ≤ maxLen) :
    Calls Try.prog 6 #[.string s] w fun e w' => e = .returned (.bool true) ∧ Below w.heap.size w w' := by
  by_cases h : s.size ≤ 1048576
  case neg =>
    have h1 : (1048576 : Int) < s.size := by omega
    clear h hm
    go_enter Try.func6, Try.ntmps6
    go_wp2
    go_ret
    exact ⟨rfl, Below.refl _ _⟩
  have h1 : ¬ (1048576 : Int) < s.size := by omega
  have CS : Hid (∀ W : World, Calls Try.prog 20 #[.string s] W fun e w' => e = .returned (.tuple #[.agg #[.int .i64 (rdR s).f0, .int .i64 (rdR s).f1, .int .i64 (rdR s).f2, .int .i64 (rdR s).f3, .string (rdR s).f4], .bool (decide (okR (rdR s)))]) ∧ Below W.heap.size W w') := fun W => specRead_c s W h
  have CI : Hid (∀ W : World, Calls Try.prog 12 #[.string s] W fun e w' => e = .returned (.tuple #[.agg #[.int .i64 (rdR s).f0, .int .i64 (rdR s).f1, .int .i64 (rdR s).f2, .int .i64 (rdR s).f3, .string (rdR s).f4], .bool (decide (okR (rdR s)))]) ∧ Below W.heap.size W w') := fun W => implRead_c s W h
  clear h hm
  generalize decide (okR (rdR s)) = G at CS CI
  generalize rdR s = X at CS CI
  go_enter Try.func6, Try.ntmps6
  go_wp2_with fail
  refine (CS.out _).mono ?_
  rintro e w1 ⟨rfl, b1⟩
  have HB1 : Hid (Below w.heap.size w w1) := b1
  clear b1
  go_wp2_with fail
  refine (CI.out _).mono ?_
  rintro e w2 ⟨rfl, b2⟩
  have HX2 : Hid (w2.heap[w1.heap.size]? = some (.cells #[.int .i64 X.f0, .int .i64 X.f1, .int .i64 X.f2, .int .i64 X.f3, .string X.f4] 35)) := (b2.block _ (by simp)).trans (alloc_last _ _)
  have HB2 : Hid (Below w.heap.size w w2) := (HB1.out.alloc HB1.out.size _).trans (b2.mono (by have := HB1.out.size; simp; omega))
  have HL : Hid (w1.heap.size < w2.heap.size) := lt_of_some HX2.out
  clear b2
  obtain ⟨x0, x1, x2, x3, x4⟩ := box5 HX2.out
  have hne : w1.heap.size ≠ w2.heap.size := by have := HL.out; omega
  have hlt : w1.heap.size < w2.heap.size := HL.out
  go_wp2_with fail
  refine (eqRec_c X _).mono ?_
  rintro e w3 ⟨rfl, b3⟩
  cases G
  · go_wp2
    go_ret
    refine ⟨rfl, ?_⟩
    first | exact b3 ▸ (HB2.out.alloc HB2.out.size _) | exact (HB2.out.alloc HB2.out.size _).trans (b3.mono (by have := HB2.out.size; simp; omega))
  · go_wp2
    go_ret
    refine ⟨rfl, ?_⟩
    first | exact b3 ▸ (HB2.out.alloc HB2.out.size _) | exact (HB2.out.alloc HB2.out.size _).trans (b3.mono (by have := HB2.out.size; simp; omega))

end Go.Proofs.Ytcjmelhdlfabeab
