/- The law FnExactReadSnap, where the table and the errors lie in their places. -/
import Derived.Test.YtocjijognmhfmaaDoorKrImpl
namespace Go.Proofs.YtocjijognmhfmaaDoor
open Go.RowKit
set_option linter.unusedVariables false

set_option maxRecDepth 20000 in
set_option maxHeartbeats 1000000 in
theorem readsnap_law (s : ByteArray) (w : World) (a0 a2 : Addr) (hE : ErrB w a0 a2) (hG : 2 < w.heap.size) (hT : Tab w kL) (hm : s.size ≤ maxLen) :
    Calls Tryd.prog 5 #[.string s] w fun e w' => e = .returned (.bool true) ∧ Below w.heap.size w w' := by
  by_cases h : s.size ≤ 1048576
  case neg =>
    have h1 : (1048576 : Int) < s.size := by omega
    clear h hm
    go_enter Tryd.func5, Tryd.ntmps5
    go_wp2
    go_ret
    exact ⟨rfl, Below.refl _ _⟩
  have h1 : ¬ (1048576 : Int) < s.size := by omega
  obtain ⟨X, G, hX⟩ : ∃ (X : S_Snap) (G : Bool), (∀ W : World, Calls Tryd.prog 14 #[.string s] W fun e w' => e = .returned (.tuple #[.agg #[.int .i64 X.f0, .int .i64 X.f1, .string X.f2], .bool G]) ∧ Below W.heap.size W w') ∧
      (∀ W : World, Below w.heap.size w W → Calls Tryd.prog 9 #[.string s] W fun e w' => e = .returned (.tuple #[.agg #[.int .i64 X.f0, .int .i64 X.f1, .string X.f2], .bool G]) ∧ Below W.heap.size W w') := by
    by_cases hr : rsOk s
    · exact ⟨rsN s 44, true, fun W => specReadS_yes s W h hr, fun W hb => implReadS_yes s W a0 a2 (hE.keep hb) (Nat.lt_of_lt_of_le hG hb.size) (hT.below hb hG) h hr⟩
    · exact ⟨⟨0, 0, ⟨#[]⟩⟩, false, fun W => specReadS_no s W h hr, fun W hb => implReadS_no s W a0 a2 (hE.keep hb) (Nat.lt_of_lt_of_le hG hb.size) (hT.below hb hG) h hr⟩
  have CS : Hid (∀ W : World, Calls Tryd.prog 14 #[.string s] W fun e w' => e = .returned (.tuple #[.agg #[.int .i64 X.f0, .int .i64 X.f1, .string X.f2], .bool G]) ∧ Below W.heap.size W w') := hX.1
  have CI : Hid (∀ W : World, Below w.heap.size w W → Calls Tryd.prog 9 #[.string s] W fun e w' => e = .returned (.tuple #[.agg #[.int .i64 X.f0, .int .i64 X.f1, .string X.f2], .bool G]) ∧ Below W.heap.size W w') := hX.2
  clear h hm hX hE hG hT
  go_enter Tryd.func5, Tryd.ntmps5
  go_wp2_with fail
  refine (CS.out _).mono ?_
  rintro e w1 ⟨rfl, b1⟩
  have HB1 : Hid (Below w.heap.size w w1) := b1
  clear b1
  go_wp2_with fail
  refine (CI.out _ (by first | exact HB1.out.alloc HB1.out.size _ | exact HB1.out)).mono ?_
  rintro e w2 ⟨rfl, b2⟩
  have HX2 : Hid (w2.heap[w1.heap.size]? = some (.cells #[.int .i64 X.f0, .int .i64 X.f1, .string X.f2] 25)) := (b2.block _ (by simp)).trans (alloc_lastV _ _)
  have HB2 : Hid (Below w.heap.size w w2) := (HB1.out.alloc HB1.out.size _).trans (b2.mono (by have := HB1.out.size; simp; omega))
  have HL : Hid (w1.heap.size < w2.heap.size) := lt_of_someV HX2.out
  clear b2
  obtain ⟨x0, x1, x2⟩ := box3V HX2.out
  have hne : w1.heap.size ≠ w2.heap.size := by have := HL.out; omega
  have hlt : w1.heap.size < w2.heap.size := HL.out
  go_wp2_with fail
  refine (eqSnap_c X _).mono ?_
  rintro e w3 ⟨rfl, b3⟩
  cases G
  · go_wp2
    go_ret
    refine ⟨rfl, ?_⟩
    first | exact b3 ▸ (HB2.out.alloc HB2.out.size _) | exact (HB2.out.alloc HB2.out.size _).trans (b3.mono (by have := HB2.out.size; simp; omega))
  · go_wp2
    go_ret
    refine ⟨rfl, ?_⟩
    first | exact b3 ▸ (HB2.out.alloc HB2.out.size _) | exact (HB2.out.alloc HB2.out.size _).trans (b3.mono (by have := HB2.out.size; simp; omega))

end Go.Proofs.YtocjijognmhfmaaDoor
