/- The walks of the program's Unframe, and of the law over the two. -/
import Derived.Test.YtocjijognmhfmaaDoorUfWalk
namespace Go.Proofs.YtocjijognmhfmaaDoor
open Go.RowKit
set_option linter.unusedVariables false

theorem bel_of_eqU {B : Nat} {w w' : World} (h : w' = w) : Below B w w' := by subst h; exact Below.refl _ _

theorem specUn_bad (s : ByteArray) (w : World) (hm : s.size ≤ maxLen) (h : UBad s) :
    Calls Tryd.prog 28 #[.string s] w fun e w' => e = .returned (.tuple #[.string ⟨#[]⟩, .int .i64 0, .int .i64 2]) ∧ Below w.heap.size w w' := by
  obtain ⟨h4, h | ⟨n, h1, h2, hn, hs, hu⟩⟩ := h
  · exact (specUn_none s w hm h4 h).mono fun e w' ⟨he, hw⟩ => ⟨he, bel_of_eqU hw⟩
  · exact specUn_last s n w hm h1 h2 hn hs false (frame_beq_no s n hn hs hu)

theorem specUn_ok (s : ByteArray) (n : Nat) (w : World) (hm : s.size ≤ maxLen) (h : UOk s n) :
    Calls Tryd.prog 28 #[.string s] w fun e w' => e = .returned (.tuple #[.string (s.extract 8 (8 + n)), .int .i64 ((8 + n : Nat) : Int), .int .i64 0]) ∧ Below w.heap.size w w' := by
  obtain ⟨h1, h2, hn, hs, hu⟩ := h
  exact specUn_last s n w hm h1 h2 hn hs true (frame_beq_ok s n hn hs hu)

theorem at_bad (s T : ByteArray) (k : Nat) (w : World) (a0 a2 : Addr) (hE : Errs w a0 a2) (hm : s.size ≤ maxLen) (hk : k ≤ s.size) (hT : s.extract k s.size = T) (h : UBad T) :
    Calls Tryd.prog 38 #[.string s, .int .i64 (k : Int)] w fun e w' => e = .returned (.tuple #[.string ⟨#[]⟩, fe a2 k]) ∧ Below w.heap.size w w' := by
  obtain ⟨h4, h | ⟨n, h1, h2, hn, hs, hu⟩⟩ := h
  · exact at_none s T k w a0 a2 hE hm hk hT h4 h
  · exact at_last s T k n w a0 a2 hE hm hk hT h1 h2 hn hs true (neq_yes _ _ hu)

theorem at_ok (s T : ByteArray) (k n : Nat) (w : World) (a0 a2 : Addr) (hE : Errs w a0 a2) (hm : s.size ≤ maxLen) (hk : k ≤ s.size) (hT : s.extract k s.size = T) (h : UOk T n) :
    Calls Tryd.prog 38 #[.string s, .int .i64 (k : Int)] w fun e w' => e = .returned (.tuple #[.string (T.extract 8 (8 + n)), .nilIface]) ∧ Below w.heap.size w w' := by
  obtain ⟨h1, h2, hn, hs, hu⟩ := h
  exact at_last s T k n w a0 a2 hE hm hk hT h1 h2 hn hs false (neq_no _ _ hu)

theorem ext_all (s : ByteArray) : s.extract 0 s.size = s := by
  apply ba_ext
  rw [ext_data, List.drop_zero, Nat.sub_zero, List.take_of_length_le (by rw [Array.length_toList]; exact Nat.le_refl _)]

/-- The two errors' own cells. -/
structure ErrB (w : World) (a0 a2 : Addr) : Prop extends Errs w a0 a2 where
  ne : a2 ≠ a0
  b0 : ∃ c t, w.heap[a0.block]? = some (.cells c t (0, 0))
  b2 : ∃ c t, w.heap[a2.block]? = some (.cells c t (0, 0))

theorem lt_of_someU {w : World} {k : Nat} {x : Obj} (h : w.heap[k]? = some x) : k < w.heap.size := by
  rcases Nat.lt_or_ge k w.heap.size with h' | h'
  · exact h'
  · simp [Array.getElem?_eq_none h'] at h

theorem ErrB.keep {w w' : World} {a0 a2 : Addr} (h : ErrB w a0 a2) (hb : Below w.heap.size w w') : ErrB w' a0 a2 := by
  obtain ⟨hE, ne, ⟨c0, t0, h0⟩, ⟨c2, t2, h2⟩⟩ := h
  exact ⟨hE.keep hb hE.lt, ne, ⟨c0, t0, by rw [hb.block _ (lt_of_someU h0)]; exact h0⟩, ⟨c2, t2, by rw [hb.block _ (lt_of_someU h2)]; exact h2⟩⟩

set_option maxRecDepth 20000 in
set_option maxHeartbeats 1000000 in
theorem implUn_short (s : ByteArray) (w : World) (a0 a2 : Addr) (hE : ErrB w a0 a2) (hm : s.size ≤ maxLen) (h : UShort s) :
    Calls Tryd.prog 21 #[.string s] w fun e w' => e = .returned (.tuple #[.string ⟨#[]⟩, .int .i64 0, .int .i64 1]) ∧ Below w.heap.size w w' := by
  have hA : Hid (Calls Tryd.prog 38 #[.string s, .int .i64 0] w fun e w' => e = .returned (.tuple #[.string ⟨#[]⟩, fe a0 0]) ∧ Below w.heap.size w w') := at_short s s 0 w a0 a2 hE.toErrs hm (Nat.zero_le _) (ext_all s) h
  have hI : Hid (∀ W, Calls Tryd.prog 39 #[fe a0 0, .iface 102 (.pointer (some a0))] W fun e w' => e = .returned (.bool true) ∧ Below W.heap.size W w') := fun W => is_wrap_same a0 0 W
  unfold fe at hA hI
  have HE : Hid (ErrB w a0 a2) := hE
  clear hE hm h
  go_enter Tryd.func21, Tryd.ntmps21
  go_wp2_with fail
  refine hA.out.mono ?_
  rintro e w1 ⟨rfl, b1⟩
  have e0 := (HE.out.keep b1).e0
  go_wp2_with fail
  refine (hI.out _).mono ?_
  rintro e w2 ⟨rfl, b2⟩
  have b := b1.trans (b2.mono b1.size)
  clear b1 b2 e0
  go_wp2
  go_ret3
  exact ⟨rfl, b⟩

set_option maxRecDepth 20000 in
set_option maxHeartbeats 1000000 in
theorem implUn_bad (s : ByteArray) (w : World) (a0 a2 : Addr) (hE : ErrB w a0 a2) (hm : s.size ≤ maxLen) (h : UBad s) :
    Calls Tryd.prog 21 #[.string s] w fun e w' => e = .returned (.tuple #[.string ⟨#[]⟩, .int .i64 0, .int .i64 2]) ∧ Below w.heap.size w w' := by
  have hA : Hid (Calls Tryd.prog 38 #[.string s, .int .i64 0] w fun e w' => e = .returned (.tuple #[.string ⟨#[]⟩, fe a2 0]) ∧ Below w.heap.size w w') := at_bad s s 0 w a0 a2 hE.toErrs hm (Nat.zero_le _) (ext_all s) h
  have hI : Hid (∀ W, ErrB W a0 a2 → Calls Tryd.prog 39 #[fe a2 0, .iface 102 (.pointer (some a0))] W fun e w' => e = .returned (.bool false) ∧ Below W.heap.size W w') := fun W hW => by
    obtain ⟨_, ne, ⟨c0, t0, h0⟩, ⟨c2, t2, h2⟩⟩ := hW
    exact is_wrap_other a2 a0 0 c2 c0 t2 t0 W ne h2 h0
  unfold fe at hA hI
  have HE : Hid (ErrB w a0 a2) := hE
  clear hE hm h
  go_enter Tryd.func21, Tryd.ntmps21
  go_wp2_with fail
  refine hA.out.mono ?_
  rintro e w1 ⟨rfl, b1⟩
  have e0 := (HE.out.keep b1).e0
  go_wp2_with fail
  refine (hI.out _ (HE.out.keep b1)).mono ?_
  rintro e w2 ⟨rfl, b2⟩
  have b := b1.trans (b2.mono b1.size)
  clear b1 b2 e0
  go_wp2
  go_ret3
  exact ⟨rfl, b⟩

set_option maxRecDepth 20000 in
set_option maxHeartbeats 1000000 in
theorem implUn_ok (s : ByteArray) (n : Nat) (w : World) (a0 a2 : Addr) (hE : ErrB w a0 a2) (hm : s.size ≤ maxLen) (h : UOk s n) :
    Calls Tryd.prog 21 #[.string s] w fun e w' => e = .returned (.tuple #[.string (s.extract 8 (8 + n)), .int .i64 ((8 + n : Nat) : Int), .int .i64 0]) ∧ Below w.heap.size w w' := by
  have hA : Hid (Calls Tryd.prog 38 #[.string s, .int .i64 0] w fun e w' => e = .returned (.tuple #[.string (s.extract 8 (8 + n)), .nilIface]) ∧ Below w.heap.size w w') := at_ok s s 0 n w a0 a2 hE.toErrs hm (Nat.zero_le _) (ext_all s) h
  have hz : (s.extract 8 (8 + n)).size = n := by rw [ext_size _ _ _ h.2.2.2.1]; omega
  have hn : (n : Int) ≤ 2000 := by have := h.2.1; omega
  have HN : Hid (((8 + n : Nat) : Int) = 8 + (n : Int)) := by show _ = _; omega
  clear hE hm h
  generalize s.extract 8 (8 + n) = B at hA hz ⊢
  go_enter Tryd.func21, Tryd.ntmps21
  go_wp2_with fail
  refine hA.out.mono ?_
  rintro e w1 ⟨rfl, b1⟩
  go_wp2
  go_ret3
  exact ⟨by rw [HN.out]; rfl, b1⟩

end Go.Proofs.YtocjijognmhfmaaDoor
