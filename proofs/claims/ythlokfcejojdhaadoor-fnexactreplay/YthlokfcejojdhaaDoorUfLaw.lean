/- The walks of the program's Unframe, and of the law over the two. -/
import Derived.Test.YthlokfcejojdhaaDoorUfWalk
namespace Go.Proofs.YthlokfcejojdhaaDoor
open Go.RowKit
set_option linter.unusedVariables false

theorem bel_of_eqU {B : Nat} {w w' : World} (h : w' = w) : Below B w w' := by subst h; exact Below.refl _ _

theorem specUn_bad (s : ByteArray) (w : World) (hm : s.size ≤ maxLen) (h : UBad s) :
    Calls Tryd.prog 53 #[.string s] w fun e w' => e = .returned (.tuple #[.string ⟨#[]⟩, .int .i64 0, .int .i64 2]) ∧ Below w.heap.size w w' := by
  obtain ⟨h4, h | ⟨n, h1, h2, hn, hs, hu⟩⟩ := h
  · exact (specUn_none s w hm h4 h).mono fun e w' ⟨he, hw⟩ => ⟨he, bel_of_eqU hw⟩
  · exact specUn_last s n w hm h1 h2 hn hs false (frame_beq_no s n hn hs hu)

theorem specUn_ok (s : ByteArray) (n : Nat) (w : World) (hm : s.size ≤ maxLen) (h : UOk s n) :
    Calls Tryd.prog 53 #[.string s] w fun e w' => e = .returned (.tuple #[.string (s.extract 8 (8 + n)), .int .i64 ((8 + n : Nat) : Int), .int .i64 0]) ∧ Below w.heap.size w w' := by
  obtain ⟨h1, h2, hn, hs, hu⟩ := h
  exact specUn_last s n w hm h1 h2 hn hs true (frame_beq_ok s n hn hs hu)

theorem at_bad (s T : ByteArray) (k : Nat) (w : World) (a0 a2 : Addr) (hE : Errs w a0 a2) (hm : s.size ≤ maxLen) (hk : k ≤ s.size) (hT : s.extract k s.size = T) (h : UBad T) :
    Calls Tryd.prog 68 #[.string s, .int .i64 (k : Int)] w fun e w' => e = .returned (.tuple #[.string ⟨#[]⟩, fe a2 k]) ∧ Below w.heap.size w w' := by
  obtain ⟨h4, h | ⟨n, h1, h2, hn, hs, hu⟩⟩ := h
  · exact at_none s T k w a0 a2 hE hm hk hT h4 h
  · exact at_last s T k n w a0 a2 hE hm hk hT h1 h2 hn hs true (neq_yes _ _ hu)

theorem at_ok (s T : ByteArray) (k n : Nat) (w : World) (a0 a2 : Addr) (hE : Errs w a0 a2) (hm : s.size ≤ maxLen) (hk : k ≤ s.size) (hT : s.extract k s.size = T) (h : UOk T n) :
    Calls Tryd.prog 68 #[.string s, .int .i64 (k : Int)] w fun e w' => e = .returned (.tuple #[.string (T.extract 8 (8 + n)), .nilIface]) ∧ Below w.heap.size w w' := by
  obtain ⟨h1, h2, hn, hs, hu⟩ := h
  exact at_last s T k n w a0 a2 hE hm hk hT h1 h2 hn hs false (neq_no _ _ hu)

theorem ext_all (s : ByteArray) : s.extract 0 s.size = s := by
  apply ba_ext
  rw [ext_data, List.drop_zero, Nat.sub_zero, List.take_of_length_le (by rw [Array.length_toList]; exact Nat.le_refl _)]

/-- The two errors' own cells. -/
structure ErrB (w : World) (a0 a2 : Addr) : Prop extends Errs w a0 a2 where
  ne : a2 ≠ a0
  b0 : ∃ c t, w.heap[a0.block]? = some (.cells c t (0, 0))
  b2 : ∃ c t, w.heap[a2.block]? = some (.cells c t (0, 0))

theorem lt_of_someU {w : World} {k : Nat} {x : Obj} (h : w.heap[k]? = some x) : k < w.heap.size := by
  rcases Nat.lt_or_ge k w.heap.size with h' | h'
  · exact h'
  · simp [Array.getElem?_eq_none h'] at h

theorem ErrB.keep {w w' : World} {a0 a2 : Addr} (h : ErrB w a0 a2) (hb : Below w.heap.size w w') : ErrB w' a0 a2 := by
  obtain ⟨hE, ne, ⟨c0, t0, h0⟩, ⟨c2, t2, h2⟩⟩ := h
  exact ⟨hE.keep hb hE.lt, ne, ⟨c0, t0, by rw [hb.block _ (lt_of_someU h0)]; exact h0⟩, ⟨c2, t2, by rw [hb.block _ (lt_of_someU h2)]; exact h2⟩⟩

end Go.Proofs.YthlokfcejojdhaaDoor
