/- The exact law of Replay, walked. -/
import Derived.Test.YthlokfcejojdhaaDoorJRp
import Derived.Test.YthlokfcejojdhaaDoorHaWal2
namespace Go.Proofs.YthlokfcejojdhaaDoor
open Go.RowKit
set_option linter.unusedVariables false
set_option linter.unusedSimpArgs false

theorem frs_ex : ∀ (n : Nat) (t : ByteArray), t.size ≤ n → ∃ L e, Frs t L e
  | n, t, hn => by
    rcases u_cases t with h | h | ⟨m, h⟩
    · exact ⟨[], 0, .stop t (.inl h)⟩
    · exact ⟨[], 0, .stop t (.inr h)⟩
    · have h1 := h.1
      have h4 := h.2.2.2.1
      match n, hn with
      | 0, hn => omega
      | n + 1, hn =>
        obtain ⟨L, e, hf⟩ := frs_ex n (t.extract (8 + m) t.size) (by simp; omega)
        exact ⟨_, _, .more t m L e h hf⟩

theorem rpL_ok : ∀ (l : List ByteArray) (x : S_Wal) (n : Int), okW x → okW (rpL x n l).1
  | [], x, n, h => h
  | b :: l, x, n, h => by
    by_cases hb : okR (rdR b) ∧ fitsR x (rdR b)
    · rw [rpL_yes hb]
      exact rpL_ok l _ _ (okW_step h hb.1 hb.2)
    · rw [rpL_no hb]
      exact h

theorem rpA_len (L : List ByteArray) : (rpA L).1.1.f4.length ≤ 60 := by
  cases L with
  | nil => exact Nat.zero_le _
  | cons b l =>
    by_cases hb : okR (rdR b) ∧ (rdR b).f0 = 4
    · rw [rpA_yes hb]
      exact (okW_len (rpL_ok l _ _ (okW_bg hb.1 hb.2))).1
    · rw [rpA_no hb]
      exact Nat.zero_le _

theorem rp_both (s : ByteArray) (w : World) (a0 a2 : Addr) (hE : ErrB w a0 a2) (hg : w.cell? ⟨0, 0, none⟩ = some (.iface 141 (.agg #[.pointer (some ⟨3, 51, none⟩)]))) (hm : s.size ≤ 1048576) : ∃ (x : S_Wal) (n : Int) (b : Bool), x.f4.length ≤ 60 ∧ (∀ W, Calls Tryd.prog 12 #[.string s] W fun e w' => ∃ (q : Option Addr) (c : Nat), e = .returned (.tuple #[.agg #[.int .i64 x.f0, .int .i64 x.f1, .int .i64 x.f2, .int .i64 x.f3, .slice q x.f4.length c], .int .i64 n, .bool b]) ∧ OwWal w' W.heap.size x (.slice q x.f4.length c) ∧ Below W.heap.size W w') ∧ (∀ W, Below w.heap.size w W → Calls Tryd.prog 9 #[.string s] W fun e w' => ∃ (q : Option Addr) (c : Nat), e = .returned (.tuple #[.agg #[.int .i64 x.f0, .int .i64 x.f1, .int .i64 x.f2, .int .i64 x.f3, .slice q x.f4.length c], .int .i64 n, .bool b]) ∧ OwWal w' W.heap.size x (.slice q x.f4.length c) ∧ Below W.heap.size W w') := by
  obtain ⟨L, k, hF⟩ := frs_ex _ s (Nat.le_refl _)
  refine ⟨(rpA L).1.1, (rpA L).1.2, (rpA L).2, rpA_len L, fun W => specReplay_c s L k W hF hm, fun W hb => implReplay_c s L k W a0 a2 (hE.keep hb) ?_ hF hm⟩
  rw [hb.cell (by have := hE.lt; show 0 < w.heap.size; omega)]
  exact hg

set_option maxRecDepth 20000 in
set_option maxHeartbeats 8000000 in
theorem replay_law (s : ByteArray) (w : World) (a0 a2 : Addr) (hE : ErrB w a0 a2) (hg : w.cell? ⟨0, 0, none⟩ = some (.iface 141 (.agg #[.pointer (some ⟨3, 51, none⟩)]))) (hm : s.size ≤ maxLen) :
    Calls Tryd.prog 4 #[.string s] w fun e w' => e = .returned (.bool true) ∧ Below w.heap.size w w' := by
  unfold maxLen at hm
  by_cases hbig : (1048576 : Int) < (s.size : Int)
  · clear hE hg
    go_enter Tryd.func4, Tryd.ntmps4
    go_wp2
    go_ret
    exact ⟨rfl, Below.refl _ _⟩
  obtain ⟨x, n, b, hlx, hs, hi⟩ := rp_both s w a0 a2 hE hg (by omega)
  have CS : Hid (∀ W, Calls Tryd.prog 12 #[.string s] W fun e w' => ∃ (q : Option Addr) (c : Nat), e = .returned (.tuple #[.agg #[.int .i64 x.f0, .int .i64 x.f1, .int .i64 x.f2, .int .i64 x.f3, .slice q x.f4.length c], .int .i64 n, .bool b]) ∧ OwWal w' W.heap.size x (.slice q x.f4.length c) ∧ Below W.heap.size W w') := hs
  have CI : Hid (∀ W, Below w.heap.size w W → Calls Tryd.prog 9 #[.string s] W fun e w' => ∃ (q : Option Addr) (c : Nat), e = .returned (.tuple #[.agg #[.int .i64 x.f0, .int .i64 x.f1, .int .i64 x.f2, .int .i64 x.f3, .slice q x.f4.length c], .int .i64 n, .bool b]) ∧ OwWal w' W.heap.size x (.slice q x.f4.length c) ∧ Below W.heap.size W w') := hi
  have HLX : Hid (LnWal x 1048576) := by show x.f4.length ≤ 1048576; omega
  have hbb : (b != b) = false := by cases b <;> rfl
  have HK60 : Hid (x.f4.length ≤ 60) := hlx
  clear hE hg hs hi hlx
  go_enter Tryd.func4, Tryd.ntmps4
  go_wp2_with fail
  refine (CS.out w).mono ?_
  rintro e w1 ⟨q1, c1, rfl, ho1, b1⟩
  obtain ⟨W1, hW1⟩ : ∃ W, W = w1.alloc (.cells #[.int .i64 x.f0, .int .i64 x.f1, .int .i64 x.f2, .int .i64 x.f3, .slice q1 x.f4.length c1] 26) := ⟨_, rfl⟩
  have HW1 : Hid (w1.alloc (.cells #[.int .i64 x.f0, .int .i64 x.f1, .int .i64 x.f2, .int .i64 x.f3, .slice q1 x.f4.length c1] 26) = W1) := hW1.symm
  have hb1 : Below w1.heap.size w1 W1 := by rw [hW1]; exact (Below.refl _ _).alloc (Nat.le_refl _) _
  have HB1 : Hid (Below w.heap.size w W1) := b1.trans (hb1.mono b1.size)
  have HO1 : Hid (RdWal W1 x (.slice q1 x.f4.length c1)) := OwWal.rd (OwWal.keep ho1 hb1 (Nat.le_refl _))
  have HX1 : Hid (W1.heap[w1.heap.size]? = some (.cells #[.int .i64 x.f0, .int .i64 x.f1, .int .i64 x.f2, .int .i64 x.f3, .slice q1 x.f4.length c1] 26)) := by rw [hW1]; exact alloc_last _ _
  have HSX : Hid (∀ W, Below W1.heap.size W1 W → RdWal W x (.slice q1 x.f4.length c1) ∧ W.heap[w1.heap.size]? = some (.cells #[.int .i64 x.f0, .int .i64 x.f1, .int .i64 x.f2, .int .i64 x.f3, .slice q1 x.f4.length c1] 26)) := fun W hb => ⟨RdWal.keep HO1.out hb (Nat.le_refl _), (hb.block _ (lt_of_some HX1.out)).trans HX1.out⟩
  clear hb1 ho1 b1 hW1
  go_upto_region 4 with fail
  rw [HW1.out]
  go_wp2_with fail
  refine (CI.out W1 HB1.out).mono ?_
  rintro e w2 ⟨q2, c2, rfl, ho2, b2⟩
  obtain ⟨W2, hW2⟩ : ∃ W, W = w2.alloc (.cells #[.int .i64 x.f0, .int .i64 x.f1, .int .i64 x.f2, .int .i64 x.f3, .slice q2 x.f4.length c2] 26) := ⟨_, rfl⟩
  have HW2 : Hid (w2.alloc (.cells #[.int .i64 x.f0, .int .i64 x.f1, .int .i64 x.f2, .int .i64 x.f3, .slice q2 x.f4.length c2] 26) = W2) := hW2.symm
  have hb2 : Below w2.heap.size w2 W2 := by rw [hW2]; exact (Below.refl _ _).alloc (Nat.le_refl _) _
  have HV2 : Hid (Below W1.heap.size W1 W2) := b2.trans (hb2.mono b2.size)
  have HG2 : Hid (OwWal W2 W1.heap.size x (.slice q2 x.f4.length c2)) := OwWal.keep ho2 hb2 (Nat.le_refl _)
  obtain ⟨bx, hbx⟩ : ∃ n, w2.heap.size = n := ⟨_, rfl⟩
  have HBX : Hid (w2.heap.size = bx) := hbx
  have HP2 : Hid (W2.heap[bx]? = some (.cells #[.int .i64 x.f0, .int .i64 x.f1, .int .i64 x.f2, .int .i64 x.f3, .slice q2 x.f4.length c2] 26)) := by rw [hW2, ← hbx]; exact alloc_last _ _
  clear hb2 ho2 b2 hW2 hbx
  go_upto_region 5 with fail
  rw [HW2.out, HBX.out]
  obtain ⟨d0, d1, d2, d3, d4⟩ := box5 (HSX.out W2 HV2.out).2
  obtain ⟨g0, g1, g2, g3, g4⟩ := box5 HP2.out
  go_wp2_with fail
  refine (eqWal_c x (.slice q2 x.f4.length c2) (.slice q1 x.f4.length c1) W2 HLX.out (OwWal.rd HG2.out) (HSX.out W2 HV2.out).1).mono ?_
  rintro e w3 ⟨rfl, b3⟩
  have HV3 : Hid (Below W1.heap.size W1 w3) := HV2.out.trans (b3.mono HV2.out.size)
  have HG3 : Hid (OwWal w3 W1.heap.size x (.slice q2 x.f4.length c2)) := OwWal.keep HG2.out b3 (Nat.le_refl _)
  have HP3 : Hid (w3.heap[bx]? = some (.cells #[.int .i64 x.f0, .int .i64 x.f1, .int .i64 x.f2, .int .i64 x.f3, .slice q2 x.f4.length c2] 26)) := (b3.block _ (lt_of_some HP2.out)).trans HP2.out
  clear b3 d0 d1 d2 d3 d4 g0 g1 g2 g3 g4
  obtain ⟨g0, g1, g2, g3, g4⟩ := box5 HP3.out
  go_wp2_with fail
  refine (markWal_c x 1 (.slice q2 x.f4.length c2) W1.heap.size w3 HLX.out (by decide) (by decide) HV3.out.size HG3.out).mono ?_
  rintro e w4 ⟨rfl, hmo, hbut⟩
  have HM4 : Hid (MoWal w4 W1.heap.size x 1 (.slice q2 x.f4.length c2)) := hmo
  have HP4 : Hid (w4.heap[bx]? = some (.cells #[.int .i64 x.f0, .int .i64 x.f1, .int .i64 x.f2, .int .i64 x.f3, .slice q2 x.f4.length c2] 26)) := (hbut.block _ (lt_of_some HP3.out) (fun u hu hk => by rw [List.mem_singleton.1 hu] at hk; exact own_ne HG3.out HP3.out _ hk rfl)).trans HP3.out
  have HV4 : Hid (Below W1.heap.size W1 w4) := HV3.out.trans (hbut.below (fun u hu k hk => by rw [List.mem_singleton.1 hu] at hk; exact (HG3.out.lt k hk).1) HV3.out.size)
  obtain ⟨K, hK⟩ : ∃ K : Int, 1 + ((x.f4.length * 2 : Nat) : Int) = K := ⟨_, rfl⟩
  have HKK : Hid (1 + ((x.f4.length * 2 : Nat) : Int) = K) := hK
  have hK0 : ¬ K < 0 := by omega
  rw [HKK.out]
  clear hmo hbut hK g0 g1 g2 g3 g4
  obtain ⟨g0, g1, g2, g3, g4⟩ := box5 HP4.out
  go_wp2_with fail
  refine (heldWal_c x 1 (.slice q2 x.f4.length c2) w4 HLX.out (by decide) (by decide) (MoWal.rd HM4.out)).mono ?_
  rintro e w5 ⟨rfl, b5⟩
  rw [HKK.out]
  have HV5 : Hid (Below W1.heap.size W1 w5) := HV4.out.trans (b5.mono HV4.out.size)
  have HP5 : Hid (w5.heap[bx]? = some (.cells #[.int .i64 x.f0, .int .i64 x.f1, .int .i64 x.f2, .int .i64 x.f3, .slice q2 x.f4.length c2] 26)) := (b5.block _ (lt_of_some HP4.out)).trans HP4.out
  have HM5 : Hid (MoWal w5 W1.heap.size x 1 (.slice q2 x.f4.length c2)) := MoWal.keep HM4.out b5 (Nat.le_refl _)
  clear b5 g0 g1 g2 g3 g4
  go_wp2_with fail
  refine (CI.out w5 (HB1.out.trans (HV5.out.mono HB1.out.size))).mono ?_
  rintro e w6 ⟨q3, c3, rfl, ho6, b6⟩
  obtain ⟨W6, hW6⟩ : ∃ W, W = w6.alloc (.cells #[.int .i64 x.f0, .int .i64 x.f1, .int .i64 x.f2, .int .i64 x.f3, .slice q3 x.f4.length c3] 26) := ⟨_, rfl⟩
  have HW6 : Hid (w6.alloc (.cells #[.int .i64 x.f0, .int .i64 x.f1, .int .i64 x.f2, .int .i64 x.f3, .slice q3 x.f4.length c3] 26) = W6) := hW6.symm
  have hb6 : Below w6.heap.size w6 W6 := by rw [hW6]; exact (Below.refl _ _).alloc (Nat.le_refl _) _
  have hb56 : Below w5.heap.size w5 W6 := b6.trans (hb6.mono b6.size)
  have HV6 : Hid (Below W1.heap.size W1 W6) := HV5.out.trans (hb56.mono HV5.out.size)
  have HP6 : Hid (W6.heap[bx]? = some (.cells #[.int .i64 x.f0, .int .i64 x.f1, .int .i64 x.f2, .int .i64 x.f3, .slice q2 x.f4.length c2] 26)) := (hb56.block _ (lt_of_some HP5.out)).trans HP5.out
  have HM6 : Hid (MoWal W6 W1.heap.size x 1 (.slice q2 x.f4.length c2)) := MoWal.keep HM5.out hb56 (Nat.le_refl _)
  have HR6 : Hid (RdWal W6 x (.slice q3 x.f4.length c3)) := OwWal.rd (OwWal.keep ho6 hb6 (Nat.le_refl _))
  have hx6 : W6.heap[w6.heap.size]? = some (.cells #[.int .i64 x.f0, .int .i64 x.f1, .int .i64 x.f2, .int .i64 x.f3, .slice q3 x.f4.length c3] 26) := by rw [hW6]; exact alloc_last _ _
  obtain ⟨h0, h1, h2, h3, h4⟩ := box5 hx6
  clear hb6 ho6 b6 hW6 hb56 hx6
  go_upto_region 16 with fail
  rw [HW6.out]
  obtain ⟨d0, d1, d2, d3, d4⟩ := box5 (HSX.out W6 HV6.out).2
  go_wp2_with fail
  refine (eqWal_c x (.slice q3 x.f4.length c3) (.slice q1 x.f4.length c1) W6 HLX.out HR6.out (HSX.out W6 HV6.out).1).mono ?_
  rintro e w7 ⟨rfl, b7⟩
  have HV7 : Hid (Below W1.heap.size W1 w7) := HV6.out.trans (b7.mono HV6.out.size)
  have HP7 : Hid (w7.heap[bx]? = some (.cells #[.int .i64 x.f0, .int .i64 x.f1, .int .i64 x.f2, .int .i64 x.f3, .slice q2 x.f4.length c2] 26)) := (b7.block _ (lt_of_some HP6.out)).trans HP6.out
  have HM7 : Hid (MoWal w7 W1.heap.size x 1 (.slice q2 x.f4.length c2)) := MoWal.keep HM6.out b7 (Nat.le_refl _)
  clear b7 d0 d1 d2 d3 d4 h0 h1 h2 h3 h4
  obtain ⟨g0, g1, g2, g3, g4⟩ := box5 HP7.out
  go_wp2_with fail
  refine (heldWal_c x 1 (.slice q2 x.f4.length c2) w7 HLX.out (by decide) (by decide) (MoWal.rd HM7.out)).mono ?_
  rintro e w8 ⟨rfl, b8⟩
  rw [HKK.out]
  have HV8 : Hid (Below W1.heap.size W1 w8) := HV7.out.trans (b8.mono HV7.out.size)
  clear b8 g0 g1 g2 g3 g4
  go_wp2
  go_ret
  exact ⟨rfl, HB1.out.trans (HV8.out.mono HB1.out.size)⟩

end Go.Proofs.YthlokfcejojdhaaDoor
