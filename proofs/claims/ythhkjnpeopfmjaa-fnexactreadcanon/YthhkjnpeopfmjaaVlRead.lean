/- The exact law of ReadCanon, walked. -/
import Derived.Test.YthhkjnpeopfmjaaVrImpl
namespace Go.Proofs.Ythhkjnpeopfmjaa
open Go.RowKit
set_option linter.unusedVariables false
set_option linter.unusedSimpArgs false

/-- The vocabulary and the answer that reading gives. -/
def Rd2 (s : ByteArray) (L : List S_Pair) (G : Bool) : Prop := (G = true ∧ okV L ∧ canT L = s) ∨ (G = false ∧ ¬ HasV s ∧ L = [])

theorem rd2_one {s : ByteArray} {L M : List S_Pair} {G H : Bool} (h1 : Rd2 s L G) (h2 : Rd2 s M H) : M = L ∧ H = G := by
  rcases h1 with ⟨rfl, a, b⟩ | ⟨rfl, a, rfl⟩
  · rcases h2 with ⟨rfl, c, d⟩ | ⟨_, c, _⟩
    · exact ⟨canT_inj c a (d.trans b.symm), rfl⟩
    · exact absurd ⟨L, a, b⟩ c
  · rcases h2 with ⟨_, c, d⟩ | ⟨rfl, _, rfl⟩
    · exact absurd ⟨M, c, d⟩ a
    · exact ⟨rfl, rfl⟩

theorem rd2_len {s : ByteArray} {L : List S_Pair} {G : Bool} (h : Rd2 s L G) : L.length ≤ 60 := by
  rcases h with ⟨_, h, _⟩ | ⟨_, _, rfl⟩
  · exact okV_len h
  · exact Nat.zero_le _

theorem rdc_two {s : ByteArray} {w : World} {f : FuncId} {args : Array Value} (h : Calls Try.prog f args w (RdcR s w)) :
    Calls Try.prog f args w fun e w' => ∃ (L : List S_Pair) (G : Bool) (p : Option Addr) (c : Nat), Rd2 s L G ∧ e = .returned (.tuple #[.agg #[.slice p L.length c], .bool G]) ∧ OwVocab w' w.heap.size ⟨L⟩ (.slice p L.length c) ∧ Below w.heap.size w w' := by
  refine h.mono ?_
  rintro e w' ⟨hb, ⟨L, v, h1, h2, rfl, ho⟩ | ⟨h1, rfl⟩⟩
  · obtain ⟨p, c, rfl⟩ := own_sliceV ho
    exact ⟨L, true, p, c, .inl ⟨rfl, h1, h2⟩, rfl, ho, hb⟩
  · exact ⟨[], false, none, 0, .inr ⟨rfl, h1, rfl⟩, rfl, ⟨rfl, Or.inl ⟨rfl, rfl⟩⟩, hb⟩

set_option maxRecDepth 20000 in
set_option maxHeartbeats 8000000 in
theorem readcanon_law (s : ByteArray) (w : World) (hm : s.size ≤ maxLen) : Calls Try.prog 7 #[.string s] w fun e w' => e = .returned (.bool true) ∧ Below w.heap.size w w' := by
  by_cases hbig : (1048576 : Int) < (s.size : Int)
  · have hml : (s.size : Int) ≤ 9223372036854775807 := by unfold maxLen at hm; omega
    clear hm
    go_enter Try.func7, Try.ntmps7
    go_wp2
    go_ret
    exact ⟨rfl, Below.refl _ _⟩
  have HS : Hid (s.size ≤ 1048576) := by show _ ≤ _; omega
  clear hm
  go_enter Try.func7, Try.ntmps7
  go_wp2_with fail
  refine (rdc_two (specRead_c s w HS.out)).mono ?_
  rintro e w1 ⟨L1, G1, p1, c1, hr1, rfl, ho1, b1⟩
  obtain ⟨W1, hW1⟩ : ∃ W, W = w1.alloc (.cells #[(.slice p1 L1.length c1)] 29) := ⟨_, rfl⟩
  have HW1 : Hid (w1.alloc (.cells #[(.slice p1 L1.length c1)] 29) = W1) := hW1.symm
  have HR1 : Hid (Rd2 s L1 G1) := hr1
  have HLN : Hid (LnVocab ⟨L1⟩ 1048576) := by have := rd2_len hr1; show L1.length ≤ _; omega
  have HX1 : Hid (W1.heap[w1.heap.size]? = some (.cells #[(.slice p1 L1.length c1)] 29)) := by rw [hW1]; exact alloc_last _ _
  have HC1 : Hid (Below w.heap.size w W1) := by rw [hW1]; exact b1.alloc b1.size _
  have HV1 : Hid (RdVocab W1 ⟨L1⟩ (.slice p1 L1.length c1)) := RdVocab.keep (OwVocab.rd ho1) (show Below w1.heap.size w1 W1 by rw [hW1]; exact (Below.refl _ _).alloc (Nat.le_refl _) _) (Nat.le_refl _)
  clear hW1 ho1 b1 hr1
  have d0 := box1 HX1.out
  go_wp2_with fail
  rw [HW1.out]
  refine (rdc_two (implRead_c s W1 HS.out)).mono ?_
  rintro e w2 ⟨L2, G2, p2, c2, hr2, rfl, ho2, b2⟩
  obtain ⟨rfl, rfl⟩ := rd2_one HR1.out hr2
  obtain ⟨W2, hW2⟩ : ∃ W, W = w2.alloc (.cells #[(.slice p2 L2.length c2)] 29) := ⟨_, rfl⟩
  have HW2 : Hid (w2.alloc (.cells #[(.slice p2 L2.length c2)] 29) = W2) := hW2.symm
  have HP2 : Hid (W2.heap[w2.heap.size]? = some (.cells #[(.slice p2 L2.length c2)] 29)) := by rw [hW2]; exact alloc_last _ _
  have HB2 : Hid (Below W1.heap.size W1 W2) := by rw [hW2]; exact b2.alloc b2.size _
  have HO2 : Hid (OwVocab W2 W1.heap.size ⟨L2⟩ (.slice p2 L2.length c2)) := OwVocab.keep ho2 (show Below w2.heap.size w2 W2 by rw [hW2]; exact (Below.refl _ _).alloc (Nat.le_refl _) _) (Nat.le_refl _)
  have HNE : Hid (∀ k, (Value.slice p2 L2.length c2).ownBlock = some k → W1.heap.size ≤ k ∧ k < w2.heap.size) := fun k hk => ho2.lt k hk
  have d02 := box1 ((b2.block _ (lt_of_some HX1.out)).trans HX1.out)
  have hne2 : ¬ w1.heap.size = w2.heap.size := by have := lt_of_some ((b2.block _ (lt_of_some HX1.out)).trans HX1.out); omega
  have hlt2 : w1.heap.size < w2.heap.size := lt_of_some ((b2.block _ (lt_of_some HX1.out)).trans HX1.out)
  clear hW2 ho2 b2 hr2 d0
  have hGG : (G2 != G2) = false := by cases G2 <;> rfl
  go_wp2_with fail
  rw [HW2.out]
  refine (eqVocab_c ⟨L2⟩ (.slice p2 L2.length c2) (.slice p1 L2.length c1) W2 HLN.out (OwVocab.rd HO2.out) (RdVocab.keep HV1.out HB2.out (Nat.le_refl _))).mono ?_
  rintro e w3 ⟨rfl, b3⟩
  have HP3 : Hid (w3.heap[w2.heap.size]? = some (.cells #[(.slice p2 L2.length c2)] 29)) := (b3.block _ (lt_of_some HP2.out)).trans HP2.out
  have HB3 : Hid (Below W1.heap.size W1 w3) := HB2.out.trans (b3.mono HB2.out.size)
  have HO3 : Hid (OwVocab w3 W1.heap.size ⟨L2⟩ (.slice p2 L2.length c2)) := OwVocab.keep HO2.out b3 (Nat.le_refl _)
  clear b3 d02 hne2 hlt2
  have p0 := box1 HP3.out
  go_wp2_with fail
  refine (markVocab_c ⟨L2⟩ 1 (.slice p2 L2.length c2) W1.heap.size w3 HLN.out (by decide) (by decide) HB3.out.size HO3.out).mono ?_
  rintro e w4 ⟨rfl, hmo, hbut⟩
  have HM4 : Hid (MoVocab w4 W1.heap.size ⟨L2⟩ 1 (.slice p2 L2.length c2)) := hmo
  have HP4 : Hid (w4.heap[w2.heap.size]? = some (.cells #[(.slice p2 L2.length c2)] 29)) := (hbut.block _ (lt_of_some HP3.out) (fun u hu hk => by rw [List.mem_singleton.1 hu] at hk; have := (HNE.out _ hk).2; omega)).trans HP3.out
  have HB4 : Hid (Below W1.heap.size W1 w4) := HB3.out.trans (hbut.below (fun u hu k hk => by rw [List.mem_singleton.1 hu] at hk; exact (HNE.out k hk).1) HB3.out.size)
  obtain ⟨K, hK⟩ : ∃ K : Int, 1 + (((⟨L2⟩ : S_Vocab).f0.length * 2 : Nat) : Int) = K := ⟨_, rfl⟩
  have HK : Hid (1 + (((⟨L2⟩ : S_Vocab).f0.length * 2 : Nat) : Int) = K) := hK
  have hK0 : ¬ K < 0 := by omega
  rw [HK.out]
  clear hmo hbut p0 hK
  have p0 := box1 HP4.out
  go_wp2_with fail
  refine (heldVocab_c ⟨L2⟩ 1 (.slice p2 L2.length c2) w4 HLN.out (by decide) (by decide) (MoVocab.rd HM4.out)).mono ?_
  rintro e w5 ⟨rfl, b5⟩
  rw [HK.out]
  have HP5 : Hid (w5.heap[w2.heap.size]? = some (.cells #[(.slice p2 L2.length c2)] 29)) := (b5.block _ (lt_of_some HP4.out)).trans HP4.out
  have HB5 : Hid (Below W1.heap.size W1 w5) := HB4.out.trans (b5.mono HB4.out.size)
  have HM5 : Hid (MoVocab w5 W1.heap.size ⟨L2⟩ 1 (.slice p2 L2.length c2)) := MoVocab.keep HM4.out b5 (Nat.le_refl _)
  clear b5 p0
  go_wp2_with fail
  refine (rdc_two (implRead_c s w5 HS.out)).mono ?_
  rintro e w6 ⟨L6, G6, p6, c6, hr6, rfl, ho6, b6⟩
  obtain ⟨hLL, hGE⟩ := rd2_one HR1.out hr6
  subst hLL
  subst hGE
  obtain ⟨W6, hW6⟩ : ∃ W, W = w6.alloc (.cells #[(.slice p6 L6.length c6)] 29) := ⟨_, rfl⟩
  have HW6 : Hid (w6.alloc (.cells #[(.slice p6 L6.length c6)] 29) = W6) := hW6.symm
  have HQ6 : Hid (W6.heap[w6.heap.size]? = some (.cells #[(.slice p6 L6.length c6)] 29)) := by rw [hW6]; exact alloc_last _ _
  have HB56 : Hid (Below w5.heap.size w5 W6) := by rw [hW6]; exact b6.alloc b6.size _
  have HP6 : Hid (W6.heap[w2.heap.size]? = some (.cells #[(.slice p2 L6.length c2)] 29)) := (HB56.out.block _ (lt_of_some HP5.out)).trans HP5.out
  have HB6 : Hid (Below W1.heap.size W1 W6) := HB5.out.trans (HB56.out.mono HB5.out.size)
  have HM6 : Hid (MoVocab W6 W1.heap.size ⟨L6⟩ 1 (.slice p2 L6.length c2)) := MoVocab.keep HM5.out HB56.out (Nat.le_refl _)
  have HV6 : Hid (RdVocab W6 ⟨L6⟩ (.slice p6 L6.length c6)) := RdVocab.keep (OwVocab.rd ho6) (show Below w6.heap.size w6 W6 by rw [hW6]; exact (Below.refl _ _).alloc (Nat.le_refl _) _) (Nat.le_refl _)
  have d06 := box1 ((b6.block _ (Nat.lt_of_lt_of_le (lt_of_some HX1.out) HB5.out.size)).trans ((HB5.out.block _ (lt_of_some HX1.out)).trans HX1.out))
  have hne6 : ¬ w1.heap.size = w6.heap.size := by have := lt_of_some HX1.out; have := HB5.out.size; have := b6.size; omega
  have hlt6 : w1.heap.size < w6.heap.size := by have := lt_of_some HX1.out; have := HB5.out.size; have := b6.size; omega
  clear hW6 ho6 b6 hr6
  go_wp2_with fail
  rw [HW6.out]
  refine (eqVocab_c ⟨L6⟩ (.slice p6 L6.length c6) (.slice p1 L6.length c1) W6 HLN.out HV6.out (RdVocab.keep HV1.out HB6.out (Nat.le_refl _))).mono ?_
  rintro e w7 ⟨rfl, b7⟩
  have HP7 : Hid (w7.heap[w2.heap.size]? = some (.cells #[(.slice p2 L6.length c2)] 29)) := (b7.block _ (lt_of_some HP6.out)).trans HP6.out
  have HB7 : Hid (Below W1.heap.size W1 w7) := HB6.out.trans (b7.mono HB6.out.size)
  have HM7 : Hid (MoVocab w7 W1.heap.size ⟨L6⟩ 1 (.slice p2 L6.length c2)) := MoVocab.keep HM6.out b7 (Nat.le_refl _)
  clear b7 d06 hne6 hlt6
  have p0 := box1 HP7.out
  go_wp2_with fail
  refine (heldVocab_c ⟨L6⟩ 1 (.slice p2 L6.length c2) w7 HLN.out (by decide) (by decide) (MoVocab.rd HM7.out)).mono ?_
  rintro e w8 ⟨rfl, b8⟩
  rw [HK.out]
  have HE8 : Hid (Below w.heap.size w w8) := HC1.out.trans ((HB7.out.trans (b8.mono HB7.out.size)).mono HC1.out.size)
  clear b8 p0
  go_wp2
  go_ret
  exact ⟨rfl, HE8.out⟩

end Go.Proofs.Ythhkjnpeopfmjaa
