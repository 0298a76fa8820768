/- The walks of the two that read a number in decimal digits. -/
import Derived.Test.YtdhiobfalffebabDecWalk
import Derived.Test.YtdhiobfalffebabRdecMath
namespace Go.Proofs.Ytdhiobfalffebab
open Go.RowKit
set_option linter.unusedVariables false

theorem hid {p : Prop} (h : p) : Hid p := h

/-- What a reading ends in. -/
def RdE (s : ByteArray) (e : Ending) : Prop := ∃ v b, RdP s v b ∧ e = .returned (.tuple #[.int .i64 v, .bool b])
theorem RdE.mk {s : ByteArray} {e : Ending} {v : Int} {b : Bool} (h : RdP s v b) (he : e = .returned (.tuple #[.int .i64 v, .bool b])) : RdE s e := ⟨v, b, h, he⟩

theorem ret_nb {a c : Int} {b d : Bool} (h1 : a = c) (h2 : b = d) : Ending.returned (.tuple #[.int .i64 a, .bool b]) = .returned (.tuple #[.int .i64 c, .bool d]) := by rw [h1, h2]

set_option maxHeartbeats 400000 in
theorem cut_no (s : ByteArray) (w : World) (hm : s.size ≤ maxLen) (h : s.size = 0 ∨ byteAt s 0 ≠ 45) :
    Calls Try.prog 20 #[.string s, .string ⟨#[45]⟩] w fun e w' => e = .returned (.tuple #[.string s, .bool false]) ∧ w' = w := by
  unfold maxLen at hm
  by_cases h0 : s.size = 0
  · have hz : (s.size : Int) < 1 := by omega
    clear h h0
    go_enter Try.func20, Try.ntmps20
    go_wp2
    go_ret2
    exact ⟨rfl, rfl⟩
  · have hz : (1 : Int) ≤ s.size := by omega
    have ht : ((s.extract 0 1).toList == [45]) = false := by
      rw [head_test s (by omega)]; rcases h with h | h; exact absurd h h0; exact decide_eq_false h
    clear h h0
    go_enter Try.func20, Try.ntmps20
    go_wp2
    go_ret2
    exact ⟨rfl, rfl⟩

set_option maxHeartbeats 400000 in
theorem cut_yes (s : ByteArray) (w : World) (hm : s.size ≤ maxLen) (h0 : 0 < s.size) (h : byteAt s 0 = 45) :
    Calls Try.prog 20 #[.string s, .string ⟨#[45]⟩] w fun e w' => e = .returned (.tuple #[.string (s.extract 1 s.size), .bool true]) ∧ w' = w := by
  unfold maxLen at hm
  have hz : (1 : Int) ≤ s.size := by omega
  have ht : ((s.extract 0 1).toList == [45]) = true := by rw [head_test s (by omega)]; exact decide_eq_true h
  clear h h0
  go_enter Try.func20, Try.ntmps20
  go_wp2
  go_ret2
  exact ⟨rfl, rfl⟩

set_option maxHeartbeats 1000000 in
set_option maxRecDepth 100000 in
theorem implRdec_neg (s : ByteArray) (w : World) (hm : s.size ≤ maxLen) (h0 : 0 < s.size) (h : byteAt s 0 = 45) :
    Calls Try.prog 11 #[.string s] w fun e w' => RdE s e ∧ Below w.heap.size w w' := by
  have hm' := hm
  unfold maxLen at hm'
  obtain ⟨D, hD⟩ : ∃ D, D = s.extract 1 s.size := ⟨_, rfl⟩
  have hf : ∀ m, -999999999 ≤ m → m ≤ 999999999 → bl s s.size = decL m → D.size ≤ 9 ∧ (∀ i, i < D.size → 48 ≤ byteAt D i ∧ byteAt D i ≤ 57) ∧ m = -(evL (bl D D.size)) := by
    rw [hD]; exact fun m a b e => (cut_facts s m a b e).1 h
  have hDs : D.size ≤ s.size := by rw [hD, tail_size]; omega
  have hc := fun w => cut_yes s w hm h0 h
  rw [← hD] at hc
  have HC := hid hc
  have HF := hid hf
  clear hc hf hD h h0
  by_cases h9 : (9 : Int) < D.size
  · have HR : Hid (RdP s 0 false) := rd_none s fun m a b e => by have := (HF.out m a b e).1; omega
    go_enter Try.func11, Try.ntmps11
    go_wp2
    go_step3
    go_wp2_with (go_at_call 20; refine (HC.out _).mono ?_; rintro e w1 ⟨rfl, hq⟩; replace hq := hq.symm; subst hq)
    try rw [Exit.noGoto_ret]
    go_ret2
    exact ⟨RdE.mk HR.out rfl, Below.refl _ _⟩
  · go_enter Try.func11, Try.ntmps11
    go_wp2
    go_step3
    go_wp2_with (go_at_call 20; refine (HC.out _).mono ?_; rintro e w1 ⟨rfl, hq⟩; replace hq := hq.symm; subst hq)
    go_step3
    go_wp2
    go_loop [6, 19] (fun n i => ∃ k : Nat, k ≤ D.size ∧ i = .int .i64 k ∧ n = .int .i64 (evL (bl D k))) (fun _ i => D.size - (intOf i).toNat)
    case atStart => exact ⟨0, Nat.zero_le _, rfl, rfl⟩
    case round =>
      obtain ⟨k, hk, rfl, rfl⟩ := hrel
      obtain ⟨v0, v9⟩ := ev9 D k (by have := (ev_bound D k).2.2; omega)
      by_cases hlt : k < D.size
      · have hb := byteAt_eq D k hlt
        have hr := byteAt_range D k
        rw [hb] at hr
        obtain ⟨hr0, hr1⟩ := hr
        by_cases hdg : 48 ≤ ((D[k]).toNat : Int) ∧ ((D[k]).toNat : Int) ≤ 57
        · have HE : Hid (evL (bl D (k + 1)) = evL (bl D k) * 10 + (((D[k]).toNat : Int) - 48)) := by
            have := ev_yes D k (by rw [hb]; exact hdg); rw [hb] at this; exact this
          obtain ⟨hd1, hd2⟩ := hdg
          clear hb
          go_wp2
          go_round
          case rel => exact ⟨k + 1, by omega, by go_num, by rw [HE.out]; go_num⟩
          case measure => simp [intOf]; omega
        · have HB : Hid (byteAt D k = ((D[k]).toNat : Int)) := hb
          clear hb
          have hu0 : ∀ m, -999999999 ≤ m → m ≤ 999999999 → bl s s.size = decL m → False := fun m a b e => by
            have := (HF.out m a b e).2.1 k hlt; rw [HB.out] at this; exact hdg this
          rcases (show ((D[k]).toNat : Int) < 48 ∨ 57 < ((D[k]).toNat : Int) by omega) with hd1 | hd1
          all_goals
            clear hdg
            have hu : ∀ m, -999999999 ≤ m → m ≤ 999999999 → bl s s.size = decL m → m = -(evL (bl D k)) := fun m a b e => (hu0 m a b e).elim
            rcases rd_end s (-(evL (bl D k))) (by omega) (by omega) hu with ⟨hT, HR⟩ | ⟨hT, HR⟩
            · have ht : ((strOfNums (decL (-(evL (bl D k))))).toList == s.toList) = true := by rw [dec_test]; exact decide_eq_true hT
              have HR' : Hid (RdP s (-(evL (bl D k))) true) := HR
              clear hT HR hu hu0
              go_wp2_with (go_at_call 12; refine (implDec_any _ _ (by omega) (by omega)).mono ?_; rintro e w1 ⟨rfl, b1⟩)
              try rw [Exit.noGoto_ret]
              go_ret2
              exact ⟨RdE.mk HR'.out rfl, by assumption⟩
            · have ht : ((strOfNums (decL (-(evL (bl D k))))).toList == s.toList) = false := by rw [dec_test]; exact decide_eq_false hT
              have HR' : Hid (RdP s 0 false) := HR
              clear hT HR hu hu0
              go_wp2_with (go_at_call 12; refine (implDec_any _ _ (by omega) (by omega)).mono ?_; rintro e w1 ⟨rfl, b1⟩)
              try rw [Exit.noGoto_ret]
              go_ret2
              exact ⟨RdE.mk HR'.out rfl, by assumption⟩
      · have hkD : k = D.size := by omega
        subst hkD
        have hu : ∀ m, -999999999 ≤ m → m ≤ 999999999 → bl s s.size = decL m → m = -(evL (bl D D.size)) := fun m a b e => (HF.out m a b e).2.2
        rcases rd_end s (-(evL (bl D D.size))) (by omega) (by omega) hu with ⟨hT, HR⟩ | ⟨hT, HR⟩
        · have ht : ((strOfNums (decL (-(evL (bl D D.size))))).toList == s.toList) = true := by rw [dec_test]; exact decide_eq_true hT
          have HR' : Hid (RdP s (-(evL (bl D D.size))) true) := HR
          clear hT HR hu
          go_wp2_with (go_at_call 12; refine (implDec_any _ _ (by omega) (by omega)).mono ?_; rintro e w1 ⟨rfl, b1⟩)
          try rw [Exit.noGoto_ret]
          go_ret2
          exact ⟨RdE.mk HR'.out rfl, by assumption⟩
        · have ht : ((strOfNums (decL (-(evL (bl D D.size))))).toList == s.toList) = false := by rw [dec_test]; exact decide_eq_false hT
          have HR' : Hid (RdP s 0 false) := HR
          clear hT HR hu
          go_wp2_with (go_at_call 12; refine (implDec_any _ _ (by omega) (by omega)).mono ?_; rintro e w1 ⟨rfl, b1⟩)
          try rw [Exit.noGoto_ret]
          go_ret2
          exact ⟨RdE.mk HR'.out rfl, by assumption⟩

set_option maxHeartbeats 1000000 in
set_option maxRecDepth 100000 in
theorem implRdec_pos (s : ByteArray) (w : World) (hm : s.size ≤ maxLen) (h : s.size = 0 ∨ byteAt s 0 ≠ 45) :
    Calls Try.prog 11 #[.string s] w fun e w' => RdE s e ∧ Below w.heap.size w w' := by
  have hm' := hm
  unfold maxLen at hm'
  obtain ⟨D, hD⟩ : ∃ D, D = s := ⟨_, rfl⟩
  have hf : ∀ m, -999999999 ≤ m → m ≤ 999999999 → bl s s.size = decL m → D.size ≤ 9 ∧ (∀ i, i < D.size → 48 ≤ byteAt D i ∧ byteAt D i ≤ 57) ∧ m = evL (bl D D.size) := by
    rw [hD]; intro m a b e
    obtain ⟨_, q, r⟩ := cut_facts s m a b e
    rcases h with h | h
    · omega
    · exact q h
  have hDs : D.size ≤ s.size := by rw [hD]; exact Nat.le_refl _
  have hc0 := fun w => cut_no s w hm h
  have hc : ∀ w, Calls Try.prog 20 #[.string s, .string ⟨#[45]⟩] w fun e w' => e = .returned (.tuple #[.string D, .bool false]) ∧ w' = w := by rw [hD]; exact hc0
  have HC := hid hc
  have HF := hid hf
  clear hc hc0 hf hD h
  by_cases h9 : (9 : Int) < D.size
  · have HR : Hid (RdP s 0 false) := rd_none s fun m a b e => by have := (HF.out m a b e).1; omega
    go_enter Try.func11, Try.ntmps11
    go_wp2
    go_step3
    go_wp2_with (go_at_call 20; refine (HC.out _).mono ?_; rintro e w1 ⟨rfl, hq⟩; replace hq := hq.symm; subst hq)
    try rw [Exit.noGoto_ret]
    go_ret2
    exact ⟨RdE.mk HR.out rfl, Below.refl _ _⟩
  · go_enter Try.func11, Try.ntmps11
    go_wp2
    go_step3
    go_wp2_with (go_at_call 20; refine (HC.out _).mono ?_; rintro e w1 ⟨rfl, hq⟩; replace hq := hq.symm; subst hq)
    go_step3
    go_wp2
    go_loop [6, 19] (fun n i => ∃ k : Nat, k ≤ D.size ∧ i = .int .i64 k ∧ n = .int .i64 (evL (bl D k))) (fun _ i => D.size - (intOf i).toNat)
    case atStart => exact ⟨0, Nat.zero_le _, rfl, rfl⟩
    case round =>
      obtain ⟨k, hk, rfl, rfl⟩ := hrel
      obtain ⟨v0, v9⟩ := ev9 D k (by have := (ev_bound D k).2.2; omega)
      by_cases hlt : k < D.size
      · have hb := byteAt_eq D k hlt
        have hr := byteAt_range D k
        rw [hb] at hr
        obtain ⟨hr0, hr1⟩ := hr
        by_cases hdg : 48 ≤ ((D[k]).toNat : Int) ∧ ((D[k]).toNat : Int) ≤ 57
        · have HE : Hid (evL (bl D (k + 1)) = evL (bl D k) * 10 + (((D[k]).toNat : Int) - 48)) := by
            have := ev_yes D k (by rw [hb]; exact hdg); rw [hb] at this; exact this
          obtain ⟨hd1, hd2⟩ := hdg
          clear hb
          go_wp2
          go_round
          case rel => exact ⟨k + 1, by omega, by go_num, by rw [HE.out]; go_num⟩
          case measure => simp [intOf]; omega
        · have HB : Hid (byteAt D k = ((D[k]).toNat : Int)) := hb
          clear hb
          have hu0 : ∀ m, -999999999 ≤ m → m ≤ 999999999 → bl s s.size = decL m → False := fun m a b e => by
            have := (HF.out m a b e).2.1 k hlt; rw [HB.out] at this; exact hdg this
          rcases (show ((D[k]).toNat : Int) < 48 ∨ 57 < ((D[k]).toNat : Int) by omega) with hd1 | hd1
          all_goals
            clear hdg
            have hu : ∀ m, -999999999 ≤ m → m ≤ 999999999 → bl s s.size = decL m → m = evL (bl D k) := fun m a b e => (hu0 m a b e).elim
            rcases rd_end s (evL (bl D k)) (by omega) (by omega) hu with ⟨hT, HR⟩ | ⟨hT, HR⟩
            · have ht : ((strOfNums (decL (evL (bl D k)))).toList == s.toList) = true := by rw [dec_test]; exact decide_eq_true hT
              have HR' : Hid (RdP s (evL (bl D k)) true) := HR
              clear hT HR hu hu0
              go_wp2_with (go_at_call 12; refine (implDec_any _ _ (by omega) (by omega)).mono ?_; rintro e w1 ⟨rfl, b1⟩)
              try rw [Exit.noGoto_ret]
              go_ret2
              exact ⟨RdE.mk HR'.out rfl, by assumption⟩
            · have ht : ((strOfNums (decL (evL (bl D k)))).toList == s.toList) = false := by rw [dec_test]; exact decide_eq_false hT
              have HR' : Hid (RdP s 0 false) := HR
              clear hT HR hu hu0
              go_wp2_with (go_at_call 12; refine (implDec_any _ _ (by omega) (by omega)).mono ?_; rintro e w1 ⟨rfl, b1⟩)
              try rw [Exit.noGoto_ret]
              go_ret2
              exact ⟨RdE.mk HR'.out rfl, by assumption⟩
      · have hkD : k = D.size := by omega
        subst hkD
        have hu : ∀ m, -999999999 ≤ m → m ≤ 999999999 → bl s s.size = decL m → m = evL (bl D D.size) := fun m a b e => (HF.out m a b e).2.2
        rcases rd_end s (evL (bl D D.size)) (by omega) (by omega) hu with ⟨hT, HR⟩ | ⟨hT, HR⟩
        · have ht : ((strOfNums (decL (evL (bl D D.size)))).toList == s.toList) = true := by rw [dec_test]; exact decide_eq_true hT
          have HR' : Hid (RdP s (evL (bl D D.size)) true) := HR
          clear hT HR hu
          go_wp2_with (go_at_call 12; refine (implDec_any _ _ (by omega) (by omega)).mono ?_; rintro e w1 ⟨rfl, b1⟩)
          try rw [Exit.noGoto_ret]
          go_ret2
          exact ⟨RdE.mk HR'.out rfl, by assumption⟩
        · have ht : ((strOfNums (decL (evL (bl D D.size)))).toList == s.toList) = false := by rw [dec_test]; exact decide_eq_false hT
          have HR' : Hid (RdP s 0 false) := HR
          clear hT HR hu
          go_wp2_with (go_at_call 12; refine (implDec_any _ _ (by omega) (by omega)).mono ?_; rintro e w1 ⟨rfl, b1⟩)
          try rw [Exit.noGoto_ret]
          go_ret2
          exact ⟨RdE.mk HR'.out rfl, by assumption⟩


theorem implRdec_any (s : ByteArray) (w : World) (hm : s.size ≤ maxLen) :
    Calls Try.prog 11 #[.string s] w fun e w' => RdE s e ∧ Below w.heap.size w w' := by
  by_cases h0 : 0 < s.size
  · by_cases h : byteAt s 0 = 45
    · exact implRdec_neg s w hm h0 h
    · exact implRdec_pos s w hm (.inr h)
  · exact implRdec_pos s w hm (.inl (by omega))

end Go.Proofs.Ytdhiobfalffebab
