/- The reading of a record's text: plain facts. -/
import Derived.Test.YthlokfcejojdhaaDoorRvMath
import Derived.Test.YthlokfcejojdhaaDoorWsWalk
namespace Go.Proofs.YthlokfcejojdhaaDoor
open Go.RowKit
set_option linter.unusedVariables false

theorem rv_take (s : ByteArray) : ∀ (f i : Nat), i + f ≤ s.size → (∀ j, j < i → 128 ≤ byteAt s j) → (rvAt s f i).2 ≠ 0 →
    ∃ k : Nat, (rvAt s f i).2 = (k : Int) ∧ 1 ≤ k ∧ k ≤ i + f ∧ (rvAt s f i).1 = segL (bl s k) ∧ varL (rvAt s f i).1 = bl s k
  | 0, i, _, _, h => absurd rfl h
  | f + 1, i, hs, ha, h => by
    by_cases h1 : 128 ≤ byteAt s i
    · rw [rvAt_on s f i h1] at h ⊢
      obtain ⟨k, e1, e2, e3, e4, e5⟩ := rv_take s f (i + 1) (by omega) (fun j hj => by
        rcases Nat.lt_succ_iff_lt_or_eq.mp hj with h | rfl
        · exact ha j h
        · exact h1) h
      exact ⟨k, e1, e2, by omega, e4, e5⟩
    · by_cases h2 : byteAt s i = 0 ∧ 0 < i
      · rw [rvAt_bad s f i h2.1 h2.2] at h; exact absurd rfl h
      · rw [rvAt_end s f i (by omega) h2]
        refine ⟨i + 1, rfl, by omega, by omega, rfl, ?_⟩
        rw [bl_succ]
        refine (var_seg (byteAt s i) (byteAt_range s i).1 (by omega) (bl s i) (fun c hc => ?_) ?_).1
        · obtain ⟨j, hj, rfl⟩ : ∃ j, j < i ∧ byteAt s j = c := by
            simpa [bl] using hc
          exact ⟨ha j hj, (byteAt_range s j).2⟩
        · rcases Nat.eq_zero_or_pos i with rfl | hi
          · exact .inl rfl
          · refine .inr ?_
            have := (byteAt_range s i).1
            omega

/-- The number that is read at byte a of s, and how many bytes it has. -/
def rdV (s : ByteArray) (a : Nat) : Int × Int := rvAt (s.extract a s.size) (min (s.extract a s.size).size 7) 0

theorem bl_text (t : ByteArray) (k : Nat) (hk : k ≤ t.size) : strOfNums (bl t k) = t.extract 0 k := by
  have h := str_eq_pre (bl t k) (fun b hb => by
    obtain ⟨j, hj, rfl⟩ : ∃ j, j < k ∧ byteAt t j = b := by simpa [bl] using hb
    exact byteAt_range t j) t k hk
  rw [decide_eq_true rfl, beq_iff_eq] at h
  exact (txt_iff _ _).1 h

theorem rdV_take (s : ByteArray) (a : Nat) (ha : a ≤ s.size) (h : (rdV s a).2 ≠ 0) : ∃ k : Nat, (rdV s a).2 = (k : Int) ∧ 1 ≤ k ∧ k ≤ 7 ∧ a + k ≤ s.size ∧ strOfNums (varL (rdV s a).1) = s.extract a (a + k) := by
  have hz : (s.extract a s.size).size = s.size - a := by simp
  obtain ⟨k, e1, e2, e3, e4, e5⟩ := rv_take (s.extract a s.size) (min (s.extract a s.size).size 7) 0 (by omega) (fun j hj => absurd hj (by omega)) h
  refine ⟨k, e1, e2, by omega, by omega, ?_⟩
  show strOfNums (varL (rvAt (s.extract a s.size) (min (s.extract a s.size).size 7) 0).1) = _
  rw [e5, bl_text _ _ (by omega), ByteArray.extract_extract]
  rw [Nat.add_zero, Nat.min_eq_left (by omega)]

theorem rdV_le (s : ByteArray) (a : Nat) : 0 ≤ (rdV s a).1 ∧ (rdV s a).1 ≤ 562949953421311 ∧ 0 ≤ (rdV s a).2 ∧ (rdV s a).2 ≤ 7 ∧ (a ≤ s.size → a + (rdV s a).2.toNat ≤ s.size) := by
  have hr : ∀ (t : ByteArray) (f i : Nat), i + f ≤ 7 → 0 ≤ (rvAt t f i).1 ∧ (rvAt t f i).1 ≤ 562949953421311 ∧ 0 ≤ (rvAt t f i).2 ∧ (rvAt t f i).2 ≤ 7 := by
    intro t f
    induction f with
    | zero => intro i hi; show (0 : Int) ≤ 0 ∧ (0 : Int) ≤ 562949953421311 ∧ (0 : Int) ≤ 0 ∧ (0 : Int) ≤ 7; decide
    | succ f ih =>
      intro i hi
      by_cases h1 : 128 ≤ byteAt t i
      · rw [rvAt_on t f i h1]; exact ih (i + 1) (by omega)
      · by_cases h2 : byteAt t i = 0 ∧ 0 < i
        · rw [rvAt_bad t f i h2.1 h2.2]; exact ⟨by decide, by decide, by decide, by decide⟩
        · rw [rvAt_end t f i (by omega) h2]
          refine ⟨segL_nonneg _, segL_le7 _ (by rw [bl_length]; omega), ?_, ?_⟩
          · show (0 : Int) ≤ ((i + 1 : Nat) : Int); omega
          · show ((i + 1 : Nat) : Int) ≤ 7; omega
  obtain ⟨h1, h2, h3, h4⟩ := hr (s.extract a s.size) (min (s.extract a s.size).size 7) 0 (by omega)
  refine ⟨h1, h2, h3, h4, fun ha => ?_⟩
  by_cases h : (rdV s a).2 = 0
  · rw [h]; exact ha
  · obtain ⟨k, e, _, _, h5, _⟩ := rdV_take s a ha h
    rw [e]; omega

/-- Where the second, the third number and the data begin. -/
def at1 (s : ByteArray) : Nat := 1 + (rdV s 1).2.toNat
def at2 (s : ByteArray) : Nat := at1 s + (rdV s (at1 s)).2.toNat
def at3 (s : ByteArray) : Nat := at2 s + (rdV s (at2 s)).2.toNat

/-- The parts of a text, whether they are a record's or not. -/
def rawR (s : ByteArray) : S_Rec := ⟨byteAt s 0, (rdV s 1).1, (rdV s (at1 s)).1, (rdV s (at2 s)).1 - 1, s.extract (at3 s) s.size⟩

/-- A text that has all three numbers. -/
def hasR (s : ByteArray) : Prop := s.size ≠ 0 ∧ (rdV s 1).2 ≠ 0 ∧ (rdV s (at1 s)).2 ≠ 0 ∧ (rdV s (at2 s)).2 ≠ 0

instance (s : ByteArray) : Decidable (hasR s) := by unfold hasR; infer_instance

def noR : S_Rec := ⟨0, 0, 0, 0, ⟨#[]⟩⟩

theorem noR_bad : ¬ okR noR := by
  unfold okR noR
  rintro (⟨h, _⟩ | ⟨h, _⟩ | ⟨h, _⟩ | ⟨h, _⟩) <;> exact absurd h (by decide)

/-- What a text is read as. -/
def rdR (s : ByteArray) : S_Rec := if hasR s ∧ okR (rawR s) then rawR s else noR

theorem rdR_yes {s : ByteArray} (h : hasR s) (h2 : okR (rawR s)) : rdR s = rawR s := if_pos ⟨h, h2⟩
theorem rdR_no {s : ByteArray} (h : ¬ (hasR s ∧ okR (rawR s))) : rdR s = noR := if_neg h

theorem rdR_iff (s : ByteArray) : okR (rdR s) ↔ hasR s ∧ okR (rawR s) := by
  by_cases h : hasR s ∧ okR (rawR s)
  · rw [rdR_yes h.1 h.2]; exact ⟨fun _ => h, fun h => h.2⟩
  · rw [rdR_no h]; exact ⟨fun h' => absurd h' noR_bad, fun h' => absurd h' h⟩

theorem at_le (s : ByteArray) (h : s.size ≠ 0) : 1 ≤ at1 s ∧ at1 s ≤ at2 s ∧ at2 s ≤ at3 s ∧ at1 s ≤ s.size ∧ at2 s ≤ s.size ∧ at3 s ≤ s.size ∧ at1 s ≤ 8 ∧ at2 s ≤ 15 ∧ at3 s ≤ 22 := by
  obtain ⟨_, _, a1, a2, a3⟩ := rdV_le s 1
  obtain ⟨_, _, b1, b2, b3⟩ := rdV_le s (at1 s)
  obtain ⟨_, _, c1, c2, c3⟩ := rdV_le s (at2 s)
  have e1 : at1 s = 1 + (rdV s 1).2.toNat := rfl
  have e2 : at2 s = at1 s + (rdV s (at1 s)).2.toNat := rfl
  have e3 : at3 s = at2 s + (rdV s (at2 s)).2.toNat := rfl
  have a4 := a3 (by omega)
  have b4 := b3 (by omega)
  have c4 := c3 (by omega)
  omega

theorem str_app (xs ys : List Int) : strOfNums (xs ++ ys) = strOfNums xs ++ strOfNums ys := by
  apply (txt_iff _ _).1
  rw [ByteArray.toList_eq, ByteArray.toList_eq, strOfNums_data, ByteArray.data_append, Array.toList_append, strOfNums_data, strOfNums_data, List.map_append]

theorem ext_join (s : ByteArray) (a b c : Nat) (h1 : a ≤ b) (h2 : b ≤ c) : s.extract a b ++ s.extract b c = s.extract a c := by
  rw [ByteArray.extract_append_extract, Nat.min_eq_left h1, Nat.max_eq_right h2]

theorem text_join (s : ByteArray) (k1 k2 k3 : Nat) (L1 L2 L3 : List Int) (h : 1 + k1 + k2 + k3 ≤ s.size) (t1 : strOfNums L1 = s.extract 1 (1 + k1)) (t2 : strOfNums L2 = s.extract (1 + k1) (1 + k1 + k2)) (t3 : strOfNums L3 = s.extract (1 + k1 + k2) (1 + k1 + k2 + k3)) :
    strOfNums ((([byteAt s 0] ++ L1) ++ L2) ++ L3) ++ s.extract (1 + k1 + k2 + k3) s.size = s := by
  have t0 : strOfNums [byteAt s 0] = s.extract 0 1 := bl_text s 1 (by omega)
  rw [str_app, str_app, str_app, t0, t1, t2, t3]
  rw [ext_join _ _ _ _ (by omega) (by omega), ext_join _ _ _ _ (by omega) (by omega), ext_join _ _ _ _ (by omega) (by omega), ext_join _ _ _ _ (by omega) (by omega)]
  exact ByteArray.extract_zero_size

/-- The three numbers of a text that is not empty, as letters. -/
theorem rd_letters (s : ByteArray) (h : s.size ≠ 0) : ∃ (t i v : Int) (k1 k2 k3 : Nat), (rdV s 1).1 = t ∧ (rdV s 1).2 = (k1 : Int) ∧ (rdV s (1 + k1)).1 = i ∧ (rdV s (1 + k1)).2 = (k2 : Int) ∧ (rdV s (1 + k1 + k2)).1 = v ∧ (rdV s (1 + k1 + k2)).2 = (k3 : Int) ∧
    1 + k1 + k2 + k3 ≤ s.size ∧ k1 ≤ 7 ∧ k2 ≤ 7 ∧ k3 ≤ 7 ∧ (0 ≤ t ∧ t ≤ 562949953421311) ∧ (0 ≤ i ∧ i ≤ 562949953421311) ∧ (0 ≤ v ∧ v ≤ 562949953421311) ∧
    rawR s = ⟨byteAt s 0, t, i, v - 1, s.extract (1 + k1 + k2 + k3) s.size⟩ ∧ (hasR s ↔ k1 ≠ 0 ∧ k2 ≠ 0 ∧ k3 ≠ 0) := by
  obtain ⟨a1, a2, a3, a4, a5⟩ := rdV_le s 1
  obtain ⟨b1, b2, b3, b4, b5⟩ := rdV_le s (at1 s)
  obtain ⟨c1, c2, c3, c4, c5⟩ := rdV_le s (at2 s)
  obtain ⟨_, _, _, g4, g5, g6, _⟩ := at_le s h
  have e1 : at1 s = 1 + (rdV s 1).2.toNat := rfl
  have e2 : at2 s = at1 s + (rdV s (at1 s)).2.toNat := rfl
  have e3 : at3 s = at2 s + (rdV s (at2 s)).2.toNat := rfl
  refine ⟨(rdV s 1).1, (rdV s (at1 s)).1, (rdV s (at2 s)).1, (rdV s 1).2.toNat, (rdV s (at1 s)).2.toNat, (rdV s (at2 s)).2.toNat, rfl, by omega, ?_⟩
  rw [← e1, ← e2, ← e3]
  refine ⟨rfl, by omega, rfl, by omega, g6, by omega, by omega, by omega, ⟨a1, a2⟩, ⟨b1, b2⟩, ⟨c1, c2⟩, rfl, ?_⟩
  unfold hasR
  constructor
  · rintro ⟨_, h1, h2, h3⟩; omega
  · rintro ⟨h1, h2, h3⟩; exact ⟨h, by omega, by omega, by omega⟩

theorem recT_mk (b t i v : Int) (D : ByteArray) (h : okR ⟨b, t, i, v - 1, D⟩) : recT ⟨b, t, i, v - 1, D⟩ = strOfNums ((([b] ++ varL t) ++ varL i) ++ varL v) ++ D := by
  have e : v - 1 + 1 = v := by omega
  unfold recT
  rw [if_pos h]
  simp only [e]

theorem raw_text (s : ByteArray) (h : hasR s) (hok : okR (rawR s)) : recT (rawR s) = s := by
  have h' := h
  unfold hasR at h'
  have q0 := h'.1
  clear h'
  obtain ⟨t, i, v, k1, k2, k3, e1, e2, e3, e4, e5, e6, hz, _, _, _, _, _, _, hr, hi⟩ := rd_letters s q0
  rw [hi] at h
  obtain ⟨n1, n2, n3⟩ := h
  obtain ⟨j1, d1, _, _, _, t1⟩ := rdV_take s 1 (by omega) (by rw [e2]; omega)
  obtain ⟨j2, d2, _, _, _, t2⟩ := rdV_take s (1 + k1) (by omega) (by rw [e4]; omega)
  obtain ⟨j3, d3, _, _, _, t3⟩ := rdV_take s (1 + k1 + k2) (by omega) (by rw [e6]; omega)
  have f1 : j1 = k1 := by omega
  have f2 : j2 = k2 := by omega
  have f3 : j3 = k3 := by omega
  rw [e1, f1] at t1
  rw [e3, f2] at t2
  rw [e5, f3] at t3
  rw [hr] at hok ⊢
  rw [recT_mk _ _ _ _ _ hok]
  exact text_join s k1 k2 k3 _ _ _ hz t1 t2 t3

theorem raw_no (s : ByteArray) (h : s.size ≠ 0) (hok : ¬ okR (rawR s)) : recT (rawR s) ≠ s := by
  rw [recT, if_neg hok]
  intro e
  apply h
  rw [← e]; rfl

theorem raw_size (s : ByteArray) (h : hasR s) (hok : okR (rawR s)) : s.size ≤ 2000 := by
  have h' := h
  unfold hasR at h'
  obtain ⟨g1, g2, g3, g4, g5, g6, _, _, g9⟩ := at_le s h'.1
  have hz : (rawR s).f4.size = s.size - at3 s := by show (s.extract (at3 s) s.size).size = _; simp
  have h9 : (rawR s).f4.size ≤ 900 := by
    have e0 : (⟨#[]⟩ : ByteArray).size = 0 := rfl
    unfold okR at hok
    rcases hok with ⟨_, _, _, _, h⟩ | ⟨_, _, _, _, h⟩ | ⟨_, _, _, _, h⟩ | ⟨_, _, _, h⟩
    · rw [h, e0]; omega
    · exact h
    · rw [h, e0]; omega
    · rw [h, e0]; omega
  omega

end Go.Proofs.YthlokfcejojdhaaDoor
