/- Plain facts on reading a number in decimal digits; no program is named here. -/
import Derived.Test.YtdhbhifgmbppjaaDoorDecMath
import Derived.Test.YtdhbhifgmbppjaaDoorBlMath
namespace Go.Proofs.YtdhbhifgmbppjaaDoor

/-- One sign more: a digit is taken in, any other is passed over. -/
def evStep (a b : Int) : Int := if 48 ≤ b ∧ b ≤ 57 then a * 10 + (b - 48) else a
def cnStep (k : Nat) (b : Int) : Nat := if 48 ≤ b ∧ b ≤ 57 then k + 1 else k
def evL (l : List Int) : Int := l.foldl evStep 0
def cnL (l : List Int) : Nat := l.foldl cnStep 0

theorem evL_snoc (l : List Int) (b : Int) : evL (l ++ [b]) = evStep (evL l) b := by simp [evL]
theorem cnL_snoc (l : List Int) (b : Int) : cnL (l ++ [b]) = cnStep (cnL l) b := by simp [cnL]
theorem ev_bl (s : ByteArray) (k : Nat) : evL (bl s (k + 1)) = evStep (evL (bl s k)) (byteAt s k) := by rw [bl_succ, evL_snoc]
theorem cn_bl (s : ByteArray) (k : Nat) : cnL (bl s (k + 1)) = cnStep (cnL (bl s k)) (byteAt s k) := by rw [bl_succ, cnL_snoc]
theorem ev_yes (s : ByteArray) (k : Nat) (h : 48 ≤ byteAt s k ∧ byteAt s k ≤ 57) : evL (bl s (k + 1)) = evL (bl s k) * 10 + (byteAt s k - 48) := by rw [ev_bl, evStep, if_pos h]
theorem ev_no (s : ByteArray) (k : Nat) (h : ¬ (48 ≤ byteAt s k ∧ byteAt s k ≤ 57)) : evL (bl s (k + 1)) = evL (bl s k) := by rw [ev_bl, evStep, if_neg h]
theorem cn_yes (s : ByteArray) (k : Nat) (h : 48 ≤ byteAt s k ∧ byteAt s k ≤ 57) : cnL (bl s (k + 1)) = cnL (bl s k) + 1 := by rw [cn_bl, cnStep, if_pos h]
theorem cn_no (s : ByteArray) (k : Nat) (h : ¬ (48 ≤ byteAt s k ∧ byteAt s k ≤ 57)) : cnL (bl s (k + 1)) = cnL (bl s k) := by rw [cn_bl, cnStep, if_neg h]

theorem ev_bound (s : ByteArray) : ∀ k, 0 ≤ evL (bl s k) ∧ evL (bl s k) < 10 ^ cnL (bl s k) ∧ cnL (bl s k) ≤ k
  | 0 => by simp [bl, evL, cnL]
  | k + 1 => by
    obtain ⟨h1, h2, h3⟩ := ev_bound s k
    by_cases h : 48 ≤ byteAt s k ∧ byteAt s k ≤ 57
    · rw [ev_yes s k h, cn_yes s k h]
      have e : (10 : Int) ^ (cnL (bl s k) + 1) = 10 ^ cnL (bl s k) * 10 := Int.pow_succ _ _
      rw [e]; omega
    · rw [ev_no s k h, cn_no s k h]; omega

theorem pow10_le (a b : Nat) (h : a ≤ b) : (10 : Int) ^ a ≤ 10 ^ b := by
  have h2 := Nat.pow_le_pow_right (n := 10) (by decide) h
  calc (10 : Int) ^ a = ((10 ^ a : Nat) : Int) := by simp
    _ ≤ ((10 ^ b : Nat) : Int) := Int.ofNat_le.mpr h2
    _ = 10 ^ b := by simp

theorem ev_le (s : ByteArray) (k : Nat) (c : Nat) (h : cnL (bl s k) ≤ c) : evL (bl s k) < 10 ^ c :=
  Int.lt_of_lt_of_le (ev_bound s k).2.1 (pow10_le _ _ h)

theorem decN_digits_f : ∀ (f : Nat) (m : Int), m.toNat ≤ f → 0 ≤ m → ∀ b ∈ decN m, 48 ≤ b ∧ b ≤ 57 := by
  intro f
  induction f with
  | zero =>
    intro m hf h b hb
    rw [decN_last m (by omega)] at hb
    simp at hb; omega
  | succ f ih =>
    intro m hf h b hb
    by_cases h1 : 10 ≤ m
    · rw [decN_more m h1] at hb
      rcases List.mem_append.mp hb with hb | hb
      · exact ih (m / 10) (by omega) (by omega) b hb
      · simp at hb; omega
    · rw [decN_last m (by omega)] at hb
      simp at hb; omega

theorem decN_digits (m : Int) (h : 0 ≤ m) : ∀ b ∈ decN m, 48 ≤ b ∧ b ≤ 57 := decN_digits_f m.toNat m (Nat.le_refl _) h

theorem decN_ev_last (m : Int) (h : 0 ≤ m) (h1 : m < 10) : evL (decN m) = m ∧ cnL (decN m) = (decN m).length := by
  rw [decN_last m h1]
  refine ⟨?_, ?_⟩
  · show evStep 0 (48 + m) = m
    rw [evStep, if_pos (by omega)]; omega
  · show cnStep 0 (48 + m) = 1
    rw [cnStep, if_pos (by omega)]

theorem decN_ev_f : ∀ (f : Nat) (m : Int), m.toNat ≤ f → 0 ≤ m → evL (decN m) = m ∧ cnL (decN m) = (decN m).length := by
  intro f
  induction f with
  | zero => intro m hf h; exact decN_ev_last m h (by omega)
  | succ f ih =>
    intro m hf h
    by_cases h1 : 10 ≤ m
    · obtain ⟨e1, e2⟩ := ih (m / 10) (by omega) (by omega)
      rw [decN_more m h1, evL_snoc, cnL_snoc, e1, e2, evStep, cnStep, if_pos (by omega), if_pos (by omega)]
      refine ⟨by omega, by simp⟩
    · exact decN_ev_last m h (by omega)

theorem decN_ev (m : Int) (h : 0 ≤ m) : evL (decN m) = m ∧ cnL (decN m) = (decN m).length := decN_ev_f m.toNat m (Nat.le_refl _) h

theorem decN_len : ∀ (k : Nat) (m : Int), m < 10 ^ (k + 1) → (decN m).length ≤ k + 1
  | 0, m, h => by rw [decN_last m (by simpa using h)]; simp
  | k + 1, m, h => by
    by_cases h1 : 10 ≤ m
    · have e : (10 : Int) ^ (k + 1 + 1) = 10 ^ (k + 1) * 10 := Int.pow_succ _ _
      have := decN_len k (m / 10) (by omega)
      rw [decN_more m h1]; simp; omega
    · rw [decN_last m (by omega)]; simp

theorem decN_len9 (m : Int) (h : m ≤ 999999999) : (decN m).length ≤ 9 := by
  have e : (10 : Int) ^ (8 + 1) = 1000000000 := by decide
  exact decN_len 8 m (by omega)

theorem decN_ne (m : Int) : decN m ≠ [] := by
  by_cases h : 10 ≤ m
  · rw [decN_more m h]; simp
  · rw [decN_last m (by omega)]; simp

/-- What the digits of m come to, sign and all. -/
theorem decL_ev (m : Int) : evL (decL m) = (if m < 0 then -m else m) ∧ cnL (decL m) = (decN (if m < 0 then -m else m)).length := by
  unfold decL
  by_cases h : m < 0
  · rw [if_pos h, if_pos h]
    have e := decN_ev (-m) (by omega)
    exact e
  · rw [if_neg h, if_neg h]; exact decN_ev m (by omega)

theorem decL_range (m : Int) : ∀ b ∈ decL m, 0 ≤ b ∧ b < 256 := by
  unfold decL
  by_cases h : m < 0
  · rw [if_pos h]
    intro b hb
    rcases List.mem_cons.mp hb with rfl | hb
    · omega
    · have := decN_digits (-m) (by omega) b hb; omega
  · rw [if_neg h]
    intro b hb
    have := decN_digits m (by omega) b hb; omega

theorem decL_inj (m n : Int) (h : decL m = decL n) : m = n := by
  have a := (decL_ev m).1
  have b := (decL_ev n).1
  rw [h, b] at a
  unfold decL at h
  by_cases h1 : m < 0 <;> by_cases h2 : n < 0
  · rw [if_pos h1, if_pos h2] at a; omega
  · rw [if_pos h1, if_neg h2] at h
    have := decN_digits n (by omega) 45 (by rw [← h]; simp)
    omega
  · rw [if_neg h1, if_pos h2] at h
    have := decN_digits m (by omega) 45 (by rw [h]; simp)
    omega
  · rw [if_neg h1, if_neg h2] at a; omega

/-- What is read of s: the number that it tells, of at most nine digits; or nothing. -/
def RdP (s : ByteArray) (v : Int) (b : Bool) : Prop :=
  (b = true ∧ -999999999 ≤ v ∧ v ≤ 999999999 ∧ bl s s.size = decL v) ∨ (b = false ∧ v = 0 ∧ ∀ m, -999999999 ≤ m → m ≤ 999999999 → bl s s.size ≠ decL m)

theorem RdP.one {s : ByteArray} {v v' : Int} {b b' : Bool} (h : RdP s v b) (h' : RdP s v' b') : v = v' ∧ b = b' := by
  rcases h with ⟨rfl, h1, h2, h3⟩ | ⟨rfl, rfl, h1⟩ <;> rcases h' with ⟨rfl, k1, k2, k3⟩ | ⟨rfl, rfl, k1⟩
  · exact ⟨decL_inj v v' (h3.symm.trans k3), rfl⟩
  · exact absurd h3 (k1 v h1 h2)
  · exact absurd k3 (h1 v' k1 k2)
  · exact ⟨rfl, rfl⟩

/-- Facts on a text that tells a number of at most nine digits. -/
theorem dec_facts (s : ByteArray) (m : Int) (h1 : -999999999 ≤ m) (h2 : m ≤ 999999999) (h : bl s s.size = decL m) :
    s.size ≤ 10 ∧ cnL (bl s s.size) ≤ 9 ∧ 0 < s.size ∧ (m < 0 → byteAt s 0 = 45 ∧ evL (bl s s.size) = -m ∧ (∀ i, 0 < i → i < s.size → 48 ≤ byteAt s i ∧ byteAt s i ≤ 57)) ∧
      (0 ≤ m → (∀ i, i < s.size → 48 ≤ byteAt s i ∧ byteAt s i ≤ 57) ∧ evL (bl s s.size) = m ∧ s.size ≤ 9) := by
  have hl : s.size = (decL m).length := by rw [← h, bl_length]
  have he := decL_ev m
  rw [← h] at he
  have hat : ∀ i, i < s.size → (decL m)[i]? = some (byteAt s i) := by
    intro i hi; rw [← h]; simp [bl, hi]
  by_cases hn : m < 0
  · rw [if_pos hn] at he
    have e : decL m = 45 :: decN (-m) := by unfold decL; rw [if_pos hn]
    have l9 := decN_len9 (-m) (by omega)
    rw [e] at hl hat
    rw [List.length_cons] at hl
    refine ⟨by omega, by rw [he.2]; exact l9, by omega, fun _ => ⟨?_, he.1, ?_⟩, fun h => by omega⟩
    · have := hat 0 (by omega); simp at this; exact this.symm
    · intro i hi0 hi
      have := hat i hi
      obtain ⟨j, rfl⟩ : ∃ j, i = j + 1 := ⟨i - 1, by omega⟩
      rw [List.getElem?_cons_succ] at this
      exact decN_digits (-m) (by omega) _ (List.mem_of_getElem? this)
  · rw [if_neg hn] at he
    have e : decL m = decN m := by unfold decL; rw [if_neg hn]
    have l9 := decN_len9 m (by omega)
    have hne := decN_ne m
    rw [e] at hl hat
    have hpos : 0 < (decN m).length := List.length_pos_iff.mpr hne
    refine ⟨by omega, by rw [he.2]; exact l9, by omega, fun h => absurd h hn, fun _ => ⟨fun i hi => decN_digits m (by omega) _ (List.mem_of_getElem? (hat i hi)), he.1, by omega⟩⟩

/-- The end of both readings: the number that was gathered is held against s. -/
theorem rd_end (s : ByteArray) (n : Int) (h1 : -999999999 ≤ n) (h2 : n ≤ 999999999) (hu : ∀ m, -999999999 ≤ m → m ≤ 999999999 → bl s s.size = decL m → m = n) :
    (decL n = bl s s.size ∧ RdP s n true) ∨ (decL n ≠ bl s s.size ∧ RdP s 0 false) := by
  by_cases h : decL n = bl s s.size
  · exact .inl ⟨h, .inl ⟨rfl, h1, h2, h.symm⟩⟩
  · refine .inr ⟨h, .inr ⟨rfl, rfl, fun m a b e => ?_⟩⟩
    have := hu m a b e
    subst this
    exact h e.symm

theorem head_test (s : ByteArray) (h : 1 ≤ s.size) : ((s.extract 0 1).toList == [45]) = decide (byteAt s 0 = 45) := by
  have h1 := str_eq_pre [45] (by simp) s 1 h
  have e1 : (strOfNums [45]).toList = [45] := by rw [ByteArray.toList_eq]; rfl
  have e2 : bl s 1 = [byteAt s 0] := by simp [bl, List.range_succ]
  rw [e1, e2] at h1
  rw [BEq.comm, h1]
  simp [eq_comm]

theorem tail_size (s : ByteArray) : (s.extract 1 s.size).size = s.size - 1 := by simp

theorem tail_byte (s : ByteArray) (i : Nat) (h : i + 1 < s.size) : byteAt (s.extract 1 s.size) i = byteAt s (i + 1) := by
  have h1 : i < (s.extract 1 s.size).size := by rw [tail_size]; omega
  have e : (s.extract 1 s.size).data.toList[i]? = s.data.toList[i + 1]? := by
    rw [Lib.extract_data, List.getElem?_take_of_lt (by omega), List.getElem?_drop, Nat.add_comm]
  unfold byteAt
  rw [← Array.getElem?_toList, ← Array.getElem?_toList, e]

theorem bl_tail (s : ByteArray) (h : 1 ≤ s.size) : bl s s.size = byteAt s 0 :: bl (s.extract 1 s.size) (s.size - 1) := by
  obtain ⟨k, hk⟩ : ∃ k, s.size = k + 1 := ⟨s.size - 1, by omega⟩
  have e : bl s (k + 1) = byteAt s 0 :: (List.range k).map (fun i => byteAt s (i + 1)) := by
    simp [bl, List.range_succ_eq_map, Function.comp_def]
  have e2 : bl (s.extract 1 s.size) k = (List.range k).map (fun i => byteAt s (i + 1)) := by
    unfold bl
    apply List.map_congr_left
    intro i hi
    exact tail_byte s i (by rw [List.mem_range] at hi; omega)
  rw [show s.size - 1 = k by omega, e2, ← e, hk]

theorem ev_minus (l : List Int) : evL (45 :: l) = evL l := rfl

/-- What a number of at most nine digits asks of the digits behind the minus, if there is one. -/
theorem cut_facts (s : ByteArray) (m : Int) (h1 : -999999999 ≤ m) (h2 : m ≤ 999999999) (h : bl s s.size = decL m) :
    (byteAt s 0 = 45 → (s.extract 1 s.size).size ≤ 9 ∧ (∀ i, i < (s.extract 1 s.size).size → 48 ≤ byteAt (s.extract 1 s.size) i ∧ byteAt (s.extract 1 s.size) i ≤ 57) ∧ m = -(evL (bl (s.extract 1 s.size) (s.extract 1 s.size).size))) ∧
    (byteAt s 0 ≠ 45 → s.size ≤ 9 ∧ (∀ i, i < s.size → 48 ≤ byteAt s i ∧ byteAt s i ≤ 57) ∧ m = evL (bl s s.size)) ∧ 0 < s.size := by
  obtain ⟨a, b, c, d, e⟩ := dec_facts s m h1 h2 h
  by_cases hn : m < 0
  · obtain ⟨d1, d2, d3⟩ := d hn
    refine ⟨fun _ => ⟨by rw [tail_size]; omega, fun i hi => ?_, ?_⟩, fun h => absurd d1 h, c⟩
    · rw [tail_size] at hi
      rw [tail_byte s i (by omega)]
      exact d3 (i + 1) (by omega) (by omega)
    · rw [tail_size, ← ev_minus, ← d1, ← bl_tail s (by omega), d2]; omega
  · obtain ⟨e1, e2, e3⟩ := e (by omega)
    refine ⟨fun h45 => ?_, fun _ => ⟨e3, e1, e2.symm⟩, c⟩
    have := e1 0 c
    omega

theorem neg_val (s : ByteArray) (h45 : byteAt s 0 = 45) (m : Int) (a : -999999999 ≤ m) (b : m ≤ 999999999) (e : bl s s.size = decL m) : m = -(evL (bl s s.size)) := by
  have h1 := cut_facts s m a b e
  have h2 := bl_tail s h1.2.2
  rw [h45, ← tail_size] at h2
  rw [h2, ev_minus]
  exact (h1.1 h45).2.2

/-- A text that tells no number of at most nine digits is not read. -/
theorem rd_none (s : ByteArray) (h : ∀ m, -999999999 ≤ m → m ≤ 999999999 → bl s s.size = decL m → False) : RdP s 0 false := .inr ⟨rfl, rfl, fun m a b e => h m a b e⟩

theorem ev9 (s : ByteArray) (k : Nat) (h : cnL (bl s k) ≤ 9) : 0 ≤ evL (bl s k) ∧ evL (bl s k) ≤ 999999999 := by
  have h1 := ev_le s k 9 h
  have h2 : (10 : Int) ^ 9 = 1000000000 := by decide
  have h3 := (ev_bound s k).1
  omega

theorem ev11 (s : ByteArray) (k : Nat) (h : k ≤ 11) : 0 ≤ evL (bl s k) ∧ evL (bl s k) ≤ 99999999999 ∧ cnL (bl s k) ≤ k := by
  have h0 := ev_bound s k
  have h1 := ev_le s k 11 (by omega)
  have h2 : (10 : Int) ^ 11 = 100000000000 := by decide
  omega

/-- The test of the end, in the walk's words. -/
theorem dec_test (s : ByteArray) (n : Int) : ((strOfNums (decL n)).toList == s.toList) = decide (decL n = bl s s.size) := str_eq_all _ (decL_range n) s

end Go.Proofs.YtdhbhifgmbppjaaDoor
