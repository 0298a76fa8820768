/- Plain facts on reading a number told by seven bits a byte; no program is named here. -/
import Derived.Test.YthlokfcejojdhaaDoorVarMath
import Derived.Test.YthlokfcejojdhaaDoorHexMath
import Derived.Laws.BytesArg
import Derived.Laws.Strings
import Derived.Lib.Strings
import Derived.Test.YthlokfcejojdhaaDoorBlMath
namespace Go.Proofs.YthlokfcejojdhaaDoor

/-- The number that bytes tell, seven bits each, the lowest first. -/
def segL : List Int → Int
  | [] => 0
  | b :: r => b % 128 + 128 * segL r

theorem segL_nonneg : ∀ l, 0 ≤ segL l
  | [] => Int.le_refl 0
  | b :: r => by have := segL_nonneg r; simp only [segL]; omega

theorem segL_lt : ∀ l : List Int, segL l < 128 ^ l.length
  | [] => by simp [segL]
  | b :: r => by
    have h := segL_lt r
    have e : (128 : Int) ^ (b :: r).length = 128 ^ r.length * 128 := by rw [List.length_cons]; exact Int.pow_succ _ _
    rw [e]; simp only [segL]; omega

theorem segL_snoc (b : Int) : ∀ l : List Int, segL (l ++ [b]) = segL l + (b % 128) * 128 ^ l.length
  | [] => by simp [segL]
  | c :: r => by
    have h := segL_snoc b r
    have e : (128 : Int) ^ (c :: r).length = 128 ^ r.length * 128 := by rw [List.length_cons]; exact Int.pow_succ _ _
    have e2 : b % 128 * (128 ^ r.length * 128) = 128 * (b % 128 * 128 ^ r.length) := by
      rw [← Int.mul_assoc, Int.mul_comm]
    rw [e, e2, List.cons_append]; simp only [segL, h]; omega

theorem pow128_le (a b : Nat) (h : a ≤ b) : (128 : Int) ^ a ≤ 128 ^ b := by
  have h2 := Nat.pow_le_pow_right (n := 128) (by decide) h
  calc (128 : Int) ^ a = ((128 ^ a : Nat) : Int) := by simp
    _ ≤ ((128 ^ b : Nat) : Int) := Int.ofNat_le.mpr h2
    _ = 128 ^ b := by simp

theorem segL_le6 (l : List Int) (h : l.length ≤ 6) : segL l ≤ 4398046511103 := by
  have h1 := segL_lt l
  have h2 := pow128_le l.length 6 h
  have h3 : (128 : Int) ^ 6 = 4398046511104 := by decide
  omega

theorem segL_le7 (l : List Int) (h : l.length ≤ 7) : segL l ≤ 562949953421311 := by
  have h1 := segL_lt l
  have h2 := pow128_le l.length 7 h
  have h3 : (128 : Int) ^ 7 = 562949953421312 := by decide
  omega

theorem pow2_128 (k : Nat) : (2 : Int) ^ (7 * k) = 128 ^ k := by
  rw [Int.pow_mul]; rfl

/-- What the or of the parts comes to. -/
theorem or_seg (l : List Int) (b : Int) (k : Nat) (hk : l.length = k) (h6 : k ≤ 6) : bits .or .i64 (segL l) (b % 128 * 2 ^ (7 * k)) = segL (l ++ [b]) := by
  have h0 := segL_nonneg l
  have h1 : segL l < 2 ^ (7 * k) := by rw [pow2_128, ← hk]; exact segL_lt l
  have hp : (0 : Int) < 2 ^ (7 * k) := Int.pow_pos (by decide)
  have hm0 : 0 ≤ b % 128 := by omega
  have hm1 : b % 128 ≤ 127 := by omega
  have hx0 : 0 ≤ b % 128 * 2 ^ (7 * k) := Int.mul_nonneg hm0 (Int.le_of_lt hp)
  have hx2 : b % 128 * 2 ^ (7 * k) ≤ 127 * 2 ^ (7 * k) := Int.mul_le_mul_of_nonneg_right hm1 (Int.le_of_lt hp)
  have hp6 : (2 : Int) ^ (7 * k) ≤ 4398046511104 := by
    rw [pow2_128]; have h2 := pow128_le k 6 h6; have h3 : (128 : Int) ^ 6 = 4398046511104 := by decide
    omega
  have hc : bits .or .i64 (segL l) (b % 128 * 2 ^ (7 * k)) = bits .or .i64 (b % 128 * 2 ^ (7 * k)) (segL l) := by simp only [bits, BitVec.or_comm]
  have e62 : (2 : Int) ^ 62 = 4611686018427387904 := by decide
  rw [hc, bits_join .i64 62 (by decide) (fun n a b => by rw [e62] at b; simp [IntKind.wrap, IntKind.bits, IntKind.signed]; omega) (7 * k) _ _ hx0 (by simp) (by rw [e62]; omega) h0 h1 (by rw [e62]; omega), segL_snoc, hk, pow2_128]
  omega

theorem shl_wrap (b : Int) (k : Nat) (h6 : k ≤ 6) : 0 ≤ b % 128 * 2 ^ (7 * k) ∧ b % 128 * 2 ^ (7 * k) ≤ 558551906910208 := by
  have hp : (0 : Int) < 2 ^ (7 * k) := Int.pow_pos (by decide)
  have hm0 : 0 ≤ b % 128 := by omega
  have hm1 : b % 128 ≤ 127 := by omega
  have hx0 : 0 ≤ b % 128 * 2 ^ (7 * k) := Int.mul_nonneg hm0 (Int.le_of_lt hp)
  have hx2 : b % 128 * 2 ^ (7 * k) ≤ 127 * 2 ^ (7 * k) := Int.mul_le_mul_of_nonneg_right hm1 (Int.le_of_lt hp)
  have hp6 : (2 : Int) ^ (7 * k) ≤ 4398046511104 := by
    rw [pow2_128]; have h2 := pow128_le k 6 h6; have h3 : (128 : Int) ^ 6 = 4398046511104 := by decide
    omega
  omega

/-- The form of what is told by seven bits a byte. -/
theorem var_form_f : ∀ (f : Nat) (n : Int), n.toNat ≤ f → 0 ≤ n → ∃ i b, varL n = i ++ [b] ∧ (∀ c ∈ i, 128 ≤ c) ∧ 0 ≤ b ∧ b < 128 ∧ (i = [] ∨ 1 ≤ b) := by
  intro f
  induction f with
  | zero => intro n hf h; exact ⟨[], n, by rw [varL_last n (by omega)]; rfl, by simp, h, by omega, .inl rfl⟩
  | succ f ih =>
    intro n hf h
    by_cases h1 : 128 ≤ n
    · obtain ⟨i, b, e, h2, h3, h4, h5⟩ := ih (n / 128) (by omega) (by omega)
      refine ⟨(n % 128 + 128) :: i, b, by rw [varL_more n h1, e]; rfl, ?_, h3, h4, .inr ?_⟩
      · intro c hc
        rcases List.mem_cons.mp hc with rfl | hc
        · omega
        · exact h2 c hc
      · rcases h5 with rfl | h5
        · have e' : varL (n / 128) = [b] := by simpa using e
          by_cases h6 : 128 ≤ n / 128
          · rw [varL_more _ h6] at e'
            have hl : (varL (n / 128 / 128)) ≠ [] := by
              by_cases h7 : 128 ≤ n / 128 / 128
              · rw [varL_more _ h7]; simp
              · rw [varL_last _ (by omega)]; simp
            have := congrArg List.length e'
            simp at this
            exact absurd this hl
          · rw [varL_last _ (by omega)] at e'
            simp at e'
            omega
        · exact h5
    · exact ⟨[], n, by rw [varL_last n (by omega)]; rfl, by simp, h, by omega, .inl rfl⟩

theorem var_form (n : Int) (h : 0 ≤ n) : ∃ i b, varL n = i ++ [b] ∧ (∀ c ∈ i, 128 ≤ c) ∧ 0 ≤ b ∧ b < 128 ∧ (i = [] ∨ 1 ≤ b) :=
  var_form_f n.toNat n (Nat.le_refl _) h

/-- Bytes in that form are what their number is told by. -/
theorem var_seg (b : Int) (h0 : 0 ≤ b) (h1 : b < 128) : ∀ i : List Int, (∀ c ∈ i, 128 ≤ c ∧ c < 256) → (i = [] ∨ 1 ≤ b) → varL (segL (i ++ [b])) = i ++ [b] ∧ (1 ≤ b → 1 ≤ segL (i ++ [b]))
  | [], _, _ => by
    have e : segL ([] ++ [b]) = b := by simp [segL]; omega
    rw [e, varL_last b h1]; exact ⟨rfl, id⟩
  | c :: i, hi, hb => by
    have hb1 : 1 ≤ b := by rcases hb with h | h; cases h; exact h
    obtain ⟨e1, e2⟩ := var_seg b h0 h1 i (fun x hx => hi x (List.mem_cons_of_mem _ hx)) (.inr hb1)
    have e3 := e2 hb1
    have hc := hi c List.mem_cons_self
    have e4 : segL (c :: i ++ [b]) = c % 128 + 128 * segL (i ++ [b]) := rfl
    rw [e4, varL_more _ (by omega), show (c % 128 + 128 * segL (i ++ [b])) / 128 = segL (i ++ [b]) by omega, e1]
    refine ⟨?_, fun _ => by omega⟩
    rw [List.cons_append]
    congr 1
    omega

/-- What is read from byte i on, f bytes at most. -/
def rvAt (s : ByteArray) : Nat → Nat → Int × Int
  | 0, _ => (0, 0)
  | f + 1, i => if 128 ≤ byteAt s i then rvAt s f (i + 1) else if byteAt s i = 0 ∧ 0 < i then (0, 0) else (segL (bl s (i + 1)), ((i + 1 : Nat) : Int))

theorem rvAt_on (s : ByteArray) (f i : Nat) (h : 128 ≤ byteAt s i) : rvAt s (f + 1) i = rvAt s f (i + 1) := by rw [rvAt, if_pos h]
theorem rvAt_bad (s : ByteArray) (f i : Nat) (h : byteAt s i = 0) (hi : 0 < i) : rvAt s (f + 1) i = (0, 0) := by rw [rvAt, if_neg (by omega), if_pos ⟨h, hi⟩]
theorem rvAt_end (s : ByteArray) (f i : Nat) (h : byteAt s i < 128) (hi : ¬ (byteAt s i = 0 ∧ 0 < i)) : rvAt s (f + 1) i = (segL (bl s (i + 1)), ((i + 1 : Nat) : Int)) := by rw [rvAt, if_neg (by omega), if_neg hi]

theorem varL_range_f : ∀ (f : Nat) (n : Int), n.toNat ≤ f → 0 ≤ n → ∀ b ∈ varL n, 0 ≤ b ∧ b < 256 := by
  intro f
  induction f with
  | zero =>
    intro n hf h b hb
    rw [varL_last n (by omega)] at hb
    simp at hb
    omega
  | succ f ih =>
    intro n hf h b hb
    by_cases h1 : 128 ≤ n
    · rw [varL_more n h1] at hb
      rcases List.mem_cons.mp hb with rfl | hb
      · omega
      · exact ih (n / 128) (by omega) (by omega) b hb
    · rw [varL_last n (by omega)] at hb
      simp at hb
      omega

theorem varL_range (n : Int) (h : 0 ≤ n) : ∀ b ∈ varL n, 0 ≤ b ∧ b < 256 := varL_range_f n.toNat n (Nat.le_refl _) h

/-- The test of the first k + 1 bytes: what it comes to. -/
theorem test_yes (s : ByteArray) (k : Nat) (hk : k < s.size) (ha : ∀ i, i < k → 128 ≤ byteAt s i) (hb : byteAt s k < 128) (hz : ¬ (byteAt s k = 0 ∧ 0 < k)) :
    ((strOfNums (varL (segL (bl s (k + 1))))).toList == (s.extract 0 (k + 1)).toList) = true := by
  rw [str_eq_pre _ (varL_range _ (segL_nonneg _)) s (k + 1) hk, bl_succ]
  have hr := byteAt_range s k
  refine decide_eq_true (var_seg (byteAt s k) hr.1 hb (bl s k) (fun c hc => ?_) ?_).1
  · simp only [bl, List.mem_map, List.mem_range] at hc
    obtain ⟨i, hi, rfl⟩ := hc
    exact ⟨ha i hi, (byteAt_range s i).2⟩
  · by_cases h0 : 0 < k
    · exact .inr (by omega)
    · have : k = 0 := by omega
      subst this
      exact .inl rfl

theorem test_no (s : ByteArray) (k : Nat) (hk : k < s.size) (h : (∃ j, j < k ∧ byteAt s j < 128) ∨ 128 ≤ byteAt s k ∨ (byteAt s k = 0 ∧ 0 < k)) :
    ((strOfNums (varL (segL (bl s (k + 1))))).toList == (s.extract 0 (k + 1)).toList) = false := by
  rw [str_eq_pre _ (varL_range _ (segL_nonneg _)) s (k + 1) hk]
  apply decide_eq_false
  intro e
  obtain ⟨i, b, e1, h1, h2, h3, h4⟩ := var_form (segL (bl s (k + 1))) (segL_nonneg _)
  rw [e, bl_succ] at e1
  obtain ⟨e2, e3⟩ := List.append_inj' e1 rfl
  simp at e3
  subst e2 e3
  rcases h with ⟨j, hj, hj2⟩ | h | ⟨h, h0⟩
  · have := h1 (byteAt s j) (by simp only [bl, List.mem_map, List.mem_range]; exact ⟨j, hj, rfl⟩)
    omega
  · omega
  · rcases h4 with h4 | h4
    · have := congrArg List.length h4
      rw [bl_length] at this
      simp at this
      omega
    · omega

/-- Where the reading of the first k bytes stands: on its way, or lost. -/
def RvState (s : ByteArray) (m k : Nat) : Prop :=
  ((∀ i, i < k → 128 ≤ byteAt s i) ∧ rvAt s (m - k) k = rvAt s m 0) ∨ (rvAt s m 0 = (0, 0) ∧ ∃ j, j < k ∧ byteAt s j < 128)

/-- One byte more: either the test says yes and the reading ends there, or it says no and the reading stands one further. -/
theorem rv_step (s : ByteArray) (m k : Nat) (hm : m ≤ s.size) (hk : k < m) (h : RvState s m k) :
    (((strOfNums (varL (segL (bl s (k + 1))))).toList == (s.extract 0 (k + 1)).toList) = true ∧ (segL (bl s (k + 1)), ((k + 1 : Nat) : Int)) = rvAt s m 0) ∨
    (((strOfNums (varL (segL (bl s (k + 1))))).toList == (s.extract 0 (k + 1)).toList) = false ∧ RvState s m (k + 1)) := by
  have hm' : m - k = (m - (k + 1)) + 1 := by omega
  rcases h with ⟨ha, he⟩ | ⟨he, j, hj, hj2⟩
  · rw [hm'] at he
    by_cases h128 : 128 ≤ byteAt s k
    · refine .inr ⟨test_no s k (by omega) (.inr (.inl h128)), .inl ⟨fun i hi => ?_, ?_⟩⟩
      · rcases Nat.lt_succ_iff_lt_or_eq.mp hi with h | rfl
        · exact ha i h
        · exact h128
      · rw [← he, rvAt_on _ _ _ h128]
    · by_cases hz : byteAt s k = 0 ∧ 0 < k
      · refine .inr ⟨test_no s k (by omega) (.inr (.inr hz)), .inr ⟨?_, k, by omega, by omega⟩⟩
        rw [← he, rvAt_bad _ _ _ hz.1 hz.2]
      · refine .inl ⟨test_yes s k (by omega) ha (by omega) hz, ?_⟩
        rw [← he, rvAt_end _ _ _ (by omega) hz]
  · exact .inr ⟨test_no s k (by omega) (.inl ⟨j, hj, hj2⟩), .inr ⟨he, j, by omega, hj2⟩⟩

theorem rv_over (s : ByteArray) (m k : Nat) (hk : m ≤ k) (h : RvState s m k) : (0, 0) = rvAt s m 0 := by
  rcases h with ⟨_, he⟩ | ⟨he, _⟩
  · rw [← he, show m - k = 0 by omega]; rfl
  · exact he.symm

end Go.Proofs.YthlokfcejojdhaaDoor
