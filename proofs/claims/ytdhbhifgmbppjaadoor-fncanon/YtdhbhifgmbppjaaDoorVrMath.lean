/- The reading of a vocabulary's text: plain facts. -/
import Derived.Test.YtdhbhifgmbppjaaDoorVkMath
import Derived.Test.YtdhbhifgmbppjaaDoorNumMath
namespace Go.Proofs.YtdhbhifgmbppjaaDoor
open Go.RowKit
set_option linter.unusedVariables false

/-- What is read at the beginning of s, and how many bytes it has. -/
def rv0 (s : ByteArray) : Int × Int := rvAt s (min s.size 7) 0

theorem varL_len7 : ∀ (k : Nat) (n : Int), n < 128 ^ (k + 1) → (varL n).length ≤ k + 1
  | 0, n, h => by rw [varL_last n (by simpa using h)]; simp
  | k + 1, n, h => by
    by_cases h1 : 128 ≤ n
    · have e : (128 : Int) ^ (k + 1 + 1) = 128 ^ (k + 1) * 128 := Int.pow_succ _ _
      have := varL_len7 k (n / 128) (by omega)
      rw [varL_more n h1]; simp; omega
    · rw [varL_last n (by omega)]; simp

theorem varL_pos (n : Int) : 1 ≤ (varL n).length := by
  by_cases h1 : 128 ≤ n
  · rw [varL_more n h1]; simp
  · rw [varL_last n (by omega)]; simp

theorem vrV_pos (n : Int) : 1 ≤ (vrV n).size := by unfold vrV; rw [strOfNums_size]; exact varL_pos n

def InN (A : List Int) : Prop := ∀ n ∈ A, 0 ≤ n ∧ n ≤ 562949953421311

theorem rv_cat (n : Int) (T : ByteArray) (h0 : 0 ≤ n) (h1 : n ≤ 562949953421311) : rv0 (vrV n ++ T) = (n, ((vrV n).size : Int)) := by
  have e : vrV n ++ T = strOfNums (varL n ++ bl T T.size) := by
    rw [← strOfNums_append, nums_bl]; rfl
  have h7 : (varL n).length ≤ 7 := varL_len7 6 n (by have e7 : (128 : Int) ^ (6 + 1) = 562949953421312 := by decide
                                                     omega)
  have hz : ((vrV n).size : Int) = ((varL n).length : Int) := by unfold vrV; rw [strOfNums_size]
  unfold rv0
  rw [e, rv_back n _ h0 (fun b hb => by
    obtain ⟨j, _, rfl⟩ : ∃ j, j < T.size ∧ byteAt T j = b := by simpa [bl] using hb
    exact byteAt_range T j) h7, hz]

theorem rv_takeV (s : ByteArray) : ∀ (f i : Nat), i + f ≤ s.size → (∀ j, j < i → 128 ≤ byteAt s j) → (rvAt s f i).2 ≠ 0 →
    ∃ k : Nat, (rvAt s f i).2 = (k : Int) ∧ 1 ≤ k ∧ k ≤ i + f ∧ (rvAt s f i).1 = segL (bl s k) ∧ varL (rvAt s f i).1 = bl s k
  | 0, i, _, _, h => absurd rfl h
  | f + 1, i, hs, ha, h => by
    by_cases h1 : 128 ≤ byteAt s i
    · rw [rvAt_on s f i h1] at h ⊢
      obtain ⟨k, e1, e2, e3, e4, e5⟩ := rv_takeV s f (i + 1) (by omega) (fun j hj => by
        rcases Nat.lt_succ_iff_lt_or_eq.mp hj with h | rfl
        · exact ha j h
        · exact h1) h
      exact ⟨k, e1, e2, by omega, e4, e5⟩
    · by_cases h2 : byteAt s i = 0 ∧ 0 < i
      · rw [rvAt_bad s f i h2.1 h2.2] at h; exact absurd rfl h
      · rw [rvAt_end s f i (by omega) h2]
        refine ⟨i + 1, rfl, by omega, by omega, rfl, ?_⟩
        rw [bl_succ]
        refine (var_seg (byteAt s i) (byteAt_range s i).1 (by omega) (bl s i) (fun c hc => ?_) ?_).1
        · obtain ⟨j, hj, rfl⟩ : ∃ j, j < i ∧ byteAt s j = c := by
            simpa [bl] using hc
          exact ⟨ha j hj, (byteAt_range s j).2⟩
        · rcases Nat.eq_zero_or_pos i with rfl | hi
          · exact .inl rfl
          · refine .inr ?_
            have := (byteAt_range s i).1
            omega

theorem bl_textV (t : ByteArray) (k : Nat) (hk : k ≤ t.size) : strOfNums (bl t k) = t.extract 0 k := by
  have h := str_eq_pre (bl t k) (fun b hb => by
    obtain ⟨j, hj, rfl⟩ : ∃ j, j < k ∧ byteAt t j = b := by simpa [bl] using hb
    exact byteAt_range t j) t k hk
  rw [decide_eq_true rfl, beq_iff_eq] at h
  exact (tx_iff _ _).1 h

theorem rv_some (s : ByteArray) (h : (rv0 s).2 ≠ 0) : ∃ k : Nat, (rv0 s).2 = (k : Int) ∧ 1 ≤ k ∧ k ≤ s.size ∧ (0 ≤ (rv0 s).1 ∧ (rv0 s).1 ≤ 562949953421311) ∧ s = vrV (rv0 s).1 ++ s.extract k s.size := by
  obtain ⟨k, e1, e2, e3, e4, e5⟩ := rv_takeV s (min s.size 7) 0 (by omega) (fun j hj => absurd hj (by omega)) h
  refine ⟨k, e1, e2, by omega, ?_, ?_⟩
  · show 0 ≤ (rvAt s (min s.size 7) 0).1 ∧ (rvAt s (min s.size 7) 0).1 ≤ 562949953421311
    rw [e4]
    exact ⟨segL_nonneg _, segL_le7 _ (by rw [bl_length]; omega)⟩
  · unfold vrV
    show s = strOfNums (varL (rvAt s (min s.size 7) 0).1) ++ _
    rw [e5, bl_textV s k (by omega), ByteArray.extract_append_extract, Nat.min_eq_left (by omega), Nat.max_eq_right (by omega)]
    exact ByteArray.extract_zero_size.symm

theorem rv_bound (s : ByteArray) : 0 ≤ (rv0 s).1 ∧ (rv0 s).1 ≤ 562949953421311 ∧ 0 ≤ (rv0 s).2 ∧ (rv0 s).2 ≤ (s.size : Int) := by
  by_cases h : (rv0 s).2 = 0
  · have hr : ∀ (t : ByteArray) (f i : Nat), i + f ≤ 7 → 0 ≤ (rvAt t f i).1 ∧ (rvAt t f i).1 ≤ 562949953421311 := by
      intro t f
      induction f with
      | zero => intro i hi; show (0 : Int) ≤ 0 ∧ (0 : Int) ≤ 562949953421311; decide
      | succ f ih =>
        intro i hi
        by_cases h1 : 128 ≤ byteAt t i
        · rw [rvAt_on t f i h1]; exact ih (i + 1) (by omega)
        · by_cases h2 : byteAt t i = 0 ∧ 0 < i
          · rw [rvAt_bad t f i h2.1 h2.2]; exact ⟨by decide, by decide⟩
          · rw [rvAt_end t f i (by omega) h2]
            exact ⟨segL_nonneg _, segL_le7 _ (by rw [bl_length]; omega)⟩
    obtain ⟨h1, h2⟩ := hr s (min s.size 7) 0 (by omega)
    exact ⟨h1, h2, by omega, by omega⟩
  · obtain ⟨k, e, h1, h2, h3, _⟩ := rv_some s h
    exact ⟨h3.1, h3.2, by omega, by omega⟩

/-- Numbers told one behind the other. -/
def catN : List Int → ByteArray
  | [] => ⟨#[]⟩
  | n :: A => vrV n ++ catN A

theorem ba_addE (a : ByteArray) : a ++ (⟨#[]⟩ : ByteArray) = a := by
  cases a with | mk d => rw [ByteArray.mk_append_mk]; simp

theorem ba_nilE (a : ByteArray) : (⟨#[]⟩ : ByteArray) ++ a = a := by
  cases a with | mk d => rw [ByteArray.mk_append_mk]; simp

theorem ba_assoc (a b c : ByteArray) : a ++ b ++ c = a ++ (b ++ c) := by
  apply ByteArray.ext
  simp only [ByteArray.data_append, Array.append_assoc]

theorem ba_cancel {a x y : ByteArray} (h : a ++ x = a ++ y) : x = y := by
  have e := congrArg ByteArray.data h
  rw [ByteArray.data_append, ByteArray.data_append] at e
  exact ByteArray.ext (Array.append_right_inj _ |>.1 e)

theorem catN_app : ∀ A B, catN (A ++ B) = catN A ++ catN B
  | [], B => (ba_nilE _).symm
  | n :: A, B => by
    show vrV n ++ catN (A ++ B) = vrV n ++ catN A ++ catN B
    rw [catN_app A B, ba_assoc]

theorem catN_one (A : List Int) (n : Int) : catN (A ++ [n]) = catN A ++ vrV n := by
  rw [catN_app]
  show catN A ++ (vrV n ++ ⟨#[]⟩) = _
  rw [ba_addE]

theorem catN_len : ∀ A, A.length ≤ (catN A).size
  | [] => Nat.le_refl _
  | n :: A => by
    have h1 := vrV_pos n
    have h2 := catN_len A
    show A.length + 1 ≤ (vrV n ++ catN A).size
    rw [ByteArray.size_append]
    omega

theorem cat_pos (n : Int) (X : ByteArray) : vrV n ++ X ≠ ⟨#[]⟩ := fun e => by
  have h1 := vrV_pos n
  have h2 := congrArg ByteArray.size e
  rw [ByteArray.size_append] at h2
  have h3 : (⟨#[]⟩ : ByteArray).size = 0 := rfl
  omega

/-- Numbers told are found again, one by one. -/
theorem split_cat : ∀ (A A' : List Int) (T : ByteArray), InN A → InN A' → catN A ++ T = catN A' → ∃ B, A' = A ++ B ∧ T = catN B
  | [], A', T, _, _, h => ⟨A', rfl, by rw [← h]; exact (ba_nilE T).symm⟩
  | a :: A, [], T, _, _, h => by
    have e : vrV a ++ catN A ++ T = ⟨#[]⟩ := h
    rw [ba_assoc] at e
    exact absurd e (cat_pos _ _)
  | a :: A, b :: B, T, hA, hB, h => by
    have e : vrV a ++ catN A ++ T = vrV b ++ catN B := h
    rw [ba_assoc] at e
    have ha := hA a List.mem_cons_self
    have hb := hB b List.mem_cons_self
    have r1 := rv_cat a (catN A ++ T) ha.1 ha.2
    rw [e, rv_cat b (catN B) hb.1 hb.2] at r1
    have hab : b = a := congrArg Prod.fst r1
    subst hab
    obtain ⟨C, h1, h2⟩ := split_cat A B T (fun n hn => hA n (List.mem_cons_of_mem _ hn)) (fun n hn => hB n (List.mem_cons_of_mem _ hn)) (ba_cancel e)
    exact ⟨C, by rw [h1]; rfl, h2⟩

theorem cat_inj {A B : List Int} (hA : InN A) (hB : InN B) (h : catN A = catN B) : A = B := by
  obtain ⟨C, h1, h2⟩ := split_cat A B ⟨#[]⟩ hA hB (by rw [ba_addE]; exact h)
  cases C with
  | nil => rw [h1, List.append_nil]
  | cons c C => exact absurd h2.symm (cat_pos _ _)

/-- The numbers of merges, in order. -/
def flatP : List S_Pair → List Int
  | [] => []
  | p :: L => p.f0 :: p.f1 :: flatP L

theorem flatP_len : ∀ L, (flatP L).length = 2 * L.length
  | [] => rfl
  | p :: L => by
    show (flatP L).length + 1 + 1 = 2 * (L.length + 1)
    rw [flatP_len L]
    omega

theorem flatP_one : ∀ (L : List S_Pair) (p : S_Pair), flatP (L ++ [p]) = flatP L ++ [p.f0, p.f1]
  | [], p => rfl
  | q :: L, p => by
    show q.f0 :: q.f1 :: flatP (L ++ [p]) = q.f0 :: q.f1 :: (flatP L ++ [p.f0, p.f1])
    rw [flatP_one L p]

theorem flatP_inj : ∀ {L M : List S_Pair}, flatP L = flatP M → L = M
  | [], [], _ => rfl
  | [], q :: M, h => by cases h
  | p :: L, [], h => by cases h
  | ⟨a, b⟩ :: L, ⟨c, d⟩ :: M, h => by
    have h' : a :: b :: flatP L = c :: d :: flatP M := h
    simp only [List.cons.injEq] at h'
    obtain ⟨rfl, rfl, h2⟩ := h'
    rw [flatP_inj h2]

/-- What two numbers each come to merges, an odd one aside. -/
theorem flatP_app : ∀ (L M : List S_Pair), flatP (L ++ M) = flatP L ++ flatP M
  | [], M => rfl
  | q :: L, M => by
    show q.f0 :: q.f1 :: flatP (L ++ M) = q.f0 :: q.f1 :: (flatP L ++ flatP M)
    rw [flatP_app L M]

theorem flatP_split {L M : List S_Pair} {B : List Int} (h : flatP M = flatP L ++ B) : ∃ K, M = L ++ K ∧ B = flatP K := by
  induction L generalizing M with
  | nil => exact ⟨M, rfl, by rw [h]; rfl⟩
  | cons p L ih =>
    cases M with
    | nil => cases h
    | cons q M =>
      obtain ⟨a, b⟩ := p
      obtain ⟨c, d⟩ := q
      have h' : c :: d :: flatP M = a :: b :: (flatP L ++ B) := h
      simp only [List.cons.injEq] at h'
      obtain ⟨rfl, rfl, h2⟩ := h'
      obtain ⟨K, h3, h4⟩ := ih h2
      exact ⟨K, by rw [h3]; rfl, h4⟩

theorem canP_cat (L : List S_Pair) : ∀ k, k ≤ L.length → canP L k = (⟨#[98, 112, 101]⟩ : ByteArray) ++ vrV L.length ++ catN (flatP (L.take k))
  | 0, _ => (ba_addE _).symm
  | k + 1, hk => by
    have ih := canP_cat L k (by omega)
    rw [canP_at L k (by omega), ih, List.take_succ_eq_append_getElem (by omega), flatP_one, catN_app]
    show _ = _ ++ (catN (flatP (L.take k)) ++ (vrV L[k].f0 ++ (vrV L[k].f1 ++ ⟨#[]⟩)))
    rw [ba_addE]
    simp only [ba_assoc]

theorem canT_cat {L : List S_Pair} (h : okV L) : canT L = (⟨#[98, 112, 101]⟩ : ByteArray) ++ catN ((L.length : Int) :: flatP L) := by
  unfold canT
  rw [if_pos h, canP_cat L L.length (Nat.le_refl _), List.take_length, ba_assoc]
  rfl

theorem flatP_mem {L : List S_Pair} {n : Int} (h : n ∈ flatP L) : ∃ k, ∃ hk : k < L.length, n = L[k].f0 ∨ n = L[k].f1 := by
  induction L with
  | nil => cases h
  | cons p L ih =>
    have h' : n ∈ p.f0 :: p.f1 :: flatP L := h
    rcases List.mem_cons.1 h' with h1 | h1
    · exact ⟨0, Nat.zero_lt_succ _, .inl h1⟩
    · rcases List.mem_cons.1 h1 with h2 | h2
      · exact ⟨0, Nat.zero_lt_succ _, .inr h2⟩
      · obtain ⟨k, hk, h3⟩ := ih h2
        exact ⟨k + 1, Nat.succ_lt_succ hk, h3⟩

theorem okV_inN {L : List S_Pair} (h : okV L) : InN ((L.length : Int) :: flatP L) := by
  intro n hn
  rcases List.mem_cons.1 hn with rfl | hn
  · have := okV_len h; omega
  · obtain ⟨k, hk, h1⟩ := flatP_mem hn
    have := okV_range h k hk
    rcases h1 with rfl | rfl <;> omega

theorem canT_inj {L M : List S_Pair} (hL : okV L) (hM : okV M) (h : canT L = canT M) : L = M := by
  rw [canT_cat hL, canT_cat hM] at h
  have := cat_inj (okV_inN hL) (okV_inN hM) (ba_cancel h)
  exact flatP_inj (List.cons.inj this).2

/-- s is the text of a vocabulary that is right. -/
def HasV (s : ByteArray) : Prop := ∃ L, okV L ∧ canT L = s

/-- What reads a text hands back. -/
def RdcR (s : ByteArray) (w : World) (e : Ending) (w' : World) : Prop :=
  Below w.heap.size w w' ∧ ((∃ L v, okV L ∧ canT L = s ∧ e = .returned (.tuple #[.agg #[v], .bool true]) ∧ w'.ownsRow w.heap.size 48 2 v L.length (rPair L)) ∨ (¬ HasV s ∧ e = .returned (.tuple #[.agg #[.slice none 0 0], .bool false])))

end Go.Proofs.YtdhbhifgmbppjaaDoor
