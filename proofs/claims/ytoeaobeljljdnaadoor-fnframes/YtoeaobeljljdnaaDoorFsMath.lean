/- Plain facts on frames one behind the other, and on marks; no program is named here. -/
import Derived.Test.YtoeaobeljljdnaaDoorUfMath
namespace Go.Proofs.YtoeaobeljljdnaaDoor

/-- The bodies of all frames with which t begins, and how many bytes these have. -/
inductive Frs : ByteArray → List ByteArray → Nat → Prop
  | stop (t : ByteArray) : UShort t ∨ UBad t → Frs t [] 0
  | more (t : ByteArray) (n : Nat) (L : List ByteArray) (e : Nat) : UOk t n → Frs (t.extract (8 + n) t.size) L e → Frs t (t.extract 8 (8 + n) :: L) (8 + n + e)

theorem ok_not_short {t : ByteArray} {n : Nat} (h : UOk t n) : ¬ UShort t := by
  obtain ⟨h1, h2, h3, h4, _⟩ := h
  rintro (h | ⟨_, _, h⟩) <;> omega

theorem ok_not_bad {t : ByteArray} {n : Nat} (h : UOk t n) : ¬ UBad t := by
  obtain ⟨h1, h2, h3, h4, h5⟩ := h
  rintro ⟨_, h | ⟨m, _, _, hm, _, hu⟩⟩
  · omega
  · obtain rfl : m = n := by omega
    exact hu h5

theorem Frs.unique {t : ByteArray} {L : List ByteArray} {e : Nat} (h : Frs t L e) : ∀ {L' : List ByteArray} {e' : Nat}, Frs t L' e' → L = L' ∧ e = e' := by
  induction h with
  | stop t hs =>
    intro L' e' h'
    cases h' with
    | stop _ _ => exact ⟨rfl, rfl⟩
    | more _ n L e hok _ => rcases hs with hs | hs
                            · exact absurd hs (ok_not_short hok)
                            · exact absurd hs (ok_not_bad hok)
  | more t n L e hok _ ih =>
    intro L' e' h'
    cases h' with
    | stop _ hs => rcases hs with hs | hs
                   · exact absurd hs (ok_not_short hok)
                   · exact absurd hs (ok_not_bad hok)
    | more _ m L2 e2 hok2 h2 =>
      have hnm : n = m := by
        have a := hok.2.2.1
        have b := hok2.2.2.1
        omega
      subst hnm
      obtain ⟨rfl, rfl⟩ := ih h2
      exact ⟨rfl, rfl⟩

theorem Frs.le {t : ByteArray} {L : List ByteArray} {e : Nat} (h : Frs t L e) : e ≤ t.size ∧ L.length ≤ e := by
  induction h with
  | stop t hs => exact ⟨Nat.zero_le _, Nat.zero_le _⟩
  | more t n L e hok _ ih =>
    have h4 := hok.2.2.2.1
    have hz : (t.extract (8 + n) t.size).size = t.size - (8 + n) := by simp
    rw [hz] at ih
    simp only [List.length_cons]
    omega

/-- Where the frames up to byte k have been read, and the bodies are acc. -/
def Upto (s : ByteArray) (k : Nat) (acc : List ByteArray) : Prop := ∀ L e, Frs (s.extract k s.size) L e → Frs s (acc ++ L) (k + e)

theorem upto_zero (s : ByteArray) (h : s.extract 0 s.size = s) : Upto s 0 [] := by
  intro L e hf
  rw [h] at hf
  simpa using hf

theorem upto_more {s : ByteArray} {k n : Nat} {acc : List ByteArray} (hk : k ≤ s.size) (hu : Upto s k acc) (hok : UOk (s.extract k s.size) n) :
    Upto s (k + (8 + n)) (acc ++ [(s.extract k s.size).extract 8 (8 + n)]) := by
  intro L e hf
  have hz : (s.extract k s.size).size = s.size - k := by simp
  have h4 := hok.2.2.2.1
  rw [hz] at h4
  have e1 := ext_tail s k (8 + n) (by omega)
  rw [← e1] at hf
  have := hu _ _ (Frs.more _ n L e hok hf)
  simpa [List.append_assoc, Nat.add_assoc] using this

theorem upto_end {s : ByteArray} {k : Nat} {acc : List ByteArray} (hu : Upto s k acc) (h : UShort (s.extract k s.size) ∨ UBad (s.extract k s.size)) : Frs s acc k := by
  have := hu [] 0 (Frs.stop _ h)
  simpa using this

theorem short_end (s : ByteArray) : UShort (s.extract s.size s.size) := by
  left; simp

theorem ok_le {s : ByteArray} {k n : Nat} (hk : k ≤ s.size) (h : UOk (s.extract k s.size) n) : k + (8 + n) ≤ s.size := by
  have hz : (s.extract k s.size).size = s.size - k := by simp
  have h4 := h.2.2.2.1
  rw [hz] at h4
  omega

/-! ### Marks -/

/-- The digits of a number above 0. -/
def md : Nat → Int → List Int
  | 0, _ => []
  | f + 1, n => if n ≤ 0 then [] else md f (n / 10) ++ [48 + n % 10]

theorem md_eq : ∀ (f g : Nat) (n : Int), n.toNat ≤ f → n.toNat ≤ g → md f n = md g n
  | 0, 0, _, _, _ => rfl
  | 0, g + 1, n, hf, _ => by simp only [md]; rw [if_pos (by omega)]
  | f + 1, 0, n, _, hg => by simp only [md]; rw [if_pos (by omega)]
  | f + 1, g + 1, n, hf, hg => by
    simp only [md]
    by_cases h : n ≤ 0
    · rw [if_pos h, if_pos h]
    · rw [if_neg h, if_neg h, md_eq f g (n / 10) (by omega) (by omega)]

/-- The digits of n. -/
def mD (n : Int) : List Int := md n.toNat n

theorem mD_zero (n : Int) (h : n ≤ 0) : mD n = [] := by
  unfold mD
  have : n.toNat = 0 := by omega
  rw [this]; rfl

theorem mD_more (n : Int) (h : 0 < n) : mD n = mD (n / 10) ++ [48 + n % 10] := by
  obtain ⟨k, hk⟩ : ∃ k, n.toNat = k + 1 := ⟨n.toNat - 1, by omega⟩
  unfold mD
  rw [hk]
  simp only [md]
  rw [if_neg (by omega), md_eq k (n / 10).toNat (n / 10) (by omega) (Nat.le_refl _)]

theorem md_len : ∀ (f : Nat) (n : Int), (md f n).length ≤ f
  | 0, _ => by simp [md]
  | f + 1, n => by
    simp only [md]
    split
    · simp
    · have := md_len f (n / 10)
      simp; omega

theorem mD_len (n : Int) : (mD n).length ≤ n.toNat := md_len _ _

/-- The mark of a number. -/
def mt (n : Int) : ByteArray := strOfNums (109 :: mD n)

/-- The marks from k on. -/
def marks (k : Int) (n : Nat) : List ByteArray := (List.range n).map fun (i : Nat) => mt (k + (i : Int))

theorem marks_length (k : Int) (n : Nat) : (marks k n).length = n := by simp [marks]

theorem marks_at (k : Int) (n i : Nat) (h : i < n) : (marks k n)[i]? = some (mt (k + (i : Int))) := by
  simp [marks, h]

theorem marks_set (k : Int) (L : List ByteArray) (i : Nat) (h : i < L.length) :
    (marks k i ++ L.drop i).set i (mt (k + (i : Int))) = marks k (i + 1) ++ L.drop (i + 1) := by
  have hl := marks_length k i
  rw [List.set_append_right _ _ (by omega), hl, Nat.sub_self, List.drop_eq_getElem_cons h, List.set_cons_zero]
  have e : marks k (i + 1) = marks k i ++ [mt (k + (i : Int))] := by
    simp [marks, List.range_succ]
  rw [e, List.append_assoc]
  rfl

end Go.Proofs.YtoeaobeljljdnaaDoor
