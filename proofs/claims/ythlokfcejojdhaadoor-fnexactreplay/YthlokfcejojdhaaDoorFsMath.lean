/- Plain facts on frames one behind the other, and on marks; no program is named here. -/
import Derived.Test.YthlokfcejojdhaaDoorUfMath
import Derived.Test.YthlokfcejojdhaaDoorMtMath
namespace Go.Proofs.YthlokfcejojdhaaDoor

/-- The bodies of all frames with which t begins, and how many bytes these have. -/
inductive Frs : ByteArray → List ByteArray → Nat → Prop
  | stop (t : ByteArray) : UShort t ∨ UBad t → Frs t [] 0
  | more (t : ByteArray) (n : Nat) (L : List ByteArray) (e : Nat) : UOk t n → Frs (t.extract (8 + n) t.size) L e → Frs t (t.extract 8 (8 + n) :: L) (8 + n + e)

theorem ok_not_short {t : ByteArray} {n : Nat} (h : UOk t n) : ¬ UShort t := by
  obtain ⟨h1, h2, h3, h4, _⟩ := h
  rintro (h | ⟨_, _, h⟩) <;> omega

theorem ok_not_bad {t : ByteArray} {n : Nat} (h : UOk t n) : ¬ UBad t := by
  obtain ⟨h1, h2, h3, h4, h5⟩ := h
  rintro ⟨_, h | ⟨m, _, _, hm, _, hu⟩⟩
  · omega
  · obtain rfl : m = n := by omega
    exact hu h5

theorem Frs.unique {t : ByteArray} {L : List ByteArray} {e : Nat} (h : Frs t L e) : ∀ {L' : List ByteArray} {e' : Nat}, Frs t L' e' → L = L' ∧ e = e' := by
  induction h with
  | stop t hs =>
    intro L' e' h'
    cases h' with
    | stop _ _ => exact ⟨rfl, rfl⟩
    | more _ n L e hok _ => rcases hs with hs | hs
                            · exact absurd hs (ok_not_short hok)
                            · exact absurd hs (ok_not_bad hok)
  | more t n L e hok _ ih =>
    intro L' e' h'
    cases h' with
    | stop _ hs => rcases hs with hs | hs
                   · exact absurd hs (ok_not_short hok)
                   · exact absurd hs (ok_not_bad hok)
    | more _ m L2 e2 hok2 h2 =>
      have hnm : n = m := by
        have a := hok.2.2.1
        have b := hok2.2.2.1
        omega
      subst hnm
      obtain ⟨rfl, rfl⟩ := ih h2
      exact ⟨rfl, rfl⟩

theorem Frs.le {t : ByteArray} {L : List ByteArray} {e : Nat} (h : Frs t L e) : e ≤ t.size ∧ L.length ≤ e := by
  induction h with
  | stop t hs => exact ⟨Nat.zero_le _, Nat.zero_le _⟩
  | more t n L e hok _ ih =>
    have h4 := hok.2.2.2.1
    have hz : (t.extract (8 + n) t.size).size = t.size - (8 + n) := by simp
    rw [hz] at ih
    simp only [List.length_cons]
    omega

/-- Where the frames up to byte k have been read, and the bodies are acc. -/
def UptoF (s : ByteArray) (k : Nat) (acc : List ByteArray) : Prop := ∀ L e, Frs (s.extract k s.size) L e → Frs s (acc ++ L) (k + e)

theorem upto_zero (s : ByteArray) (h : s.extract 0 s.size = s) : UptoF s 0 [] := by
  intro L e hf
  rw [h] at hf
  simpa using hf

theorem upto_more {s : ByteArray} {k n : Nat} {acc : List ByteArray} (hk : k ≤ s.size) (hu : UptoF s k acc) (hok : UOk (s.extract k s.size) n) :
    UptoF s (k + (8 + n)) (acc ++ [(s.extract k s.size).extract 8 (8 + n)]) := by
  intro L e hf
  have hz : (s.extract k s.size).size = s.size - k := by simp
  have h4 := hok.2.2.2.1
  rw [hz] at h4
  have e1 := ext_tail s k (8 + n) (by omega)
  rw [← e1] at hf
  have := hu _ _ (Frs.more _ n L e hok hf)
  simpa [List.append_assoc, Nat.add_assoc] using this

theorem upto_end {s : ByteArray} {k : Nat} {acc : List ByteArray} (hu : UptoF s k acc) (h : UShort (s.extract k s.size) ∨ UBad (s.extract k s.size)) : Frs s acc k := by
  have := hu [] 0 (Frs.stop _ h)
  simpa using this

theorem short_end (s : ByteArray) : UShort (s.extract s.size s.size) := by
  left; simp

theorem ok_le {s : ByteArray} {k n : Nat} (hk : k ≤ s.size) (h : UOk (s.extract k s.size) n) : k + (8 + n) ≤ s.size := by
  have hz : (s.extract k s.size).size = s.size - k := by simp
  have h4 := h.2.2.2.1
  rw [hz] at h4
  omega

/-! ### Marks -/

/-- The marks from k on. -/
def marks (k : Int) (n : Nat) : List ByteArray := (List.range n).map fun (i : Nat) => mt (k + (i : Int))

theorem marks_length (k : Int) (n : Nat) : (marks k n).length = n := by simp [marks]

theorem marks_at (k : Int) (n i : Nat) (h : i < n) : (marks k n)[i]? = some (mt (k + (i : Int))) := by
  simp [marks, h]

theorem marks_set (k : Int) (L : List ByteArray) (i : Nat) (h : i < L.length) :
    (marks k i ++ L.drop i).set i (mt (k + (i : Int))) = marks k (i + 1) ++ L.drop (i + 1) := by
  have hl := marks_length k i
  rw [List.set_append_right _ _ (by omega), hl, Nat.sub_self, List.drop_eq_getElem_cons h, List.set_cons_zero]
  have e : marks k (i + 1) = marks k i ++ [mt (k + (i : Int))] := by
    simp [marks, List.range_succ]
  rw [e, List.append_assoc]
  rfl

end Go.Proofs.YthlokfcejojdhaaDoor
