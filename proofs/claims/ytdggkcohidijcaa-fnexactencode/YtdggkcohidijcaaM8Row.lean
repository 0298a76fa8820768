/- Rows and merging. -/
import Derived.Test.YtdggkcohidijcaaM8Math
import Derived.Test.YtdggkcohidijcaaJ8
namespace Go.Proofs.Ytdggkcohidijcaa
open Go.RowKit
set_option linter.unusedVariables false
set_option linter.unusedSimpArgs false

theorem isFst_le {M : List S_Pair} {a b s : Int} {q : Nat} {p : S_Pair} (h : IsFst M a b s) (hp : M[q]? = some p) (e1 : a = p.f0) (e2 : b = p.f1) : 0 ≤ s ∧ s ≤ (q : Int) := by
  obtain ⟨hq, hpe⟩ := List.getElem?_eq_some_iff.1 hp
  have hm : M[q].f0 = a ∧ M[q].f1 = b := by rw [hpe]; exact ⟨e1.symm, e2.symm⟩
  rcases h with ⟨k, rfl, hk, _, hno⟩ | ⟨_, hno⟩
  · refine ⟨by omega, ?_⟩
    rcases Nat.lt_or_ge q k with h | h
    · exact absurd hm (hno q h hq)
    · omega
  · exact absurd hm (hno q hq)

theorem tok_at {l : List Sy} {j : Nat} {a : Int} (h : (l.map Sy.tok)[j]? = some a) : ∃ y, l[j]? = some y ∧ y.tok = a := by
  rw [List.getElem?_map] at h
  rcases hy : l[j]? with _ | y
  · rw [hy] at h; cases h
  · rw [hy] at h; cases h
    exact ⟨y, rfl, rfl⟩

theorem at_tok {l : List Sy} {j : Nat} {y : Sy} (h : l[j]? = some y) : (l.map Sy.tok)[j]? = some y.tok := by rw [List.getElem?_map, h]; rfl

theorem best_place {M : List S_Pair} {l : List Sy} {i : Nat} {y z : Sy} {r : Int} (hy : l[i]? = some y) (hz : l[i + 1]? = some z) (hf : IsFst M y.tok z.tok r) (hb : Best M l i r) : ∃ k : Nat, r = (k : Int) ∧ PlaceP M (l.map Sy.tok) i k := by
  rcases hf with ⟨k, rfl, hk, hm, hno⟩ | ⟨rfl, _⟩
  · have key : ∀ r' i', matB M (l.map Sy.tok) r' i' = true → (k : Int) < r' ∨ (k = r' ∧ i ≤ i') ∨ (k < r') := by
      intro r' i' h
      obtain ⟨p, a, b, h1, h2, h3, e1, e2⟩ := matB_iff.1 h
      obtain ⟨y', hy', ht⟩ := tok_at h2
      obtain ⟨z', hz', ht2⟩ := tok_at h3
      obtain ⟨s, hs⟩ := isFst_ex M y'.tok z'.tok
      have hle := isFst_le hs h1 (ht.trans e1) (ht2.trans e2)
      rcases hb.2 i' y' z' s hy' hz' hs hle.1 with h4 | ⟨h4, h5⟩
      · left; omega
      · by_cases h6 : k = r'
        · exact .inr (.inl ⟨h6, h5⟩)
        · right; right; omega
    refine ⟨k, rfl, ?_, fun r' hr' i' => ?_, fun i' hi' => ?_⟩
    · exact matB_iff.2 ⟨M[k], y.tok, z.tok, List.getElem?_eq_getElem hk, at_tok hy, at_tok hz, hm.1.symm, hm.2.symm⟩
    · rcases hq : matB M (l.map Sy.tok) r' i' with _ | _
      · rfl
      · rcases key r' i' hq with h | ⟨h, _⟩ | h <;> omega
    · rcases hq : matB M (l.map Sy.tok) k i' with _ | _
      · rfl
      · rcases key k i' hq with h | ⟨_, h⟩ | h <;> omega
  · exact absurd hb.1 (by decide)

theorem nopair_place {M : List S_Pair} {l : List Sy} (h : NoPair M l) : ∀ r i, matB M (l.map Sy.tok) r i = false := by
  intro r i
  rcases hq : matB M (l.map Sy.tok) r i with _ | _
  · rfl
  · obtain ⟨p, a, b, h1, h2, h3, e1, e2⟩ := matB_iff.1 hq
    obtain ⟨y', hy', ht⟩ := tok_at h2
    obtain ⟨z', hz', ht2⟩ := tok_at h3
    obtain ⟨s, hs⟩ := isFst_ex M y'.tok z'.tok
    have hle := isFst_le hs h1 (ht.trans e1) (ht2.trans e2)
    have := h i y' z' s hy' hz' hs
    omega

theorem mgT_at {ts : List Int} {i r : Nat} (h : i + 1 < ts.length) (j : Nat) : (mgT ts i r)[j]? = if j < i then ts[j]? else if j = i then some (256 + (r : Int)) else ts[j + 1]? := by
  have hl : (ts.take i).length = i := by rw [List.length_take]; omega
  unfold mgT
  by_cases h1 : j < i
  · rw [if_pos h1, List.getElem?_append_left (by omega), List.getElem?_take_of_lt h1]
  · rw [if_neg h1, List.getElem?_append_right (by omega), hl]
    by_cases h2 : j = i
    · rw [if_pos h2, h2, Nat.sub_self]; rfl
    · rw [if_neg h2]
      obtain ⟨d, rfl⟩ : ∃ d, j = i + 1 + d := ⟨j - i - 1, by omega⟩
      rw [show i + 1 + d - i = d + 1 by omega, List.getElem?_cons_succ, List.getElem?_drop]
      congr 1
      omega

theorem mrg_toks {l l' : List Sy} {i k : Nat} {y z : Sy} (h : Mrg8 l l' i y (256 + (k : Int))) (hz : l[i + 1]? = some z) : l'.map Sy.tok = mgT (l.map Sy.tok) i k := by
  have hi := (List.getElem?_eq_some_iff.1 hz).1
  apply List.ext_getElem?
  intro j
  rw [mgT_at (by rw [List.length_map]; exact hi), List.getElem?_map, h j]
  by_cases h1 : j < i
  · rw [if_pos h1, if_pos h1, List.getElem?_map]
  · rw [if_neg h1, if_neg h1]
    by_cases h2 : j = i
    · rw [if_pos h2, if_pos h2]; rfl
    · rw [if_neg h2, if_neg h2, List.getElem?_map]

/-- What mergeNext answers, and what the row tells then. -/
theorem next_moF {M : List S_Pair} {l : List Sy} {i : Nat} {y z : Sy} {r : Int} {l' : List Sy} (hy : l[i]? = some y) (hz : l[i + 1]? = some z) (hf : IsFst M y.tok z.tok r) (hb : Best M l i r) (hm : Mrg8 l l' i y (256 + r)) : (placeF M (l.map Sy.tok)).isSome = true ∧ l'.map Sy.tok = moF M (l.map Sy.tok) := by
  obtain ⟨k, rfl, hp⟩ := best_place hy hz hf hb
  have h1 := place_some hp
  refine ⟨by rw [h1]; rfl, ?_⟩
  unfold moF
  rw [h1]
  exact mrg_toks hm hz

theorem none_moF {M : List S_Pair} {l : List Sy} (h : NoPair M l) : placeF M (l.map Sy.tok) = none ∧ moF M (l.map Sy.tok) = l.map Sy.tok := by
  have h1 := place_none (nopair_place h)
  refine ⟨h1, ?_⟩
  unfold moF
  rw [h1]

end Go.Proofs.Ytdggkcohidijcaa
