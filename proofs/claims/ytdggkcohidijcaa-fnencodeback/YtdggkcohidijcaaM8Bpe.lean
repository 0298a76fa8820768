/- What a word's bytes merge to; no program is named here. -/
import Derived.Test.YtdggkcohidijcaaM8Row
import Derived.Test.YtdggkcohidijcaaBlMath
namespace Go.Proofs.Ytdggkcohidijcaa
open Go.RowKit
set_option linter.unusedVariables false

/-- The tokens that a word's bytes are. -/
def bpI (s : ByteArray) : List Int := (List.range s.size).map fun i => byteAt s i

theorem bpI_len (s : ByteArray) : (bpI s).length = s.size := by unfold bpI; simp

theorem bpI_take (s : ByteArray) (k : Nat) (h : k < s.size) : (bpI s).take (k + 1) = (bpI s).take k ++ [byteAt s k] := by
  have e : (bpI s)[k]? = some (byteAt s k) := by
    unfold bpI
    rw [List.getElem?_map, List.getElem?_range h]
    rfl
  rw [List.take_add_one, e]
  rfl

def bpeN (M : List S_Pair) : Nat → List Int → List Int
  | 0, ts => ts
  | k + 1, ts => match placeF M ts with
    | none => ts
    | some (i, r) => bpeN M k (mgT ts i r)

theorem bpeN_none {M : List S_Pair} {ts : List Int} (h : placeF M ts = none) (k : Nat) : bpeN M k ts = ts := by
  cases k with
  | zero => rfl
  | succ k =>
    show (match placeF M ts with
      | none => ts
      | some (i, r) => bpeN M k (mgT ts i r)) = _
    rw [h]

theorem bpeN_some {M : List S_Pair} {ts : List Int} {i r : Nat} (h : placeF M ts = some (i, r)) (k : Nat) : bpeN M (k + 1) ts = bpeN M k (mgT ts i r) := by
  show (match placeF M ts with
    | none => ts
    | some (i, r) => bpeN M k (mgT ts i r)) = _
  rw [h]

/-- All merged. -/
def bpeL (M : List S_Pair) (ts : List Int) : List Int := bpeN M ts.length ts

theorem bpeL_step {M : List S_Pair} {ts : List Int} {i r : Nat} (h : placeF M ts = some (i, r)) : bpeL M ts = bpeL M (mgT ts i r) := by
  have hl := mgT_len (r := r) (matB_lt (place_is h)).2
  unfold bpeL
  rw [← hl]
  exact bpeN_some h _

theorem bpeN_len (M : List S_Pair) : ∀ (k : Nat) (ts : List Int), (bpeN M k ts).length ≤ ts.length
  | 0, ts => Nat.le_refl _
  | k + 1, ts => by
    rcases h : placeF M ts with _ | ⟨i, r⟩
    · rw [bpeN_none h]; exact Nat.le_refl _
    · rw [bpeN_some h]
      have := bpeN_len M k (mgT ts i r)
      have := mgT_len (r := r) (matB_lt (place_is h)).2
      omega

/-- What Bpe answers. -/
def bpF (L : List S_Pair) (s : ByteArray) : List Int := if okV L ∧ s.size ≤ 64 then bpeL L (bpI s) else []

theorem bpF_len (L : List S_Pair) (s : ByteArray) : (bpF L s).length ≤ 1000 := by
  unfold bpF
  split
  · rename_i h
    have := bpeN_len L (bpI s).length (bpI s)
    rw [bpI_len] at this
    show (bpeN L (bpI s).length (bpI s)).length ≤ _
    rw [bpI_len]
    omega
  · exact Nat.zero_le _

/-- The row that merges next, told by its tokens. -/
theorem next_bpe {M : List S_Pair} {l : List Sy} {i : Nat} {y z : Sy} {r : Int} {l' : List Sy} (hy : l[i]? = some y) (hz : l[i + 1]? = some z) (hf : IsFst M y.tok z.tok r) (hb : Best M l i r) (hm : Mrg8 l l' i y (256 + r)) : bpeL M (l'.map Sy.tok) = bpeL M (l.map Sy.tok) := by
  obtain ⟨k, rfl, hp⟩ := best_place hy hz hf hb
  rw [bpeL_step (place_some hp), mrg_toks hm hz]

theorem none_bpe {M : List S_Pair} {l : List Sy} (h : NoPair M l) : bpeL M (l.map Sy.tok) = l.map Sy.tok := bpeN_none (place_none (nopair_place h)) _

end Go.Proofs.Ytdggkcohidijcaa
