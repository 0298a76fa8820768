/- What leads from one Wal to another one. -/
import Derived.Test.YtefbenojkajnoaaWxRecs
import Derived.Test.YtefbenojkajnoaaWwImpl
namespace Go.Proofs.Ytefbenojkajnoaa
open Go.RowKit
set_option linter.unusedVariables false

def eqE (x y : S_Entry) : Prop := x.f0 = y.f0 ∧ x.f1 = y.f1

instance (x y : S_Entry) : Decidable (eqE x y) := by unfold eqE; infer_instance

/-- How many entries both begin with. -/
def al : List S_Entry → List S_Entry → Nat
  | x :: l, y :: m => if eqE x y then al l m + 1 else 0
  | _, _ => 0

theorem al_le : ∀ (l m : List S_Entry), al l m ≤ l.length ∧ al l m ≤ m.length
  | [], m => by simp [al]
  | x :: l, [] => by simp [al]
  | x :: l, y :: m => by
    have h := al_le l m
    simp only [al]
    split
    · simp only [List.length_cons]; omega
    · simp

theorem al_same : ∀ (l m : List S_Entry) (k : Nat) (h1 : k < l.length) (h2 : k < m.length), k < al l m → eqE l[k] m[k]
  | [], m, k, h1, _, _ => by simp at h1
  | x :: l, [], k, _, h2, _ => by simp at h2
  | x :: l, y :: m, k, h1, h2, h => by
    simp only [al] at h
    split at h
    · rename_i he
      rcases k with _ | k
      · exact he
      · simp only [List.getElem_cons_succ]
        exact al_same l m k (by simpa using h1) (by simpa using h2) (by omega)
    · omega

theorem al_diff : ∀ (l m : List S_Entry) (k : Nat) (h1 : k < l.length) (h2 : k < m.length), k = al l m → ¬ eqE l[k] m[k]
  | [], m, k, h1, _, _ => by simp at h1
  | x :: l, [], k, _, h2, _ => by simp at h2
  | x :: l, y :: m, k, h1, h2, h => by
    simp only [al] at h
    split at h
    · subst h
      simp only [List.getElem_cons_succ]
      exact al_diff l m _ (by simpa using h1) (by simpa using h2) rfl
    · rename_i he
      subst h
      exact he

theorem al_step {l m : List S_Entry} {k : Nat} (h : k ≤ al l m) (h1 : k < l.length) (h2 : k < m.length) (he : eqE l[k] m[k]) : k + 1 ≤ al l m := by
  rcases Nat.lt_or_ge k (al l m) with h3 | h3
  · exact h3
  · exact absurd he (al_diff l m k h1 h2 (by omega))

theorem al_stop {l m : List S_Entry} {k : Nat} (h : k ≤ al l m) (hs : ∀ (h1 : k < l.length) (h2 : k < m.length), ¬ eqE l[k] m[k]) : k = al l m := by
  have a := al_le l m
  rcases Nat.lt_or_ge k (al l m) with h3 | h3
  · exact absurd (al_same l m k (by omega) (by omega) h3) (hs _ _)
  · omega

/-- That a hard record fits. -/
def fitH (a b : S_Wal) : Prop := a.f0 < b.f0 ∨ (b.f0 = a.f0 ∧ (a.f1 = -1 ∨ a.f1 = b.f1))

instance (a b : S_Wal) : Decidable (fitH a b) := by unfold fitH; infer_instance

def sameH (a b : S_Wal) : Prop := a.f0 = b.f0 ∧ a.f1 = b.f1

instance (a b : S_Wal) : Decidable (sameH a b) := by unfold sameH; infer_instance

def chOk (a b : S_Wal) : Prop := (okW a ∧ okW b ∧ a.f2 = b.f2 ∧ a.f3 = b.f3) ∧ (sameH a b ∨ fitH a b)

def ctR (a : S_Wal) (k : Nat) : S_Rec := ⟨3, 0, a.f2 + k + 1, 0, ⟨#[]⟩⟩
def ch0 (a b : S_Wal) : List S_Rec := if sameH a b then [] else [hdRec b]
def ch1 (a b : S_Wal) : List S_Rec := ch0 a b ++ (if al a.f4 b.f4 < a.f4.length then [ctR a (al a.f4 b.f4)] else [])
def chP (a b : S_Wal) (j : Nat) : List S_Rec := ch1 a b ++ recP b (al a.f4 b.f4) j
def chL (a b : S_Wal) : List S_Rec := chP a b (b.f4.length - al a.f4 b.f4)

theorem ch0_len (a b : S_Wal) : (ch0 a b).length ≤ 1 := by unfold ch0; split <;> simp
theorem ch1_len (a b : S_Wal) : (ch1 a b).length ≤ 2 := by
  have := ch0_len a b
  unfold ch1
  rw [List.length_append]
  split <;> simp <;> omega
theorem chP_len (a b : S_Wal) (j : Nat) : (chP a b j).length ≤ 2 + j := by
  have := ch1_len a b
  unfold chP
  rw [List.length_append, recP_len]
  omega
theorem chP_zero (a b : S_Wal) : chP a b 0 = ch1 a b := by unfold chP recP; rw [List.append_nil]
theorem chP_succ (a b : S_Wal) (j : Nat) : chP a b (j + 1) = chP a b j ++ [enRec b (al a.f4 b.f4 + j)] := by
  unfold chP
  rw [show recP b (al a.f4 b.f4) (j + 1) = recP b (al a.f4 b.f4) j ++ [enRec b (al a.f4 b.f4 + j)] from rfl, List.append_assoc]

theorem rRec_snoc (L : List S_Rec) (r : S_Rec) : rRec (L ++ [r]) = rRec L ++ cRec r := by unfold rRec; rw [List.flatMap_append]; simp

theorem own_snocRec {w : World} {base : Nat} {v : Value} {L : List S_Rec} {r : S_Rec} (h : w.ownsRow base 44 5 v (L.length + 1) (rRec L ++ cRec r)) : w.ownsRow base 44 5 v (L ++ [r]).length (rRec (L ++ [r])) := by
  rw [rRec_snoc, List.length_append, List.length_singleton]
  exact h

theorem eqEE (x y : S_Entry) (W : World) : (binOp .eql 66 (.agg #[.int .i64 x.f0, .string x.f1]) (.agg #[.int .i64 y.f0, .string y.f1])).run Try.prog W = .ok (.bool (decide (eqE x y))) W := by
  have hs := txt_iff x.f1 y.f1
  unfold eqE
  go_simp
  by_cases h0 : x.f0 = y.f0
  · by_cases h1 : x.f1 = y.f1
    · simp [h0, h1]
    · simp [h0, h1]
  · simp [h0]

end Go.Proofs.Ytefbenojkajnoaa
