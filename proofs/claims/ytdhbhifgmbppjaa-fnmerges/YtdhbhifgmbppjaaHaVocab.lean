/- The contracts of what the exact laws hold Vocab by. -/
import Derived.Test.YtdhbhifgmbppjaaHaBut
import Derived.Test.YtdhbhifgmbppjaaHaPair
namespace Go.Proofs.Ytdhbhifgmbppjaa
open Go.RowKit
set_option linter.unusedVariables false

structure S_Vocab where
  f0 : List S_Pair

/-- Its lists can be read. -/
def RdVocab (w : World) (x : S_Vocab) (v0 : Value) : Prop :=
  RowR w v0 x.f0.length 2 (rPair x.f0)

theorem RdVocab.keep {w w' : World} {x : S_Vocab} {v0 : Value} (h : RdVocab w x v0) {N : Nat} (hb : Below N w w') (hN : w.heap.size ≤ N) : RdVocab w' x v0 :=
  RowR.keep h hb hN

/-- Its lists are rows of the call's own. -/
def OwVocab (w : World) (base : Nat) (x : S_Vocab) (v0 : Value) : Prop :=
  w.ownsRow base 80 2 v0 x.f0.length (rPair x.f0)

theorem OwVocab.keep {w w' : World} {base : Nat} {x : S_Vocab} {v0 : Value} (h : OwVocab w base x v0) {N : Nat} (hb : Below N w w') (hN : w.heap.size ≤ N) : OwVocab w' base x v0 :=
  own_bel h hb hN

theorem OwVocab.rd {w : World} {base : Nat} {x : S_Vocab} {v0 : Value} (h : OwVocab w base x v0) : RdVocab w x v0 :=
  RowR.own h

/-- No list in it is longer than this. -/
def LnVocab (x : S_Vocab) (n : Nat) : Prop := x.f0.length ≤ n

/-- What sz takes off for it. -/
def zVocab (x : S_Vocab) : Nat := (x.f0.length + zsum zPair x.f0 x.f0.length)

/-- Its lists' cells are marked from k0 on. -/
def MrVocab (w : World) (x : S_Vocab) (k0 : Int) (v0 : Value) : Prop :=
  RowR w v0 x.f0.length 2 (mPairs (k0) x.f0.length)

theorem MrVocab.keep {w w' : World} {x : S_Vocab} {k0 : Int} {v0 : Value} (h : MrVocab w x k0 v0) {N : Nat} (hb : Below N w w') (hN : w.heap.size ≤ N) : MrVocab w' x k0 v0 :=
  RowR.keep h hb hN

/-- Its lists are rows of the call's own, marked from k0 on. -/
def MoVocab (w : World) (base : Nat) (x : S_Vocab) (k0 : Int) (v0 : Value) : Prop :=
  w.ownsRow base 80 2 v0 x.f0.length (mPairs (k0) x.f0.length)

theorem MoVocab.rd {w : World} {base : Nat} {x : S_Vocab} {k0 : Int} {v0 : Value} (h : MoVocab w base x k0 v0) : MrVocab w x k0 v0 :=
  RowR.own h

theorem MoVocab.keep {w w' : World} {base : Nat} {x : S_Vocab} {k0 : Int} {v0 : Value} (h : MoVocab w base x k0 v0) {N : Nat} (hb : Below N w w') (hN : w.heap.size ≤ N) : MoVocab w' base x k0 v0 :=
  own_bel h hb hN

/-- All that it holds is of a length that a text can have. -/
def SmVocab (x : S_Vocab) : Prop := x.f0.length ≤ maxLen ∧ (∀ y ∈ x.f0, sPair y)

theorem szF_add (a b : Nat) (left : Int) (h : 0 ≤ szF a left) : szF (a + b) left = szF b (szF a left) := by
  unfold szF at *
  split at h
  · rename_i ha
    rw [if_pos ha]
    split
    · rw [if_pos (by omega)]; omega
    · rw [if_neg (by omega)]
  · omega

theorem szF_neg (a b : Nat) (left : Int) (h : szF a left < 0) : szF (a + b) left = -1 := by
  unfold szF at *
  split at h
  · omega
  · rw [if_neg (by omega)]

theorem szF_le (a : Nat) (left : Int) (h : -1 ≤ left) : szF a left ≤ left := by
  unfold szF
  split <;> omega

end Go.Proofs.Ytdhbhifgmbppjaa
