/- The contracts of what the exact laws hold Pair by. -/
import Derived.Test.YtdhbhifgmbppjaaMtWalk
namespace Go.Proofs.Ytdhbhifgmbppjaa
open Go.RowKit
set_option linter.unusedVariables false

structure S_Pair where
  f0 : Int
  f1 : Int

def cPair (x : S_Pair) : List Value := [.int .i64 x.f0, .int .i64 x.f1]

def rPair (L : List S_Pair) : List Value := L.flatMap cPair

def zPair (x : S_Pair) : Nat := 0

/-- No text in it is too long. -/
def sPair (x : S_Pair) : Prop := True

theorem cPair_len (x : S_Pair) : (cPair x).length = 2 := rfl

theorem rPair_len (L : List S_Pair) : (rPair L).length = L.length * 2 := flat_length cPair 2 cPair_len L

theorem zsum_zeroP (L : List S_Pair) : ∀ n, zsum zPair L n = 0
  | 0 => rfl
  | n + 1 => by
    have h := zsum_zeroP L n
    show zsum zPair L n + ((L[n]?).map zPair).getD 0 = 0
    rw [h]
    cases L[n]? <;> rfl

theorem infoPair : (Try.prog.info? 80).map (fun i => (i.zero, i.size, i.bytes)) = some (some (.agg #[.int .i64 0, .int .i64 0]), 2, 16) := by kernel_rfl

theorem sizePair : (Try.prog.info? 80).map (·.size) = some 2 := by kernel_rfl

/-- The cells of element i, marked from k on. -/
def mPair (k : Int) (i : Nat) : List Value := [.int .i64 (k + ((i * 2 : Nat) : Int)), .int .i64 (k + ((i * 2 : Nat) : Int) + 1)]

def mPairs (k : Int) (n : Nat) : List Value := (List.range n).flatMap (mPair k)

theorem mPairs_len (k : Int) (n : Nat) : (mPairs k n).length = n * 2 := by
  have := flat_length (mPair k) 2 (fun _ => rfl) (List.range n)
  rwa [List.length_range] at this

theorem mPairs_at (k : Int) (n i q : Nat) (hi : i < n) (hq : q < 2) : (mPairs k n)[i * 2 + q]? = (mPair k i)[q]? := by
  have := flat_at (mPair k) 2 (fun _ => rfl) (List.range n) i q (by simpa using hi) hq
  rw [List.getElem_range] at this
  exact this

end Go.Proofs.Ytdhbhifgmbppjaa
