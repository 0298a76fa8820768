/- ShowRec of both sides by contracts. -/
import Derived.Test.YtehkfijghpddfabWrOf
import Derived.Test.YtehkfijghpddfabRgMade
import Derived.Test.YtehkfijghpddfabVarWalk
import Derived.Laws.Concat
namespace Go.Proofs.Ytehkfijghpddfab
open Go.RowKit
set_option linter.unusedVariables false

/-- A record as a text. -/
def recT (x : S_Rec) : ByteArray := if okR x then strOfNums ((([x.f0] ++ varL x.f1) ++ varL x.f2) ++ varL (x.f3 + 1)) ++ x.f4 else ⟨#[]⟩

theorem okR_range {x : S_Rec} (h : okR x) : 0 ≤ x.f1 ∧ x.f1 ≤ 100000 ∧ 0 ≤ x.f2 ∧ x.f2 ≤ 100000 ∧ -1 ≤ x.f3 ∧ x.f3 ≤ 4 ∧ 1 ≤ x.f0 ∧ x.f0 ≤ 4 := by
  rcases h with h | h | h | ⟨h0, h | h, h1⟩ <;> omega

theorem varL_len3 (n : Int) (h0 : 0 ≤ n) (h1 : n < 2097152) : (varL n).length ≤ 3 := by
  by_cases a : 128 ≤ n
  · rw [varL_more n a]
    by_cases b : 128 ≤ n / 128
    · rw [varL_more _ b, varL_last _ (by omega)]; simp
    · rw [varL_last _ (by omega)]; simp
  · rw [varL_last n (by omega)]; simp

theorem u8_in (n : Int) (h0 : 0 ≤ n ∧ n ≤ 255) : IntKind.u8.wrap n = n := by
  simp only [IntKind.wrap, IntKind.bits, IntKind.signed]
  simp
  omega

end Go.Proofs.Ytehkfijghpddfab
