/- The contracts of what the exact laws hold Rec by. -/
import Derived.Test.YthlokfcejojdhaaDoorMtWalk
namespace Go.Proofs.YthlokfcejojdhaaDoor
open Go.RowKit
set_option linter.unusedVariables false

structure S_Rec where
  f0 : Int
  f1 : Int
  f2 : Int
  f3 : Int
  f4 : ByteArray

def cRec (x : S_Rec) : List Value := [.int .i64 x.f0, .int .i64 x.f1, .int .i64 x.f2, .int .i64 x.f3, .string x.f4]

def rRec (L : List S_Rec) : List Value := L.flatMap cRec

def zRec (x : S_Rec) : Nat := x.f4.size

/-- No text in it is too long. -/
def sRec (x : S_Rec) : Prop := x.f4.size ≤ maxLen

theorem cRec_len (x : S_Rec) : (cRec x).length = 5 := rfl

theorem rRec_len (L : List S_Rec) : (rRec L).length = L.length * 5 := flat_length cRec 5 cRec_len L

theorem infoRec : (Tryd.prog.info? 57).map (fun i => (i.zero, i.size, i.bytes)) = some (some (.agg #[.int .i64 0, .int .i64 0, .int .i64 0, .int .i64 0, .string ⟨#[]⟩]), 5, 48) := by kernel_rfl

theorem sizeRec : (Tryd.prog.info? 57).map (·.size) = some 5 := by kernel_rfl

/-- The cells of element i, marked from k on. -/
def mRec (k : Int) (i : Nat) : List Value := [.int .i64 (k + ((i * 5 : Nat) : Int)), .int .i64 (k + ((i * 5 : Nat) : Int) + 1), .int .i64 (k + ((i * 5 : Nat) : Int) + 1 + 1), .int .i64 (k + ((i * 5 : Nat) : Int) + 1 + 1 + 1), .string (mt (k + ((i * 5 : Nat) : Int) + 1 + 1 + 1 + 1))]

def mRecs (k : Int) (n : Nat) : List Value := (List.range n).flatMap (mRec k)

theorem mRecs_len (k : Int) (n : Nat) : (mRecs k n).length = n * 5 := by
  have := flat_length (mRec k) 5 (fun _ => rfl) (List.range n)
  rwa [List.length_range] at this

theorem mRecs_at (k : Int) (n i q : Nat) (hi : i < n) (hq : q < 5) : (mRecs k n)[i * 5 + q]? = (mRec k i)[q]? := by
  have := flat_at (mRec k) 5 (fun _ => rfl) (List.range n) i q (by simpa using hi) hq
  rw [List.getElem_range] at this
  exact this

end Go.Proofs.YthlokfcejojdhaaDoor
