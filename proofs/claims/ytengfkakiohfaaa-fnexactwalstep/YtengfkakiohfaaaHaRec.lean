/- The contracts of what the exact laws hold Rec by. -/
import Derived.Test.YtengfkakiohfaaaMtWalk
namespace Go.Proofs.Ytengfkakiohfaaa
open Go.RowKit
set_option linter.unusedVariables false

structure S_Rec where
  f0 : Int
  f1 : Int
  f2 : Int
  f3 : Int
  f4 : ByteArray

def cRec (x : S_Rec) : List Value := [.int .i64 x.f0, .int .i64 x.f1, .int .i64 x.f2, .int .i64 x.f3, .string x.f4]

def rRec (L : List S_Rec) : List Value := L.flatMap cRec

def zRec (x : S_Rec) : Nat := x.f4.size

/-- No text in it is too long. -/
def sRec (x : S_Rec) : Prop := x.f4.size ≤ maxLen

theorem cRec_len (x : S_Rec) : (cRec x).length = 5 := rfl

theorem rRec_len (L : List S_Rec) : (rRec L).length = L.length * 5 := flat_length cRec 5 cRec_len L

set_option maxRecDepth 20000 in
set_option maxHeartbeats 1000000 in
theorem szRec_c (x : S_Rec) (left : Int) (w : World) (h0 : 0 ≤ left) (h1 : left ≤ 1048576) (hz : sRec x) :
    Calls Try.prog 14 #[.agg #[.int .i64 x.f0, .int .i64 x.f1, .int .i64 x.f2, .int .i64 x.f3, .string x.f4], .int .i64 left] w fun e w' => e = .returned (.int .i64 (szF (zRec x) left)) ∧ Below w.heap.size w w' := by
  unfold zRec
  unfold sRec maxLen at hz
  by_cases h4 : (x.f4.size : Int) ≤ left
  · rw [szF_yes _ _ (by omega)]
    go_enter Try.func14, Try.ntmps14
    go_wp2
    go_ret
    exact ⟨ret_i (by omega), (Below.refl _ _).alloc (Nat.le_refl _) _⟩
  · rw [szF_no _ _ (by omega)]
    go_enter Try.func14, Try.ntmps14
    go_wp2
    go_ret
    exact ⟨rfl, (Below.refl _ _).alloc (Nat.le_refl _) _⟩

set_option maxRecDepth 20000 in
set_option maxHeartbeats 1000000 in
theorem toRec_c (x : S_Rec) (w : World) :
    Calls Try.prog 17 #[.agg #[.int .i64 x.f0, .int .i64 x.f1, .int .i64 x.f2, .int .i64 x.f3, .string x.f4]] w fun e w' => e = .returned (.agg #[.int .i64 x.f0, .int .i64 x.f1, .int .i64 x.f2, .int .i64 x.f3, .string x.f4]) ∧ Below w.heap.size w w' := by
  go_enter Try.func17, Try.ntmps17
  go_wp2
  exact bodyPost_ret (v := .agg #[.int .i64 x.f0, .int .i64 x.f1, .int .i64 x.f2, .int .i64 x.f3, .string x.f4]) (by simp [results, Try.results17, go_sem]) rfl ⟨rfl, (((Below.refl _ _).alloc (Nat.le_refl _) _).alloc (by simp) _).alloc (by simp; omega) _⟩

theorem infoRec : (Try.prog.info? 35).map (fun i => (i.zero, i.size, i.bytes)) = some (some (.agg #[.int .i64 0, .int .i64 0, .int .i64 0, .int .i64 0, .string ⟨#[]⟩]), 5, 48) := by kernel_rfl

theorem sizeRec : (Try.prog.info? 35).map (·.size) = some 5 := by kernel_rfl

/-- The cells of element i, marked from k on. -/
def mRec (k : Int) (i : Nat) : List Value := [.int .i64 (k + ((i * 5 : Nat) : Int)), .int .i64 (k + ((i * 5 : Nat) : Int) + 1), .int .i64 (k + ((i * 5 : Nat) : Int) + 1 + 1), .int .i64 (k + ((i * 5 : Nat) : Int) + 1 + 1 + 1), .string (mt (k + ((i * 5 : Nat) : Int) + 1 + 1 + 1 + 1))]

def mRecs (k : Int) (n : Nat) : List Value := (List.range n).flatMap (mRec k)

theorem mRecs_len (k : Int) (n : Nat) : (mRecs k n).length = n * 5 := by
  have := flat_length (mRec k) 5 (fun _ => rfl) (List.range n)
  rwa [List.length_range] at this

theorem mRecs_at (k : Int) (n i q : Nat) (hi : i < n) (hq : q < 5) : (mRecs k n)[i * 5 + q]? = (mRec k i)[q]? := by
  have := flat_at (mRec k) 5 (fun _ => rfl) (List.range n) i q (by simpa using hi) hq
  rw [List.getElem_range] at this
  exact this

end Go.Proofs.Ytengfkakiohfaaa
