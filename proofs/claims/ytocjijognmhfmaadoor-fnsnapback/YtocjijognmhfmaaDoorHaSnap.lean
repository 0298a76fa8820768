/- The contracts of what the exact laws hold Snap by. -/
import Derived.Test.YtocjijognmhfmaaDoorMtWalk
namespace Go.Proofs.YtocjijognmhfmaaDoor
open Go.RowKit
set_option linter.unusedVariables false

structure S_Snap where
  f0 : Int
  f1 : Int
  f2 : ByteArray

def cSnap (x : S_Snap) : List Value := [.int .i64 x.f0, .int .i64 x.f1, .string x.f2]

def rSnap (L : List S_Snap) : List Value := L.flatMap cSnap

def zSnap (x : S_Snap) : Nat := x.f2.size

/-- No text in it is too long. -/
def sSnap (x : S_Snap) : Prop := x.f2.size ≤ maxLen

theorem cSnap_len (x : S_Snap) : (cSnap x).length = 3 := rfl

theorem rSnap_len (L : List S_Snap) : (rSnap L).length = L.length * 3 := flat_length cSnap 3 cSnap_len L

set_option maxRecDepth 20000 in
set_option maxHeartbeats 1000000 in
theorem szSnap_c (x : S_Snap) (left : Int) (w : World) (h0 : 0 ≤ left) (h1 : left ≤ 1048576) (hz : sSnap x) :
    Calls Tryd.prog 11 #[.agg #[.int .i64 x.f0, .int .i64 x.f1, .string x.f2], .int .i64 left] w fun e w' => e = .returned (.int .i64 (szF (zSnap x) left)) ∧ Below w.heap.size w w' := by
  unfold zSnap
  unfold sSnap maxLen at hz
  by_cases h2 : (x.f2.size : Int) ≤ left
  · rw [szF_yes _ _ (by omega)]
    go_enter Tryd.func11, Tryd.ntmps11
    go_wp2
    go_ret
    exact ⟨ret_i (by omega), (Below.refl _ _).alloc (Nat.le_refl _) _⟩
  · rw [szF_no _ _ (by omega)]
    go_enter Tryd.func11, Tryd.ntmps11
    go_wp2
    go_ret
    exact ⟨rfl, (Below.refl _ _).alloc (Nat.le_refl _) _⟩

set_option maxRecDepth 20000 in
set_option maxHeartbeats 1000000 in
theorem toSnap_c (x : S_Snap) (w : World) :
    Calls Tryd.prog 13 #[.agg #[.int .i64 x.f0, .int .i64 x.f1, .string x.f2]] w fun e w' => e = .returned (.agg #[.int .i64 x.f0, .int .i64 x.f1, .string x.f2]) ∧ Below w.heap.size w w' := by
  go_enter Tryd.func13, Tryd.ntmps13
  go_wp2
  exact bodyPost_ret (v := .agg #[.int .i64 x.f0, .int .i64 x.f1, .string x.f2]) (by simp [results, Tryd.results13, go_sem]) rfl ⟨rfl, (((Below.refl _ _).alloc (Nat.le_refl _) _).alloc (by simp) _).alloc (by simp; omega) _⟩

set_option maxRecDepth 20000 in
set_option maxHeartbeats 1000000 in
theorem eqSnap_c (x : S_Snap) (w : World) :
    Calls Tryd.prog 15 #[.agg #[.int .i64 x.f0, .int .i64 x.f1, .string x.f2], .agg #[.int .i64 x.f0, .int .i64 x.f1, .string x.f2]] w fun e w' => e = .returned (.bool true) ∧ Below w.heap.size w w' := by
  go_enter Tryd.func15, Tryd.ntmps15
  go_wp2
  go_ret
  exact ⟨rfl, ((Below.refl _ _).alloc (Nat.le_refl _) _).alloc (by simp) _⟩

theorem infoSnap : (Tryd.prog.info? 25).map (fun i => (i.zero, i.size, i.bytes)) = some (some (.agg #[.int .i64 0, .int .i64 0, .string ⟨#[]⟩]), 3, 32) := by kernel_rfl

theorem sizeSnap : (Tryd.prog.info? 25).map (·.size) = some 3 := by kernel_rfl

/-- The cells of element i, marked from k on. -/
def mSnap (k : Int) (i : Nat) : List Value := [.int .i64 (k + ((i * 3 : Nat) : Int)), .int .i64 (k + ((i * 3 : Nat) : Int) + 1), .string (mt (k + ((i * 3 : Nat) : Int) + 1 + 1))]

def mSnaps (k : Int) (n : Nat) : List Value := (List.range n).flatMap (mSnap k)

theorem mSnaps_len (k : Int) (n : Nat) : (mSnaps k n).length = n * 3 := by
  have := flat_length (mSnap k) 3 (fun _ => rfl) (List.range n)
  rwa [List.length_range] at this

theorem mSnaps_at (k : Int) (n i q : Nat) (hi : i < n) (hq : q < 3) : (mSnaps k n)[i * 3 + q]? = (mSnap k i)[q]? := by
  have := flat_at (mSnap k) 3 (fun _ => rfl) (List.range n) i q (by simpa using hi) hq
  rw [List.getElem_range] at this
  exact this

end Go.Proofs.YtocjijognmhfmaaDoor
