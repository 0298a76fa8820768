/- The steps by which records are added. -/
import Derived.Test.YtefbenojkajnoaaHaStep
import Derived.Test.YtefbenojkajnoaaWxImpl
import Derived.Test.YtefbenojkajnoaaWcImpl
namespace Go.Proofs.Ytefbenojkajnoaa
open Go.RowKit
set_option linter.unusedVariables false
set_option linter.unusedSimpArgs false

/-- The steps by which records are added. -/
def plL (R : List S_Rec) : List S_Step := if R.length = 0 then [] else [⟨2, ⟨#[108, 111, 103]⟩, ⟨#[]⟩, accR R⟩, ⟨3, ⟨#[108, 111, 103]⟩, ⟨#[]⟩, ⟨#[]⟩⟩]

theorem plL_no {R : List S_Rec} (h : R.length = 0) : plL R = [] := if_pos h
theorem plL_yes {R : List S_Rec} (h : R.length ≠ 0) : plL R = [⟨2, ⟨#[108, 111, 103]⟩, ⟨#[]⟩, accR R⟩, ⟨3, ⟨#[108, 111, 103]⟩, ⟨#[]⟩, ⟨#[]⟩⟩] := if_neg h
theorem plL_len (R : List S_Rec) : (plL R).length ≤ 2 := by
  unfold plL
  split <;> simp

theorem own_two {w : World} (base : Nat) (T : ByteArray) (hb : base ≤ w.heap.size) : (w.alloc (.cells #[.int .i64 2, .string ⟨#[108, 111, 103]⟩, .string ⟨#[]⟩, .string T, .int .i64 3, .string ⟨#[108, 111, 103]⟩, .string ⟨#[]⟩, .string ⟨#[]⟩] 46)).ownsRow base 46 4 (.slice (some ⟨w.heap.size, 0, none⟩) 2 2) 2 (rStep [⟨2, ⟨#[108, 111, 103]⟩, ⟨#[]⟩, T⟩, ⟨3, ⟨#[108, 111, 103]⟩, ⟨#[]⟩, ⟨#[]⟩⟩]) :=
  World.ownsRow_lit (base := base) (e := 46) (size := 4) w #[.int .i64 2, .string ⟨#[108, 111, 103]⟩, .string ⟨#[]⟩, .string T, .int .i64 3, .string ⟨#[108, 111, 103]⟩, .string ⟨#[]⟩, .string ⟨#[]⟩] 2 hb (by decide) rfl

end Go.Proofs.Ytefbenojkajnoaa
