/- Laws on a row of bytes that a call itself has made: turned into a string; a string told by its numbers. -/
import Derived.Test.YtmknplpcpmkhiaaGreatRows
import Derived.WalkKit
import Derived.WalkSpells
import Derived.WalkLawsBesides
import Derived.Laws.BytesArg
namespace Go.Proofs.YtmknplpcpmkhiaaGreat
open Go.RowKit

theorem info5 : (Tryz.prog.info? 5).map (fun i => (i.zero, i.size, i.bytes)) = some (some (.int .u8 0), 1, 1) := by kernel_rfl

/-- string(b), b a row of bytes of the call's own. -/
theorem run_string_of_own {w : World} {base : Nat} {v : Value} {k : Nat} (xs : List Int) (hk : k = xs.length)
    (h : w.ownsRow base 5 1 v k (xs.map (Value.int .u8))) : (convert 22 9 v).run Tryz.prog w = .ok (.string (strOfNums xs)) w := by
  subst hk
  rcases h.2 with ⟨rfl, hn⟩ | ⟨g, cap, cur, rfl, hb, hg, rest⟩
  · have : xs = [] := List.length_eq_zero_iff.mp hn
    subst this
    exact run_convert_bytes_nil w 22 5 Tryz.underlying22 Tryz.underlying5 0 0 9 Tryz.underlying9
  · refine run_convert_bytes_arg w 22 5 Tryz.underlying22 Tryz.underlying5 g 0 xs.length cap xs rfl (fun i hi => ?_) 9 Tryz.underlying9
    have hc := h.cellAt i (by omega)
    rw [Nat.zero_add, hc]
    simp [List.getD, List.getElem?_eq_getElem hi]

/-- string([]byte{y}). -/
theorem conv_one (w : World) (y : Int) : (convert 22 9 (.slice (some ⟨w.heap.size, 0, none⟩) 1 1)).run Tryz.prog (w.alloc (.cells #[.int .u8 y] 5)) = .ok (.string (strOfNums [y])) (w.alloc (.cells #[.int .u8 y] 5)) :=
  run_string_of_own (base := w.heap.size) [y] rfl (World.ownsRow_lit w #[.int .u8 y] 1 (Nat.le_refl _) (by decide) rfl)

theorem strOfNums_append (xs ys : List Int) : strOfNums xs ++ strOfNums ys = strOfNums (xs ++ ys) := by
  unfold strOfNums; rw [ByteArray.mk_append_mk, List.map_append]

/-- Two strings told by their numbers, put together. -/
theorem run_add_nums (xs ys : List Int) (h : xs.length + ys.length ≤ 9223372036854775807) (w : World) : (Op.stringOp .add (strOfNums xs) (strOfNums ys)).run Tryz.prog w = .ok (.string (strOfNums (xs ++ ys))) w := by
  rw [run_string_add_sum w _ _ (by rw [strOfNums_size, strOfNums_size]; exact h), strOfNums_append]

theorem wrap_i64_in (n : Int) (h : -9223372036854775808 ≤ n ∧ n ≤ 9223372036854775807) : IntKind.i64.wrap n = n := by rw [IntWalk.i64_left]; exact IntWalk.wrap64_in n h

theorem ret_str {a b : ByteArray} (h : a = b) : Ending.returned (.string a) = .returned (.string b) := by rw [h]

theorem ownBlock_ge {w : World} {base : Nat} {e : TypeId} {size : Nat} {v : Value} {n : Nat} {xs : List Value} (h : w.ownsRow base e size v n xs) : ∀ k, v.ownBlock = some k → base ≤ k :=
  fun k hk => (h.lt k hk).1

theorem own_snoc {w : World} {base : Nat} {v : Value} {acc : List Int} {y : Int} (h : w.ownsRow base 5 1 v (acc.length + 1) (acc.map (Value.int .u8) ++ [.int .u8 y])) :
    w.ownsRow base 5 1 v (acc ++ [y]).length ((acc ++ [y]).map (Value.int .u8)) := by
  simpa using h

/-- Behind one append of the call's own, whose new cell lay in a block of its own. -/
theorem below_append {B : Nat} {w wr w1 : World} {o : Obj} {e : TypeId} {size : Nat} {v : Value} {n : Nat} {xs : List Value} (hbel : Below B w wr) (hB : B ≤ w.heap.size)
    (hown : wr.ownsRow B e size v n xs) (hgrow : (wr.alloc o).grownBy w1 v.ownBlock) : Below B w w1 := by
  have hs := hbel.size
  exact (hbel.alloc (by omega) _).grown hgrow (by simp; omega) (ownBlock_ge hown)

/-- The same behind a draw, the row's block told in whatever words. -/
theorem below_append_drew {B : Nat} {w wr w1 : World} {o : Obj} {e : TypeId} {size : Nat} {v : Value} {n : Nat} {xs : List Value} {row : Option Nat} (hbel : Below B w wr) (hB : B ≤ w.heap.size)
    (hown : wr.ownsRow B e size v n xs) (hgrow : (wr.alloc o).drew.grownBy w1 row) (hr : row = v.ownBlock) : Below B w w1 := by
  have hs := hbel.size
  subst hr
  exact ((hbel.alloc (by omega) _).drew).grown hgrow (by show B ≤ (wr.alloc o).heap.size; simp; omega) (ownBlock_ge hown)

end Go.Proofs.YtmknplpcpmkhiaaGreat
