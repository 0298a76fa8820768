/- The text of a Wal. -/
import Derived.Test.YtefbenojkajnoaaWwImpl
import Derived.Test.YtefbenojkajnoaaWsWalk
import Derived.Test.YtefbenojkajnoaaFrWalk
namespace Go.Proofs.Ytefbenojkajnoaa
open Go.RowKit
set_option linter.unusedVariables false

def bsRec (x : S_Wal) : S_Rec := ⟨4, x.f3, x.f2, 0, ⟨#[]⟩⟩
def hdRec (x : S_Wal) : S_Rec := ⟨1, x.f0, 0, x.f1, ⟨#[]⟩⟩
def enRec (x : S_Wal) (k : Nat) : S_Rec := match x.f4[k]? with | some e => ⟨2, e.f0, x.f2 + 1 + k, 0, e.f1⟩ | none => ⟨0, 0, 0, 0, ⟨#[]⟩⟩
def frR (r : S_Rec) : ByteArray := frameOf (recT r)
def walP (x : S_Wal) : Nat → ByteArray
  | 0 => frR (bsRec x) ++ frR (hdRec x)
  | k + 1 => walP x k ++ frR (enRec x k)
def walT (x : S_Wal) : ByteArray := if okW x then walP x x.f4.length else ⟨#[]⟩

theorem okE_mem (top : Int) : ∀ (L : List S_Entry) (last : Int), okE top last L → ∀ e ∈ L, 1 ≤ e.f0 ∧ e.f0 ≤ top ∧ e.f1.size ≤ 900
  | [], _, _, e, he => by simp at he
  | a :: L, last, h, e, he => by
    obtain ⟨h1, h2, h3, h4, h5⟩ := h
    rcases List.mem_cons.1 he with rfl | he
    · exact ⟨h1, h3, h4⟩
    · exact okE_mem top L a.f0 h5 e he

theorem okR_bs {x : S_Wal} (h : okW x) : okR (bsRec x) := (okR_base _ _).2 h.1.2.2.1
theorem okR_hd {x : S_Wal} (h : okW x) : okR (hdRec x) := (okR_hard _ _).2 ⟨h.1.1, h.1.2.1⟩
theorem en_at {x : S_Wal} {k : Nat} (hk : k < x.f4.length) : enRec x k = ⟨2, x.f4[k].f0, x.f2 + 1 + k, 0, x.f4[k].f1⟩ := by
  unfold enRec; rw [List.getElem?_eq_getElem hk]
theorem okW_base {x : S_Wal} (h : okW x) : 0 ≤ x.f2 ∧ x.f2 ≤ 100000 := by have := h.1.2.2.1; unfold bsR at this; omega
theorem okR_en {x : S_Wal} (h : okW x) {k : Nat} (hk : k < x.f4.length) : okR ⟨2, x.f4[k].f0, x.f2 + 1 + k, 0, x.f4[k].f1⟩ := by
  have h1 := okE_mem _ _ _ h.2 _ (List.getElem_mem hk)
  have h2 := okW_base h
  have h3 := h.1
  unfold headW at h3
  refine .inr (.inl ⟨rfl, ⟨h1.1, ?_⟩, ⟨?_, ?_⟩, rfl, h1.2.2⟩)
  · show x.f4[k].f0 ≤ 100000; omega
  · show 1 ≤ x.f2 + 1 + (k : Int); omega
  · show x.f2 + 1 + (k : Int) ≤ 100000; omega

theorem okR_data {r : S_Rec} (h : okR r) : r.f4.size ≤ 900 := by
  rcases h with h | h | h | h
  · rw [h.2.2.2.2]; exact Nat.zero_le _
  · exact h.2.2.2.2
  · rw [h.2.2.2.2]; exact Nat.zero_le _
  · rw [h.2.2.2]; exact Nat.zero_le _

theorem recT_size {r : S_Rec} (h : okR r) : 1 ≤ (recT r).size ∧ (recT r).size ≤ 910 := by
  have h1 := okR_range h
  have h2 := okR_data h
  have a := varL_len3 r.f1 (by omega) (by omega)
  have b := varL_len3 r.f2 (by omega) (by omega)
  have c := varL_len3 (r.f3 + 1) (by omega) (by omega)
  unfold recT
  rw [if_pos h, ByteArray.size_append, strOfNums_size]
  simp only [List.length_append, List.length_cons, List.length_nil]
  omega

theorem frR_size {r : S_Rec} (h : okR r) : (frR r).size ≤ 918 := by
  have := recT_size h
  unfold frR
  rw [frameOf_size]
  omega

theorem walP_size {x : S_Wal} (h : okW x) : ∀ k, k ≤ x.f4.length → (walP x k).size ≤ 918 * (k + 2)
  | 0, _ => by
    have a := frR_size (okR_bs h)
    have b := frR_size (okR_hd h)
    show (frR (bsRec x) ++ frR (hdRec x)).size ≤ _
    rw [ByteArray.size_append]
    omega
  | k + 1, hk => by
    have a := walP_size h k (by omega)
    have b := frR_size (okR_en h (show k < x.f4.length by omega))
    show (walP x k ++ frR (enRec x k)).size ≤ _
    rw [ByteArray.size_append, en_at (by omega)]
    omega

theorem walP_small {x : S_Wal} (h : okW x) (k : Nat) (hk : k ≤ x.f4.length) : (walP x k).size ≤ 60000 := by
  have := walP_size h k hk
  have h1 := h.1.2.2.2.2.1
  omega

theorem sframe_c (r : S_Rec) (w : World) (h : okR r) : Calls Try.prog 15 #[.string (recT r)] w fun e w' => e = .returned (.string (frR r)) ∧ Below w.heap.size w w' := by
  have := recT_size h
  exact specFr (recT r) w (by omega) (by omega)

theorem iframe_c (r : S_Rec) (w : World) (h : okR r) : Calls Try.prog 20 #[.string (recT r)] w fun e w' => e = .returned (.string (frR r)) ∧ Below w.heap.size w w' := by
  have := recT_size h
  exact implFr (recT r) w (by omega) (by omega)

end Go.Proofs.Ytefbenojkajnoaa
