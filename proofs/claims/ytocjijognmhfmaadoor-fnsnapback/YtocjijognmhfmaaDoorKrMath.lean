/- What is read as a snapshot. -/
import Derived.Test.YtocjijognmhfmaaDoorKvImpl
import Derived.Test.YtocjijognmhfmaaDoorUfLaw
import Derived.Test.YtocjijognmhfmaaDoorRdWalk
namespace Go.Proofs.YtocjijognmhfmaaDoor
open Go.RowKit
set_option linter.unusedVariables false

/-- The snapshot that a text of a frame of n bytes would be. -/
def rsN (s : ByteArray) (n : Nat) : S_Snap := ⟨rd (s.extract 8 (8 + n)) 4, rd ((s.extract 8 (8 + n)).extract 4 (s.extract 8 (8 + n)).size) 4, s.extract (8 + n) s.size⟩

def rsOk (s : ByteArray) : Prop := UOk s 44 ∧ snT (rsN s 44) = s

theorem snT_rd {y : S_Snap} {s : ByteArray} (h : snT y = s) (h4 : 4 ≤ s.size) : rd s 4 = 44 ∧ okS1 y := by
  unfold snT at h
  split at h
  · rename_i hk
    refine ⟨?_, hk⟩
    have e : frameOf (hdS y) ++ y.f2 = strOfNums (beL 44 4) ++ (strOfNums (beL (fsum (strOfNums (beL 44 4)) (hdS y)) 4) ++ (hdS y ++ y.f2)) := by
      unfold frameOf
      rw [hdS_size]
      rw [ByteArray.append_assoc, ByteArray.append_assoc]
      rfl
    rw [← h, e]
    exact rd_be 44 _ (by omega) (by omega)
  · rw [← h] at h4
    exact absurd h4 (by decide)

theorem sl_atK (s : ByteArray) (a : Nat) (x : Int) (hx : x = (a : Int)) (h : a ≤ s.size) : ∀ W, (Instr.slice 9 (.string s) (some (.int .i64 x)) none none).run Tryd.prog W = .ok (.string (s.extract a s.size)) W := fun W => by
  subst hx
  rw [run_slice_string_l (P := Tryd.prog) W 9 s Tryd.underlying9 .i64 (a : Int) (by omega) (by omega)]
  rw [Int.toNat_natCast]

theorem rs_no {s : ByteArray} {n : Nat} (h : UOk s n) (hn : n ≠ 44) (y : S_Snap) : ¬ snT y = s := fun e => by
  have h1 := h.2.2.1
  have h2 := (snT_rd e (by have := h.2.2.2.1; omega)).1
  omega

theorem rs_big {s : ByteArray} (h : UOk s 44) (hb : 8000 < (s.extract (8 + 44) s.size).size) : ¬ snT (rsN s 44) = s := fun e => by
  have h2 := (snT_rd e (by have := h.2.2.2.1; omega)).2.2.2
  have h3 : (rsN s 44).f2 = s.extract (8 + 44) s.size := rfl
  rw [h3] at h2
  omega

end Go.Proofs.YtocjijognmhfmaaDoor
