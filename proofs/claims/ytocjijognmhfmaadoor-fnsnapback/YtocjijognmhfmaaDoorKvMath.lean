/- A snapshot's text. -/
import Derived.Test.YtocjijognmhfmaaDoorKsWalk
import Derived.Test.YtocjijognmhfmaaDoorFrWalk
import Derived.Test.YtocjijognmhfmaaDoorShaLaw
import Derived.Test.YtocjijognmhfmaaDoorRgTold
namespace Go.Proofs.YtocjijognmhfmaaDoor
open Go.RowKit
set_option linter.unusedVariables false

def okS1 (x : S_Snap) : Prop := (1 ≤ x.f0 ∧ x.f0 ≤ 100000) ∧ (1 ≤ x.f1 ∧ x.f1 ≤ 100000) ∧ x.f2.size ≤ 8000

instance (x : S_Snap) : Decidable (okS1 x) := by unfold okS1; infer_instance

def hd1 (x : S_Snap) : ByteArray := strOfNums (beL x.f0 4) ++ strOfNums (beL x.f1 4)
def hd2 (x : S_Snap) : ByteArray := hd1 x ++ strOfNums (beL x.f2.size 4)
def hdS (x : S_Snap) : ByteArray := hd2 x ++ shaOut x.f2
def snT (x : S_Snap) : ByteArray := if okS1 x then frameOf (hdS x) ++ x.f2 else ⟨#[]⟩

theorem be_sizeV (n : Int) (k : Nat) : (strOfNums (beL n k)).size = k := by rw [strOfNums_size, beL_length]

theorem sha_size (s : ByteArray) : (shaOut s).size = 32 := by unfold shaOut; rw [strOfNums_size, outL_length]

theorem hd1_size (x : S_Snap) : (hd1 x).size = 8 := by unfold hd1; rw [ByteArray.size_append, be_sizeV, be_sizeV]
theorem hd2_size (x : S_Snap) : (hd2 x).size = 12 := by unfold hd2; rw [ByteArray.size_append, hd1_size, be_sizeV]
theorem hdS_size (x : S_Snap) : (hdS x).size = 44 := by unfold hdS; rw [ByteArray.size_append, hd2_size, sha_size]

theorem fq4V (n : Int) (h0 : 0 ≤ n) (h1 : n ≤ 100000) : fq n 4 ≤ 0 := by simp only [fq]; omega

theorem sfix4 (n : Int) (w : World) (h0 : 0 ≤ n) (h1 : n ≤ 100000) : Calls Tryd.prog 26 #[.int .i64 n, .int .i64 4] w fun e w' => e = .returned (.string (strOfNums (beL n 4))) ∧ Below w.heap.size w w' :=
  specFix_yes n 4 w h0 (by omega) (by omega) (by omega) (fq4V n h0 h1)

theorem ifix4 (n : Int) (w : World) (h0 : 0 ≤ n) (h1 : n ≤ 100000) : Calls Tryd.prog 35 #[.int .i64 n, .int .i64 4] w fun e w' => e = .returned (.string (strOfNums (beL n 4))) ∧ Below w.heap.size w w' :=
  implFix_yes n 4 w h0 (by omega) (by omega) (by omega) (fq4V n h0 h1)

theorem okS_iff (x : S_Snap) : okS x ↔ okS1 x ∨ (x.f0 = 0 ∧ x.f1 = 0 ∧ x.f2 = ⟨#[]⟩) := Or.comm

theorem alloc_lastV (w : World) (o : Obj) : (w.alloc o).heap[w.heap.size]? = some o := (MapKept.heap_alloc w o).1

theorem box3V {w : World} {b : Nat} {a0 a1 a2 : Value} {t : TypeId} (h : w.heap[b]? = some (.cells #[a0, a1, a2] t)) : w.cell? ⟨b, 0, none⟩ = some a0 ∧ w.cell? ⟨b, 1, none⟩ = some a1 ∧ w.cell? ⟨b, 2, none⟩ = some a2 := by
  simp [World.cell?, h]

theorem cells3V {w : World} {b : Nat} {a0 a1 a2 : Value} (h0 : w.cell? ⟨b, 0, none⟩ = some a0) (h1 : w.cell? ⟨b, 1, none⟩ = some a1) (h2 : w.cell? ⟨b, 2, none⟩ = some a2) : ∀ j u, [a0, a1, a2][j]? = some u → w.cell? ((⟨b, 0, none⟩ : Addr).add j) = some u := by
  intro j u h
  rw [Addr.add_mid, Nat.zero_add]
  rcases j with _ | _ | _ | j
  · simp only [List.getElem?_cons_zero, Option.some.injEq] at h; rw [← h]; exact h0
  · simp only [List.getElem?_cons_succ, List.getElem?_cons_zero, Option.some.injEq] at h; rw [← h]; exact h1
  · simp only [List.getElem?_cons_succ, List.getElem?_cons_zero, Option.some.injEq] at h; rw [← h]; exact h2
  · simp at h

end Go.Proofs.YtocjijognmhfmaaDoor
