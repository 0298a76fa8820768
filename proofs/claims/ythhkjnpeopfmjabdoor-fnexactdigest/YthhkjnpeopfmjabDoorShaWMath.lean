/- Plain facts on the cells of a row of words under way. -/
import Derived.Test.YthhkjnpeopfmjabDoorShaMath
import GoSem.Claim
namespace Go.Proofs.YthhkjnpeopfmjabDoor

/-- The cells of n places: the words that are there, then noughts. -/
def wCells (ws : List Int) : List Value := (ws ++ List.replicate (64 - ws.length) 0).map (Value.int .u32)

/-- The same with one word under way. -/
def wPart (ws : List Int) (x : Int) : List Value := (ws ++ x :: List.replicate (63 - ws.length) 0).map (Value.int .u32)

/-- A word under way: its first m bytes. -/
def pw (bl : List Int) (k : Nat) : Nat → Int
  | 0 => 0
  | m + 1 => pw bl k m * 256 + bl.getD (4 * k + m) 0

theorem pw_four (bl : List Int) (k : Nat) : pw bl k 4 = w4 bl k := by
  simp only [pw, w4, Nat.add_zero]; omega

theorem pw_range (bl : List Int) (k : Nat) (hz : ∀ j, 0 ≤ bl.getD j 0 ∧ bl.getD j 0 ≤ 255) : ∀ m, 0 ≤ pw bl k m ∧ pw bl k m < 256 ^ m
  | 0 => by simp [pw]
  | m + 1 => by
    have h := pw_range bl k hz m
    have hb := hz (4 * k + m)
    have e : (256 : Int) ^ (m + 1) = 256 ^ m * 256 := Int.pow_succ _ _
    simp only [pw, e]; omega

theorem pw_le3 (bl : List Int) (k m : Nat) (hz : ∀ j, 0 ≤ bl.getD j 0 ∧ bl.getD j 0 ≤ 255) (hm : m < 4) : 0 ≤ pw bl k m ∧ pw bl k m ≤ 16777215 := by
  have h := pw_range bl k hz m
  have : (256 : Int) ^ m ≤ 16777216 := by
    rcases m with _ | _ | _ | _ | m
    · decide
    · decide
    · decide
    · decide
    · omega
  omega

theorem wPart_start (ws : List Int) (h : ws.length < 64) : wCells ws = wPart ws 0 := by
  unfold wCells wPart
  rw [show 64 - ws.length = (63 - ws.length) + 1 by omega, List.replicate_succ]

theorem wPart_end (ws : List Int) (x : Int) (h : ws.length < 64) : wPart ws x = wCells (ws ++ [x]) := by
  unfold wCells wPart
  rw [List.length_append, show 64 - (ws.length + [x].length) = 63 - ws.length by simp only [List.length_cons, List.length_nil]; omega]
  simp

theorem wPart_at (ws : List Int) (x : Int) : (wPart ws x)[ws.length]? = some (.int .u32 x) := by
  unfold wPart; simp

theorem wPart_set (ws : List Int) (x y : Int) : (wPart ws x).set ws.length (.int .u32 y) = wPart ws y := by
  unfold wPart
  rw [← List.map_set, List.set_append_right _ _ (Nat.le_refl _)]
  simp

theorem wCells_at (ws : List Int) (j : Nat) (h : j < ws.length) : (wCells ws)[j]? = some (.int .u32 (ws.getD j 0)) := by
  unfold wCells
  rw [List.getElem?_map, List.getElem?_append_left h]
  simp [List.getD, List.getElem?_eq_getElem h]

theorem wPart_atlow (ws : List Int) (x : Int) (j : Nat) (h : j < ws.length) : (wPart ws x)[j]? = some (.int .u32 (ws.getD j 0)) := by
  unfold wPart
  rw [List.getElem?_map, List.getElem?_append_left h]
  simp [List.getD, List.getElem?_eq_getElem h]

theorem wCells_length (ws : List Int) (h : ws.length ≤ 64) : (wCells ws).length = 64 := by
  unfold wCells; simp; omega

theorem wCells_full (ws : List Int) (h : ws.length = 64) : wCells ws = ws.map (Value.int .u32) := by
  unfold wCells; simp [h]

end Go.Proofs.YthhkjnpeopfmjabDoor
