/- Load by contracts, both sides. -/
import Derived.Test.YtiogjmchbpmdpabGreatDlBase
import Derived.Test.YtiogjmchbpmdpabGreatDiFile
import Derived.Test.YtiogjmchbpmdpabGreatFrClone
namespace Go.Proofs.YtiogjmchbpmdpabGreat
open Go.RowKit Go.Maps
set_option linter.unusedVariables false

/-- What Load tells. -/
def ldS (x : S_Disk) (s : ByteArray) : ByteArray := if fnd x s < 0 then ⟨#[]⟩ else (x.f2[(fnd x s).toNat]?.map (·.f1)).getD ⟨#[]⟩

def LdR (x : S_Disk) (s : ByteArray) (w : World) (e : Ending) (w' : World) : Prop :=
  ((okX x ∧ e = .returned (.tuple #[.string (ldS x s), .bool (!decide (fnd x s < 0))])) ∨ (¬ okX x ∧ e = .returned (.tuple #[.string ⟨#[]⟩, .bool false]))) ∧ Below w.heap.size w w'

theorem okX_sum {x : S_Disk} (h : okX x) : x.f3.length + x.f4.length ≤ 1048576 := by
  have := okX_dir h
  have := h.1.2.2.2
  omega

/-- The place of a file among the inodes. -/
theorem find_zip (i : Int) : ∀ (I : List S_Inode) (bs : List Nat), bs.length = I.length → (I.zip bs).find? (fun p => decide (p.1.f0 = i)) = if idx (fun y : S_Inode => decide (y.f0 = i)) I < 0 then none else (I.zip bs)[(idx (fun y : S_Inode => decide (y.f0 = i)) I).toNat]?
  | [], _, _ => by simp [idx]
  | x :: xs, [], h => by simp at h
  | x :: xs, b :: bs, h => by
    have ih := find_zip i xs bs (by simpa using h)
    simp only [List.zip_cons_cons, List.find?_cons, idx]
    by_cases hx : x.f0 = i
    · simp [hx]
    · simp only [hx, decide_false, Bool.false_eq_true, if_false]
      rw [ih]
      have hr := (idx_range (fun y : S_Inode => decide (y.f0 = i)) xs).1
      by_cases hn : idx (fun y : S_Inode => decide (y.f0 = i)) xs < 0
      · simp [hn]
      · rw [if_neg hn, if_neg hn, if_neg (by omega)]
        obtain ⟨k, hk⟩ : ∃ k : Nat, idx (fun y : S_Inode => decide (y.f0 = i)) xs = k := ⟨_, (Int.toNat_of_nonneg (by omega)).symm⟩
        rw [hk]
        have : ((k : Int) + 1).toNat = k + 1 := by omega
        rw [this, Int.toNat_natCast, List.getElem?_cons_succ]

/-- No file has the Id 0. -/
theorem fnd_id {x : S_Disk} (h : okX x) (s : ByteArray) : fnd x s = idx (fun y : S_Inode => decide (y.f0 = idOf (nms x.f3 x.f4) s)) x.f2 := by
  unfold fnd
  split
  · rename_i hn
    refine (idx_miss _ _ fun j hj => ?_).symm
    have h1 := okI_pos (next := x.f1) j (fun i hi _ => h.2.1.1 i hi) (by omega)
    have h2 := (h.2.1.1 j hj).1
    unfold idOf
    rw [if_pos hn]
    simp
    omega
  · rfl

theorem fptr_zip {x : S_Disk} (h : okX x) (s : ByteArray) (bs : List Nat) (hl : bs.length = x.f2.length) :
    (fnd x s < 0 ∧ fptr (x.f2.zip bs) (idOf (nms x.f3 x.f4) s) = .pointer none ∧ hasF (x.f2.zip bs) (idOf (nms x.f3 x.f4) s) = false) ∨ (∃ (k : Nat) (hk : k < x.f2.length) (hkb : k < bs.length), fnd x s = k ∧ fptr (x.f2.zip bs) (idOf (nms x.f3 x.f4) s) = .pointer (some ⟨bs[k], 0, none⟩) ∧ hasF (x.f2.zip bs) (idOf (nms x.f3 x.f4) s) = true) := by
  have hf := find_zip (idOf (nms x.f3 x.f4) s) x.f2 bs hl
  rw [← fnd_id h s] at hf
  have hany : hasF (x.f2.zip bs) (idOf (nms x.f3 x.f4) s) = ((x.f2.zip bs).find? fun p => decide (p.1.f0 = idOf (nms x.f3 x.f4) s)).isSome := by
    unfold hasF
    rw [List.isSome_find?]
  by_cases hn : fnd x s < 0
  · rw [if_pos hn] at hf
    refine .inl ⟨hn, ?_, ?_⟩
    · unfold fptr; rw [hf]
    · rw [hany, hf]; rfl
  · rw [if_neg hn] at hf
    have hr := (idx_range (fun y : S_Inode => decide (y.f0 = idOf (nms x.f3 x.f4) s)) x.f2).2
    rw [← fnd_id h s] at hr
    obtain ⟨k, hk⟩ : ∃ k : Nat, fnd x s = k := ⟨_, (Int.toNat_of_nonneg (by omega)).symm⟩
    have hkl : k < x.f2.length := by omega
    have hkb : k < bs.length := by omega
    rw [hk, Int.toNat_natCast, List.getElem?_eq_getElem (by rw [List.length_zip]; omega), List.getElem_zip] at hf
    refine .inr ⟨k, hkl, hkb, hk, ?_, ?_⟩
    · unfold fptr; rw [hf]
    · rw [hany, hf]; rfl

theorem LdR.val {x : S_Disk} {s : ByteArray} {w w' : World} {e : Ending} (h : LdR x s w e w') : ∃ D B, e = .returned (.tuple #[.string D, .bool B]) ∧ ((okX x ∧ D = ldS x s ∧ B = !decide (fnd x s < 0)) ∨ (¬ okX x ∧ D = ⟨#[]⟩ ∧ B = false)) ∧ Below w.heap.size w w' := by
  obtain ⟨⟨h1, rfl⟩ | ⟨h1, rfl⟩, hb⟩ := h
  · exact ⟨_, _, rfl, .inl ⟨h1, rfl, rfl⟩, hb⟩
  · exact ⟨_, _, rfl, .inr ⟨h1, rfl, rfl⟩, hb⟩

end Go.Proofs.YtiogjmchbpmdpabGreat
