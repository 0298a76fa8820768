/- The contracts of what the exact laws hold Disk by. -/
import Derived.Test.YtmknplpcpmkhiaaGreatHaBut
import Derived.Test.YtmknplpcpmkhiaaGreatHaInode
import Derived.Test.YtmknplpcpmkhiaaGreatHaLink
import Derived.Test.YtmknplpcpmkhiaaGreatHaMove
namespace Go.Proofs.YtmknplpcpmkhiaaGreat
open Go.RowKit
set_option linter.unusedVariables false

structure S_Disk where
  f0 : Int
  f1 : Int
  f2 : List S_Inode
  f3 : List S_Link
  f4 : List S_Move

/-- Its lists can be read. -/
def RdDisk (w : World) (x : S_Disk) (v2 v3 v4 : Value) : Prop :=
  RowR w v2 x.f2.length 3 (rInode x.f2) ∧ RowR w v3 x.f3.length 2 (rLink x.f3) ∧ RowR w v4 x.f4.length 4 (rMove x.f4)

theorem RdDisk.keep {w w' : World} {x : S_Disk} {v2 v3 v4 : Value} (h : RdDisk w x v2 v3 v4) {N : Nat} (hb : Below N w w') (hN : w.heap.size ≤ N) : RdDisk w' x v2 v3 v4 :=
  ⟨h.1.keep hb hN, h.2.1.keep hb hN, h.2.2.keep hb hN⟩

/-- Its lists are rows of the call's own. -/
def OwDisk (w : World) (base : Nat) (x : S_Disk) (v2 v3 v4 : Value) : Prop :=
  w.ownsRow base 47 3 v2 x.f2.length (rInode x.f2) ∧ w.ownsRow base 49 2 v3 x.f3.length (rLink x.f3) ∧ w.ownsRow base 51 4 v4 x.f4.length (rMove x.f4)

theorem OwDisk.keep {w w' : World} {base : Nat} {x : S_Disk} {v2 v3 v4 : Value} (h : OwDisk w base x v2 v3 v4) {N : Nat} (hb : Below N w w') (hN : w.heap.size ≤ N) : OwDisk w' base x v2 v3 v4 :=
  ⟨own_bel (h.1) hb hN, own_bel (h.2.1) hb hN, own_bel (h.2.2) hb hN⟩

theorem OwDisk.rd {w : World} {base : Nat} {x : S_Disk} {v2 v3 v4 : Value} (h : OwDisk w base x v2 v3 v4) : RdDisk w x v2 v3 v4 :=
  ⟨RowR.own (h.1), RowR.own (h.2.1), RowR.own (h.2.2)⟩

/-- No list in it is longer than this. -/
def LnDisk (x : S_Disk) (n : Nat) : Prop := x.f2.length ≤ n ∧ x.f3.length ≤ n ∧ x.f4.length ≤ n

/-- What sz takes off for it. -/
def zDisk (x : S_Disk) : Nat := (x.f2.length + zsum zInode x.f2 x.f2.length) + (x.f3.length + zsum zLink x.f3 x.f3.length) + (x.f4.length + zsum zMove x.f4 x.f4.length)

set_option maxRecDepth 20000 in
set_option maxHeartbeats 2000000 in
theorem eqDisk_c (x : S_Disk) (v2 v3 v4 u2 u3 u4 : Value) (w : World) (hn : LnDisk x 1048576) (h : RdDisk w x v2 v3 v4) (h' : RdDisk w x u2 u3 u4) :
    Calls Tryz.prog 28 #[.agg #[.int .i64 x.f0, .int .i64 x.f1, v2, v3, v4], .agg #[.int .i64 x.f0, .int .i64 x.f1, u2, u3, u4]] w fun e w' => e = .returned (.bool true) ∧ Below w.heap.size w w' := by
  have HN : Hid (LnDisk x 1048576) := hn
  have b0 : Below w.heap.size w ((w.alloc (.cells #[.int .i64 x.f0, .int .i64 x.f1, v2, v3, v4] 28)).alloc (.cells #[.int .i64 x.f0, .int .i64 x.f1, u2, u3, u4] 28)) := ((Below.refl _ _).alloc (Nat.le_refl _) _).alloc (by simp) _
  have HB : Hid (Below w.heap.size w ((w.alloc (.cells #[.int .i64 x.f0, .int .i64 x.f1, v2, v3, v4] 28)).alloc (.cells #[.int .i64 x.f0, .int .i64 x.f1, u2, u3, u4] 28))) := b0
  have HR : Hid (RdDisk ((w.alloc (.cells #[.int .i64 x.f0, .int .i64 x.f1, v2, v3, v4] 28)).alloc (.cells #[.int .i64 x.f0, .int .i64 x.f1, u2, u3, u4] 28)) x v2 v3 v4) := h.keep b0 (Nat.le_refl _)
  have HS : Hid (RdDisk ((w.alloc (.cells #[.int .i64 x.f0, .int .i64 x.f1, v2, v3, v4] 28)).alloc (.cells #[.int .i64 x.f0, .int .i64 x.f1, u2, u3, u4] 28)) x u2 u3 u4) := h'.keep b0 (Nat.le_refl _)
  have HV : Hid (∀ W', Below ((w.alloc (.cells #[.int .i64 x.f0, .int .i64 x.f1, v2, v3, v4] 28)).alloc (.cells #[.int .i64 x.f0, .int .i64 x.f1, u2, u3, u4] 28)).heap.size ((w.alloc (.cells #[.int .i64 x.f0, .int .i64 x.f1, v2, v3, v4] 28)).alloc (.cells #[.int .i64 x.f0, .int .i64 x.f1, u2, u3, u4] 28)) W' → W'.cell? ⟨w.heap.size, 2, none⟩ = some (v2) ∧ W'.cell? ⟨w.heap.size, 3, none⟩ = some (v3) ∧ W'.cell? ⟨w.heap.size, 4, none⟩ = some (v4)) := fun W' hW => ⟨by rw [hW.cell (by simp <;> omega)]; simp, by rw [hW.cell (by simp <;> omega)]; simp, by rw [hW.cell (by simp <;> omega)]; simp⟩
  have HU : Hid (∀ W', Below ((w.alloc (.cells #[.int .i64 x.f0, .int .i64 x.f1, v2, v3, v4] 28)).alloc (.cells #[.int .i64 x.f0, .int .i64 x.f1, u2, u3, u4] 28)).heap.size ((w.alloc (.cells #[.int .i64 x.f0, .int .i64 x.f1, v2, v3, v4] 28)).alloc (.cells #[.int .i64 x.f0, .int .i64 x.f1, u2, u3, u4] 28)) W' → W'.cell? ⟨w.heap.size + 1, 2, none⟩ = some (u2) ∧ W'.cell? ⟨w.heap.size + 1, 3, none⟩ = some (u3) ∧ W'.cell? ⟨w.heap.size + 1, 4, none⟩ = some (u4)) := fun W' hW => ⟨by rw [hW.cell (by simp <;> omega)]; simp, by rw [hW.cell (by simp <;> omega)]; simp, by rw [hW.cell (by simp <;> omega)]; simp⟩
  have HD : Hid (Below ((w.alloc (.cells #[.int .i64 x.f0, .int .i64 x.f1, v2, v3, v4] 28)).alloc (.cells #[.int .i64 x.f0, .int .i64 x.f1, u2, u3, u4] 28)).heap.size ((w.alloc (.cells #[.int .i64 x.f0, .int .i64 x.f1, v2, v3, v4] 28)).alloc (.cells #[.int .i64 x.f0, .int .i64 x.f1, u2, u3, u4] 28)) ((w.alloc (.cells #[.int .i64 x.f0, .int .i64 x.f1, v2, v3, v4] 28)).alloc (.cells #[.int .i64 x.f0, .int .i64 x.f1, u2, u3, u4] 28))) := Below.refl _ _
  have HZ : Hid (w.heap.size ≤ ((w.alloc (.cells #[.int .i64 x.f0, .int .i64 x.f1, v2, v3, v4] 28)).alloc (.cells #[.int .i64 x.f0, .int .i64 x.f1, u2, u3, u4] 28)).heap.size) := b0.size
  clear h h' hn b0
  go_enter Tryz.func28, Tryz.ntmps28
  go_wp2_with fail
  refine (eqInodeS_c v2 u2 x.f2 _ HN.out.1 (HR.out.1.keep HD.out (Nat.le_refl _)) (HS.out.1.keep HD.out (Nat.le_refl _))).mono ?_
  rintro e w1 ⟨rfl, b1⟩
  have HD1 : Hid (Below ((w.alloc (.cells #[.int .i64 x.f0, .int .i64 x.f1, v2, v3, v4] 28)).alloc (.cells #[.int .i64 x.f0, .int .i64 x.f1, u2, u3, u4] 28)).heap.size ((w.alloc (.cells #[.int .i64 x.f0, .int .i64 x.f1, v2, v3, v4] 28)).alloc (.cells #[.int .i64 x.f0, .int .i64 x.f1, u2, u3, u4] 28)) w1) := HD.out.trans (b1.mono HD.out.size)
  obtain ⟨p2, p3, p4⟩ := HV.out w1 HD1.out
  obtain ⟨q2, q3, q4⟩ := HU.out w1 HD1.out
  clear b1
  go_wp2_with fail
  refine (eqLinkS_c v3 u3 x.f3 _ HN.out.2.1 (HR.out.2.1.keep HD1.out (Nat.le_refl _)) (HS.out.2.1.keep HD1.out (Nat.le_refl _))).mono ?_
  rintro e w2 ⟨rfl, b2⟩
  have HD2 : Hid (Below ((w.alloc (.cells #[.int .i64 x.f0, .int .i64 x.f1, v2, v3, v4] 28)).alloc (.cells #[.int .i64 x.f0, .int .i64 x.f1, u2, u3, u4] 28)).heap.size ((w.alloc (.cells #[.int .i64 x.f0, .int .i64 x.f1, v2, v3, v4] 28)).alloc (.cells #[.int .i64 x.f0, .int .i64 x.f1, u2, u3, u4] 28)) w2) := HD1.out.trans (b2.mono HD1.out.size)
  obtain ⟨p2, p3, p4⟩ := HV.out w2 HD2.out
  obtain ⟨q2, q3, q4⟩ := HU.out w2 HD2.out
  clear b2
  go_wp2_with fail
  refine (eqMoveS_c v4 u4 x.f4 _ HN.out.2.2 (HR.out.2.2.keep HD2.out (Nat.le_refl _)) (HS.out.2.2.keep HD2.out (Nat.le_refl _))).mono ?_
  rintro e w3 ⟨rfl, b3⟩
  have HD3 : Hid (Below ((w.alloc (.cells #[.int .i64 x.f0, .int .i64 x.f1, v2, v3, v4] 28)).alloc (.cells #[.int .i64 x.f0, .int .i64 x.f1, u2, u3, u4] 28)).heap.size ((w.alloc (.cells #[.int .i64 x.f0, .int .i64 x.f1, v2, v3, v4] 28)).alloc (.cells #[.int .i64 x.f0, .int .i64 x.f1, u2, u3, u4] 28)) w3) := HD2.out.trans (b3.mono HD2.out.size)
  clear b3
  have HE : Hid (Below w.heap.size w w3) := HB.out.trans (HD3.out.mono HZ.out)
  go_wp2
  go_ret
  exact ⟨rfl, HE.out⟩

/-- Its lists' cells are marked from k0 on. -/
def MrDisk (w : World) (x : S_Disk) (k0 : Int) (v2 v3 v4 : Value) : Prop :=
  RowR w v2 x.f2.length 3 (mInodes (k0) x.f2.length) ∧ RowR w v3 x.f3.length 2 (mLinks (k0 + ((x.f2.length * 3 : Nat) : Int)) x.f3.length) ∧ RowR w v4 x.f4.length 4 (mMoves (k0 + ((x.f2.length * 3 : Nat) : Int) + ((x.f3.length * 2 : Nat) : Int)) x.f4.length)

theorem MrDisk.keep {w w' : World} {x : S_Disk} {k0 : Int} {v2 v3 v4 : Value} (h : MrDisk w x k0 v2 v3 v4) {N : Nat} (hb : Below N w w') (hN : w.heap.size ≤ N) : MrDisk w' x k0 v2 v3 v4 :=
  ⟨h.1.keep hb hN, h.2.1.keep hb hN, h.2.2.keep hb hN⟩

/-- Its lists are rows of the call's own, marked from k0 on. -/
def MoDisk (w : World) (base : Nat) (x : S_Disk) (k0 : Int) (v2 v3 v4 : Value) : Prop :=
  w.ownsRow base 47 3 v2 x.f2.length (mInodes (k0) x.f2.length) ∧ w.ownsRow base 49 2 v3 x.f3.length (mLinks (k0 + ((x.f2.length * 3 : Nat) : Int)) x.f3.length) ∧ w.ownsRow base 51 4 v4 x.f4.length (mMoves (k0 + ((x.f2.length * 3 : Nat) : Int) + ((x.f3.length * 2 : Nat) : Int)) x.f4.length)

theorem MoDisk.rd {w : World} {base : Nat} {x : S_Disk} {k0 : Int} {v2 v3 v4 : Value} (h : MoDisk w base x k0 v2 v3 v4) : MrDisk w x k0 v2 v3 v4 :=
  ⟨RowR.own (h.1), RowR.own (h.2.1), RowR.own (h.2.2)⟩

theorem MoDisk.keep {w w' : World} {base : Nat} {x : S_Disk} {k0 : Int} {v2 v3 v4 : Value} (h : MoDisk w base x k0 v2 v3 v4) {N : Nat} (hb : Below N w w') (hN : w.heap.size ≤ N) : MoDisk w' base x k0 v2 v3 v4 :=
  ⟨own_bel (h.1) hb hN, own_bel (h.2.1) hb hN, own_bel (h.2.2) hb hN⟩

set_option maxRecDepth 20000 in
set_option maxHeartbeats 2000000 in
theorem heldDisk_c (x : S_Disk) (k0 : Int) (v2 v3 v4 : Value) (w : World) (hn : LnDisk x 1048576) (hk0 : 0 < k0) (hk1 : k0 ≤ 10000000) (h : MrDisk w x k0 v2 v3 v4) :
    Calls Tryz.prog 30 #[.agg #[.int .i64 x.f0, .int .i64 x.f1, v2, v3, v4], .int .i64 k0] w fun e w' => e = .returned (.int .i64 (k0 + ((x.f2.length * 3 : Nat) : Int) + ((x.f3.length * 2 : Nat) : Int) + ((x.f4.length * 4 : Nat) : Int))) ∧ Below w.heap.size w w' := by
  have HN : Hid (LnDisk x 1048576) := hn
  have b0 : Below w.heap.size w (w.alloc (.cells #[.int .i64 x.f0, .int .i64 x.f1, v2, v3, v4] 28)) := (Below.refl _ _).alloc (Nat.le_refl _) _
  have HB : Hid (Below w.heap.size w (w.alloc (.cells #[.int .i64 x.f0, .int .i64 x.f1, v2, v3, v4] 28))) := b0
  have HR : Hid (MrDisk (w.alloc (.cells #[.int .i64 x.f0, .int .i64 x.f1, v2, v3, v4] 28)) x k0 v2 v3 v4) := h.keep b0 (Nat.le_refl _)
  have HV : Hid (∀ W', Below (w.alloc (.cells #[.int .i64 x.f0, .int .i64 x.f1, v2, v3, v4] 28)).heap.size (w.alloc (.cells #[.int .i64 x.f0, .int .i64 x.f1, v2, v3, v4] 28)) W' → W'.cell? ⟨w.heap.size, 2, none⟩ = some (v2) ∧ W'.cell? ⟨w.heap.size, 3, none⟩ = some (v3) ∧ W'.cell? ⟨w.heap.size, 4, none⟩ = some (v4)) := fun W' hW => ⟨by rw [hW.cell (by simp <;> omega)]; simp, by rw [hW.cell (by simp <;> omega)]; simp, by rw [hW.cell (by simp <;> omega)]; simp⟩
  have HD : Hid (Below (w.alloc (.cells #[.int .i64 x.f0, .int .i64 x.f1, v2, v3, v4] 28)).heap.size (w.alloc (.cells #[.int .i64 x.f0, .int .i64 x.f1, v2, v3, v4] 28)) (w.alloc (.cells #[.int .i64 x.f0, .int .i64 x.f1, v2, v3, v4] 28))) := Below.refl _ _
  have HZ : Hid (w.heap.size ≤ (w.alloc (.cells #[.int .i64 x.f0, .int .i64 x.f1, v2, v3, v4] 28)).heap.size) := b0.size
  obtain ⟨l2, l3, l4⟩ := hn
  clear h b0
  go_enter Tryz.func30, Tryz.ntmps30
  go_wp2_with fail
  refine (heldInodeS_c v2 x.f2.length (k0) _ HN.out.1 (by omega) (by omega) (HR.out.1.keep HD.out (Nat.le_refl _))).mono ?_
  rintro e w1 ⟨rfl, b1⟩
  have HD1 : Hid (Below (w.alloc (.cells #[.int .i64 x.f0, .int .i64 x.f1, v2, v3, v4] 28)).heap.size (w.alloc (.cells #[.int .i64 x.f0, .int .i64 x.f1, v2, v3, v4] 28)) w1) := HD.out.trans (b1.mono HD.out.size)
  have n1 : 0 ≤ k0 + ((x.f2.length * 3 : Nat) : Int) := by omega
  obtain ⟨p2, p3, p4⟩ := HV.out w1 HD1.out
  clear b1
  go_wp2_with fail
  refine (heldLinkS_c v3 x.f3.length (k0 + ((x.f2.length * 3 : Nat) : Int)) _ HN.out.2.1 (by omega) (by omega) (HR.out.2.1.keep HD1.out (Nat.le_refl _))).mono ?_
  rintro e w2 ⟨rfl, b2⟩
  have HD2 : Hid (Below (w.alloc (.cells #[.int .i64 x.f0, .int .i64 x.f1, v2, v3, v4] 28)).heap.size (w.alloc (.cells #[.int .i64 x.f0, .int .i64 x.f1, v2, v3, v4] 28)) w2) := HD1.out.trans (b2.mono HD1.out.size)
  have n2 : 0 ≤ k0 + ((x.f2.length * 3 : Nat) : Int) + ((x.f3.length * 2 : Nat) : Int) := by omega
  obtain ⟨p2, p3, p4⟩ := HV.out w2 HD2.out
  clear b2
  go_wp2_with fail
  refine (heldMoveS_c v4 x.f4.length (k0 + ((x.f2.length * 3 : Nat) : Int) + ((x.f3.length * 2 : Nat) : Int)) _ HN.out.2.2 (by omega) (by omega) (HR.out.2.2.keep HD2.out (Nat.le_refl _))).mono ?_
  rintro e w3 ⟨rfl, b3⟩
  have HD3 : Hid (Below (w.alloc (.cells #[.int .i64 x.f0, .int .i64 x.f1, v2, v3, v4] 28)).heap.size (w.alloc (.cells #[.int .i64 x.f0, .int .i64 x.f1, v2, v3, v4] 28)) w3) := HD2.out.trans (b3.mono HD2.out.size)
  have n3 : 0 ≤ k0 + ((x.f2.length * 3 : Nat) : Int) + ((x.f3.length * 2 : Nat) : Int) + ((x.f4.length * 4 : Nat) : Int) := by omega
  clear b3
  have HE : Hid (Below w.heap.size w w3) := HB.out.trans (HD3.out.mono HZ.out)
  go_wp2
  go_ret
  exact ⟨rfl, HE.out⟩

/-- All that it holds is of a length that a text can have. -/
def SmDisk (x : S_Disk) : Prop := x.f2.length ≤ maxLen ∧ (∀ y ∈ x.f2, sInode y) ∧ x.f3.length ≤ maxLen ∧ (∀ y ∈ x.f3, sLink y) ∧ x.f4.length ≤ maxLen ∧ (∀ y ∈ x.f4, sMove y)

theorem szF_add (a b : Nat) (left : Int) (h : 0 ≤ szF a left) : szF (a + b) left = szF b (szF a left) := by
  unfold szF at *
  split at h
  · rename_i ha
    rw [if_pos ha]
    split
    · rw [if_pos (by omega)]; omega
    · rw [if_neg (by omega)]
  · omega

theorem szF_neg (a b : Nat) (left : Int) (h : szF a left < 0) : szF (a + b) left = -1 := by
  unfold szF at *
  split at h
  · omega
  · rw [if_neg (by omega)]

theorem szF_le (a : Nat) (left : Int) (h : -1 ≤ left) : szF a left ≤ left := by
  unfold szF
  split <;> omega

set_option maxRecDepth 20000 in
set_option maxHeartbeats 2000000 in
theorem szDisk_c (x : S_Disk) (left : Int) (v2 v3 v4 : Value) (w : World) (h0 : 0 ≤ left) (h1 : left ≤ 1048576) (hs : SmDisk x) (h : RdDisk w x v2 v3 v4) :
    Calls Tryz.prog 25 #[.agg #[.int .i64 x.f0, .int .i64 x.f1, v2, v3, v4], .int .i64 left] w fun e w' => e = .returned (.int .i64 (szF (zDisk x) left)) ∧ Below w.heap.size w w' := by
  have b0 : Below w.heap.size w (w.alloc (.cells #[.int .i64 x.f0, .int .i64 x.f1, v2, v3, v4] 58)) := (Below.refl _ _).alloc (Nat.le_refl _) _
  have HB : Hid (Below w.heap.size w (w.alloc (.cells #[.int .i64 x.f0, .int .i64 x.f1, v2, v3, v4] 58))) := b0
  have HR : Hid (RdDisk (w.alloc (.cells #[.int .i64 x.f0, .int .i64 x.f1, v2, v3, v4] 58)) x v2 v3 v4) := h.keep b0 (Nat.le_refl _)
  have HV : Hid (∀ W', Below (w.alloc (.cells #[.int .i64 x.f0, .int .i64 x.f1, v2, v3, v4] 58)).heap.size (w.alloc (.cells #[.int .i64 x.f0, .int .i64 x.f1, v2, v3, v4] 58)) W' → W'.cell? ⟨w.heap.size, 2, none⟩ = some (v2) ∧ W'.cell? ⟨w.heap.size, 3, none⟩ = some (v3) ∧ W'.cell? ⟨w.heap.size, 4, none⟩ = some (v4)) := fun W' hW => ⟨by rw [hW.cell (by simp <;> omega)]; simp, by rw [hW.cell (by simp <;> omega)]; simp, by rw [hW.cell (by simp <;> omega)]; simp⟩
  have HD : Hid (Below (w.alloc (.cells #[.int .i64 x.f0, .int .i64 x.f1, v2, v3, v4] 58)).heap.size (w.alloc (.cells #[.int .i64 x.f0, .int .i64 x.f1, v2, v3, v4] 58)) (w.alloc (.cells #[.int .i64 x.f0, .int .i64 x.f1, v2, v3, v4] 58))) := Below.refl _ _
  have HZ : Hid (w.heap.size ≤ (w.alloc (.cells #[.int .i64 x.f0, .int .i64 x.f1, v2, v3, v4] 58)).heap.size) := b0.size
  obtain ⟨l2, s2, l3, s3, l4, s4⟩ := hs
  have HS2 : Hid (∀ y ∈ x.f2, sInode y) := s2
  have HL2 : Hid (x.f2.length ≤ maxLen) := l2
  have HS3 : Hid (∀ y ∈ x.f3, sLink y) := s3
  have HL3 : Hid (x.f3.length ≤ maxLen) := l3
  have HS4 : Hid (∀ y ∈ x.f4, sMove y) := s4
  have HL4 : Hid (x.f4.length ≤ maxLen) := l4
  have HT : Hid (zDisk x = (x.f2.length + zsum zInode x.f2 x.f2.length) + (x.f3.length + zsum zLink x.f3 x.f3.length) + (x.f4.length + zsum zMove x.f4 x.f4.length)) := rfl
  clear h b0 l2 s2 l3 s3 l4 s4
  generalize hq2 : x.f2.length + zsum zInode x.f2 x.f2.length = q2 at HT
  generalize hq3 : x.f3.length + zsum zLink x.f3 x.f3.length = q3 at HT
  generalize hq4 : x.f4.length + zsum zMove x.f4 x.f4.length = q4 at HT
  go_enter Tryz.func25, Tryz.ntmps25
  go_wp2_with fail
  refine (szInodeS_c v2 x.f2 (left) _ (by omega) (by omega) HL2.out HS2.out (HR.out.1.keep HD.out (Nat.le_refl _))).mono ?_
  rintro e w1 ⟨rfl, b1⟩
  rw [hq2]
  have HD1 : Hid (Below (w.alloc (.cells #[.int .i64 x.f0, .int .i64 x.f1, v2, v3, v4] 58)).heap.size (w.alloc (.cells #[.int .i64 x.f0, .int .i64 x.f1, v2, v3, v4] 58)) w1) := HD.out.trans (b1.mono HD.out.size)
  have HE : Hid (Below w.heap.size w w1) := HB.out.trans (HD1.out.mono HZ.out)
  clear b1
  obtain ⟨p2, p3, p4⟩ := HV.out w1 HD1.out
  have g0 := szF_le q2 (left) (by omega)
  by_cases n0 : 0 ≤ szF q2 (left)
  · obtain ⟨r0, hr⟩ : ∃ r, szF q2 (left) = r := ⟨_, rfl⟩
    have HF0 : Hid (szF (q2) left = r0) := hr
    rw [hr] at n0 g0 ⊢
    clear hr
    clear HE
    go_wp2_with fail
    refine (szLinkS_c v3 x.f3 (r0) _ (by omega) (by omega) HL3.out HS3.out (HR.out.2.1.keep HD1.out (Nat.le_refl _))).mono ?_
    rintro e w2 ⟨rfl, b2⟩
    rw [hq3]
    have HD2 : Hid (Below (w.alloc (.cells #[.int .i64 x.f0, .int .i64 x.f1, v2, v3, v4] 58)).heap.size (w.alloc (.cells #[.int .i64 x.f0, .int .i64 x.f1, v2, v3, v4] 58)) w2) := HD1.out.trans (b2.mono HD1.out.size)
    have HE : Hid (Below w.heap.size w w2) := HB.out.trans (HD2.out.mono HZ.out)
    clear b2
    obtain ⟨p2, p3, p4⟩ := HV.out w2 HD2.out
    have g1 := szF_le q3 (r0) (by omega)
    by_cases n1 : 0 ≤ szF q3 (r0)
    · obtain ⟨r1, hr⟩ : ∃ r, szF q3 (r0) = r := ⟨_, rfl⟩
      have HF1 : Hid (szF (q2 + q3) left = r1) := by rw [← hr, ← HF0.out]; exact szF_add _ _ _ (by rw [HF0.out]; omega)
      rw [hr] at n1 g1 ⊢
      clear hr
      clear HE
      go_wp2_with fail
      refine (szMoveS_c v4 x.f4 (r1) _ (by omega) (by omega) HL4.out HS4.out (HR.out.2.2.keep HD2.out (Nat.le_refl _))).mono ?_
      rintro e w3 ⟨rfl, b3⟩
      rw [hq4]
      have HD3 : Hid (Below (w.alloc (.cells #[.int .i64 x.f0, .int .i64 x.f1, v2, v3, v4] 58)).heap.size (w.alloc (.cells #[.int .i64 x.f0, .int .i64 x.f1, v2, v3, v4] 58)) w3) := HD2.out.trans (b3.mono HD2.out.size)
      have HE : Hid (Below w.heap.size w w3) := HB.out.trans (HD3.out.mono HZ.out)
      clear b3
      have g2 := szF_le q4 (r1) (by omega)
      by_cases n2 : 0 ≤ szF q4 (r1)
      · obtain ⟨r2, hr⟩ : ∃ r, szF q4 (r1) = r := ⟨_, rfl⟩
        have HF2 : Hid (szF (q2 + q3 + q4) left = r2) := by rw [← hr, ← HF1.out]; exact szF_add _ _ _ (by rw [HF1.out]; omega)
        rw [hr] at n2 g2 ⊢
        clear hr
        go_wp2
        go_ret
        exact ⟨by rw [HT.out, HF2.out]; rfl, HE.out⟩
      · have HF2 : Hid (szF (zDisk x) left = -1) := by
          have e : szF (q2 + q3 + q4) left < 0 := by rw [szF_add _ _ _ (by rw [HF1.out]; omega), HF1.out]; omega
          show _ = _
          rw [HT.out]
          unfold szF at e ⊢
          split at e
          · omega
          · rename_i hh; rw [if_neg hh]
        generalize szF q4 (r1) = r2 at n2 g2 ⊢
        go_wp2
        go_ret
        exact ⟨by rw [HF2.out]; rfl, HE.out⟩
    · have HF1 : Hid (szF (zDisk x) left = -1) := by
        have e : szF (q2 + q3) left < 0 := by rw [szF_add _ _ _ (by rw [HF0.out]; omega), HF0.out]; omega
        show _ = _
        rw [HT.out]
        have e2 := szF_neg (q2 + q3) (q4) left e
        rw [show q2 + q3 + q4 = q2 + q3 + (q4) by omega]
        exact e2
      generalize szF q3 (r0) = r1 at n1 g1 ⊢
      go_wp2
      go_ret
      exact ⟨by rw [HF1.out]; rfl, HE.out⟩
  · have HF0 : Hid (szF (zDisk x) left = -1) := by
      have e : szF (q2) left < 0 := by omega
      show _ = _
      rw [HT.out]
      have e2 := szF_neg (q2) (q3 + q4) left e
      rw [show q2 + q3 + q4 = q2 + (q3 + q4) by omega]
      exact e2
    generalize szF q2 (left) = r0 at n0 g0 ⊢
    go_wp2
    go_ret
    exact ⟨by rw [HF0.out]; rfl, HE.out⟩

end Go.Proofs.YtmknplpcpmkhiaaGreat
