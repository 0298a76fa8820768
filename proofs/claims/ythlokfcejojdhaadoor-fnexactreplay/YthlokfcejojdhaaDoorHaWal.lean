/- The contracts of what the exact laws hold Wal by. -/
import Derived.Test.YthlokfcejojdhaaDoorHaBut
import Derived.Test.YthlokfcejojdhaaDoorHaEntry
namespace Go.Proofs.YthlokfcejojdhaaDoor
open Go.RowKit
set_option linter.unusedVariables false

structure S_Wal where
  f0 : Int
  f1 : Int
  f2 : Int
  f3 : Int
  f4 : List S_Entry

/-- Its lists can be read. -/
def RdWal (w : World) (x : S_Wal) (v4 : Value) : Prop :=
  RowR w v4 x.f4.length 2 (rEntry x.f4)

theorem RdWal.keep {w w' : World} {x : S_Wal} {v4 : Value} (h : RdWal w x v4) {N : Nat} (hb : Below N w w') (hN : w.heap.size ≤ N) : RdWal w' x v4 :=
  RowR.keep h hb hN

/-- Its lists are rows of the call's own. -/
def OwWal (w : World) (base : Nat) (x : S_Wal) (v4 : Value) : Prop :=
  w.ownsRow base 63 2 v4 x.f4.length (rEntry x.f4)

theorem OwWal.keep {w w' : World} {base : Nat} {x : S_Wal} {v4 : Value} (h : OwWal w base x v4) {N : Nat} (hb : Below N w w') (hN : w.heap.size ≤ N) : OwWal w' base x v4 :=
  own_bel (h) hb hN

theorem OwWal.rd {w : World} {base : Nat} {x : S_Wal} {v4 : Value} (h : OwWal w base x v4) : RdWal w x v4 :=
  RowR.own (h)

/-- No list in it is longer than this. -/
def LnWal (x : S_Wal) (n : Nat) : Prop := x.f4.length ≤ n

/-- What sz takes off for it. -/
def zWal (x : S_Wal) : Nat := (x.f4.length + zsum zEntry x.f4 x.f4.length)

set_option maxRecDepth 20000 in
set_option maxHeartbeats 2000000 in
theorem eqWal_c (x : S_Wal) (v4 u4 : Value) (w : World) (hn : LnWal x 1048576) (h : RdWal w x v4) (h' : RdWal w x u4) :
    Calls Tryd.prog 13 #[.agg #[.int .i64 x.f0, .int .i64 x.f1, .int .i64 x.f2, .int .i64 x.f3, v4], .agg #[.int .i64 x.f0, .int .i64 x.f1, .int .i64 x.f2, .int .i64 x.f3, u4]] w fun e w' => e = .returned (.bool true) ∧ Below w.heap.size w w' := by
  have HN : Hid (LnWal x 1048576) := hn
  have b0 : Below w.heap.size w ((w.alloc (.cells #[.int .i64 x.f0, .int .i64 x.f1, .int .i64 x.f2, .int .i64 x.f3, v4] 26)).alloc (.cells #[.int .i64 x.f0, .int .i64 x.f1, .int .i64 x.f2, .int .i64 x.f3, u4] 26)) := ((Below.refl _ _).alloc (Nat.le_refl _) _).alloc (by simp) _
  have HB : Hid (Below w.heap.size w ((w.alloc (.cells #[.int .i64 x.f0, .int .i64 x.f1, .int .i64 x.f2, .int .i64 x.f3, v4] 26)).alloc (.cells #[.int .i64 x.f0, .int .i64 x.f1, .int .i64 x.f2, .int .i64 x.f3, u4] 26))) := b0
  have HR : Hid (RdWal ((w.alloc (.cells #[.int .i64 x.f0, .int .i64 x.f1, .int .i64 x.f2, .int .i64 x.f3, v4] 26)).alloc (.cells #[.int .i64 x.f0, .int .i64 x.f1, .int .i64 x.f2, .int .i64 x.f3, u4] 26)) x v4) := h.keep b0 (Nat.le_refl _)
  have HS : Hid (RdWal ((w.alloc (.cells #[.int .i64 x.f0, .int .i64 x.f1, .int .i64 x.f2, .int .i64 x.f3, v4] 26)).alloc (.cells #[.int .i64 x.f0, .int .i64 x.f1, .int .i64 x.f2, .int .i64 x.f3, u4] 26)) x u4) := h'.keep b0 (Nat.le_refl _)
  have HV : Hid (∀ W', Below ((w.alloc (.cells #[.int .i64 x.f0, .int .i64 x.f1, .int .i64 x.f2, .int .i64 x.f3, v4] 26)).alloc (.cells #[.int .i64 x.f0, .int .i64 x.f1, .int .i64 x.f2, .int .i64 x.f3, u4] 26)).heap.size ((w.alloc (.cells #[.int .i64 x.f0, .int .i64 x.f1, .int .i64 x.f2, .int .i64 x.f3, v4] 26)).alloc (.cells #[.int .i64 x.f0, .int .i64 x.f1, .int .i64 x.f2, .int .i64 x.f3, u4] 26)) W' → W'.cell? ⟨w.heap.size, 4, none⟩ = some (v4)) := fun W' hW => by rw [hW.cell (by simp <;> omega)]; simp
  have HU : Hid (∀ W', Below ((w.alloc (.cells #[.int .i64 x.f0, .int .i64 x.f1, .int .i64 x.f2, .int .i64 x.f3, v4] 26)).alloc (.cells #[.int .i64 x.f0, .int .i64 x.f1, .int .i64 x.f2, .int .i64 x.f3, u4] 26)).heap.size ((w.alloc (.cells #[.int .i64 x.f0, .int .i64 x.f1, .int .i64 x.f2, .int .i64 x.f3, v4] 26)).alloc (.cells #[.int .i64 x.f0, .int .i64 x.f1, .int .i64 x.f2, .int .i64 x.f3, u4] 26)) W' → W'.cell? ⟨w.heap.size + 1, 4, none⟩ = some (u4)) := fun W' hW => by rw [hW.cell (by simp <;> omega)]; simp
  have HD : Hid (Below ((w.alloc (.cells #[.int .i64 x.f0, .int .i64 x.f1, .int .i64 x.f2, .int .i64 x.f3, v4] 26)).alloc (.cells #[.int .i64 x.f0, .int .i64 x.f1, .int .i64 x.f2, .int .i64 x.f3, u4] 26)).heap.size ((w.alloc (.cells #[.int .i64 x.f0, .int .i64 x.f1, .int .i64 x.f2, .int .i64 x.f3, v4] 26)).alloc (.cells #[.int .i64 x.f0, .int .i64 x.f1, .int .i64 x.f2, .int .i64 x.f3, u4] 26)) ((w.alloc (.cells #[.int .i64 x.f0, .int .i64 x.f1, .int .i64 x.f2, .int .i64 x.f3, v4] 26)).alloc (.cells #[.int .i64 x.f0, .int .i64 x.f1, .int .i64 x.f2, .int .i64 x.f3, u4] 26))) := Below.refl _ _
  have HZ : Hid (w.heap.size ≤ ((w.alloc (.cells #[.int .i64 x.f0, .int .i64 x.f1, .int .i64 x.f2, .int .i64 x.f3, v4] 26)).alloc (.cells #[.int .i64 x.f0, .int .i64 x.f1, .int .i64 x.f2, .int .i64 x.f3, u4] 26)).heap.size) := b0.size
  clear h h' hn b0
  go_enter Tryd.func13, Tryd.ntmps13
  go_wp2_with fail
  refine (eqEntryS_c v4 u4 x.f4 _ HN.out (HR.out.keep HD.out (Nat.le_refl _)) (HS.out.keep HD.out (Nat.le_refl _))).mono ?_
  rintro e w1 ⟨rfl, b1⟩
  have HD1 : Hid (Below ((w.alloc (.cells #[.int .i64 x.f0, .int .i64 x.f1, .int .i64 x.f2, .int .i64 x.f3, v4] 26)).alloc (.cells #[.int .i64 x.f0, .int .i64 x.f1, .int .i64 x.f2, .int .i64 x.f3, u4] 26)).heap.size ((w.alloc (.cells #[.int .i64 x.f0, .int .i64 x.f1, .int .i64 x.f2, .int .i64 x.f3, v4] 26)).alloc (.cells #[.int .i64 x.f0, .int .i64 x.f1, .int .i64 x.f2, .int .i64 x.f3, u4] 26)) w1) := HD.out.trans (b1.mono HD.out.size)
  clear b1
  have HE : Hid (Below w.heap.size w w1) := HB.out.trans (HD1.out.mono HZ.out)
  go_wp2
  go_ret
  exact ⟨rfl, HE.out⟩

/-- Its lists' cells are marked from k0 on. -/
def MrWal (w : World) (x : S_Wal) (k0 : Int) (v4 : Value) : Prop :=
  RowR w v4 x.f4.length 2 (mEntrys (k0) x.f4.length)

theorem MrWal.keep {w w' : World} {x : S_Wal} {k0 : Int} {v4 : Value} (h : MrWal w x k0 v4) {N : Nat} (hb : Below N w w') (hN : w.heap.size ≤ N) : MrWal w' x k0 v4 :=
  RowR.keep h hb hN

/-- Its lists are rows of the call's own, marked from k0 on. -/
def MoWal (w : World) (base : Nat) (x : S_Wal) (k0 : Int) (v4 : Value) : Prop :=
  w.ownsRow base 63 2 v4 x.f4.length (mEntrys (k0) x.f4.length)

theorem MoWal.rd {w : World} {base : Nat} {x : S_Wal} {k0 : Int} {v4 : Value} (h : MoWal w base x k0 v4) : MrWal w x k0 v4 :=
  RowR.own (h)

theorem MoWal.keep {w w' : World} {base : Nat} {x : S_Wal} {k0 : Int} {v4 : Value} (h : MoWal w base x k0 v4) {N : Nat} (hb : Below N w w') (hN : w.heap.size ≤ N) : MoWal w' base x k0 v4 :=
  own_bel (h) hb hN

set_option maxRecDepth 20000 in
set_option maxHeartbeats 2000000 in
theorem heldWal_c (x : S_Wal) (k0 : Int) (v4 : Value) (w : World) (hn : LnWal x 1048576) (hk0 : 0 < k0) (hk1 : k0 ≤ 10000000) (h : MrWal w x k0 v4) :
    Calls Tryd.prog 15 #[.agg #[.int .i64 x.f0, .int .i64 x.f1, .int .i64 x.f2, .int .i64 x.f3, v4], .int .i64 k0] w fun e w' => e = .returned (.int .i64 (k0 + ((x.f4.length * 2 : Nat) : Int))) ∧ Below w.heap.size w w' := by
  have HN : Hid (LnWal x 1048576) := hn
  have b0 : Below w.heap.size w (w.alloc (.cells #[.int .i64 x.f0, .int .i64 x.f1, .int .i64 x.f2, .int .i64 x.f3, v4] 26)) := (Below.refl _ _).alloc (Nat.le_refl _) _
  have HB : Hid (Below w.heap.size w (w.alloc (.cells #[.int .i64 x.f0, .int .i64 x.f1, .int .i64 x.f2, .int .i64 x.f3, v4] 26))) := b0
  have HR : Hid (MrWal (w.alloc (.cells #[.int .i64 x.f0, .int .i64 x.f1, .int .i64 x.f2, .int .i64 x.f3, v4] 26)) x k0 v4) := h.keep b0 (Nat.le_refl _)
  have HV : Hid (∀ W', Below (w.alloc (.cells #[.int .i64 x.f0, .int .i64 x.f1, .int .i64 x.f2, .int .i64 x.f3, v4] 26)).heap.size (w.alloc (.cells #[.int .i64 x.f0, .int .i64 x.f1, .int .i64 x.f2, .int .i64 x.f3, v4] 26)) W' → W'.cell? ⟨w.heap.size, 4, none⟩ = some (v4)) := fun W' hW => by rw [hW.cell (by simp <;> omega)]; simp
  have HD : Hid (Below (w.alloc (.cells #[.int .i64 x.f0, .int .i64 x.f1, .int .i64 x.f2, .int .i64 x.f3, v4] 26)).heap.size (w.alloc (.cells #[.int .i64 x.f0, .int .i64 x.f1, .int .i64 x.f2, .int .i64 x.f3, v4] 26)) (w.alloc (.cells #[.int .i64 x.f0, .int .i64 x.f1, .int .i64 x.f2, .int .i64 x.f3, v4] 26))) := Below.refl _ _
  have HZ : Hid (w.heap.size ≤ (w.alloc (.cells #[.int .i64 x.f0, .int .i64 x.f1, .int .i64 x.f2, .int .i64 x.f3, v4] 26)).heap.size) := b0.size
  have l4 : x.f4.length ≤ 1048576 := hn
  clear h b0
  go_enter Tryd.func15, Tryd.ntmps15
  go_wp2_with fail
  refine (heldEntryS_c v4 x.f4.length (k0) _ HN.out (by omega) (by omega) (HR.out.keep HD.out (Nat.le_refl _))).mono ?_
  rintro e w1 ⟨rfl, b1⟩
  have HD1 : Hid (Below (w.alloc (.cells #[.int .i64 x.f0, .int .i64 x.f1, .int .i64 x.f2, .int .i64 x.f3, v4] 26)).heap.size (w.alloc (.cells #[.int .i64 x.f0, .int .i64 x.f1, .int .i64 x.f2, .int .i64 x.f3, v4] 26)) w1) := HD.out.trans (b1.mono HD.out.size)
  have n1 : 0 ≤ k0 + ((x.f4.length * 2 : Nat) : Int) := by omega
  clear b1
  have HE : Hid (Below w.heap.size w w1) := HB.out.trans (HD1.out.mono HZ.out)
  go_wp2
  go_ret
  exact ⟨rfl, HE.out⟩

/-- All that it holds is of a length that a text can have. -/
def SmWal (x : S_Wal) : Prop := x.f4.length ≤ maxLen ∧ (∀ y ∈ x.f4, sEntry y)

theorem szF_add (a b : Nat) (left : Int) (h : 0 ≤ szF a left) : szF (a + b) left = szF b (szF a left) := by
  unfold szF at *
  split at h
  · rename_i ha
    rw [if_pos ha]
    split
    · rw [if_pos (by omega)]; omega
    · rw [if_neg (by omega)]
  · omega

theorem szF_neg (a b : Nat) (left : Int) (h : szF a left < 0) : szF (a + b) left = -1 := by
  unfold szF at *
  split at h
  · omega
  · rw [if_neg (by omega)]

theorem szF_le (a : Nat) (left : Int) (h : -1 ≤ left) : szF a left ≤ left := by
  unfold szF
  split <;> omega

end Go.Proofs.YthlokfcejojdhaaDoor
