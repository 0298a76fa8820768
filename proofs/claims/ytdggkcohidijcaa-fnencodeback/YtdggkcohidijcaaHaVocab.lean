/- The contracts of what the exact laws hold Vocab by. -/
import Derived.Test.YtdggkcohidijcaaHaBut
import Derived.Test.YtdggkcohidijcaaHaPair
namespace Go.Proofs.Ytdggkcohidijcaa
open Go.RowKit
set_option linter.unusedVariables false

structure S_Vocab where
  f0 : List S_Pair

/-- Its lists can be read. -/
def RdVocab (w : World) (x : S_Vocab) (v0 : Value) : Prop :=
  RowR w v0 x.f0.length 2 (rPair x.f0)

theorem RdVocab.keep {w w' : World} {x : S_Vocab} {v0 : Value} (h : RdVocab w x v0) {N : Nat} (hb : Below N w w') (hN : w.heap.size ≤ N) : RdVocab w' x v0 :=
  RowR.keep h hb hN

/-- Its lists are rows of the call's own. -/
def OwVocab (w : World) (base : Nat) (x : S_Vocab) (v0 : Value) : Prop :=
  w.ownsRow base 88 2 v0 x.f0.length (rPair x.f0)

theorem OwVocab.keep {w w' : World} {base : Nat} {x : S_Vocab} {v0 : Value} (h : OwVocab w base x v0) {N : Nat} (hb : Below N w w') (hN : w.heap.size ≤ N) : OwVocab w' base x v0 :=
  own_bel h hb hN

theorem OwVocab.rd {w : World} {base : Nat} {x : S_Vocab} {v0 : Value} (h : OwVocab w base x v0) : RdVocab w x v0 :=
  RowR.own h

/-- No list in it is longer than this. -/
def LnVocab (x : S_Vocab) (n : Nat) : Prop := x.f0.length ≤ n

/-- What sz takes off for it. -/
def zVocab (x : S_Vocab) : Nat := (x.f0.length + zsum zPair x.f0 x.f0.length)

set_option maxRecDepth 20000 in
set_option maxHeartbeats 2000000 in
theorem eqVocab_c (x : S_Vocab) (v0 u0 : Value) (w : World) (hn : LnVocab x 1048576) (h : RdVocab w x v0) (h' : RdVocab w x u0) :
    Calls Try.prog 29 #[.agg #[v0], .agg #[u0]] w fun e w' => e = .returned (.bool true) ∧ Below w.heap.size w w' := by
  have HN : Hid (LnVocab x 1048576) := hn
  have b0 : Below w.heap.size w ((w.alloc (.cells #[v0] 26)).alloc (.cells #[u0] 26)) := ((Below.refl _ _).alloc (Nat.le_refl _) _).alloc (by simp) _
  have HB : Hid (Below w.heap.size w ((w.alloc (.cells #[v0] 26)).alloc (.cells #[u0] 26))) := b0
  have HR : Hid (RdVocab ((w.alloc (.cells #[v0] 26)).alloc (.cells #[u0] 26)) x v0) := h.keep b0 (Nat.le_refl _)
  have HS : Hid (RdVocab ((w.alloc (.cells #[v0] 26)).alloc (.cells #[u0] 26)) x u0) := h'.keep b0 (Nat.le_refl _)
  have HV : Hid (∀ W', Below ((w.alloc (.cells #[v0] 26)).alloc (.cells #[u0] 26)).heap.size ((w.alloc (.cells #[v0] 26)).alloc (.cells #[u0] 26)) W' → W'.cell? ⟨w.heap.size, 0, none⟩ = some (v0)) := fun W' hW => by rw [hW.cell (by simp <;> omega)]; simp
  have HU : Hid (∀ W', Below ((w.alloc (.cells #[v0] 26)).alloc (.cells #[u0] 26)).heap.size ((w.alloc (.cells #[v0] 26)).alloc (.cells #[u0] 26)) W' → W'.cell? ⟨w.heap.size + 1, 0, none⟩ = some (u0)) := fun W' hW => by rw [hW.cell (by simp <;> omega)]; simp
  have HD : Hid (Below ((w.alloc (.cells #[v0] 26)).alloc (.cells #[u0] 26)).heap.size ((w.alloc (.cells #[v0] 26)).alloc (.cells #[u0] 26)) ((w.alloc (.cells #[v0] 26)).alloc (.cells #[u0] 26))) := Below.refl _ _
  have HZ : Hid (w.heap.size ≤ ((w.alloc (.cells #[v0] 26)).alloc (.cells #[u0] 26)).heap.size) := b0.size
  clear h h' hn b0
  go_enter Try.func29, Try.ntmps29
  go_wp2_with fail
  refine (eqPairS_c v0 u0 x.f0 _ HN.out (RowR.keep HR.out HD.out (Nat.le_refl _)) (RowR.keep HS.out HD.out (Nat.le_refl _))).mono ?_
  rintro e w1 ⟨rfl, b1⟩
  have HD1 : Hid (Below ((w.alloc (.cells #[v0] 26)).alloc (.cells #[u0] 26)).heap.size ((w.alloc (.cells #[v0] 26)).alloc (.cells #[u0] 26)) w1) := HD.out.trans (b1.mono HD.out.size)
  clear b1
  have HE : Hid (Below w.heap.size w w1) := HB.out.trans (HD1.out.mono HZ.out)
  go_wp2
  go_ret
  exact ⟨rfl, HE.out⟩

/-- Its lists' cells are marked from k0 on. -/
def MrVocab (w : World) (x : S_Vocab) (k0 : Int) (v0 : Value) : Prop :=
  RowR w v0 x.f0.length 2 (mPairs (k0) x.f0.length)

theorem MrVocab.keep {w w' : World} {x : S_Vocab} {k0 : Int} {v0 : Value} (h : MrVocab w x k0 v0) {N : Nat} (hb : Below N w w') (hN : w.heap.size ≤ N) : MrVocab w' x k0 v0 :=
  RowR.keep h hb hN

/-- Its lists are rows of the call's own, marked from k0 on. -/
def MoVocab (w : World) (base : Nat) (x : S_Vocab) (k0 : Int) (v0 : Value) : Prop :=
  w.ownsRow base 88 2 v0 x.f0.length (mPairs (k0) x.f0.length)

theorem MoVocab.rd {w : World} {base : Nat} {x : S_Vocab} {k0 : Int} {v0 : Value} (h : MoVocab w base x k0 v0) : MrVocab w x k0 v0 :=
  RowR.own h

theorem MoVocab.keep {w w' : World} {base : Nat} {x : S_Vocab} {k0 : Int} {v0 : Value} (h : MoVocab w base x k0 v0) {N : Nat} (hb : Below N w w') (hN : w.heap.size ≤ N) : MoVocab w' base x k0 v0 :=
  own_bel h hb hN

/-- All that it holds is of a length that a text can have. -/
def SmVocab (x : S_Vocab) : Prop := x.f0.length ≤ maxLen ∧ (∀ y ∈ x.f0, sPair y)

theorem szF_add (a b : Nat) (left : Int) (h : 0 ≤ szF a left) : szF (a + b) left = szF b (szF a left) := by
  unfold szF at *
  split at h
  · rename_i ha
    rw [if_pos ha]
    split
    · rw [if_pos (by omega)]; omega
    · rw [if_neg (by omega)]
  · omega

theorem szF_neg (a b : Nat) (left : Int) (h : szF a left < 0) : szF (a + b) left = -1 := by
  unfold szF at *
  split at h
  · omega
  · rw [if_neg (by omega)]

theorem szF_le (a : Nat) (left : Int) (h : -1 ≤ left) : szF a left ≤ left := by
  unfold szF
  split <;> omega

set_option maxRecDepth 20000 in
set_option maxHeartbeats 2000000 in
theorem szVocab_c (x : S_Vocab) (left : Int) (v0 : Value) (w : World) (h0 : 0 ≤ left) (h1 : left ≤ 1048576) (hs : SmVocab x) (h : RdVocab w x v0) :
    Calls Try.prog 25 #[.agg #[v0], .int .i64 left] w fun e w' => e = .returned (.int .i64 (szF (zVocab x) left)) ∧ Below w.heap.size w w' := by
  have b0 : Below w.heap.size w (w.alloc (.cells #[v0] 50)) := (Below.refl _ _).alloc (Nat.le_refl _) _
  have HB : Hid (Below w.heap.size w (w.alloc (.cells #[v0] 50))) := b0
  have HR : Hid (RdVocab (w.alloc (.cells #[v0] 50)) x v0) := h.keep b0 (Nat.le_refl _)
  have HV : Hid (∀ W', Below (w.alloc (.cells #[v0] 50)).heap.size (w.alloc (.cells #[v0] 50)) W' → W'.cell? ⟨w.heap.size, 0, none⟩ = some (v0)) := fun W' hW => by rw [hW.cell (by simp <;> omega)]; simp
  have HD : Hid (Below (w.alloc (.cells #[v0] 50)).heap.size (w.alloc (.cells #[v0] 50)) (w.alloc (.cells #[v0] 50))) := Below.refl _ _
  have HZ : Hid (w.heap.size ≤ (w.alloc (.cells #[v0] 50)).heap.size) := b0.size
  obtain ⟨l0, s0⟩ := hs
  have HS0 : Hid (∀ y ∈ x.f0, sPair y) := s0
  have HL0 : Hid (x.f0.length ≤ maxLen) := l0
  have HT : Hid (zVocab x = (x.f0.length + zsum zPair x.f0 x.f0.length)) := rfl
  clear h b0 l0 s0
  generalize hq0 : x.f0.length + zsum zPair x.f0 x.f0.length = q0 at HT
  go_enter Try.func25, Try.ntmps25
  go_wp2_with fail
  refine (szPairS_c v0 x.f0 (left) _ (by omega) (by omega) HL0.out HS0.out (RowR.keep HR.out HD.out (Nat.le_refl _))).mono ?_
  rintro e w1 ⟨rfl, b1⟩
  rw [hq0]
  have HD1 : Hid (Below (w.alloc (.cells #[v0] 50)).heap.size (w.alloc (.cells #[v0] 50)) w1) := HD.out.trans (b1.mono HD.out.size)
  have HE : Hid (Below w.heap.size w w1) := HB.out.trans (HD1.out.mono HZ.out)
  clear b1
  have g0 := szF_le q0 (left) (by omega)
  by_cases n0 : 0 ≤ szF q0 (left)
  · obtain ⟨r0, hr⟩ : ∃ r, szF q0 (left) = r := ⟨_, rfl⟩
    have HF0 : Hid (szF (q0) left = r0) := hr
    rw [hr] at n0 g0 ⊢
    clear hr
    go_wp2
    go_ret
    exact ⟨by rw [HT.out, HF0.out]; rfl, HE.out⟩
  · have HF0 : Hid (szF (zVocab x) left = -1) := by
      have e : szF (q0) left < 0 := by omega
      show _ = _
      rw [HT.out]
      unfold szF at e ⊢
      split at e
      · omega
      · rename_i hh; rw [if_neg hh]
    generalize szF q0 (left) = r0 at n0 g0 ⊢
    go_wp2
    go_ret
    exact ⟨by rw [HF0.out]; rfl, HE.out⟩

set_option maxRecDepth 20000 in
set_option maxHeartbeats 2000000 in
theorem toVocab_c (x : S_Vocab) (v0 : Value) (w : World) (hn : LnVocab x 1048576) (h : RdVocab w x v0) :
    Calls Try.prog 27 #[.agg #[v0]] w fun e w' => ∃ u0, e = .returned (.agg #[u0]) ∧ OwVocab w' w.heap.size x u0 ∧ Below w.heap.size w w' := by
  have HN : Hid (LnVocab x 1048576) := hn
  have HH : Hid (RdVocab w x v0) := h
  obtain ⟨W, hW⟩ : ∃ W, W = (((w.alloc (.cells #[v0] 50)).alloc (.cells #[.slice none 0 0] 26)).alloc (.cells #[.slice none 0 0] 26)) := ⟨_, rfl⟩
  have HW : Hid ((((w.alloc (.cells #[v0] 50)).alloc (.cells #[.slice none 0 0] 26)).alloc (.cells #[.slice none 0 0] 26)) = W) := hW.symm
  have HB0 : Hid (Below w.heap.size w W) := by rw [hW]; exact (((Below.refl _ _).alloc (Nat.le_refl _) _).alloc (by simp) _).alloc (by simp; omega) _
  have hWs : W.heap.size = w.heap.size + 3 := by rw [hW]; simp
  have R0 : Hid (W.ownsRow w.heap.size 26 1 (.slice (some ⟨w.heap.size + 1, 0, none⟩) 1 1) 1 [.slice none 0 0]) := by
    rw [hW]
    have := World.ownsRow_lit (base := w.heap.size) (e := 26) (size := 1) (w.alloc (.cells #[v0] 50)) #[.slice none 0 0] 1 (by simp) (by decide) rfl
    rw [World.size_alloc] at this
    exact this.alloc _
  have O0 : Hid (W.ownsRow w.heap.size 26 1 (.slice (some ⟨w.heap.size + 1 + 1, 0, none⟩) 1 1) 1 [.slice none 0 0]) := by
    rw [hW]
    have := World.ownsRow_lit (base := w.heap.size) (e := 26) (size := 1) ((w.alloc (.cells #[v0] 50)).alloc (.cells #[.slice none 0 0] 26)) #[.slice none 0 0] 1 (by simp; omega) (by decide) rfl
    rw [World.size_alloc, World.size_alloc] at this
    exact this
  clear hW h hn
  go_enter Try.func27, Try.ntmps27
  go_wp2_with fail
  rw [HW.out]
  refine (toPairS_c v0 x.f0 W HN.out (RowR.keep HH.out HB0.out (Nat.le_refl _))).mono ?_
  rintro e w3 ⟨u4, rfl, own4, b3⟩
  obtain ⟨_, p4, k4, hv4, _⟩ := RowR.own own4
  subst hv4
  have R3 : Hid (w3.ownsRow w.heap.size _ 1 _ 1 _) := own_bel R0.out b3 (Nat.le_refl _)
  have O3 : Hid (w3.ownsRow w.heap.size _ 1 _ 1 _) := own_bel O0.out b3 (Nat.le_refl _)
  have U4 : Hid (w3.ownsRow W.heap.size _ 2 (.slice p4 x.f0.length k4) _ _) := own4
  have HB3 : Hid (Below w.heap.size w w3) := HB0.out.trans (b3.mono (by omega))
  have q0 : w3.cell? ⟨w.heap.size + 1 + 1, 0, none⟩ = some (.slice none 0 0) := by rw [O3.out.cellAt 0 (by omega)]; rfl
  have y4 := O3.out.frozenAt 0
  have r0 : w3.cell? ⟨w.heap.size + 1, 0, none⟩ = some (.slice none 0 0) := by rw [R3.out.cellAt 0 (by omega)]; rfl
  have f0 := R3.out.frozenAt 0
  clear own4 b3 R0 O0
  have hlt1 : w.heap.size + 1 < W.heap.size := by omega
  have hlt2 : w.heap.size + 1 + 1 < W.heap.size := by omega
  have L2 : w.heap.size ≤ w.heap.size + 1 + 1 := by omega
  have L1 : w.heap.size ≤ w.heap.size + 1 := by omega
  have L0 : w.heap.size ≤ W.heap.size := by omega
  go_wp2
  exact bodyPost_ret (v := .agg #[.slice p4 x.f0.length k4]) (by simp [results, Try.results27, go_sem, r0]) rfl
    ⟨_, rfl, own_low (own_set_lt (own_set_lt (U4.out) _ (by exact hlt2)) _ (by exact hlt1)) L0, (HB3.out.setCell (by exact L2) _).setCell (by exact L1) _⟩

set_option maxRecDepth 20000 in
set_option maxHeartbeats 2000000 in
theorem markVocab_c (x : S_Vocab) (k0 : Int) (v0 : Value) (base : Nat) (w : World) (hn : LnVocab x 1048576) (hk0 : 0 < k0) (hk1 : k0 ≤ 10000000) (hb : base ≤ w.heap.size) (h : OwVocab w base x v0) :
    Calls Try.prog 30 #[.agg #[v0], .int .i64 k0] w fun e w' => e = .returned (.int .i64 (k0 + ((x.f0.length * 2 : Nat) : Int))) ∧ MoVocab w' base x k0 v0 ∧ ButL [v0] w w' := by
  have HN : Hid (LnVocab x 1048576) := hn
  have b0 : Below w.heap.size w (w.alloc (.cells #[v0] 26)) := (Below.refl _ _).alloc (Nat.le_refl _) _
  have HO : Hid (OwVocab (w.alloc (.cells #[v0] 26)) base x v0) := h.keep b0 (Nat.le_refl _)
  have HB0 : Hid (Below w.heap.size w (w.alloc (.cells #[v0] 26))) := b0
  have hbs : base ≤ (w.alloc (.cells #[v0] 26)).heap.size := by simp; omega
  clear h b0
  go_enter Try.func30, Try.ntmps30
  go_wp2_with fail
  refine (markPairS_c v0 x.f0 k0 base _ HN.out (by omega) (by omega) hbs HO.out).mono ?_
  rintro e w1 ⟨rfl, o2, b1⟩
  have HM : Hid (MoVocab w1 base x k0 v0) := o2
  have HB1 : Hid (ButL [v0] w w1) := (ButL.of_bel HB0.out).trans (ButL.of_butV (vs := [v0]) b1 (by simp))
  clear b1 o2
  go_wp2
  go_ret
  exact ⟨rfl, HM.out, HB1.out⟩

end Go.Proofs.Ytdggkcohidijcaa
