/- VocabOk, Token, Rank of both sides. -/
import Derived.Test.YthhkjnpeopfmjaaVcImpl
import Derived.Test.YthhkjnpeopfmjaaFrClone
namespace Go.Proofs.Ythhkjnpeopfmjaa
open Go.RowKit
set_option linter.unusedVariables false
set_option linter.unusedSimpArgs false

theorem retV_t {p : Prop} [Decidable p] (h : p) : Ending.returned (.bool true) = .returned (.bool (decide p)) := by rw [decide_eq_true h]

theorem retV_f {p : Prop} [Decidable p] (h : ¬ p) : Ending.returned (.bool false) = .returned (.bool (decide p)) := by rw [decide_eq_false h]

set_option maxRecDepth 20000 in
set_option maxHeartbeats 4000000 in
theorem specVok_c (L : List S_Pair) (p : Option Addr) (cap : Nat) (w : World) (hn : L.length ≤ 1048576) (hr : RowR w (.slice p L.length cap) L.length 2 (rPair L)) :
    Calls Try.prog 9 #[.agg #[.slice p L.length cap]] w fun e w' => e = .returned (.bool (decide (okV L))) ∧ Below w.heap.size w w' := by
  have HN : Hid (L.length ≤ 1048576) := hn
  have HR : Hid (RowR w (.slice p L.length cap) L.length 2 (rPair L)) := hr
  obtain ⟨W0, hW0⟩ : ∃ W, W = w.alloc (.cells #[.slice p L.length cap] 29) := ⟨_, rfl⟩
  have HW0 : Hid (w.alloc (.cells #[.slice p L.length cap] 29) = W0) := hW0.symm
  have HZ0 : Hid (W0.heap.size = w.heap.size + 1) := by show _ = _; rw [hW0]; simp
  have HB0 : Hid (Below w.heap.size w W0) := by rw [hW0]; exact (Below.refl _ _).alloc (Nat.le_refl _) _
  have HX : Hid (∀ W', Below W0.heap.size W0 W' → W'.cell? ⟨w.heap.size, 0, none⟩ = some (.slice p L.length cap)) := fun W' hW => by
    have hk : W'.heap[w.heap.size]? = some (.cells #[.slice p L.length cap] 29) := by rw [hW.block _ (by rw [HZ0.out]; exact Nat.lt_succ_self _), hW0]; exact alloc_last _ _
    exact box1 hk
  have d := HX.out W0 (Below.refl _ _)
  have HR0 : Hid (RowR W0 (.slice p L.length cap) L.length 2 (rPair L)) := RowR.keep HR.out HB0.out (Nat.le_refl _)
  clear hn hr hW0
  go_enter Try.func9, Try.ntmps9
  go_wp2_with fail
  rw [HW0.out]
  refine (specTab_c L p cap W0 HN.out HR0.out).mono ?_
  rintro e w1 ⟨b1, ⟨t, v, ht, rfl, ho⟩ | ⟨v, ht, rfl⟩⟩
  · have HB1 : Hid (Below w.heap.size w w1) := HB0.out.trans (b1.mono (by rw [HZ0.out]; omega))
    have HT : Hid (okV L) := okV_yes ht
    clear b1 ho ht d
    go_wp2
    go_ret
    exact ⟨retV_t HT.out, HB1.out⟩
  · have HB1 : Hid (Below w.heap.size w w1) := HB0.out.trans (b1.mono (by rw [HZ0.out]; omega))
    have HT : Hid (¬ okV L) := okV_no ht
    clear b1 ht d
    go_wp2
    go_ret
    exact ⟨retV_f HT.out, HB1.out⟩

set_option maxRecDepth 20000 in
set_option maxHeartbeats 4000000 in
theorem implVok_c (L : List S_Pair) (p : Option Addr) (cap : Nat) (w : World) (hn : L.length ≤ 1048576) (hr : RowR w (.slice p L.length cap) L.length 2 (rPair L)) :
    Calls Try.prog 11 #[.agg #[.slice p L.length cap]] w fun e w' => e = .returned (.bool (decide (okV L))) ∧ Below w.heap.size w w' := by
  have HN : Hid (L.length ≤ 1048576) := hn
  have HR : Hid (RowR w (.slice p L.length cap) L.length 2 (rPair L)) := hr
  obtain ⟨W0, hW0⟩ : ∃ W, W = w.alloc (.cells #[.slice p L.length cap] 29) := ⟨_, rfl⟩
  have HW0 : Hid (w.alloc (.cells #[.slice p L.length cap] 29) = W0) := hW0.symm
  have HZ0 : Hid (W0.heap.size = w.heap.size + 1) := by show _ = _; rw [hW0]; simp
  have HB0 : Hid (Below w.heap.size w W0) := by rw [hW0]; exact (Below.refl _ _).alloc (Nat.le_refl _) _
  have HX : Hid (∀ W', Below W0.heap.size W0 W' → W'.cell? ⟨w.heap.size, 0, none⟩ = some (.slice p L.length cap)) := fun W' hW => by
    have hk : W'.heap[w.heap.size]? = some (.cells #[.slice p L.length cap] 29) := by rw [hW.block _ (by rw [HZ0.out]; exact Nat.lt_succ_self _), hW0]; exact alloc_last _ _
    exact box1 hk
  have d := HX.out W0 (Below.refl _ _)
  have HR0 : Hid (RowR W0 (.slice p L.length cap) L.length 2 (rPair L)) := RowR.keep HR.out HB0.out (Nat.le_refl _)
  clear hn hr hW0
  go_enter Try.func11, Try.ntmps11
  go_wp2_with fail
  rw [HW0.out]
  refine (implTab_c L p cap W0 HN.out HR0.out).mono ?_
  rintro e w1 ⟨b1, ⟨t, v, ht, rfl, ho⟩ | ⟨v, ht, rfl⟩⟩
  · have HB1 : Hid (Below w.heap.size w w1) := HB0.out.trans (b1.mono (by rw [HZ0.out]; omega))
    have HT : Hid (okV L) := okV_yes ht
    clear b1 ho ht d
    go_wp2
    go_ret
    exact ⟨retV_t HT.out, HB1.out⟩
  · have HB1 : Hid (Below w.heap.size w w1) := HB0.out.trans (b1.mono (by rw [HZ0.out]; omega))
    have HT : Hid (¬ okV L) := okV_no ht
    clear b1 ht d
    go_wp2
    go_ret
    exact ⟨retV_f HT.out, HB1.out⟩

/-- The bytes of a token; none where there is no such token, or the vocabulary isn't right. -/
def tkV (L : List S_Pair) (i : Int) : ByteArray := match tabV L with
  | some t => byI t i
  | none => ⟨#[]⟩

theorem tkV_yes {L : List S_Pair} {t : List ByteArray} (h : tabV L = some t) (i : Int) : tkV L i = byI t i := by unfold tkV; rw [h]
theorem tkV_no {L : List S_Pair} (h : tabV L = none) (i : Int) : tkV L i = ⟨#[]⟩ := by unfold tkV; rw [h]

theorem byI_size {t : List ByteArray} (ht : ∀ b ∈ t, 0 < b.size ∧ b.size ≤ 24) (i : Int) : (byI t i).size ≤ 24 := by
  unfold byI
  split
  · exact (byt_size ht (by assumption)).2
  · exact Nat.zero_le _

set_option maxRecDepth 20000 in
set_option maxHeartbeats 4000000 in
theorem specTok_c (L : List S_Pair) (p : Option Addr) (cap : Nat) (i : Int) (w : World) (hn : L.length ≤ 1048576) (hr : RowR w (.slice p L.length cap) L.length 2 (rPair L)) :
    Calls Try.prog 13 #[.agg #[.slice p L.length cap], .int .i64 i] w fun e w' => e = .returned (.string (tkV L i)) ∧ Below w.heap.size w w' := by
  have HN : Hid (L.length ≤ 1048576) := hn
  have HR : Hid (RowR w (.slice p L.length cap) L.length 2 (rPair L)) := hr
  obtain ⟨W0, hW0⟩ : ∃ W, W = w.alloc (.cells #[.slice p L.length cap] 29) := ⟨_, rfl⟩
  have HW0 : Hid (w.alloc (.cells #[.slice p L.length cap] 29) = W0) := hW0.symm
  have HZ0 : Hid (W0.heap.size = w.heap.size + 1) := by show _ = _; rw [hW0]; simp
  have HB0 : Hid (Below w.heap.size w W0) := by rw [hW0]; exact (Below.refl _ _).alloc (Nat.le_refl _) _
  have HX : Hid (∀ W', Below W0.heap.size W0 W' → W'.cell? ⟨w.heap.size, 0, none⟩ = some (.slice p L.length cap)) := fun W' hW => by
    have hk : W'.heap[w.heap.size]? = some (.cells #[.slice p L.length cap] 29) := by rw [hW.block _ (by rw [HZ0.out]; exact Nat.lt_succ_self _), hW0]; exact alloc_last _ _
    exact box1 hk
  have d := HX.out W0 (Below.refl _ _)
  have HR0 : Hid (RowR W0 (.slice p L.length cap) L.length 2 (rPair L)) := RowR.keep HR.out HB0.out (Nat.le_refl _)
  clear hn hr hW0
  go_enter Try.func13, Try.ntmps13
  go_wp2_with fail
  rw [HW0.out]
  refine (specTab_c L p cap W0 HN.out HR0.out).mono ?_
  rintro e w1 ⟨b1, ⟨t, v, ht, rfl, ho⟩ | ⟨v, ht, rfl⟩⟩
  rotate_left
  · have HB1 : Hid (Below w.heap.size w w1) := HB0.out.trans (b1.mono (by rw [HZ0.out]; omega))
    have HF : Hid (tkV L i = ⟨#[]⟩) := tkV_no ht i
    clear b1 ht d
    go_wp2
    go_ret
    exact ⟨by rw [HF.out]; rfl, HB1.out⟩
  have HB1 : Hid (Below w.heap.size w w1) := HB0.out.trans (b1.mono (by rw [HZ0.out]; omega))
  have HTL : Hid (t.length ≤ 60) := by have := tabV_len ht; have := (tabV_some ht).1; show _ ≤ _; omega
  have htl : (t.length : Int) ≤ 60 := by have := HTL.out; omega
  have HSZ : Hid (∀ b ∈ t, 0 < b.size ∧ b.size ≤ 24) := tabV_size ht
  have HO1 : Hid (RowR w1 v t.length 1 (t.map Value.string)) := RowR.own ho
  have HF : Hid (tkV L i = byI t i) := tkV_yes ht i
  obtain ⟨q, cq, rfl⟩ := own_sliceV ho
  clear b1 ho ht d
  have e5 : IntKind.i64.wrap (255 + (t.length : Int)) = 255 + (t.length : Int) := IntWalk.i64_in _ (by omega)
  by_cases g : inV t i
  · have HI : Hid (inV t i) := g
    have HE : Hid (byI t i = bytV t i) := byI_yes g
    clear g
    go_wp2_with fail
    refine (sinV_yes i 0 (255 + (t.length : Int)) w1 (by have := HI.out; unfold inV at this; exact this.1) (by have := HI.out; unfold inV at this; exact this.2)).mono ?_
    rintro e wz ⟨rfl, hw⟩
    replace hw := hw.symm
    subst hw
    go_wp2_with fail
    refine (specByt_c t _ i w1 HTL.out HI.out HO1.out).mono ?_
    rintro e w2 ⟨rfl, b2⟩
    have HB2 : Hid (Below w.heap.size w w2) := HB1.out.trans (b2.mono HB1.out.size)
    clear b2
    go_wp2
    go_ret
    exact ⟨by rw [HF.out, HE.out]; rfl, HB2.out⟩
  · have HE : Hid (byI t i = ⟨#[]⟩) := byI_no g
    have HI : Hid (¬ (0 ≤ i ∧ i ≤ 255 + (t.length : Int))) := g
    clear g
    go_wp2_with fail
    refine (sinV_no i 0 (255 + (t.length : Int)) w1 HI.out).mono ?_
    rintro e wz ⟨rfl, hw⟩
    replace hw := hw.symm
    subst hw
    go_wp2
    go_ret
    exact ⟨by rw [HF.out, HE.out]; rfl, HB1.out⟩

set_option maxRecDepth 20000 in
set_option maxHeartbeats 4000000 in
theorem implTok_c (L : List S_Pair) (p : Option Addr) (cap : Nat) (i : Int) (w : World) (hn : L.length ≤ 1048576) (hr : RowR w (.slice p L.length cap) L.length 2 (rPair L)) :
    Calls Try.prog 14 #[.agg #[.slice p L.length cap], .int .i64 i] w fun e w' => e = .returned (.string (tkV L i)) ∧ Below w.heap.size w w' := by
  have HN : Hid (L.length ≤ 1048576) := hn
  have HR : Hid (RowR w (.slice p L.length cap) L.length 2 (rPair L)) := hr
  obtain ⟨W0, hW0⟩ : ∃ W, W = w.alloc (.cells #[.slice p L.length cap] 29) := ⟨_, rfl⟩
  have HW0 : Hid (w.alloc (.cells #[.slice p L.length cap] 29) = W0) := hW0.symm
  have HZ0 : Hid (W0.heap.size = w.heap.size + 1) := by show _ = _; rw [hW0]; simp
  have HB0 : Hid (Below w.heap.size w W0) := by rw [hW0]; exact (Below.refl _ _).alloc (Nat.le_refl _) _
  have HX : Hid (∀ W', Below W0.heap.size W0 W' → W'.cell? ⟨w.heap.size, 0, none⟩ = some (.slice p L.length cap)) := fun W' hW => by
    have hk : W'.heap[w.heap.size]? = some (.cells #[.slice p L.length cap] 29) := by rw [hW.block _ (by rw [HZ0.out]; exact Nat.lt_succ_self _), hW0]; exact alloc_last _ _
    exact box1 hk
  have d := HX.out W0 (Below.refl _ _)
  have HR0 : Hid (RowR W0 (.slice p L.length cap) L.length 2 (rPair L)) := RowR.keep HR.out HB0.out (Nat.le_refl _)
  clear hn hr hW0
  go_enter Try.func14, Try.ntmps14
  go_wp2_with fail
  rw [HW0.out]
  refine (implTab_c L p cap W0 HN.out HR0.out).mono ?_
  rintro e w1 ⟨b1, ⟨t, v, ht, rfl, ho⟩ | ⟨v, ht, rfl⟩⟩
  rotate_left
  · have HB1 : Hid (Below w.heap.size w w1) := HB0.out.trans (b1.mono (by rw [HZ0.out]; omega))
    have HF : Hid (tkV L i = ⟨#[]⟩) := tkV_no ht i
    clear b1 ht d
    go_wp2
    go_ret
    exact ⟨by rw [HF.out]; rfl, HB1.out⟩
  have HB1 : Hid (Below w.heap.size w w1) := HB0.out.trans (b1.mono (by rw [HZ0.out]; omega))
  have HTL : Hid (t.length ≤ 60) := by have := tabV_len ht; have := (tabV_some ht).1; show _ ≤ _; omega
  have htl : (t.length : Int) ≤ 60 := by have := HTL.out; omega
  have HSZ : Hid (∀ b ∈ t, 0 < b.size ∧ b.size ≤ 24) := tabV_size ht
  have HO1 : Hid (RowR w1 v t.length 1 (t.map Value.string)) := RowR.own ho
  have HF : Hid (tkV L i = byI t i) := tkV_yes ht i
  obtain ⟨q, cq, rfl⟩ := own_sliceV ho
  clear b1 ho ht d
  go_wp2_with fail
  refine (implByt_c t _ i w1 HTL.out HO1.out).mono ?_
  rintro e w2 ⟨rfl, b2⟩
  have HB2 : Hid (Below w.heap.size w w2) := HB1.out.trans (b2.mono HB1.out.size)
  have HS : Hid ((byI t i).size ≤ 281474976710656) := by have := byI_size HSZ.out i; show _ ≤ _; omega
  clear b2
  generalize byI t i = B at HS HF ⊢
  go_wp2_with fail
  refine (clone_c B w2 HS.out).mono ?_
  rintro e w3 ⟨rfl, b3⟩
  have HB3 : Hid (Below w.heap.size w w3) := HB2.out.trans (b3.mono HB2.out.size)
  clear b3
  go_wp2
  go_ret
  exact ⟨by rw [HF.out]; rfl, HB3.out⟩

/-- The number of the merge with this A and B; -1 where there is none, or it is not right. -/
def RkV (L : List S_Pair) (a b i : Int) : Prop := (okV L ∧ IsFst L a b i) ∨ (¬ okV L ∧ i = -1)

theorem rkV_one {L : List S_Pair} {a b i j : Int} (h1 : RkV L a b i) (h2 : RkV L a b j) : i = j := by
  rcases h1 with ⟨h, h1⟩ | ⟨h, rfl⟩
  · rcases h2 with ⟨_, h2⟩ | ⟨h', _⟩
    · exact isFst_one h1 h2
    · exact absurd h h'
  · rcases h2 with ⟨h', _⟩ | ⟨_, rfl⟩
    · exact absurd h' h
    · rfl

set_option maxRecDepth 20000 in
set_option maxHeartbeats 4000000 in
theorem specRk_c (L : List S_Pair) (p : Option Addr) (cap : Nat) (a b : Int) (w : World) (hn : L.length ≤ 1048576) (hr : RowR w (.slice p L.length cap) L.length 2 (rPair L)) :
    Calls Try.prog 32 #[.agg #[.slice p L.length cap], .int .i64 a, .int .i64 b] w fun e w' => ∃ i : Int, e = .returned (.int .i64 i) ∧ IsFst L a b i ∧ Below w.heap.size w w' := by
  have hn' : (L.length : Int) ≤ 1048576 := by omega
  have HN : Hid (L.length ≤ 1048576) := hn
  have HR : Hid (RowR w (.slice p L.length cap) L.length 2 (rPair L)) := hr
  obtain ⟨W0, hW0⟩ : ∃ W, W = w.alloc (.cells #[.slice p L.length cap] 29) := ⟨_, rfl⟩
  have HW0 : Hid (w.alloc (.cells #[.slice p L.length cap] 29) = W0) := hW0.symm
  have HZ0 : Hid (W0.heap.size = w.heap.size + 1) := by show _ = _; rw [hW0]; simp
  have HB0 : Hid (Below w.heap.size w W0) := by rw [hW0]; exact (Below.refl _ _).alloc (Nat.le_refl _) _
  have HX : Hid (∀ W', Below W0.heap.size W0 W' → W'.cell? ⟨w.heap.size, 0, none⟩ = some (.slice p L.length cap)) := fun W' hW => by
    have hk : W'.heap[w.heap.size]? = some (.cells #[.slice p L.length cap] 29) := by rw [hW.block _ (by rw [HZ0.out]; exact Nat.lt_succ_self _), hW0]; exact alloc_last _ _
    exact box1 hk
  have d := HX.out W0 (Below.refl _ _)
  have HR0 : Hid (RowR W0 (.slice p L.length cap) L.length 2 (rPair L)) := RowR.keep HR.out HB0.out (Nat.le_refl _)
  clear hn hr hW0
  go_enter Try.func32, Try.ntmps32
  go_wp2_with fail
  rw [HW0.out]
  clear d
  go_loopw [7] (fun iv wr => ∃ k : Nat, k ≤ L.length ∧ iv = .int .i64 (k : Int) ∧ wr = W0 ∧ Hid (∀ q, q < k → ∀ h' : q < L.length, ¬ (L[q].f0 = a ∧ L[q].f1 = b))) (fun iv _ => L.length - (intOf iv).toNat)
  case atStart => exact ⟨0, Nat.zero_le _, rfl, rfl, fun q hq => absurd hq (by omega)⟩
  case round =>
    obtain ⟨k, hk, rfl, hwr, HNo⟩ := hrel
    replace hwr := hwr.symm
    subst hwr
    have d := HX.out W0 (Below.refl _ _)
    by_cases hlt : k < L.length
    · have hlt' : (k : Int) < L.length := by omega
      obtain ⟨b', off, cap', hv, hb, hc⟩ := HR0.out.some (by omega) (by decide)
      simp only [Value.slice.injEq, true_and] at hv
      obtain ⟨rfl, rfl⟩ := hv
      have c : ∀ q, q < 2 → W0.cell? ⟨b', off + (k * 2 + q), none⟩ = (cPair L[k])[q]? := fun q hq => by
        rw [hc (k * 2 + q) (by omega)]
        exact flat_at cPair 2 cPair_len L k q hlt hq
      have c0 : W0.cell? ⟨b', off + k * 2, none⟩ = some (.int .i64 (L[k]).f0) := by have := c 0 (by decide); rw [← Nat.add_assoc] at this; exact this
      have c1 : W0.cell? ⟨b', off + k * 2 + 1, none⟩ = some (.int .i64 (L[k]).f1) := by have := c 1 (by decide); rw [← Nat.add_assoc] at this; exact this
      have HXk : Hid (((L[k].f0 = a ∧ L[k].f1 = b) → IsFst L a b (k : Int)) ∧ (¬ (L[k].f0 = a ∧ L[k].f1 = b) → ∀ q, q < k + 1 → ∀ h' : q < L.length, ¬ (L[q].f0 = a ∧ L[q].f1 = b))) :=
        ⟨fun h => .inl ⟨k, rfl, hlt, h, HNo.out⟩, fun h q hq h' e => by
          rcases Nat.lt_succ_iff_lt_or_eq.1 hq with h2 | h2
          · exact HNo.out q h2 h' e
          · subst h2; exact h e⟩
      clear c hc
      generalize L[k] = X at c0 c1 HXk
      by_cases h0 : X.f0 = a
      · have q0 : (X.f0 == a) = true := by simp [h0]
        by_cases h1 : X.f1 = b
        · have q1 : (X.f1 == b) = true := by simp [h1]
          have HF : Hid (IsFst L a b (k : Int)) := HXk.out.1 ⟨h0, h1⟩
          clear h0 h1 HXk
          go_wp2
          go_ret
          exact ⟨_, rfl, HF.out, HB0.out⟩
        · have q1 : (X.f1 == b) = false := by simp [h1]
          have HN3 : Hid (∀ q, q < k + 1 → ∀ h' : q < L.length, ¬ (L[q].f0 = a ∧ L[q].f1 = b)) := HXk.out.2 fun h => h1 h.2
          clear h0 h1 HXk
          go_wp2
          go_roundw
          case rel => exact ⟨k + 1, by omega, by go_num, by trivial, HN3⟩
          case measure => simp [intOf]; omega
      · have q0 : (X.f0 == a) = false := by simp [h0]
        have HN3 : Hid (∀ q, q < k + 1 → ∀ h' : q < L.length, ¬ (L[q].f0 = a ∧ L[q].f1 = b)) := HXk.out.2 fun h => h0 h.1
        clear h0 HXk
        go_wp2
        go_roundw
        case rel => exact ⟨k + 1, by omega, by go_num, by trivial, HN3⟩
        case measure => simp [intOf]; omega
    · have hke : k = L.length := by omega
      have HF : Hid (IsFst L a b (-1)) := .inr ⟨rfl, fun q h' => HNo.out q (by omega) h'⟩
      subst hke
      go_wp2
      go_ret
      exact ⟨_, rfl, HF.out, HB0.out⟩

set_option maxRecDepth 20000 in
set_option maxHeartbeats 4000000 in
theorem specRank_c (L : List S_Pair) (p : Option Addr) (cap : Nat) (a b : Int) (w : World) (hn : L.length ≤ 1048576) (hr : RowR w (.slice p L.length cap) L.length 2 (rPair L)) :
    Calls Try.prog 15 #[.agg #[.slice p L.length cap], .int .i64 a, .int .i64 b] w fun e w' => ∃ i : Int, e = .returned (.int .i64 i) ∧ RkV L a b i ∧ Below w.heap.size w w' := by
  have HN : Hid (L.length ≤ 1048576) := hn
  have HR : Hid (RowR w (.slice p L.length cap) L.length 2 (rPair L)) := hr
  obtain ⟨W0, hW0⟩ : ∃ W, W = w.alloc (.cells #[.slice p L.length cap] 29) := ⟨_, rfl⟩
  have HW0 : Hid (w.alloc (.cells #[.slice p L.length cap] 29) = W0) := hW0.symm
  have HZ0 : Hid (W0.heap.size = w.heap.size + 1) := by show _ = _; rw [hW0]; simp
  have HB0 : Hid (Below w.heap.size w W0) := by rw [hW0]; exact (Below.refl _ _).alloc (Nat.le_refl _) _
  have HX : Hid (∀ W', Below W0.heap.size W0 W' → W'.cell? ⟨w.heap.size, 0, none⟩ = some (.slice p L.length cap)) := fun W' hW => by
    have hk : W'.heap[w.heap.size]? = some (.cells #[.slice p L.length cap] 29) := by rw [hW.block _ (by rw [HZ0.out]; exact Nat.lt_succ_self _), hW0]; exact alloc_last _ _
    exact box1 hk
  have d := HX.out W0 (Below.refl _ _)
  have HR0 : Hid (RowR W0 (.slice p L.length cap) L.length 2 (rPair L)) := RowR.keep HR.out HB0.out (Nat.le_refl _)
  clear hn hr hW0
  go_enter Try.func15, Try.ntmps15
  go_wp2_with fail
  rw [HW0.out]
  refine (specVok_c L p cap W0 HN.out HR0.out).mono ?_
  rintro e w1 ⟨rfl, b1⟩
  have HC1 : Hid (Below W0.heap.size W0 w1) := b1
  have HB1 : Hid (Below w.heap.size w w1) := HB0.out.trans (b1.mono (by rw [HZ0.out]; omega))
  clear b1 d
  by_cases hok : okV L
  rotate_left
  · have HF : Hid (RkV L a b (-1)) := .inr ⟨hok, rfl⟩
    rw [decide_eq_false hok]
    go_wp2
    go_ret
    exact ⟨_, rfl, HF.out, HB1.out⟩
  rw [decide_eq_true hok]
  have HOK : Hid (okV L) := hok
  clear hok
  have d := HX.out w1 HC1.out
  have HR1 : Hid (RowR w1 (.slice p L.length cap) L.length 2 (rPair L)) := RowR.keep HR.out HB1.out (Nat.le_refl _)
  go_wp2_with fail
  refine (specRk_c L _ cap a b w1 HN.out HR1.out).mono ?_
  rintro e w2 ⟨i, rfl, hi, b2⟩
  have HB2 : Hid (Below w.heap.size w w2) := HB1.out.trans (b2.mono HB1.out.size)
  have HF : Hid (RkV L a b i) := .inl ⟨HOK.out, hi⟩
  clear b2 hi d
  go_wp2
  go_ret
  exact ⟨_, rfl, HF.out, HB2.out⟩

set_option maxRecDepth 20000 in
set_option maxHeartbeats 4000000 in
theorem implRank_c (L : List S_Pair) (p : Option Addr) (cap : Nat) (a b : Int) (w : World) (hn : L.length ≤ 1048576) (hr : RowR w (.slice p L.length cap) L.length 2 (rPair L)) :
    Calls Try.prog 16 #[.agg #[.slice p L.length cap], .int .i64 a, .int .i64 b] w fun e w' => ∃ i : Int, e = .returned (.int .i64 i) ∧ RkV L a b i ∧ Below w.heap.size w w' := by
  have HN : Hid (L.length ≤ 1048576) := hn
  have HR : Hid (RowR w (.slice p L.length cap) L.length 2 (rPair L)) := hr
  obtain ⟨W0, hW0⟩ : ∃ W, W = w.alloc (.cells #[.slice p L.length cap] 29) := ⟨_, rfl⟩
  have HW0 : Hid (w.alloc (.cells #[.slice p L.length cap] 29) = W0) := hW0.symm
  have HZ0 : Hid (W0.heap.size = w.heap.size + 1) := by show _ = _; rw [hW0]; simp
  have HB0 : Hid (Below w.heap.size w W0) := by rw [hW0]; exact (Below.refl _ _).alloc (Nat.le_refl _) _
  have HX : Hid (∀ W', Below W0.heap.size W0 W' → W'.cell? ⟨w.heap.size, 0, none⟩ = some (.slice p L.length cap)) := fun W' hW => by
    have hk : W'.heap[w.heap.size]? = some (.cells #[.slice p L.length cap] 29) := by rw [hW.block _ (by rw [HZ0.out]; exact Nat.lt_succ_self _), hW0]; exact alloc_last _ _
    exact box1 hk
  have d := HX.out W0 (Below.refl _ _)
  have HR0 : Hid (RowR W0 (.slice p L.length cap) L.length 2 (rPair L)) := RowR.keep HR.out HB0.out (Nat.le_refl _)
  clear hn hr hW0
  go_enter Try.func16, Try.ntmps16
  go_wp2_with fail
  rw [HW0.out]
  refine (implVok_c L p cap W0 HN.out HR0.out).mono ?_
  rintro e w1 ⟨rfl, b1⟩
  have HC1 : Hid (Below W0.heap.size W0 w1) := b1
  have HB1 : Hid (Below w.heap.size w w1) := HB0.out.trans (b1.mono (by rw [HZ0.out]; omega))
  clear b1 d
  by_cases hok : okV L
  rotate_left
  · have HF : Hid (RkV L a b (-1)) := .inr ⟨hok, rfl⟩
    rw [decide_eq_false hok]
    go_wp2
    go_ret
    exact ⟨_, rfl, HF.out, HB1.out⟩
  rw [decide_eq_true hok]
  have HOK : Hid (okV L) := hok
  clear hok
  have d := HX.out w1 HC1.out
  have HR1 : Hid (RowR w1 (.slice p L.length cap) L.length 2 (rPair L)) := RowR.keep HR.out HB1.out (Nat.le_refl _)
  go_wp2_with fail
  refine (placeP_c L _ a b w1 HN.out HR1.out).mono ?_
  rintro e w2 ⟨i, rfl, hi, b2⟩
  have HB2 : Hid (Below w.heap.size w w2) := HB1.out.trans (b2.mono HB1.out.size)
  have HF : Hid (RkV L a b i) := .inl ⟨HOK.out, hi⟩
  clear b2 hi d
  go_wp2
  go_ret
  exact ⟨_, rfl, HF.out, HB2.out⟩

end Go.Proofs.Ythhkjnpeopfmjaa
