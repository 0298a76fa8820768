/- The tables of vocabularies, by contracts. -/
import Derived.Test.YtdggkcohidijcaaVcMath
import Derived.Test.YtdggkcohidijcaaRgTold
import Derived.Test.YtdggkcohidijcaaRgCut
namespace Go.Proofs.Ytdggkcohidijcaa
open Go.RowKit
set_option linter.unusedVariables false
set_option linter.unusedSimpArgs false

theorem infoStr : (Try.prog.info? 9).map (fun i => (i.zero, i.size, i.bytes)) = some (some (.string ⟨#[]⟩), 1, 16) := by kernel_rfl

theorem tx_iff (a b : ByteArray) : a.toList = b.toList ↔ a = b := by
  rw [ByteArray.toList_eq, ByteArray.toList_eq]
  constructor
  · intro h
    cases a
    cases b
    simp only [ByteArray.mk.injEq]
    exact Array.toList_inj.1 h
  · intro h; rw [h]

theorem tx_yes {a b : ByteArray} (h : a = b) : (a.toList == b.toList) = true := by rw [h]; exact beq_self_eq_true _
theorem tx_no {a b : ByteArray} (h : a ≠ b) : (a.toList == b.toList) = false := by
  rw [beq_eq_false_iff_ne]
  exact fun e => h ((tx_iff _ _).1 e)

theorem u8V (n : Int) (h0 : 0 ≤ n ∧ n ≤ 255) : IntKind.u8.wrap n = n := by rw [IntKind.wrap_u8']; omega

theorem box1 {w : World} {b : Nat} {a0 : Value} {t : TypeId} (h : w.heap[b]? = some (.cells #[a0] t)) : w.cell? ⟨b, 0, none⟩ = some a0 := by
  simp [World.cell?, h]

theorem box2 {w : World} {b : Nat} {a0 a1 : Value} {t : TypeId} (h : w.heap[b]? = some (.cells #[a0, a1] t)) : w.cell? ⟨b, 0, none⟩ = some a0 ∧ w.cell? ⟨b, 1, none⟩ = some a1 := by
  simp [World.cell?, h]

theorem own_sliceV {w : World} {base : Nat} {e : TypeId} {size n : Nat} {v : Value} {xs : List Value} (h : w.ownsRow base e size v n xs) : ∃ p c, v = .slice p n c := by
  obtain ⟨_, ⟨rfl, rfl⟩ | ⟨g, cap, cur, rfl, _, _, hc, _⟩⟩ := h
  · exact ⟨none, 0, rfl⟩
  · exact ⟨_, cap, rfl⟩

theorem own_snocV {w : World} {base : Nat} {v : Value} {acc : List ByteArray} {y : ByteArray} (h : w.ownsRow base 9 1 v (acc.length + 1) (acc.map Value.string ++ [.string y])) : w.ownsRow base 9 1 v (acc ++ [y]).length ((acc ++ [y]).map Value.string) := by
  simpa using h

theorem sinV_yes (n a b : Int) (w : World) (h1 : a ≤ n) (h2 : n ≤ b) : Calls Try.prog 51 #[.int .i64 n, .int .i64 a, .int .i64 b] w fun e w' => e = .returned (.bool true) ∧ w' = w := by
  go_enter Try.func51, Try.ntmps51
  go_wp2
  go_ret
  exact ⟨rfl, rfl⟩

theorem sinV_no (n a b : Int) (w : World) (h : ¬ (a ≤ n ∧ n ≤ b)) : Calls Try.prog 51 #[.int .i64 n, .int .i64 a, .int .i64 b] w fun e w' => e = .returned (.bool false) ∧ w' = w := by
  by_cases h1 : a ≤ n
  · have h2 : ¬ n ≤ b := fun h2 => h ⟨h1, h2⟩
    clear h
    go_enter Try.func51, Try.ntmps51
    go_wp2
    go_ret
    exact ⟨rfl, rfl⟩
  · clear h
    go_enter Try.func51, Try.ntmps51
    go_wp2
    go_ret
    exact ⟨rfl, rfl⟩

theorem winV_yes (n a b : Int) (w : World) (h1 : a ≤ n) (h2 : n ≤ b) : Calls Try.prog 52 #[.int .i64 n, .int .i64 a, .int .i64 b] w fun e w' => e = .returned (.bool true) ∧ w' = w := by
  go_enter Try.func52, Try.ntmps52
  go_wp2
  go_ret
  exact ⟨rfl, rfl⟩

theorem winV_no (n a b : Int) (w : World) (h : ¬ (a ≤ n ∧ n ≤ b)) : Calls Try.prog 52 #[.int .i64 n, .int .i64 a, .int .i64 b] w fun e w' => e = .returned (.bool false) ∧ w' = w := by
  by_cases h1 : a ≤ n
  · have h2 : ¬ n ≤ b := fun h2 => h ⟨h1, h2⟩
    clear h
    go_enter Try.func52, Try.ntmps52
    go_wp2
    go_ret
    exact ⟨rfl, rfl⟩
  · clear h
    go_enter Try.func52, Try.ntmps52
    go_wp2
    go_ret
    exact ⟨rfl, rfl⟩

set_option maxRecDepth 20000 in
set_option maxHeartbeats 2000000 in
theorem specByt_c (t : List ByteArray) (v : Value) (i : Int) (w : World) (hn : t.length ≤ 60) (h : inV t i) (hr : RowR w v t.length 1 (t.map Value.string)) :
    Calls Try.prog 64 #[v, .int .i64 i] w fun e w' => e = .returned (.string (bytV t i)) ∧ Below w.heap.size w w' := by
  by_cases h2 : i < 256
  · have HB : Hid (bytV t i = strOfNums [i]) := by show _ = _; unfold bytV; rw [if_pos h2]
    have hw8 : IntKind.u8.wrap i = i := u8V i (by unfold inV at h; omega)
    have hco := conv_one w
    rw [HB.out]
    clear h hr hn
    go_enter Try.func64, Try.ntmps64
    go_wp2
    go_ret
    exact ⟨rfl, (Below.refl _ _).alloc (Nat.le_refl _) _⟩
  · obtain ⟨hk, e⟩ := byt_at h h2
    obtain ⟨b, off, cap, rfl, hb, hc⟩ := hr.some (by omega) (by decide)
    rw [e]
    have c0 : w.cell? ⟨b, off + (i - 256).toNat, none⟩ = some (.string t[(i - 256).toNat]) := by rw [hc _ (by omega), mapS_at t _ hk]
    have hi : IntKind.i64.wrap (i - 256) = i - 256 := IntWalk.i64_in _ (by unfold inV at h; omega)
    have hlt : i - 256 < (t.length : Int) := by omega
    have hn' : (t.length : Int) ≤ 60 := by omega
    have h0 : 0 ≤ i - 256 := by omega
    clear e hc hn h
    generalize t[(i - 256).toNat] = X at c0 ⊢
    go_enter Try.func64, Try.ntmps64
    go_wp2
    go_ret
    exact ⟨rfl, Below.refl _ _⟩

/-- The bytes of a token, none where there is no such token. -/
def byI (t : List ByteArray) (i : Int) : ByteArray := if inV t i then bytV t i else ⟨#[]⟩

set_option maxRecDepth 20000 in
set_option maxHeartbeats 2000000 in
theorem implByt_c (t : List ByteArray) (v : Value) (i : Int) (w : World) (hn : t.length ≤ 60) (hr : RowR w v t.length 1 (t.map Value.string)) :
    Calls Try.prog 65 #[v, .int .i64 i] w fun e w' => e = .returned (.string (byI t i)) ∧ Below w.heap.size w w' := by
  have e5 : IntKind.i64.wrap (256 + (t.length : Int)) = 256 + (t.length : Int) := IntWalk.i64_in _ (by omega)
  have e6 : IntKind.i64.wrap (256 + (t.length : Int) - 1) = 256 + (t.length : Int) - 1 := IntWalk.i64_in _ (by omega)
  have hn' : (t.length : Int) ≤ 60 := by omega
  by_cases h : inV t i
  · have HI : Hid (byI t i = bytV t i) := if_pos h
    rw [HI.out]
    by_cases h2 : i < 256
    · have HB : Hid (bytV t i = strOfNums [i]) := by show _ = _; unfold bytV; rw [if_pos h2]
      have hw8 : IntKind.u8.wrap i = i := u8V i (by unfold inV at h; omega)
      have hco := conv_one w
      obtain ⟨p, cap, hv⟩ : ∃ p cap, v = .slice p t.length cap := by obtain ⟨_, p, cap, hv, _⟩ := hr; exact ⟨p, cap, hv⟩
      subst hv
      rw [HB.out]
      have HH : Hid (0 ≤ i ∧ i ≤ 256 + (t.length : Int) - 1) := by unfold inV at h; exact ⟨h.1, by omega⟩
      clear h hr hn
      go_enter Try.func65, Try.ntmps65
      go_wp2_with fail
      refine (winV_yes i 0 (256 + (t.length : Int) - 1) _ HH.out.1 HH.out.2).mono ?_
      rintro e _ ⟨rfl, rfl⟩
      go_wp2
      go_ret
      exact ⟨rfl, (Below.refl _ _).alloc (Nat.le_refl _) _⟩
    · obtain ⟨hk, e⟩ := byt_at h h2
      obtain ⟨b, off, cap, rfl, hb, hc⟩ := hr.some (by omega) (by decide)
      rw [e]
      have c0 : w.cell? ⟨b, off + (i - 256).toNat, none⟩ = some (.string t[(i - 256).toNat]) := by rw [hc _ (by omega), mapS_at t _ hk]
      have hi : IntKind.i64.wrap (i - 256) = i - 256 := IntWalk.i64_in _ (by unfold inV at h; omega)
      have hlt : i - 256 < (t.length : Int) := by omega
      have h0 : 0 ≤ i - 256 := by omega
      have HH : Hid (0 ≤ i ∧ i ≤ 256 + (t.length : Int) - 1) := by unfold inV at h; exact ⟨h.1, by omega⟩
      clear e hc hn h
      generalize t[(i - 256).toNat] = X at c0 ⊢
      go_enter Try.func65, Try.ntmps65
      go_wp2_with fail
      refine (winV_yes i 0 (256 + (t.length : Int) - 1) _ HH.out.1 HH.out.2).mono ?_
      rintro e _ ⟨rfl, rfl⟩
      go_wp2
      go_ret
      exact ⟨rfl, Below.refl _ _⟩
  · have HI : Hid (byI t i = ⟨#[]⟩) := if_neg h
    rw [HI.out]
    have HH : Hid (¬ (0 ≤ i ∧ i ≤ 256 + (t.length : Int) - 1)) := fun h' => h (by unfold inV; exact ⟨h'.1, by omega⟩)
    obtain ⟨p, cap, hv⟩ : ∃ p cap, v = .slice p t.length cap := by obtain ⟨_, p, cap, hv, _⟩ := hr; exact ⟨p, cap, hv⟩
    subst hv
    clear h hr hn
    go_enter Try.func65, Try.ntmps65
    go_wp2_with fail
    refine (winV_no i 0 (256 + (t.length : Int) - 1) _ HH.out).mono ?_
    rintro e _ ⟨rfl, rfl⟩
    go_wp2
    go_ret
    exact ⟨rfl, Below.refl _ _⟩

set_option maxRecDepth 20000 in
set_option maxHeartbeats 2000000 in
theorem placeS_c (t : List ByteArray) (v : Value) (s : ByteArray) (w : World) (hn : t.length ≤ 1048576) (hr : RowR w v t.length 1 (t.map Value.string)) :
    Calls Try.prog 82 #[v, .string s] w fun e w' => ∃ i : Int, e = .returned (.int .i64 i) ∧ (0 ≤ i ↔ s ∈ t) ∧ Below w.heap.size w w' := by
  have hn' : (t.length : Int) ≤ 1048576 := by omega
  have HR : Hid (RowR w v t.length 1 (t.map Value.string)) := hr
  obtain ⟨p, cap, hv⟩ : ∃ p cap, v = .slice p t.length cap := by obtain ⟨_, p, cap, hv, _⟩ := hr; exact ⟨p, cap, hv⟩
  subst hv
  clear hr hn
  go_enter Try.func82, Try.ntmps82
  go_wp2
  go_loopw [9] (fun iv wr => ∃ k : Nat, k ≤ t.length ∧ iv = .int .i64 (k : Int) ∧ wr = w ∧ Hid (s ∉ t.take k)) (fun iv _ => t.length - (intOf iv).toNat)
  case atStart => exact ⟨0, Nat.zero_le _, rfl, rfl, by show _ ∉ _; simp⟩
  case round =>
    obtain ⟨k, hk, rfl, rfl, HN⟩ := hrel
    by_cases hlt : k < t.length
    · have hlt' : (k : Int) < t.length := by omega
      obtain ⟨b, off, cap', hv, hb, hc⟩ := HR.out.some (by omega) (by decide)
      simp only [Value.slice.injEq, true_and] at hv
      obtain ⟨rfl, rfl⟩ := hv
      have c0 : wr.cell? ⟨b, off + k, none⟩ = some (.string t[k]) := by rw [hc k (by omega), mapS_at t k hlt]
      have HT : Hid (t.take (k + 1) = t.take k ++ [t[k]]) := List.take_succ_eq_append_getElem hlt
      have HM : Hid (t[k] ∈ t) := List.getElem_mem hlt
      clear hc
      generalize t[k] = X at c0 HT HM
      by_cases he : X = s
      · have hq := tx_yes he
        have HF : Hid (0 ≤ (k : Int) ↔ s ∈ t) := ⟨fun _ => by rw [← he]; exact HM.out, fun _ => by omega⟩
        clear he
        go_wp2
        go_ret
        exact ⟨_, rfl, HF.out, Below.refl _ _⟩
      · have hq := tx_no he
        have HN2 : Hid (s ∉ t.take (k + 1)) := by
          show _ ∉ _
          rw [HT.out, List.mem_append, List.mem_singleton]
          rintro (h | h)
          · exact HN.out h
          · exact he h.symm
        clear he
        go_wp2
        go_roundw
        case rel => exact ⟨k + 1, by omega, by go_num, by trivial, HN2⟩
        case measure => simp [intOf]; omega
    · have hke : k = t.length := by omega
      subst hke
      have HF : Hid (0 ≤ (-1 : Int) ↔ s ∈ t) := ⟨fun h => absurd h (by decide), fun h => absurd (by rw [List.take_length]; exact h) HN.out⟩
      go_wp2
      go_ret
      exact ⟨_, rfl, HF.out, Below.refl _ _⟩

/-- The first place of a pair, -1 where there is none. -/
def IsFst (L : List S_Pair) (a b : Int) (i : Int) : Prop := (∃ k : Nat, i = (k : Int) ∧ ∃ h : k < L.length, (L[k].f0 = a ∧ L[k].f1 = b) ∧ ∀ q, q < k → ∀ h' : q < L.length, ¬ (L[q].f0 = a ∧ L[q].f1 = b)) ∨ (i = -1 ∧ ∀ q, ∀ h' : q < L.length, ¬ (L[q].f0 = a ∧ L[q].f1 = b))

theorem isFst_one {L : List S_Pair} {a b i j : Int} (h1 : IsFst L a b i) (h2 : IsFst L a b j) : i = j := by
  rcases h1 with ⟨k, rfl, hk, e1, n1⟩ | ⟨rfl, n1⟩
  · rcases h2 with ⟨m, rfl, hm, e2, n2⟩ | ⟨rfl, n2⟩
    · rcases Nat.lt_trichotomy k m with h | h | h
      · exact absurd e1 (n2 k h hk)
      · rw [h]
      · exact absurd e2 (n1 m h hm)
    · exact absurd e1 (n2 k hk)
  · rcases h2 with ⟨m, rfl, hm, e2, n2⟩ | ⟨rfl, n2⟩
    · exact absurd e2 (n1 m hm)
    · rfl

set_option maxRecDepth 20000 in
set_option maxHeartbeats 4000000 in
theorem placeP_c (L : List S_Pair) (v : Value) (a b : Int) (w : World) (hn : L.length ≤ 1048576) (hr : RowR w v L.length 2 (rPair L)) :
    Calls Try.prog 88 #[v, .agg #[.int .i64 a, .int .i64 b]] w fun e w' => ∃ i : Int, e = .returned (.int .i64 i) ∧ IsFst L a b i ∧ Below w.heap.size w w' := by
  have hn' : (L.length : Int) ≤ 1048576 := by omega
  have HR : Hid (RowR w v L.length 2 (rPair L)) := hr
  obtain ⟨p, cap, hv⟩ : ∃ p cap, v = .slice p L.length cap := by obtain ⟨_, p, cap, hv, _⟩ := hr; exact ⟨p, cap, hv⟩
  subst hv
  obtain ⟨W0, hW0⟩ : ∃ W, W = w.alloc (.cells #[.int .i64 a, .int .i64 b] 88) := ⟨_, rfl⟩
  have HW0 : Hid (w.alloc (.cells #[.int .i64 a, .int .i64 b] 88) = W0) := hW0.symm
  have HZ0 : Hid (W0.heap.size = w.heap.size + 1) := by show _ = _; rw [hW0]; simp
  have HB0 : Hid (Below w.heap.size w W0) := by rw [hW0]; exact (Below.refl _ _).alloc (Nat.le_refl _) _
  have HX : Hid (∀ W', Below W0.heap.size W0 W' → W'.cell? ⟨w.heap.size, 0, none⟩ = some (.int .i64 a) ∧ W'.cell? ⟨w.heap.size, 1, none⟩ = some (.int .i64 b)) := fun W' hW => by
    have hk : W'.heap[w.heap.size]? = some (.cells #[.int .i64 a, .int .i64 b] 88) := by rw [hW.block _ (by rw [HZ0.out]; exact Nat.lt_succ_self _), hW0]; exact alloc_last _ _
    exact box2 hk
  clear hr hn hW0
  go_enter Try.func88, Try.ntmps88
  go_wp2_with fail
  rw [HW0.out]
  go_loopw [9] (fun iv wr => ∃ k : Nat, k ≤ L.length ∧ iv = .int .i64 (k : Int) ∧ Hid (Below W0.heap.size W0 wr) ∧ Hid (∀ q, q < k → ∀ h' : q < L.length, ¬ (L[q].f0 = a ∧ L[q].f1 = b))) (fun iv _ => L.length - (intOf iv).toNat)
  case atStart => exact ⟨0, Nat.zero_le _, rfl, Below.refl _ _, fun q hq => absurd hq (by omega)⟩
  case round =>
    obtain ⟨k, hk, rfl, HBr, HN⟩ := hrel
    obtain ⟨a0, a1⟩ := HX.out wr HBr.out
    have HB : Hid (Below w.heap.size w wr) := HB0.out.trans (HBr.out.mono (by rw [HZ0.out]; omega))
    by_cases hlt : k < L.length
    · have hlt' : (k : Int) < L.length := by omega
      obtain ⟨b', off, cap', hv, hb, hc⟩ := HR.out.some (by omega) (by decide)
      simp only [Value.slice.injEq, true_and] at hv
      obtain ⟨rfl, rfl⟩ := hv
      have c : ∀ q, q < 2 → wr.cell? ⟨b', off + (k * 2 + q), none⟩ = (cPair L[k])[q]? := fun q hq => by
        rw [HB.out.cell (by exact hb), hc (k * 2 + q) (by omega)]
        exact flat_at cPair 2 cPair_len L k q hlt hq
      have c0 : wr.cell? ⟨b', off + k * 2, none⟩ = some (.int .i64 (L[k]).f0) := by have := c 0 (by decide); rw [← Nat.add_assoc] at this; exact this
      have c1 : wr.cell? ⟨b', off + k * 2 + 1, none⟩ = some (.int .i64 (L[k]).f1) := by have := c 1 (by decide); rw [← Nat.add_assoc] at this; exact this
      have HT : Hid (∀ q, q < k + 1 → ∀ h' : q < L.length, (L[q].f0 = a ∧ L[q].f1 = b) → q = k) := fun q hq h' e => by
        rcases Nat.lt_succ_iff_lt_or_eq.1 hq with h | h
        · exact absurd e (HN.out q h h')
        · exact h
      have HK : Hid (k < L.length) := hlt
      have HXk : Hid ((∃ i : Int, i = (k : Int) ∧ (L[k].f0 = a ∧ L[k].f1 = b) → IsFst L a b (k : Int)) ∧ ((L[k].f0 = a ∧ L[k].f1 = b) → IsFst L a b (k : Int)) ∧ (¬ (L[k].f0 = a ∧ L[k].f1 = b) → ∀ q, q < k + 1 → ∀ h' : q < L.length, ¬ (L[q].f0 = a ∧ L[q].f1 = b))) :=
        ⟨⟨(k : Int), fun h => .inl ⟨k, rfl, hlt, h.2, HN.out⟩⟩, fun h => .inl ⟨k, rfl, hlt, h, HN.out⟩, fun h q hq h' e => by
          have := HT.out q hq h' e
          subst this
          exact h e⟩
      have HNW : Hid (Below W0.heap.size W0 (wr.alloc (.cells #[.int .i64 L[k].f0, .int .i64 L[k].f1] 88))) := HBr.out.alloc HBr.out.size _
      have HND : Hid (Below w.heap.size w (wr.alloc (.cells #[.int .i64 L[k].f0, .int .i64 L[k].f1] 88))) := HB.out.alloc HB.out.size _
      have hbw : b' < wr.heap.size := Nat.lt_of_lt_of_le hb HB.out.size
      have hww : w.heap.size < wr.heap.size := by have := HBr.out.size; rw [HZ0.out] at this; omega
      have hne : ¬ b' = wr.heap.size := by omega
      have hne' : ¬ w.heap.size = wr.heap.size := by omega
      clear c hc HT
      generalize L[k] = X at c0 c1 HNW HND HXk
      by_cases he : X.f0 = a ∧ X.f1 = b
      · have HF : Hid (IsFst L a b (k : Int)) := HXk.out.2.1 he
        have q0 : (X.f0 == a) = true := by simp [he.1]
        have q1 : (X.f1 == b) = true := by simp [he.2]
        clear he HXk
        go_wp2
        go_ret
        exact ⟨_, rfl, HF.out, HND.out⟩
      · have HN2 := HXk.out.2.2 he
        have HN3 : Hid (∀ q, q < k + 1 → ∀ h' : q < L.length, ¬ (L[q].f0 = a ∧ L[q].f1 = b)) := HN2
        by_cases h0 : X.f0 = a
        · have h1 : ¬ X.f1 = b := fun h1 => he ⟨h0, h1⟩
          have q0 : (X.f0 == a) = true := by simp [h0]
          have q1 : (X.f1 == b) = false := by simp [h1]
          clear h0 h1
          clear he HXk HN2
          go_wp2
          go_roundw
          case rel => exact ⟨k + 1, by omega, by go_num, HNW, HN3⟩
          case measure => simp [intOf]; omega
        · have q0 : (X.f0 == a) = false := by simp [h0]
          clear h0
          clear he HXk HN2
          go_wp2
          go_roundw
          case rel => exact ⟨k + 1, by omega, by go_num, HNW, HN3⟩
          case measure => simp [intOf]; omega
    · have hke : k = L.length := by omega
      have HF : Hid (IsFst L a b (-1)) := .inr ⟨rfl, fun q h' => HN.out q (by omega) h'⟩
      subst hke
      go_wp2
      go_ret
      exact ⟨_, rfl, HF.out, HB.out⟩

end Go.Proofs.Ytdggkcohidijcaa
