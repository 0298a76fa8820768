/- The contracts of what the exact laws hold Pair by. -/
import Derived.Test.YtdggkcohidijcaaMtWalk
namespace Go.Proofs.Ytdggkcohidijcaa
open Go.RowKit
set_option linter.unusedVariables false

structure S_Pair where
  f0 : Int
  f1 : Int

def cPair (x : S_Pair) : List Value := [.int .i64 x.f0, .int .i64 x.f1]

def rPair (L : List S_Pair) : List Value := L.flatMap cPair

def zPair (x : S_Pair) : Nat := 0

/-- No text in it is too long. -/
def sPair (x : S_Pair) : Prop := True

theorem cPair_len (x : S_Pair) : (cPair x).length = 2 := rfl

theorem rPair_len (L : List S_Pair) : (rPair L).length = L.length * 2 := flat_length cPair 2 cPair_len L

set_option maxRecDepth 20000 in
set_option maxHeartbeats 1000000 in
theorem toPair_c (x : S_Pair) (w : World) :
    Calls Try.prog 80 #[.agg #[.int .i64 x.f0, .int .i64 x.f1]] w fun e w' => e = .returned (.agg #[.int .i64 x.f0, .int .i64 x.f1]) ∧ Below w.heap.size w w' := by
  go_enter Try.func80, Try.ntmps80
  go_wp2
  exact bodyPost_ret (v := .agg #[.int .i64 x.f0, .int .i64 x.f1]) (by simp [results, Try.results80, go_sem]) rfl ⟨rfl, (((Below.refl _ _).alloc (Nat.le_refl _) _).alloc (by simp) _).alloc (by simp; omega) _⟩

set_option maxRecDepth 20000 in
set_option maxHeartbeats 1000000 in
theorem eqPair_c (x : S_Pair) (w : World) :
    Calls Try.prog 81 #[.agg #[.int .i64 x.f0, .int .i64 x.f1], .agg #[.int .i64 x.f0, .int .i64 x.f1]] w fun e w' => e = .returned (.bool true) ∧ Below w.heap.size w w' := by
  go_enter Try.func81, Try.ntmps81
  go_wp2
  go_ret
  exact ⟨rfl, ((Below.refl _ _).alloc (Nat.le_refl _) _).alloc (by simp) _⟩

theorem zsum_zeroP (L : List S_Pair) : ∀ n, zsum zPair L n = 0
  | 0 => rfl
  | n + 1 => by
    have h := zsum_zeroP L n
    show zsum zPair L n + ((L[n]?).map zPair).getD 0 = 0
    rw [h]
    cases L[n]? <;> rfl

set_option maxRecDepth 20000 in
set_option maxHeartbeats 2000000 in
theorem szPairS_c (v : Value) (L : List S_Pair) (left : Int) (w : World) (h0 : 0 ≤ left) (h1 : left ≤ 1048576) (hn : L.length ≤ maxLen) (hz : ∀ x ∈ L, sPair x) (hr : RowR w v L.length 2 (rPair L)) :
    Calls Try.prog 55 #[v, .int .i64 left] w fun e w' => e = .returned (.int .i64 (szF (L.length + zsum zPair L L.length) left)) ∧ Below w.heap.size w w' := by
  have hn' : (L.length : Int) ≤ 9223372036854775807 := by unfold maxLen at hn; omega
  rw [zsum_zeroP, Nat.add_zero]
  obtain ⟨p, cap, hv⟩ : ∃ p cap, v = .slice p L.length cap := by obtain ⟨_, p, cap, hv, _⟩ := hr; exact ⟨p, cap, hv⟩
  subst hv
  clear hr hz hn
  generalize L.length = n at hn' ⊢
  by_cases hlen : (n : Int) ≤ left
  · have HF : Hid (szF n left = left - n) := szF_yes _ _ hlen
    go_enter Try.func55, Try.ntmps55
    go_wp2
    go_ret
    exact ⟨by rw [HF.out]; rfl, Below.refl _ _⟩
  · have HF : Hid (szF n left = -1) := szF_no _ _ hlen
    go_enter Try.func55, Try.ntmps55
    go_wp2
    go_ret
    exact ⟨by rw [HF.out]; rfl, Below.refl _ _⟩

theorem infoPair : (Try.prog.info? 88).map (fun i => (i.zero, i.size, i.bytes)) = some (some (.agg #[.int .i64 0, .int .i64 0]), 2, 16) := by kernel_rfl

theorem sizePair : (Try.prog.info? 88).map (·.size) = some 2 := by kernel_rfl

set_option maxRecDepth 20000 in
set_option maxHeartbeats 2000000 in
theorem toPairS_c (v : Value) (L : List S_Pair) (w : World) (hn : L.length ≤ 1048576) (hr : RowR w v L.length 2 (rPair L)) :
    Calls Try.prog 57 #[v] w fun e w' => ∃ v', e = .returned v' ∧ w'.ownsRow w.heap.size 88 2 v' L.length (rPair L) ∧ Below w.heap.size w w' := by
  obtain ⟨i0, hi, hz0, hz1, hz2⟩ := info_parts infoPair
  have hn' : (L.length : Int) ≤ 1048576 := by omega
  have HR : Hid (RowR w v L.length 2 (rPair L)) := hr
  obtain ⟨p, cap, hv⟩ : ∃ p cap, v = .slice p L.length cap := by obtain ⟨_, p, cap, hv, _⟩ := hr; exact ⟨p, cap, hv⟩
  subst hv
  clear hr
  go_enter Try.func57, Try.ntmps57
  go_wp2_with (first | (at_make; refine wpList_make_full _ rfl _ _ 24 rfl w.heap.size 88 i0 (.agg #[.int .i64 0, .int .i64 0]) 2 Try.underlying24 hi hz0 hz1 .i64 .i64 L.length L.length L.length rfl rfl rfl rfl (by rw [hz2]; omega) (by unfold maxLen; omega) (Nat.le_refl _) ?_) | go_in)
  intro w0 hown0 hgrow0
  have hbel0 : Below w.heap.size w w0 := (Below.refl _ _).grown hgrow0 (Nat.le_refl _) (by simp)
  clear hgrow0
  go_wp2
  go_loopw [4] (fun i wr => ∃ k : Nat, k ≤ L.length ∧ i = .int .i64 (k : Int) ∧ Hid (∃ xs, wr.ownsRow w.heap.size 88 2 (.slice (some ⟨w.heap.size, 0, none⟩) L.length L.length) L.length xs ∧ xs.take (k * 2) = rPair (L.take k)) ∧ Hid (Below w.heap.size w wr)) (fun i _ => L.length - (intOf i).toNat)
  case atStart => exact ⟨0, Nat.zero_le _, rfl, ⟨_, hown0, by simp [rPair]⟩, hbel0⟩
  case round =>
    obtain ⟨k, hk, rfl, HO, HB⟩ := hrel
    by_cases hlt : k < L.length
    · have hlt' : (k : Int) < L.length := by omega
      obtain ⟨b, off, cap', hv, hb, hc⟩ := HR.out.some (by omega) (by decide)
      simp only [Value.slice.injEq, true_and] at hv
      obtain ⟨rfl, rfl⟩ := hv
      have c : ∀ q, q < 2 → wr.cell? ⟨b, off + (k * 2 + q), none⟩ = (cPair L[k])[q]? := fun q hq => by
        rw [HB.out.cell (by exact hb), hc (k * 2 + q) (by omega)]
        exact flat_at cPair 2 cPair_len L k q hlt hq
      have c0 : wr.cell? ⟨b, off + k * 2, none⟩ = some (.int .i64 (L[k]).f0) := by have := c 0 (by decide); rw [← Nat.add_assoc] at this; exact this
      have c1 : wr.cell? ⟨b, off + k * 2 + 1, none⟩ = some (.int .i64 (L[k]).f1) := by have := c 1 (by decide); rw [← Nat.add_assoc] at this; exact this
      clear c
      have HFT : Hid (rPair (L.take (k + 1)) = rPair (L.take k) ++ cPair L[k]) := flat_take cPair L k hlt
      clear hc
      generalize L[k] = X at c0 c1 HFT
      go_wp2_with fail
      refine (toPair_c X _).mono ?_
      rintro e w1 ⟨rfl, b1⟩
      obtain ⟨xs, hxo, hxt⟩ := HO.out
      have hown1 := own_bel hxo b1 (Nat.le_refl _)
      have HB1 : Hid (Below w.heap.size w w1) := HB.out.trans (b1.mono HB.out.size)
      obtain ⟨u0, s0⟩ := own_cell hown1 (k * 2) (by omega)
      have z0 := hown1.frozenAt (k * 2)
      obtain ⟨u1, s1⟩ := own_cell hown1 (k * 2 + 1) (by omega)
      have z1 := hown1.frozenAt (k * 2 + 1)
      have HO2 : Hid (∃ xs, ((w1.setCell ⟨w.heap.size, k * 2, none⟩ (.int .i64 X.f0)).setCell ⟨w.heap.size, k * 2 + 1, none⟩ (.int .i64 X.f1)).ownsRow w.heap.size 88 2 (.slice (some ⟨w.heap.size, 0, none⟩) L.length L.length) L.length xs ∧ xs.take ((k + 1) * 2) = rPair (L.take (k + 1))) := by
        refine ⟨_, own_setCells (cPair X) (k * 2) xs w1 hown1, ?_⟩
        have hl := hown1.1
        have := take_setN (cPair X) xs (k * 2) (by rw [cPair_len]; omega)
        rw [cPair_len] at this
        rw [show (k + 1) * 2 = k * 2 + 2 by omega, this, hxt, HFT.out]
      have HB2 : Hid (Below w.heap.size w ((w1.setCell ⟨w.heap.size, k * 2, none⟩ (.int .i64 X.f0)).setCell ⟨w.heap.size, k * 2 + 1, none⟩ (.int .i64 X.f1))) := bel_setCells (Nat.le_refl _) (cPair X) (k * 2) _ HB1.out
      clear hxo hxt hown1 b1 HO HB HB1 c0 c1
      go_wp2
      go_roundw
      case rel => exact ⟨k + 1, by omega, by go_num, HO2, HB2⟩
      case measure => simp [intOf]; omega
    · have hke : k = L.length := by omega
      subst hke
      have HF : Hid (wr.ownsRow w.heap.size 88 2 (.slice (some ⟨w.heap.size, 0, none⟩) L.length L.length) L.length (rPair L)) := by
        obtain ⟨xs, hxo, hxt⟩ := HO.out
        rw [List.take_length] at hxt
        rw [all_of_take hxo.1 hxt] at hxo
        exact hxo
      go_wp2
      go_ret
      exact ⟨_, rfl, HF.out, HB.out⟩

set_option maxRecDepth 20000 in
set_option maxHeartbeats 2000000 in
theorem eqPairS_c (v v2 : Value) (L : List S_Pair) (w : World) (hn : L.length ≤ 1048576) (hr : RowR w v L.length 2 (rPair L)) (hr2 : RowR w v2 L.length 2 (rPair L)) :
    Calls Try.prog 58 #[v, v2] w fun e w' => e = .returned (.bool true) ∧ Below w.heap.size w w' := by
  have hn' : (L.length : Int) ≤ 1048576 := by omega
  have HR : Hid (RowR w v L.length 2 (rPair L)) := hr
  have HR2 : Hid (RowR w v2 L.length 2 (rPair L)) := hr2
  obtain ⟨p, cap, hv⟩ : ∃ p cap, v = .slice p L.length cap := by obtain ⟨_, p, cap, hv, _⟩ := hr; exact ⟨p, cap, hv⟩
  obtain ⟨p2, cap2, hv2⟩ : ∃ p cap, v2 = .slice p L.length cap := by obtain ⟨_, p, cap, hv, _⟩ := hr2; exact ⟨p, cap, hv⟩
  subst hv
  subst hv2
  clear hr hr2
  go_enter Try.func58, Try.ntmps58
  go_wp2
  go_loopw [5] (fun i wr => ∃ k : Nat, k ≤ L.length ∧ i = .int .i64 (k : Int) ∧ Hid (Below w.heap.size w wr)) (fun i _ => L.length - (intOf i).toNat)
  case atStart => exact ⟨0, Nat.zero_le _, rfl, Below.refl _ _⟩
  case round =>
    obtain ⟨k, hk, rfl, HB⟩ := hrel
    by_cases hlt : k < L.length
    · have hlt' : (k : Int) < L.length := by omega
      obtain ⟨b, off, cap', hv, hb, hc⟩ := HR.out.some (by omega) (by decide)
      simp only [Value.slice.injEq, true_and] at hv
      obtain ⟨rfl, rfl⟩ := hv
      obtain ⟨b2, off2, cap', hv, hb2, hc2⟩ := HR2.out.some (by omega) (by decide)
      simp only [Value.slice.injEq, true_and] at hv
      obtain ⟨rfl, rfl⟩ := hv
      have c : ∀ q, q < 2 → wr.cell? ⟨b, off + (k * 2 + q), none⟩ = (cPair L[k])[q]? := fun q hq => by
        rw [HB.out.cell (by exact hb), hc (k * 2 + q) (by omega)]
        exact flat_at cPair 2 cPair_len L k q hlt hq
      have c0 : wr.cell? ⟨b, off + k * 2, none⟩ = some (.int .i64 (L[k]).f0) := by have := c 0 (by decide); rw [← Nat.add_assoc] at this; exact this
      have c1 : wr.cell? ⟨b, off + k * 2 + 1, none⟩ = some (.int .i64 (L[k]).f1) := by have := c 1 (by decide); rw [← Nat.add_assoc] at this; exact this
      clear c
      have c : ∀ q, q < 2 → wr.cell? ⟨b2, off2 + (k * 2 + q), none⟩ = (cPair L[k])[q]? := fun q hq => by
        rw [HB.out.cell (by exact hb2), hc2 (k * 2 + q) (by omega)]
        exact flat_at cPair 2 cPair_len L k q hlt hq
      have d0 : wr.cell? ⟨b2, off2 + k * 2, none⟩ = some (.int .i64 (L[k]).f0) := by have := c 0 (by decide); rw [← Nat.add_assoc] at this; exact this
      have d1 : wr.cell? ⟨b2, off2 + k * 2 + 1, none⟩ = some (.int .i64 (L[k]).f1) := by have := c 1 (by decide); rw [← Nat.add_assoc] at this; exact this
      clear c
      clear hc hc2
      generalize L[k] = X at c0 c1 d0 d1
      go_wp2
      refine wp_region_any (by kernel_rfl) ?_
      refine wpAny_take (i := 0) (v := ?_) rfl (by kernel_rfl) (by kernel_rfl) (by kernel_rfl) (fun _ _ _ h => h) (Or.inl ⟨by rfl, ?_⟩) ?_
      rotate_left
      · (intro W; go_simp; try with_reducible rfl)
      simp only [Act.put, List.setIfInBounds_toArray, List.set_cons_zero, List.set_cons_succ, List.getElem_toArray, List.getElem_cons_zero]
      refine wpAny_take (i := 1) (v := ?_) rfl (by kernel_rfl) (by kernel_rfl) (by kernel_rfl) (fun _ _ _ h => h) (Or.inl ⟨by rfl, ?_⟩) ?_
      rotate_left
      · (intro W; go_simp; try with_reducible rfl)
      simp only [Act.put, List.setIfInBounds_toArray, List.set_cons_zero, List.set_cons_succ, List.getElem_toArray, List.getElem_cons_zero, List.getElem_cons_succ]
      refine wpAny_take (i := 2) (v := ?_) rfl (by kernel_rfl) (by kernel_rfl) (by kernel_rfl) (fun _ _ _ h => h) (Or.inl ⟨by rfl, ?_⟩) ?_
      rotate_left
      · (intro W; go_simp; try with_reducible rfl)
      simp only [Act.put, List.setIfInBounds_toArray, List.set_cons_zero, List.set_cons_succ, List.getElem_toArray, List.getElem_cons_zero, List.getElem_cons_succ]
      refine wpAny_take (i := 4) (v := ?_) rfl (by kernel_rfl) (by kernel_rfl) (by kernel_rfl) (fun _ _ _ h => h) (Or.inl ⟨by rfl, ?_⟩) ?_
      rotate_left
      · (intro W; go_simp; try with_reducible rfl)
      simp only [Act.put, List.setIfInBounds_toArray, List.set_cons_zero, List.set_cons_succ, List.getElem_toArray, List.getElem_cons_zero, List.getElem_cons_succ]
      refine wpAny_take (i := 5) (v := ?_) rfl (by kernel_rfl) (by kernel_rfl) (by kernel_rfl) (fun _ _ _ h => h) (Or.inl ⟨by rfl, ?_⟩) ?_
      rotate_left
      · (intro W; go_simp; try with_reducible rfl)
      simp only [Act.put, List.setIfInBounds_toArray, List.set_cons_zero, List.set_cons_succ, List.getElem_toArray, List.getElem_cons_zero, List.getElem_cons_succ]
      refine wpAny_take (i := 6) (v := ?_) rfl (by kernel_rfl) (by kernel_rfl) (by kernel_rfl) (fun _ _ _ h => h) (Or.inl ⟨by rfl, ?_⟩) ?_
      rotate_left
      · (intro W; go_simp; try with_reducible rfl)
      simp only [Act.put, List.setIfInBounds_toArray, List.set_cons_zero, List.set_cons_succ, List.getElem_toArray, List.getElem_cons_zero, List.getElem_cons_succ]
      refine wpAny_ready (rs := [3, 7]) (by kernel_rfl) (by simp) ?_
      refine AllReady.cons rfl (fun K hK => ?_) (AllReady.cons rfl (fun K hK => ?_) AllReady.nil)
      · go_simp
        refine hK _ _ ?_
        clear hK K
        refine wpAny_ready (rs := [7]) (by kernel_rfl) (by simp) ?_
        refine AllReady.cons rfl (fun K hK => ?_) AllReady.nil
        go_simp
        refine hK _ _ ?_
        clear hK K
        refine wpAny_ready (rs := [8]) (by kernel_rfl) (by simp) ?_
        refine AllReady.cons rfl (fun K hK => ?_) AllReady.nil
        go_simp
        refine (eqPair_c X _).mono ?_
        rintro e w1 ⟨rfl, b1⟩
        refine hK _ _ ?_
        clear hK K
        refine wpAny_take (i := 9) (v := ?_) rfl (by kernel_rfl) (by kernel_rfl) (by kernel_rfl) (fun _ _ _ h => h) (Or.inl ⟨by rfl, ?_⟩) ?_
        rotate_left
        · (intro W; go_simp; try with_reducible rfl)
        simp only [Act.put, List.setIfInBounds_toArray, List.set_cons_zero, List.set_cons_succ, List.getElem_toArray, List.getElem_cons_zero, List.getElem_cons_succ]
        refine wpAny_done (by kernel_rfl) ?_ _
        have HB1 : Hid (Below w.heap.size w w1) := (HB.out.drew).trans (b1.mono HB.out.size)
        clear b1
        go_wp2
        go_roundw
        case rel => exact ⟨k + 1, by omega, by go_num, HB1⟩
        case measure => simp [intOf]; omega
      · go_simp
        refine hK _ _ ?_
        clear hK K
        refine wpAny_ready (rs := [3]) (by kernel_rfl) (by simp) ?_
        refine AllReady.cons rfl (fun K hK => ?_) AllReady.nil
        go_simp
        refine hK _ _ ?_
        clear hK K
        refine wpAny_ready (rs := [8]) (by kernel_rfl) (by simp) ?_
        refine AllReady.cons rfl (fun K hK => ?_) AllReady.nil
        go_simp
        refine (eqPair_c X _).mono ?_
        rintro e w1 ⟨rfl, b1⟩
        refine hK _ _ ?_
        clear hK K
        refine wpAny_take (i := 9) (v := ?_) rfl (by kernel_rfl) (by kernel_rfl) (by kernel_rfl) (fun _ _ _ h => h) (Or.inl ⟨by rfl, ?_⟩) ?_
        rotate_left
        · (intro W; go_simp; try with_reducible rfl)
        simp only [Act.put, List.setIfInBounds_toArray, List.set_cons_zero, List.set_cons_succ, List.getElem_toArray, List.getElem_cons_zero, List.getElem_cons_succ]
        refine wpAny_done (by kernel_rfl) ?_ _
        have HB1 : Hid (Below w.heap.size w w1) := (HB.out.drew).trans (b1.mono HB.out.size)
        clear b1
        go_wp2
        go_roundw
        case rel => exact ⟨k + 1, by omega, by go_num, HB1⟩
        case measure => simp [intOf]; omega
    · have hke : k = L.length := by omega
      subst hke
      go_wp2
      go_ret
      exact ⟨rfl, HB.out⟩

/-- The cells of element i, marked from k on. -/
def mPair (k : Int) (i : Nat) : List Value := [.int .i64 (k + ((i * 2 : Nat) : Int)), .int .i64 (k + ((i * 2 : Nat) : Int) + 1)]

def mPairs (k : Int) (n : Nat) : List Value := (List.range n).flatMap (mPair k)

theorem mPairs_len (k : Int) (n : Nat) : (mPairs k n).length = n * 2 := by
  have := flat_length (mPair k) 2 (fun _ => rfl) (List.range n)
  rwa [List.length_range] at this

theorem mPairs_at (k : Int) (n i q : Nat) (hi : i < n) (hq : q < 2) : (mPairs k n)[i * 2 + q]? = (mPair k i)[q]? := by
  have := flat_at (mPair k) 2 (fun _ => rfl) (List.range n) i q (by simpa using hi) hq
  rw [List.getElem_range] at this
  exact this

set_option maxRecDepth 20000 in
set_option maxHeartbeats 2000000 in
theorem markPairS_c (v : Value) (L : List S_Pair) (k0 : Int) (base : Nat) (w : World) (hn : L.length ≤ 1048576) (hk0 : 0 < k0) (hk1 : k0 ≤ 100000000) (hb : base ≤ w.heap.size) (h : w.ownsRow base 88 2 v L.length (rPair L)) :
    Calls Try.prog 59 #[v, .int .i64 k0] w fun e w' => e = .returned (.int .i64 (k0 + ((L.length * 2 : Nat) : Int))) ∧ w'.ownsRow base 88 2 v L.length (mPairs k0 L.length) ∧ ButV v w w' := by
  have hn' : (L.length : Int) ≤ 1048576 := by omega
  rcases Nat.eq_zero_or_pos L.length with hl | hl
  · have HO : Hid (w.ownsRow base 88 2 v L.length (mPairs k0 L.length)) := by
      have e1 : rPair L = [] := List.eq_nil_of_length_eq_zero (by rw [rPair_len, hl, Nat.zero_mul])
      have e2 : mPairs k0 L.length = [] := List.eq_nil_of_length_eq_zero (by rw [mPairs_len, hl, Nat.zero_mul])
      show World.ownsRow _ _ _ _ _ _ _
      rw [e2, ← e1]; exact h
    obtain ⟨p, cap, hv⟩ : ∃ p cap, v = .slice p 0 cap := by obtain ⟨_, p, cap, hv, _⟩ := RowR.own h; rw [hl] at hv; exact ⟨p, cap, hv⟩
    subst hv
    have HE : Hid (k0 + ((L.length * 2 : Nat) : Int) = k0) := by show _ = _; omega
    clear h hl
    go_enter Try.func59, Try.ntmps59
    go_wp2
    go_loopw [1, 5] (fun m i wr => m = .int .i64 k0 ∧ i = .int .i64 0 ∧ wr = w) (fun _ _ _ => 0)
    case atStart => exact ⟨rfl, rfl, rfl⟩
    case round =>
      obtain ⟨rfl, rfl, rfl⟩ := hrel
      go_wp2
      go_ret
      exact ⟨by rw [HE.out]; rfl, HO.out, Or.inl rfl⟩
  · obtain ⟨g, cap, hv, hbg⟩ : ∃ g cap, v = .slice (some ⟨g, 0, none⟩) L.length cap ∧ base ≤ g := by
      obtain ⟨_, ⟨_, h2⟩ | ⟨g, cap, cur, h2, h3, _⟩⟩ := h
      · omega
      · exact ⟨g, cap, h2, h3⟩
    subst hv
    have HM : Hid (Mkd w base 88 2 (.slice (some ⟨g, 0, none⟩) L.length cap) L.length (mPairs k0 L.length) (0 * 2)) := ⟨_, h, rfl⟩
    clear h
    go_enter Try.func59, Try.ntmps59
    go_wp2
    go_loopw [1, 5] (fun m i wr => ∃ k : Nat, k ≤ L.length ∧ i = .int .i64 (k : Int) ∧ m = .int .i64 (k0 + ((k * 2 : Nat) : Int)) ∧ Hid (Mkd wr base 88 2 (.slice (some ⟨g, 0, none⟩) L.length cap) L.length (mPairs k0 L.length) (k * 2)) ∧ Hid (But g w wr)) (fun _ i _ => L.length - (intOf i).toNat)
    case atStart => exact ⟨0, Nat.zero_le _, rfl, by simp, HM, But.refl _ _⟩
    case round =>
      obtain ⟨k, hk, rfl, rfl, HR0, HB0⟩ := hrel
      have hsz := HB0.out.size
      by_cases hlt : k < L.length
      · have hlt' : (k : Int) < L.length := by omega
        have m0 : (mPairs k0 L.length)[k * 2]? = some (.int .i64 (k0 + ((k * 2 : Nat) : Int))) := mPairs_at k0 L.length k 0 hlt (by decide)
        have m1 : (mPairs k0 L.length)[k * 2 + 1]? = some (.int .i64 (k0 + ((k * 2 : Nat) : Int) + 1)) := mPairs_at k0 L.length k 1 hlt (by decide)
        obtain ⟨A, hA⟩ : ∃ A : Int, k0 + ((k * 2 : Nat) : Int) = A := ⟨_, rfl⟩
        have HAn : Hid (k0 + (((k + 1) * 2 : Nat) : Int) = A + 1 + 1) := by show _ = _; omega
        rw [hA] at m0 m1 ⊢
        have hA0 : 0 < A := by omega
        have hA1 : A ≤ 200000000 := by omega
        clear hA
        obtain ⟨⟨u0, c0⟩, z0⟩ := HR0.out.cell (k * 2) (by omega)
        obtain ⟨⟨u1, c1⟩, z1⟩ := HR0.out.cell (k * 2 + 1) (by omega)
        have HR1 : Hid (Mkd (wr.setCell ⟨g, k * 2, none⟩ (.int .i64 (A))) base 88 2 (.slice (some ⟨g, 0, none⟩) L.length cap) L.length (mPairs k0 L.length) (k * 2 + 1)) := HR0.out.set _ m0 (by omega)
        have HB1 : Hid (But g w (wr.setCell ⟨g, k * 2, none⟩ (.int .i64 (A)))) := HB0.out.setCell _
        clear HR0 HB0
        have HR2 : Hid (Mkd ((wr.setCell ⟨g, k * 2, none⟩ (.int .i64 (A))).setCell ⟨g, k * 2 + 1, none⟩ (.int .i64 (A + 1))) base 88 2 (.slice (some ⟨g, 0, none⟩) L.length cap) L.length (mPairs k0 L.length) (k * 2 + 2)) := HR1.out.set _ m1 (by omega)
        have HB2 : Hid (But g w ((wr.setCell ⟨g, k * 2, none⟩ (.int .i64 (A))).setCell ⟨g, k * 2 + 1, none⟩ (.int .i64 (A + 1)))) := HB1.out.setCell _
        clear HR1 HB1
        have HRe : Hid (Mkd ((wr.setCell ⟨g, k * 2, none⟩ (.int .i64 (A))).setCell ⟨g, k * 2 + 1, none⟩ (.int .i64 (A + 1))) base 88 2 (.slice (some ⟨g, 0, none⟩) L.length cap) L.length (mPairs k0 L.length) ((k + 1) * 2)) := by
          have := HR2.out
          rw [show (k + 1) * 2 = k * 2 + 2 by omega]
          exact this
        clear HR2
        go_wp2
        go_roundw
        case rel => exact ⟨k + 1, by omega, by go_num, by rw [HAn.out], HRe, HB2⟩
        case measure => simp [intOf]; omega
      · have hke : k = L.length := by omega
        subst hke
        have HF : Hid (wr.ownsRow base 88 2 (.slice (some ⟨g, 0, none⟩) L.length cap) L.length (mPairs k0 L.length)) := HR0.out.all (mPairs_len _ _)
        obtain ⟨Z, hZ⟩ : ∃ Z : Int, k0 + ((L.length * 2 : Nat) : Int) = Z := ⟨_, rfl⟩
        have HZ : Hid (k0 + ((L.length * 2 : Nat) : Int) = Z) := hZ
        rw [hZ]
        clear hZ
        go_wp2
        go_ret
        exact ⟨by rw [HZ.out]; rfl, HF.out, Or.inr ⟨g, rfl, HB0.out⟩⟩

end Go.Proofs.Ytdggkcohidijcaa
