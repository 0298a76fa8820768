/- The contracts of what the exact laws hold Entry by. -/
import Derived.Test.YthlokfcejojdhaaDoorMtWalk
namespace Go.Proofs.YthlokfcejojdhaaDoor
open Go.RowKit
set_option linter.unusedVariables false

structure S_Entry where
  f0 : Int
  f1 : ByteArray

def cEntry (x : S_Entry) : List Value := [.int .i64 x.f0, .string x.f1]

def rEntry (L : List S_Entry) : List Value := L.flatMap cEntry

def zEntry (x : S_Entry) : Nat := x.f1.size

/-- No text in it is too long. -/
def sEntry (x : S_Entry) : Prop := x.f1.size ≤ maxLen

theorem cEntry_len (x : S_Entry) : (cEntry x).length = 2 := rfl

theorem rEntry_len (L : List S_Entry) : (rEntry L).length = L.length * 2 := flat_length cEntry 2 cEntry_len L

set_option maxRecDepth 20000 in
set_option maxHeartbeats 1000000 in
theorem eqEntry_c (x : S_Entry) (w : World) :
    Calls Tryd.prog 59 #[.agg #[.int .i64 x.f0, .string x.f1], .agg #[.int .i64 x.f0, .string x.f1]] w fun e w' => e = .returned (.bool true) ∧ Below w.heap.size w w' := by
  go_enter Tryd.func59, Tryd.ntmps59
  go_wp2
  go_ret
  exact ⟨rfl, ((Below.refl _ _).alloc (Nat.le_refl _) _).alloc (by simp) _⟩

theorem infoEntry : (Tryd.prog.info? 63).map (fun i => (i.zero, i.size, i.bytes)) = some (some (.agg #[.int .i64 0, .string ⟨#[]⟩]), 2, 24) := by kernel_rfl

theorem sizeEntry : (Tryd.prog.info? 63).map (·.size) = some 2 := by kernel_rfl

set_option maxRecDepth 20000 in
set_option maxHeartbeats 2000000 in
theorem eqEntryS_c (v v2 : Value) (L : List S_Entry) (w : World) (hn : L.length ≤ 1048576) (hr : RowR w v L.length 2 (rEntry L)) (hr2 : RowR w v2 L.length 2 (rEntry L)) :
    Calls Tryd.prog 33 #[v, v2] w fun e w' => e = .returned (.bool true) ∧ Below w.heap.size w w' := by
  have hn' : (L.length : Int) ≤ 1048576 := by omega
  have HR : Hid (RowR w v L.length 2 (rEntry L)) := hr
  have HR2 : Hid (RowR w v2 L.length 2 (rEntry L)) := hr2
  obtain ⟨p, cap, hv⟩ : ∃ p cap, v = .slice p L.length cap := by obtain ⟨_, p, cap, hv, _⟩ := hr; exact ⟨p, cap, hv⟩
  obtain ⟨p2, cap2, hv2⟩ : ∃ p cap, v2 = .slice p L.length cap := by obtain ⟨_, p, cap, hv, _⟩ := hr2; exact ⟨p, cap, hv⟩
  subst hv
  subst hv2
  clear hr hr2
  go_enter Tryd.func33, Tryd.ntmps33
  go_wp2
  go_loopw [5] (fun i wr => ∃ k : Nat, k ≤ L.length ∧ i = .int .i64 (k : Int) ∧ Hid (Below w.heap.size w wr)) (fun i _ => L.length - (intOf i).toNat)
  case atStart => exact ⟨0, Nat.zero_le _, rfl, Below.refl _ _⟩
  case round =>
    obtain ⟨k, hk, rfl, HB⟩ := hrel
    by_cases hlt : k < L.length
    · have hlt' : (k : Int) < L.length := by omega
      obtain ⟨b, off, cap', hv, hb, hc⟩ := HR.out.some (by omega) (by decide)
      simp only [Value.slice.injEq, true_and] at hv
      obtain ⟨rfl, rfl⟩ := hv
      obtain ⟨b2, off2, cap', hv, hb2, hc2⟩ := HR2.out.some (by omega) (by decide)
      simp only [Value.slice.injEq, true_and] at hv
      obtain ⟨rfl, rfl⟩ := hv
      have c : ∀ q, q < 2 → wr.cell? ⟨b, off + (k * 2 + q), none⟩ = (cEntry L[k])[q]? := fun q hq => by
        rw [HB.out.cell (by exact hb), hc (k * 2 + q) (by omega)]
        exact flat_at cEntry 2 cEntry_len L k q hlt hq
      have c0 : wr.cell? ⟨b, off + k * 2, none⟩ = some (.int .i64 (L[k]).f0) := by have := c 0 (by decide); rw [← Nat.add_assoc] at this; exact this
      have c1 : wr.cell? ⟨b, off + k * 2 + 1, none⟩ = some (.string (L[k]).f1) := by have := c 1 (by decide); rw [← Nat.add_assoc] at this; exact this
      clear c
      have c : ∀ q, q < 2 → wr.cell? ⟨b2, off2 + (k * 2 + q), none⟩ = (cEntry L[k])[q]? := fun q hq => by
        rw [HB.out.cell (by exact hb2), hc2 (k * 2 + q) (by omega)]
        exact flat_at cEntry 2 cEntry_len L k q hlt hq
      have d0 : wr.cell? ⟨b2, off2 + k * 2, none⟩ = some (.int .i64 (L[k]).f0) := by have := c 0 (by decide); rw [← Nat.add_assoc] at this; exact this
      have d1 : wr.cell? ⟨b2, off2 + k * 2 + 1, none⟩ = some (.string (L[k]).f1) := by have := c 1 (by decide); rw [← Nat.add_assoc] at this; exact this
      clear c
      clear hc hc2
      generalize L[k] = X at c0 c1 d0 d1
      go_wp2
      refine wp_region_any (by kernel_rfl) ?_
      refine wpAny_take (i := 0) (v := ?_) rfl (by kernel_rfl) (by kernel_rfl) (by kernel_rfl) (fun _ _ _ h => h) (Or.inl ⟨by rfl, ?_⟩) ?_
      rotate_left
      · (intro W; go_simp; try with_reducible rfl)
      simp only [Act.put, List.setIfInBounds_toArray, List.set_cons_zero, List.set_cons_succ, List.getElem_toArray, List.getElem_cons_zero]
      refine wpAny_take (i := 1) (v := ?_) rfl (by kernel_rfl) (by kernel_rfl) (by kernel_rfl) (fun _ _ _ h => h) (Or.inl ⟨by rfl, ?_⟩) ?_
      rotate_left
      · (intro W; go_simp; try with_reducible rfl)
      simp only [Act.put, List.setIfInBounds_toArray, List.set_cons_zero, List.set_cons_succ, List.getElem_toArray, List.getElem_cons_zero, List.getElem_cons_succ]
      refine wpAny_take (i := 2) (v := ?_) rfl (by kernel_rfl) (by kernel_rfl) (by kernel_rfl) (fun _ _ _ h => h) (Or.inl ⟨by rfl, ?_⟩) ?_
      rotate_left
      · (intro W; go_simp; try with_reducible rfl)
      simp only [Act.put, List.setIfInBounds_toArray, List.set_cons_zero, List.set_cons_succ, List.getElem_toArray, List.getElem_cons_zero, List.getElem_cons_succ]
      refine wpAny_take (i := 4) (v := ?_) rfl (by kernel_rfl) (by kernel_rfl) (by kernel_rfl) (fun _ _ _ h => h) (Or.inl ⟨by rfl, ?_⟩) ?_
      rotate_left
      · (intro W; go_simp; try with_reducible rfl)
      simp only [Act.put, List.setIfInBounds_toArray, List.set_cons_zero, List.set_cons_succ, List.getElem_toArray, List.getElem_cons_zero, List.getElem_cons_succ]
      refine wpAny_take (i := 5) (v := ?_) rfl (by kernel_rfl) (by kernel_rfl) (by kernel_rfl) (fun _ _ _ h => h) (Or.inl ⟨by rfl, ?_⟩) ?_
      rotate_left
      · (intro W; go_simp; try with_reducible rfl)
      simp only [Act.put, List.setIfInBounds_toArray, List.set_cons_zero, List.set_cons_succ, List.getElem_toArray, List.getElem_cons_zero, List.getElem_cons_succ]
      refine wpAny_take (i := 6) (v := ?_) rfl (by kernel_rfl) (by kernel_rfl) (by kernel_rfl) (fun _ _ _ h => h) (Or.inl ⟨by rfl, ?_⟩) ?_
      rotate_left
      · (intro W; go_simp; try with_reducible rfl)
      simp only [Act.put, List.setIfInBounds_toArray, List.set_cons_zero, List.set_cons_succ, List.getElem_toArray, List.getElem_cons_zero, List.getElem_cons_succ]
      refine wpAny_ready (rs := [3, 7]) (by kernel_rfl) (by simp) ?_
      refine AllReady.cons rfl (fun K hK => ?_) (AllReady.cons rfl (fun K hK => ?_) AllReady.nil)
      · go_simp
        refine hK _ _ ?_
        clear hK K
        refine wpAny_ready (rs := [7]) (by kernel_rfl) (by simp) ?_
        refine AllReady.cons rfl (fun K hK => ?_) AllReady.nil
        go_simp
        refine hK _ _ ?_
        clear hK K
        refine wpAny_ready (rs := [8]) (by kernel_rfl) (by simp) ?_
        refine AllReady.cons rfl (fun K hK => ?_) AllReady.nil
        go_simp
        refine (eqEntry_c X _).mono ?_
        rintro e w1 ⟨rfl, b1⟩
        refine hK _ _ ?_
        clear hK K
        refine wpAny_take (i := 9) (v := ?_) rfl (by kernel_rfl) (by kernel_rfl) (by kernel_rfl) (fun _ _ _ h => h) (Or.inl ⟨by rfl, ?_⟩) ?_
        rotate_left
        · (intro W; go_simp; try with_reducible rfl)
        simp only [Act.put, List.setIfInBounds_toArray, List.set_cons_zero, List.set_cons_succ, List.getElem_toArray, List.getElem_cons_zero, List.getElem_cons_succ]
        refine wpAny_done (by kernel_rfl) ?_ _
        have HB1 : Hid (Below w.heap.size w w1) := (HB.out.drew).trans (b1.mono HB.out.size)
        clear b1
        go_wp2
        go_roundw
        case rel => exact ⟨k + 1, by omega, by go_num, HB1⟩
        case measure => simp [intOf]; omega
      · go_simp
        refine hK _ _ ?_
        clear hK K
        refine wpAny_ready (rs := [3]) (by kernel_rfl) (by simp) ?_
        refine AllReady.cons rfl (fun K hK => ?_) AllReady.nil
        go_simp
        refine hK _ _ ?_
        clear hK K
        refine wpAny_ready (rs := [8]) (by kernel_rfl) (by simp) ?_
        refine AllReady.cons rfl (fun K hK => ?_) AllReady.nil
        go_simp
        refine (eqEntry_c X _).mono ?_
        rintro e w1 ⟨rfl, b1⟩
        refine hK _ _ ?_
        clear hK K
        refine wpAny_take (i := 9) (v := ?_) rfl (by kernel_rfl) (by kernel_rfl) (by kernel_rfl) (fun _ _ _ h => h) (Or.inl ⟨by rfl, ?_⟩) ?_
        rotate_left
        · (intro W; go_simp; try with_reducible rfl)
        simp only [Act.put, List.setIfInBounds_toArray, List.set_cons_zero, List.set_cons_succ, List.getElem_toArray, List.getElem_cons_zero, List.getElem_cons_succ]
        refine wpAny_done (by kernel_rfl) ?_ _
        have HB1 : Hid (Below w.heap.size w w1) := (HB.out.drew).trans (b1.mono HB.out.size)
        clear b1
        go_wp2
        go_roundw
        case rel => exact ⟨k + 1, by omega, by go_num, HB1⟩
        case measure => simp [intOf]; omega
    · have hke : k = L.length := by omega
      subst hke
      go_wp2
      go_ret
      exact ⟨rfl, HB.out⟩

/-- The cells of element i, marked from k on. -/
def mEntry (k : Int) (i : Nat) : List Value := [.int .i64 (k + ((i * 2 : Nat) : Int)), .string (mt (k + ((i * 2 : Nat) : Int) + 1))]

def mEntrys (k : Int) (n : Nat) : List Value := (List.range n).flatMap (mEntry k)

theorem mEntrys_len (k : Int) (n : Nat) : (mEntrys k n).length = n * 2 := by
  have := flat_length (mEntry k) 2 (fun _ => rfl) (List.range n)
  rwa [List.length_range] at this

theorem mEntrys_at (k : Int) (n i q : Nat) (hi : i < n) (hq : q < 2) : (mEntrys k n)[i * 2 + q]? = (mEntry k i)[q]? := by
  have := flat_at (mEntry k) 2 (fun _ => rfl) (List.range n) i q (by simpa using hi) hq
  rw [List.getElem_range] at this
  exact this

set_option maxRecDepth 20000 in
set_option maxHeartbeats 2000000 in
theorem markEntryS_c (v : Value) (L : List S_Entry) (k0 : Int) (base : Nat) (w : World) (hn : L.length ≤ 1048576) (hk0 : 0 < k0) (hk1 : k0 ≤ 100000000) (hb : base ≤ w.heap.size) (h : w.ownsRow base 63 2 v L.length (rEntry L)) :
    Calls Tryd.prog 34 #[v, .int .i64 k0] w fun e w' => e = .returned (.int .i64 (k0 + ((L.length * 2 : Nat) : Int))) ∧ w'.ownsRow base 63 2 v L.length (mEntrys k0 L.length) ∧ ButV v w w' := by
  have hn' : (L.length : Int) ≤ 1048576 := by omega
  rcases Nat.eq_zero_or_pos L.length with hl | hl
  · have HO : Hid (w.ownsRow base 63 2 v L.length (mEntrys k0 L.length)) := by
      have e1 : rEntry L = [] := List.eq_nil_of_length_eq_zero (by rw [rEntry_len, hl, Nat.zero_mul])
      have e2 : mEntrys k0 L.length = [] := List.eq_nil_of_length_eq_zero (by rw [mEntrys_len, hl, Nat.zero_mul])
      show World.ownsRow _ _ _ _ _ _ _
      rw [e2, ← e1]; exact h
    obtain ⟨p, cap, hv⟩ : ∃ p cap, v = .slice p 0 cap := by obtain ⟨_, p, cap, hv, _⟩ := RowR.own h; rw [hl] at hv; exact ⟨p, cap, hv⟩
    subst hv
    have HE : Hid (k0 + ((L.length * 2 : Nat) : Int) = k0) := by show _ = _; omega
    clear h hl
    go_enter Tryd.func34, Tryd.ntmps34
    go_wp2
    go_loopw [1, 5] (fun m i wr => m = .int .i64 k0 ∧ i = .int .i64 0 ∧ wr = w) (fun _ _ _ => 0)
    case atStart => exact ⟨rfl, rfl, rfl⟩
    case round =>
      obtain ⟨rfl, rfl, rfl⟩ := hrel
      go_wp2
      go_ret
      exact ⟨by rw [HE.out]; rfl, HO.out, Or.inl rfl⟩
  · obtain ⟨g, cap, hv, hbg⟩ : ∃ g cap, v = .slice (some ⟨g, 0, none⟩) L.length cap ∧ base ≤ g := by
      obtain ⟨_, ⟨_, h2⟩ | ⟨g, cap, cur, h2, h3, _⟩⟩ := h
      · omega
      · exact ⟨g, cap, h2, h3⟩
    subst hv
    have HM : Hid (Mkd w base 63 2 (.slice (some ⟨g, 0, none⟩) L.length cap) L.length (mEntrys k0 L.length) (0 * 2)) := ⟨_, h, rfl⟩
    clear h
    go_enter Tryd.func34, Tryd.ntmps34
    go_wp2
    go_loopw [1, 5] (fun m i wr => ∃ k : Nat, k ≤ L.length ∧ i = .int .i64 (k : Int) ∧ m = .int .i64 (k0 + ((k * 2 : Nat) : Int)) ∧ Hid (Mkd wr base 63 2 (.slice (some ⟨g, 0, none⟩) L.length cap) L.length (mEntrys k0 L.length) (k * 2)) ∧ Hid (But g w wr)) (fun _ i _ => L.length - (intOf i).toNat)
    case atStart => exact ⟨0, Nat.zero_le _, rfl, by simp, HM, But.refl _ _⟩
    case round =>
      obtain ⟨k, hk, rfl, rfl, HR0, HB0⟩ := hrel
      have hsz := HB0.out.size
      by_cases hlt : k < L.length
      · have hlt' : (k : Int) < L.length := by omega
        have m0 : (mEntrys k0 L.length)[k * 2]? = some (.int .i64 (k0 + ((k * 2 : Nat) : Int))) := mEntrys_at k0 L.length k 0 hlt (by decide)
        have m1 : (mEntrys k0 L.length)[k * 2 + 1]? = some (.string (mt (k0 + ((k * 2 : Nat) : Int) + 1))) := mEntrys_at k0 L.length k 1 hlt (by decide)
        obtain ⟨A, hA⟩ : ∃ A : Int, k0 + ((k * 2 : Nat) : Int) = A := ⟨_, rfl⟩
        have HAn : Hid (k0 + (((k + 1) * 2 : Nat) : Int) = A + 1 + 1) := by show _ = _; omega
        rw [hA] at m0 m1 ⊢
        have hA0 : 0 < A := by omega
        have hA1 : A ≤ 200000000 := by omega
        clear hA
        obtain ⟨⟨u0, c0⟩, z0⟩ := HR0.out.cell (k * 2) (by omega)
        have HR1 : Hid (Mkd (wr.setCell ⟨g, k * 2, none⟩ (.int .i64 (A))) base 63 2 (.slice (some ⟨g, 0, none⟩) L.length cap) L.length (mEntrys k0 L.length) (k * 2 + 1)) := HR0.out.set _ m0 (by omega)
        have HB1 : Hid (But g w (wr.setCell ⟨g, k * 2, none⟩ (.int .i64 (A)))) := HB0.out.setCell _
        clear HR0 HB0
        go_wp2_with fail
        refine (markText_c (A + 1) _ (by omega) (by omega)).mono ?_
        rintro e w3 ⟨rfl, b3⟩
        have HS1 : Hid (Mkd w3 base 63 2 (.slice (some ⟨g, 0, none⟩) L.length cap) L.length (mEntrys k0 L.length) (k * 2 + 1)) := HR1.out.bel b3 (Nat.le_refl _)
        have HT1 : Hid (But g w w3) := HB1.out.bel b3
        clear HR1 HB1 b3
        obtain ⟨⟨u1, c1⟩, z1⟩ := HS1.out.cell (k * 2 + 1) (by omega)
        have HR2 : Hid (Mkd (w3.setCell ⟨g, k * 2 + 1, none⟩ (.string (mt (A + 1)))) base 63 2 (.slice (some ⟨g, 0, none⟩) L.length cap) L.length (mEntrys k0 L.length) (k * 2 + 2)) := HS1.out.set _ m1 (by omega)
        have HB2 : Hid (But g w (w3.setCell ⟨g, k * 2 + 1, none⟩ (.string (mt (A + 1))))) := HT1.out.setCell _
        clear HS1 HT1
        have HRe : Hid (Mkd (w3.setCell ⟨g, k * 2 + 1, none⟩ (.string (mt (A + 1)))) base 63 2 (.slice (some ⟨g, 0, none⟩) L.length cap) L.length (mEntrys k0 L.length) ((k + 1) * 2)) := by
          have := HR2.out
          rw [show (k + 1) * 2 = k * 2 + 2 by omega]
          exact this
        clear HR2
        go_wp2
        go_roundw
        case rel => exact ⟨k + 1, by omega, by go_num, by rw [HAn.out], HRe, HB2⟩
        case measure => simp [intOf]; omega
      · have hke : k = L.length := by omega
        subst hke
        have HF : Hid (wr.ownsRow base 63 2 (.slice (some ⟨g, 0, none⟩) L.length cap) L.length (mEntrys k0 L.length)) := HR0.out.all (mEntrys_len _ _)
        obtain ⟨Z, hZ⟩ : ∃ Z : Int, k0 + ((L.length * 2 : Nat) : Int) = Z := ⟨_, rfl⟩
        have HZ : Hid (k0 + ((L.length * 2 : Nat) : Int) = Z) := hZ
        rw [hZ]
        clear hZ
        go_wp2
        go_ret
        exact ⟨by rw [HZ.out]; rfl, HF.out, Or.inr ⟨g, rfl, HB0.out⟩⟩

set_option maxRecDepth 20000 in
set_option maxHeartbeats 4000000 in
theorem heldEntryS_c (v : Value) (len : Nat) (k0 : Int) (w : World) (hn : len ≤ 1048576) (hk0 : 0 < k0) (hk1 : k0 ≤ 100000000) (hr : RowR w v len 2 (mEntrys k0 len)) :
    Calls Tryd.prog 35 #[v, .int .i64 k0] w fun e w' => e = .returned (.int .i64 (k0 + ((len * 2 : Nat) : Int))) ∧ Below w.heap.size w w' := by
  have hn' : (len : Int) ≤ 1048576 := by omega
  have HR : Hid (RowR w v len 2 (mEntrys k0 len)) := hr
  obtain ⟨p, cap, hv⟩ : ∃ p cap, v = .slice p len cap := by obtain ⟨_, p, cap, hv, _⟩ := hr; exact ⟨p, cap, hv⟩
  subst hv
  clear hr
  go_enter Tryd.func35, Tryd.ntmps35
  go_wp2
  go_loopw [1, 5] (fun m i wr => ∃ k : Nat, k ≤ len ∧ i = .int .i64 (k : Int) ∧ m = .int .i64 (k0 + ((k * 2 : Nat) : Int)) ∧ Hid (Below w.heap.size w wr)) (fun _ i _ => len - (intOf i).toNat)
  case atStart => exact ⟨0, Nat.zero_le _, rfl, by simp, Below.refl _ _⟩
  case round =>
    obtain ⟨k, hk, rfl, rfl, HB⟩ := hrel
    by_cases hlt : k < len
    · have hlt' : (k : Int) < len := by omega
      obtain ⟨b, off, cap', hv, hb, hc⟩ := HR.out.some (by omega) (by decide)
      simp only [Value.slice.injEq, true_and] at hv
      obtain ⟨rfl, rfl⟩ := hv
      obtain ⟨A, hA⟩ : ∃ A : Int, k0 + ((k * 2 : Nat) : Int) = A := ⟨_, rfl⟩
      have d0 : Hid (w.cell? ⟨b, off + k * 2, none⟩ = some (.int .i64 (A))) := by
        have h1 := hc (k * 2 + 0) (by omega)
        rw [mEntrys_at k0 len k 0 hlt (by decide), ← Nat.add_assoc] at h1
        rw [← hA]
        exact h1
      have d1 : Hid (w.cell? ⟨b, off + k * 2 + 1, none⟩ = some (.string (mt (A + 1)))) := by
        have h1 := hc (k * 2 + 1) (by omega)
        rw [mEntrys_at k0 len k 1 hlt (by decide), ← Nat.add_assoc] at h1
        rw [← hA]
        exact h1
      have HAn : Hid (k0 + (((k + 1) * 2 : Nat) : Int) = A + 1 + 1) := by show _ = _; omega
      rw [hA]
      have hA0 : 0 < A := by omega
      have hA1 : A ≤ 200000000 := by omega
      clear hA hc
      have e0 : wr.cell? ⟨b, off + k * 2, none⟩ = some (.int .i64 (A)) := by rw [HB.out.cell (by exact hb)]; exact d0.out
      have e1 : wr.cell? ⟨b, off + k * 2 + 1, none⟩ = some (.string (mt (A + 1))) := by rw [HB.out.cell (by exact hb)]; exact d1.out
      go_wp2
      refine wp_region_any (by kernel_rfl) ?_
      refine wpAny_take (i := 0) (v := ?_) rfl (by kernel_rfl) (by kernel_rfl) (by kernel_rfl) (fun _ _ _ h => h) (Or.inl ⟨by rfl, ?_⟩) ?_
      rotate_left
      · (intro W; go_simp; try with_reducible rfl)
      simp only [Act.put, List.setIfInBounds_toArray, List.set_cons_zero, List.set_cons_succ, List.getElem_toArray, List.getElem_cons_zero]
      refine wpAny_take (i := 1) (v := ?_) rfl (by kernel_rfl) (by kernel_rfl) (by kernel_rfl) (fun _ _ _ h => h) (Or.inl ⟨by rfl, ?_⟩) ?_
      rotate_left
      · (intro W; go_simp; try with_reducible rfl)
      simp only [Act.put, List.setIfInBounds_toArray, List.set_cons_zero, List.set_cons_succ, List.getElem_toArray, List.getElem_cons_zero, List.getElem_cons_succ]
      refine wpAny_take (i := 2) (v := ?_) rfl (by kernel_rfl) (by kernel_rfl) (by kernel_rfl) (fun _ _ _ h => h) (Or.inl ⟨by rfl, ?_⟩) ?_
      rotate_left
      · (intro W; go_simp; try with_reducible rfl)
      simp only [Act.put, List.setIfInBounds_toArray, List.set_cons_zero, List.set_cons_succ, List.getElem_toArray, List.getElem_cons_zero, List.getElem_cons_succ]
      refine wpAny_take (i := 3) (v := ?_) rfl (by kernel_rfl) (by kernel_rfl) (by kernel_rfl) (fun _ _ _ h => h) (Or.inl ⟨by rfl, ?_⟩) ?_
      rotate_left
      · (intro W; go_simp; try with_reducible rfl)
      simp only [Act.put, List.setIfInBounds_toArray, List.set_cons_zero, List.set_cons_succ, List.getElem_toArray, List.getElem_cons_zero, List.getElem_cons_succ]
      refine wpAny_take (i := 5) (v := ?_) rfl (by kernel_rfl) (by kernel_rfl) (by kernel_rfl) (fun _ _ _ h => h) (Or.inl ⟨by rfl, ?_⟩) ?_
      rotate_left
      · (intro W; go_simp; try with_reducible rfl)
      simp only [Act.put, List.setIfInBounds_toArray, List.set_cons_zero, List.set_cons_succ, List.getElem_toArray, List.getElem_cons_zero, List.getElem_cons_succ]
      refine wpAny_ready (rs := [4, 6]) (by kernel_rfl) (by simp) ?_
      refine AllReady.cons rfl (fun K hK => ?_) (AllReady.cons rfl (fun K hK => ?_) AllReady.nil)
      · go_simp
        refine hK _ _ ?_
        clear hK K
        refine wpAny_ready (rs := [6]) (by kernel_rfl) (by simp) ?_
        refine AllReady.cons rfl (fun K hK => ?_) AllReady.nil
        go_simp
        refine (markText_c (A + 1) _ (by omega) (by omega)).mono ?_
        rintro e x1 ⟨rfl, b2⟩
        refine hK _ _ ?_
        clear hK K
        have HX1 : Hid (Below w.heap.size w x1) := (HB.out.drew).trans (b2.mono HB.out.size)
        clear b2
        refine wpAny_take (i := 7) (v := ?_) rfl (by kernel_rfl) (by kernel_rfl) (by kernel_rfl) (fun _ _ _ h => h) (Or.inl ⟨by rfl, ?_⟩) ?_
        rotate_left
        · (intro W; go_simp; try with_reducible rfl)
        simp only [Act.put, List.setIfInBounds_toArray, List.set_cons_zero, List.set_cons_succ, List.getElem_toArray, List.getElem_cons_zero, List.getElem_cons_succ]
        refine wpAny_done (by kernel_rfl) ?_ _
        clear e0 e1
        go_wp2
        go_roundw
        case rel => exact ⟨k + 1, by omega, by go_num, by rw [HAn.out], HX1⟩
        case measure => simp [intOf]; omega
      · go_simp
        refine (markText_c (A + 1) _ (by omega) (by omega)).mono ?_
        rintro e x1 ⟨rfl, b2⟩
        refine hK _ _ ?_
        clear hK K
        have HX1 : Hid (Below w.heap.size w x1) := (HB.out.drew).trans (b2.mono HB.out.size)
        clear b2
        have e1' : x1.cell? ⟨b, off + k * 2 + 1, none⟩ = some (.string (mt (A + 1))) := by rw [HX1.out.cell (by exact hb)]; exact d1.out
        refine wpAny_ready (rs := [4]) (by kernel_rfl) (by simp) ?_
        refine AllReady.cons rfl (fun K hK => ?_) AllReady.nil
        go_simp
        refine hK _ _ ?_
        clear hK K e1'
        refine wpAny_take (i := 7) (v := ?_) rfl (by kernel_rfl) (by kernel_rfl) (by kernel_rfl) (fun _ _ _ h => h) (Or.inl ⟨by rfl, ?_⟩) ?_
        rotate_left
        · (intro W; go_simp; try with_reducible rfl)
        simp only [Act.put, List.setIfInBounds_toArray, List.set_cons_zero, List.set_cons_succ, List.getElem_toArray, List.getElem_cons_zero, List.getElem_cons_succ]
        refine wpAny_done (by kernel_rfl) ?_ _
        clear e0 e1
        go_wp2
        go_roundw
        case rel => exact ⟨k + 1, by omega, by go_num, by rw [HAn.out], HX1⟩
        case measure => simp [intOf]; omega
    · have hke : k = len := by omega
      subst hke
      obtain ⟨Z, hZ⟩ : ∃ Z : Int, k0 + ((k * 2 : Nat) : Int) = Z := ⟨_, rfl⟩
      have HZ : Hid (k0 + ((k * 2 : Nat) : Int) = Z) := hZ
      rw [hZ]
      clear hZ
      go_wp2
      go_ret
      exact ⟨by rw [HZ.out]; rfl, HB.out⟩

end Go.Proofs.YthlokfcejojdhaaDoor
