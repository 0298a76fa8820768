/- The arguments that FnCanon draws. -/
import Derived.Test.YtdhbhifgmbppjaaDoorVdAny
import Derived.Test.YtdhbhifgmbppjaaDoorVkSpec
namespace Go.Proofs.YtdhbhifgmbppjaaDoor
open Go.RowKit
set_option linter.unusedVariables false
set_option linter.unusedSimpArgs false

theorem codeBel {w W : World} {ao : Option Addr} {len : Nat} {zs : List Int} (h : CodeAt w w.heap.size ao len zs) (hb : Below w.heap.size w W) : CodeAt W W.heap.size ao len zs := by
  intro j hj
  obtain ⟨b, off, e, hlt, hcl⟩ := h j hj
  exact ⟨b, off, e, Nat.lt_of_lt_of_le hlt hb.size, by rw [hb.cell (by exact hlt)]; exact hcl⟩

theorem size_c (most : Int) (w : World) (ao : Option Addr) (len cap : Nat) (h0 : 2 ≤ most) (h1 : most ≤ 1000) (hl : len ≤ 1048576) :
    Calls Tryd.prog 17 #[.slice ao len cap, .int .i64 most] w fun e w' => ∃ n : Int, e = .returned (.int .i64 n) ∧ 0 ≤ n ∧ n ≤ 1000 ∧ w' = w := by
  have ew : IntKind.i64.wrap ((len : Int) / 20) = (len : Int) / 20 := IntWalk.i64_in _ (by omega)
  have ew2 : IntKind.i64.wrap (2 + (len : Int) / 20) = 2 + (len : Int) / 20 := IntWalk.i64_in _ (by omega)
  by_cases hg : most < 2 + (len : Int) / 20
  · have HF : Hid (0 ≤ most ∧ most ≤ 1000) := ⟨by omega, h1⟩
    go_enter Tryd.func17, Tryd.ntmps17
    go_wp2
    go_ret
    exact ⟨most, rfl, HF.out.1, HF.out.2, rfl⟩
  · have HF : Hid (0 ≤ 2 + (len : Int) / 20 ∧ 2 + (len : Int) / 20 ≤ 1000) := ⟨by omega, by omega⟩
    go_enter Tryd.func17, Tryd.ntmps17
    go_wp2
    go_ret
    exact ⟨_, rfl, HF.out.1, HF.out.2, rfl⟩

theorem belOf {w W : World} (h : w.grownBy W none) : Below w.heap.size w W := ⟨h.os, h.tape, h.output, h.size, fun k hk => h.block k hk (by simp)⟩

theorem belCur {w x W : World} {B : Nat} (h : Below w.heap.size w x) (hg : x.grownBy W (some B)) (hB : w.heap.size ≤ B) : Below w.heap.size w W :=
  ⟨hg.os.trans h.os, hg.tape.trans h.tape, hg.output.trans h.output, Nat.le_trans h.size hg.size, fun k hk => (hg.block k (Nat.lt_of_lt_of_le hk h.size) (fun e => by cases e; omega)).trans (h.block k hk)⟩

set_option maxRecDepth 20000 in
set_option maxHeartbeats 4000000 in
theorem drawCanon_c (w : World) (len cap : Nat) (ao : Option Addr) (zs : List Int) (hc : CodeAt w w.heap.size ao len zs) (hl : len ≤ 1048576) (hz : ∀ j, 0 ≤ zs.getD j 0 ∧ zs.getD j 0 ≤ 255) :
    Calls Tryd.prog 5 #[.slice ao len cap] w fun e w' => ∃ (L : List S_Pair) (p : Option Addr) (c : Nat), e = .returned (.agg #[.slice p L.length c]) ∧ L.length ≤ 66 ∧ w'.ownsRow w.heap.size 48 2 (.slice p L.length c) L.length (rPair L) ∧ Below w.heap.size w w' := by
  have HC : Hid (CodeAt w w.heap.size ao len zs) := hc
  have HZ : Hid (∀ j, 0 ≤ zs.getD j 0 ∧ zs.getD j 0 ≤ 255) := hz
  obtain ⟨x0, hx0⟩ : ∃ W, W = w.alloc (.cells #[.slice none 0 0] 26) := ⟨_, rfl⟩
  have Hx0 : Hid (w.alloc (.cells #[.slice none 0 0] 26) = x0) := hx0.symm
  have HX0 : Hid (x0.heap[w.heap.size]? = some (.cells #[.slice none 0 0] 26)) := by rw [hx0]; exact alloc_last _ _
  have HB0 : Hid (Below w.heap.size w x0) := by rw [hx0]; exact (Below.refl _ _).alloc (Nat.le_refl _) _
  have HSZ0 : Hid (w.heap.size < x0.heap.size) := by show _ < _; rw [hx0]; simp
  clear hx0 hz hc
  go_enter Tryd.func5, Tryd.ntmps5
  go_wp2_with fail
  rw [Hx0.out]
  refine (cursor_any x0 ao len cap zs (codeBel HC.out HB0.out) hl HZ.out).mono ?_
  rintro e x1 ⟨rfl, hC1, hg1⟩
  obtain ⟨B, hB⟩ : ∃ B, x0.heap.size = B := ⟨_, rfl⟩
  have HBB : Hid (x0.heap.size = B) := hB
  have HC1 : Hid (Cur x1 B ao len cap zs (newF zs len)) := by rw [← hB]; exact hC1
  have HB1 : Hid (Below w.heap.size w x1) := HB0.out.trans ((belOf hg1).mono HB0.out.size)
  have HX1 : Hid (x1.heap[w.heap.size]? = some (.cells #[.slice none 0 0] 26)) := ((belOf hg1).block _ (lt_of_some HX0.out)).trans HX0.out
  rw [hB]
  clear hC1 hg1 hB
  go_wp2_with fail
  refine (size_c 20 x1 ao len cap (by decide) (by decide) hl).mono ?_
  rintro e xz ⟨m, rfl, hm0, hm1, hw⟩
  replace hw := hw.symm
  subst hw
  go_wp2_with fail
  refine (l7Any_c x1 B len cap ao zs (newF zs len) m ⟨hm0, hm1⟩ HC1.out hl HZ.out).mono ?_
  rintro e x2 ⟨L, p, c, st, rfl, hLl, hown, hC2, hg2⟩
  have HX2 : Hid (x2.heap[w.heap.size]? = some (.cells #[.slice none 0 0] 26)) := blk_curV HX1.out hg2 (by have := HSZ0.out; have := HBB.out; omega)
  have HB2 : Hid (Below w.heap.size w x2) := belCur HB1.out hg2 (by have := HSZ0.out; have := HBB.out; omega)
  have HO2 : Hid (x2.ownsRow w.heap.size 48 2 (.slice p L.length c) L.length (rPair L)) := own_low hown HB1.out.size
  have HLl : Hid (L.length ≤ 66) := hLl
  have z0 := box1 HX2.out
  have zf0 := frz1V HX2.out 0
  have z9 := box1 (set1V HX2.out (.slice p L.length c))
  have HF : Hid ((x2.setCell ⟨w.heap.size, 0, none⟩ (.slice p L.length c)).ownsRow w.heap.size 48 2 (.slice p L.length c) L.length (rPair L)) := own_set_kind HO2.out ⟨w.heap.size, 0, none⟩ _ HX2.out (by decide)
  have HBF : Hid (Below w.heap.size w (x2.setCell ⟨w.heap.size, 0, none⟩ (.slice p L.length c))) := HB2.out.setCell (Nat.le_refl _) _
  clear hown hC2 hg2 hLl
  go_wp2
  exact bodyPost_ret (v := .agg #[.slice p L.length c]) (by simp [results, Tryd.results5, go_sem, z9, z0]) rfl ⟨L, p, c, rfl, HLl.out, HF.out, HBF.out⟩

set_option maxRecDepth 20000 in
set_option maxHeartbeats 4000000 in
theorem drawRead_c (w : World) (len cap : Nat) (ao : Option Addr) (zs : List Int) (hc : CodeAt w w.heap.size ao len zs) (hl : len ≤ 1048576) (hz : ∀ j, 0 ≤ zs.getD j 0 ∧ zs.getD j 0 ≤ 255) :
    Calls Tryd.prog 12 #[.slice ao len cap] w fun e w' => ∃ s : ByteArray, e = .returned (.string s) ∧ s.size ≤ 1000 ∧ Below w.heap.size w w' := by
  have HC : Hid (CodeAt w w.heap.size ao len zs) := hc
  have HZ : Hid (∀ j, 0 ≤ zs.getD j 0 ∧ zs.getD j 0 ≤ 255) := hz
  clear hz hc
  go_enter Tryd.func12, Tryd.ntmps12
  go_wp2_with fail
  refine (cursor_any w ao len cap zs HC.out hl HZ.out).mono ?_
  rintro e x1 ⟨rfl, hC1, hg1⟩
  obtain ⟨B, hB⟩ : ∃ B, w.heap.size = B := ⟨_, rfl⟩
  have HBB : Hid (w.heap.size ≤ B) := Nat.le_of_eq hB
  have HC1 : Hid (Cur x1 B ao len cap zs (newF zs len)) := by rw [← hB]; exact hC1
  have HB1 : Hid (Below w.heap.size w x1) := belOf hg1
  have HSB : Hid (B < x1.heap.size) := HC1.out.lt
  rw [hB]
  clear hC1 hg1 hB
  go_wp2_with fail
  refine (size_c 20 x1 ao len cap (by decide) (by decide) hl).mono ?_
  rintro e xz ⟨m, rfl, hm0, hm1, hw⟩
  replace hw := hw.symm
  subst hw
  go_wp2_with fail
  refine (l7Draw_c x1 B len cap ao zs (newF zs len) m ⟨hm0, hm1⟩ HC1.out hl HZ.out).mono ?_
  rintro e x2 ⟨L, p, c, st, rfl, hLl, hown, hC2, hg2⟩
  have HB2 : Hid (Below w.heap.size w x2) := belCur HB1.out hg2 HBB.out
  have HC2 : Hid (Cur x2 B ao len cap zs st) := hC2
  have HR2 : Hid (RowR x2 (.slice p L.length c) L.length 2 (rPair L)) := RowR.own hown
  have HLl : Hid (L.length ≤ 60) := hLl
  clear hown hC2 hg2 hLl
  go_wp2_with fail
  refine (specCanon_c L p c x2 (by have := HLl.out; omega) HR2.out).mono ?_
  rintro e x3 ⟨rfl, b3⟩
  have HB3 : Hid (Below w.heap.size w x3) := HB2.out.trans (b3.mono HB2.out.size)
  have HC3 : Hid (Cur x3 B ao len cap zs st) := HC2.out.keep (grownV b3) (by simp)
  have HS : Hid ((canT L).size ≤ 250) := canT_size L
  clear b3
  generalize canT L = S at HS ⊢
  go_wp2_with fail
  refine (once_exV x3 B len cap ao zs st 3 HC3.out hl HZ.out).mono ?_
  rintro e x4 ⟨t, st4, rfl, hC4, hg4⟩
  have HB4 : Hid (Below w.heap.size w x4) := belCur HB3.out hg4 HBB.out
  have HC4 : Hid (Cur x4 B ao len cap zs st4) := hC4
  clear hC4 hg4
  cases t
  case false =>
    go_wp2
    go_ret
    exact ⟨S, rfl, by have := HS.out; omega, HB4.out⟩
  case true =>
    go_wp2_with fail
    refine (spoil_any x4 B len cap ao zs st4 S HC4.out hl HZ.out (by have := HS.out; omega)).mono ?_
    rintro e x5 ⟨rfl, hC5, hg5⟩
    have HB5 : Hid (Below w.heap.size w x5) := belCur HB4.out hg5 HBB.out
    have HS5 : Hid ((spoilF zs len S st4).1.size ≤ 1000) := by have := spoilF_size zs len S st4; have := HS.out; show _ ≤ _; omega
    clear hC5 hg5
    generalize (spoilF zs len S st4).1 = T at HS5 ⊢
    go_wp2
    go_ret
    exact ⟨T, rfl, HS5.out, HB5.out⟩

theorem big_c (w : World) (ao : Option Addr) (len cap : Nat) (b : Bool) (h : decide ((1048576 : Int) < len) = b) :
    Calls Tryd.prog 4 #[.slice ao len cap] w fun e w' => e = .returned (.bool b) ∧ w' = w := by
  go_enter Tryd.func4, Tryd.ntmps4
  go_wp2
  go_ret
  exact ⟨rfl, rfl⟩

set_option maxRecDepth 20000 in
set_option maxHeartbeats 4000000 in
theorem samePairs_c (v v2 : Value) (L : List S_Pair) (w : World) (hn : L.length ≤ 1048576) (hr : RowR w v L.length 2 (rPair L)) (hr2 : RowR w v2 L.length 2 (rPair L)) :
    Calls Tryd.prog 9 #[v, v2] w fun e w' => e = .returned (.bool true) ∧ Below w.heap.size w w' := by
  have hn' : (L.length : Int) ≤ 1048576 := by omega
  have HR : Hid (RowR w v L.length 2 (rPair L)) := hr
  have HR2 : Hid (RowR w v2 L.length 2 (rPair L)) := hr2
  obtain ⟨p, cap, hv⟩ : ∃ p cap, v = .slice p L.length cap := by obtain ⟨_, p, cap, hv, _⟩ := hr; exact ⟨p, cap, hv⟩
  obtain ⟨p2, cap2, hv2⟩ : ∃ p cap, v2 = .slice p L.length cap := by obtain ⟨_, p, cap, hv, _⟩ := hr2; exact ⟨p, cap, hv⟩
  subst hv
  subst hv2
  clear hr hr2
  go_enter Tryd.func9, Tryd.ntmps9
  go_wp2
  go_loopw [5] (fun i wr => ∃ k : Nat, k ≤ L.length ∧ i = .int .i64 (k : Int) ∧ Hid (Below w.heap.size w wr)) (fun i _ => L.length - (intOf i).toNat)
  case atStart => exact ⟨0, Nat.zero_le _, rfl, Below.refl _ _⟩
  case round =>
    obtain ⟨k, hk, rfl, HB⟩ := hrel
    by_cases hlt : k < L.length
    · have hlt' : (k : Int) < L.length := by omega
      obtain ⟨b, off, cap', hv, hb, hc⟩ := HR.out.some (by omega) (by decide)
      simp only [Value.slice.injEq, true_and] at hv
      obtain ⟨rfl, rfl⟩ := hv
      obtain ⟨b2, off2, cap', hv, hb2, hc2⟩ := HR2.out.some (by omega) (by decide)
      simp only [Value.slice.injEq, true_and] at hv
      obtain ⟨rfl, rfl⟩ := hv
      have c : ∀ q, q < 2 → wr.cell? ⟨b, off + (k * 2 + q), none⟩ = (cPair L[k])[q]? := fun q hq => by
        rw [HB.out.cell (by exact hb), hc (k * 2 + q) (by omega)]
        exact flat_at cPair 2 cPair_len L k q hlt hq
      have c0 : wr.cell? ⟨b, off + k * 2, none⟩ = some (.int .i64 (L[k]).f0) := by have := c 0 (by decide); rw [← Nat.add_assoc] at this; exact this
      have c1 : wr.cell? ⟨b, off + k * 2 + 1, none⟩ = some (.int .i64 (L[k]).f1) := by have := c 1 (by decide); rw [← Nat.add_assoc] at this; exact this
      clear c
      have c : ∀ q, q < 2 → wr.cell? ⟨b2, off2 + (k * 2 + q), none⟩ = (cPair L[k])[q]? := fun q hq => by
        rw [HB.out.cell (by exact hb2), hc2 (k * 2 + q) (by omega)]
        exact flat_at cPair 2 cPair_len L k q hlt hq
      have d0 : wr.cell? ⟨b2, off2 + k * 2, none⟩ = some (.int .i64 (L[k]).f0) := by have := c 0 (by decide); rw [← Nat.add_assoc] at this; exact this
      have d1 : wr.cell? ⟨b2, off2 + k * 2 + 1, none⟩ = some (.int .i64 (L[k]).f1) := by have := c 1 (by decide); rw [← Nat.add_assoc] at this; exact this
      clear c hc hc2
      generalize L[k] = X at c0 c1 d0 d1
      go_wp2
      go_quiet (fail)
      go_wp2
      go_roundw
      case rel => exact ⟨k + 1, by omega, by go_num, bel_drewN HB.out _⟩
      case measure => simp [intOf]; omega
    · have hke : k = L.length := by omega
      subst hke
      go_wp2
      go_ret
      exact ⟨rfl, HB.out⟩

end Go.Proofs.YtdhbhifgmbppjaaDoor
