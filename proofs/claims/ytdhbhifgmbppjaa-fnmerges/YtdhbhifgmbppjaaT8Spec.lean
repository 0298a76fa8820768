/- What is right, of the specification; its Decode. -/
import Derived.Test.YtdhbhifgmbppjaaVcOk
import Derived.Test.YtdhbhifgmbppjaaHaInts
import Derived.Test.YtdhbhifgmbppjaaT8Math
namespace Go.Proofs.Ytdhbhifgmbppjaa
open Go.RowKit
set_option linter.unusedVariables false
set_option linter.unusedSimpArgs false

set_option maxRecDepth 20000 in
set_option maxHeartbeats 4000000 in
theorem l8Ok_c (L : List S_Pair) (p : Option Addr) (cap : Nat) (ts : List Int) (q : Option Addr) (cq : Nat) (w : World) (hn : L.length ≤ 1048576) (hm : ts.length ≤ 1048576) (hr : RowR w (.slice p L.length cap) L.length 2 (rPair L)) (ht : IR w (.slice q ts.length cq) ts) :
    Calls Try.prog 23 #[.agg #[.slice p L.length cap], .slice q ts.length cq] w fun e w' => e = .returned (.bool (decide (okT L ts))) ∧ Below w.heap.size w w' := by
  have hn' : (L.length : Int) ≤ 1048576 := by omega
  have hm' : (ts.length : Int) ≤ 1048576 := by omega
  have HN : Hid (L.length ≤ 1048576) := hn
  have HM : Hid (ts.length ≤ 1048576) := hm
  have HR : Hid (RowR w (.slice p L.length cap) L.length 2 (rPair L)) := hr
  have HT : Hid (IR w (.slice q ts.length cq) ts) := ht
  obtain ⟨W0, hW0⟩ : ∃ W, W = w.alloc (.cells #[.slice p L.length cap] 26) := ⟨_, rfl⟩
  have HW0 : Hid (w.alloc (.cells #[.slice p L.length cap] 26) = W0) := hW0.symm
  have HZ0 : Hid (W0.heap.size = w.heap.size + 1) := by show _ = _; rw [hW0]; simp
  have HB0 : Hid (Below w.heap.size w W0) := by rw [hW0]; exact (Below.refl _ _).alloc (Nat.le_refl _) _
  have HX : Hid (∀ W', Below W0.heap.size W0 W' → W'.cell? ⟨w.heap.size, 0, none⟩ = some (.slice p L.length cap)) := fun W' hW => by
    have hk : W'.heap[w.heap.size]? = some (.cells #[.slice p L.length cap] 26) := by rw [hW.block _ (by rw [HZ0.out]; exact Nat.lt_succ_self _), hW0]; exact alloc_last _ _
    exact box1 hk
  have d := HX.out W0 (Below.refl _ _)
  have HR0 : Hid (RowR W0 (.slice p L.length cap) L.length 2 (rPair L)) := RowR.keep HR.out HB0.out (Nat.le_refl _)
  have HT0 : Hid (IR W0 (.slice q ts.length cq) ts) := IR.keep HT.out HB0.out (Nat.le_refl _)
  have HDN : Hid (∀ W', Below W0.heap.size W0 W' → Below w.heap.size w W') := fun W' hbel => HB0.out.trans (hbel.mono (by rw [HZ0.out]; exact Nat.le_succ _))
  clear hr ht hW0 hn hm
  go_enter Try.func23, Try.ntmps23
  go_wp2_with fail
  rw [HW0.out]
  refine (specVok_c L p cap W0 HN.out HR0.out).mono ?_
  rintro e w1 ⟨rfl, b1⟩
  have HC1 : Hid (Below W0.heap.size W0 w1) := b1
  clear b1 d
  by_cases hok : okV L
  rotate_left
  · have HF : Hid (¬ okT L ts) := fun h => hok h.1
    rw [decide_eq_false hok]
    go_wp2
    go_ret
    exact ⟨retV_f HF.out, HDN.out _ HC1.out⟩
  rw [decide_eq_true hok]
  have HOK : Hid (okV L) := hok
  clear hok
  by_cases hlen : (1000 : Int) < (ts.length : Int)
  · have HF : Hid (¬ okT L ts) := fun h => by have := h.2.1; omega
    go_wp2
    go_ret
    exact ⟨retV_f HF.out, HDN.out _ HC1.out⟩
  have HLE : Hid (ts.length ≤ 1000) := by show _ ≤ _; omega
  go_wp2_with fail
  go_loopw [5] (fun iv wr => ∃ k : Nat, k ≤ ts.length ∧ iv = .int .i64 (k : Int) ∧ Hid (Below W0.heap.size W0 wr) ∧ Hid (∀ j (h : j < ts.length), j < k → inL L ts[j])) (fun iv _ => ts.length - (intOf iv).toNat)
  case atStart => exact ⟨0, Nat.zero_le _, rfl, HC1.out, fun j h hj => absurd hj (by omega)⟩
  case round =>
    obtain ⟨k, hk, rfl, HBr, HA⟩ := hrel
    have d := HX.out wr HBr.out
    by_cases hlt : k < ts.length
    · have hlt' : (k : Int) < ts.length := by omega
      obtain ⟨b, off, rfl, hb, hc⟩ := HT0.out.cells (by omega)
      have c0 : wr.cell? ⟨b, off + k, none⟩ = some (.int .i64 ts[k]) := by rw [HBr.out.cell (by exact hb)]; exact hc k hlt
      have HXk : Hid ((inL L ts[k] → ∀ j (h : j < ts.length), j < k + 1 → inL L ts[j]) ∧ (¬ inL L ts[k] → ¬ okT L ts)) := by
        refine ⟨fun h1 j h hj => ?_, fun h1 h2 => h1 (h2.2.2 _ (List.getElem_mem hlt))⟩
        rcases Nat.lt_or_ge j k with h3 | h3
        · exact HA.out j h h3
        · have : j = k := by omega
          subst this
          exact h1
      clear hc
      have e5 : IntKind.i64.wrap (255 + (L.length : Int)) = 255 + (L.length : Int) := IntWalk.i64_in _ (by omega)
      generalize ts[k] = X at c0 HXk
      by_cases g : inL L X
      · have HA2 : Hid (∀ j (h : j < ts.length), j < k + 1 → inL L ts[j]) := HXk.out.1 g
        have HG : Hid (inL L X) := g
        clear g HXk
        go_wp2_with fail
        go_quiet ((go_at_call 45; exact Calls.quiet_of_same (sinV_yes X 0 (255 + (L.length : Int)) _ HG.out.1 HG.out.2)))
        go_wp2
        go_roundw
        case rel => exact ⟨k + 1, by omega, by go_num, bel_drewN HBr.out _, HA2⟩
        case measure => simp [intOf]; omega
      · have HF : Hid (¬ okT L ts) := HXk.out.2 g
        have HG : Hid (¬ (0 ≤ X ∧ X ≤ 255 + (L.length : Int))) := g
        clear g HXk
        go_wp2_with fail
        go_quiet ((go_at_call 45; exact Calls.quiet_of_same (sinV_no X 0 (255 + (L.length : Int)) _ HG.out)))
        go_wp2
        go_ret
        exact ⟨retV_f HF.out, bel_drewN (HDN.out _ HBr.out) _⟩
    · have hke : k = ts.length := by omega
      have HF : Hid (okT L ts) := ⟨HOK.out, HLE.out, fun x hx => by
        obtain ⟨j, hj, rfl⟩ := List.getElem_of_mem hx
        exact HA.out j hj (by omega)⟩
      subst hke
      go_wp2
      go_ret
      exact ⟨retV_t HF.out, HDN.out _ HBr.out⟩

set_option maxRecDepth 20000 in
set_option maxHeartbeats 4000000 in
theorem specDe_c (L : List S_Pair) (p : Option Addr) (cap : Nat) (ts : List Int) (q : Option Addr) (cq : Nat) (w : World) (hn : L.length ≤ 1048576) (hm : ts.length ≤ 1048576) (hr : RowR w (.slice p L.length cap) L.length 2 (rPair L)) (ht : IR w (.slice q ts.length cq) ts) :
    Calls Try.prog 9 #[.agg #[.slice p L.length cap], .slice q ts.length cq] w fun e w' => e = .returned (.tuple #[.string (deB L ts), .bool (decide (okT L ts))]) ∧ Below w.heap.size w w' := by
  have hn' : (L.length : Int) ≤ 1048576 := by omega
  have hm' : (ts.length : Int) ≤ 1048576 := by omega
  have HN : Hid (L.length ≤ 1048576) := hn
  have HM : Hid (ts.length ≤ 1048576) := hm
  have HR : Hid (RowR w (.slice p L.length cap) L.length 2 (rPair L)) := hr
  have HT : Hid (IR w (.slice q ts.length cq) ts) := ht
  obtain ⟨W0, hW0⟩ : ∃ W, W = w.alloc (.cells #[.slice p L.length cap] 26) := ⟨_, rfl⟩
  have HW0 : Hid (w.alloc (.cells #[.slice p L.length cap] 26) = W0) := hW0.symm
  have HZ0 : Hid (W0.heap.size = w.heap.size + 1) := by show _ = _; rw [hW0]; simp
  have HB0 : Hid (Below w.heap.size w W0) := by rw [hW0]; exact (Below.refl _ _).alloc (Nat.le_refl _) _
  have HX : Hid (∀ W', Below W0.heap.size W0 W' → W'.cell? ⟨w.heap.size, 0, none⟩ = some (.slice p L.length cap)) := fun W' hW => by
    have hk : W'.heap[w.heap.size]? = some (.cells #[.slice p L.length cap] 26) := by rw [hW.block _ (by rw [HZ0.out]; exact Nat.lt_succ_self _), hW0]; exact alloc_last _ _
    exact box1 hk
  have d := HX.out W0 (Below.refl _ _)
  have HR0 : Hid (RowR W0 (.slice p L.length cap) L.length 2 (rPair L)) := RowR.keep HR.out HB0.out (Nat.le_refl _)
  have HT0 : Hid (IR W0 (.slice q ts.length cq) ts) := IR.keep HT.out HB0.out (Nat.le_refl _)
  have HDN : Hid (∀ W', Below W0.heap.size W0 W' → Below w.heap.size w W') := fun W' hbel => HB0.out.trans (hbel.mono (by rw [HZ0.out]; exact Nat.le_succ _))
  clear hr ht hW0 hn hm
  go_enter Try.func9, Try.ntmps9
  go_wp2_with fail
  rw [HW0.out]
  refine (l8Ok_c L p cap ts q cq W0 HN.out HM.out HR0.out HT0.out).mono ?_
  rintro e w1 ⟨rfl, b1⟩
  have HC1 : Hid (Below W0.heap.size W0 w1) := b1
  clear b1 d
  by_cases hok : okT L ts
  rotate_left
  · have HF : Hid (¬ okT L ts) := hok
    rw [decide_eq_false hok]
    go_wp2
    go_ret2
    exact ⟨by rw [deB_no HF.out, decide_eq_false HF.out]; rfl, HDN.out _ HC1.out⟩
  rw [decide_eq_true hok]
  have HOK : Hid (okT L ts) := hok
  clear hok
  obtain ⟨t0, ht0⟩ := okV_tab HOK.out.1
  have HTB : Hid (tabV L = some t0) := ht0
  clear ht0
  have d := HX.out _ HC1.out
  have HR1 : Hid (RowR w1 (.slice p L.length cap) L.length 2 (rPair L)) := RowR.keep HR0.out HC1.out (Nat.le_refl _)
  go_wp2_with fail
  refine (specTab_c L p cap _ HN.out HR1.out).mono ?_
  rintro e w2 ⟨b2, ⟨t, v, ht, rfl, ho⟩ | ⟨v, ht, rfl⟩⟩
  rotate_left
  · have := HTB.out
    rw [ht] at this
    cases this
  obtain rfl : t = t0 := by have := HTB.out; rw [ht] at this; exact Option.some.inj this
  have HC2 : Hid (Below W0.heap.size W0 w2) := HC1.out.trans (b2.mono HC1.out.size)
  obtain ⟨tp, tc, rfl⟩ := own_sliceV ho
  have HTL : Hid (t.length ≤ 60) := by have := tabV_len ht; have := (tabV_some ht).1; show _ ≤ _; omega
  have HO2 : Hid (RowR w2 (.slice tp t.length tc) t.length 1 (t.map Value.string)) := RowR.own ho
  have H24 : Hid (∀ b ∈ ts.map (bytV t), b.size ≤ 24) := bytes_24 ht HOK.out.2.2
  have HIN : Hid (∀ x ∈ ts, inV t x) := fun x hx => (inL_inV ht x).1 (HOK.out.2.2 x hx)
  have HLE : Hid (ts.length ≤ 1000) := HOK.out.2.1
  have HF : Hid (deB L ts = catB (ts.map (bytV t))) := deB_yes HOK.out ht
  clear ho b2 ht d HR1
  go_wp2_with fail
  go_loopw [8, 9] (fun sv iv wr => ∃ k : Nat, k ≤ ts.length ∧ iv = .int .i64 (k : Int) ∧ sv = .string (catB ((ts.take k).map (bytV t))) ∧ Hid (Below W0.heap.size W0 wr) ∧ Hid (Below w2.heap.size w2 wr)) (fun _ iv _ => ts.length - (intOf iv).toNat)
  case atStart => exact ⟨0, Nat.zero_le _, rfl, rfl, HC2.out, Below.refl _ _⟩
  case round =>
    obtain ⟨k, hk, rfl, rfl, HBr, HBr2⟩ := hrel
    by_cases hlt : k < ts.length
    · skip
      have hlt' : (k : Int) < ts.length := by omega
      obtain ⟨b, off, rfl, hb, hc⟩ := HT0.out.cells (by omega)
      have c0 : wr.cell? ⟨b, off + k, none⟩ = some (.int .i64 ts[k]) := by rw [HBr.out.cell (by exact hb)]; exact hc k hlt
      have HI : Hid (inV t ts[k]) := HIN.out _ (List.getElem_mem hlt)
      have HSN : Hid ((ts.take (k + 1)).map (bytV t) = (ts.take k).map (bytV t) ++ [bytV t ts[k]]) := map_take_snoc (bytV t) ts k hlt
      have HS1 : Hid ((bytV t ts[k]).size ≤ 24) := H24.out _ (List.mem_map_of_mem (List.getElem_mem hlt))
      have HS2 : Hid (∀ b ∈ (ts.take k).map (bytV t), b.size ≤ 24) := fun b hb => by
        obtain ⟨x, hx, rfl⟩ := List.mem_map.1 hb
        exact H24.out _ (List.mem_map_of_mem (List.mem_of_mem_take hx))
      have HKL : Hid (((ts.take k).map (bytV t)).length ≤ 1000) := by show _ ≤ _; rw [List.length_map, List.length_take]; have := HLE.out; omega
      have HOr : Hid (RowR wr (.slice tp t.length tc) t.length 1 (t.map Value.string)) := RowR.keep HO2.out HBr2.out (Nat.le_refl _)
      clear hc
      generalize ts[k] = X at c0 HI HSN HS1
      generalize (ts.take k).map (bytV t) = P at HSN HS2 HKL ⊢
      have HCS : Hid ((catB P).size ≤ 24000) := by have := catB_size HS2.out; have := HKL.out; show _ ≤ _; omega
      have HSN2 : Hid (catB ((ts.take (k + 1)).map (bytV t)) = catB P ++ bytV t X) := by show _ = _; rw [HSN.out]; exact catB_snoc _ _
      have had : ∀ W, (Op.stringOp .add (catB P) (bytV t X)).run Try.prog W = .ok (.string (catB P ++ bytV t X)) W := fun W => run_string_add_sum W _ _ (by have := HCS.out; have := HS1.out; omega)
      clear HSN HS2 HKL
      generalize catB P = S at HCS HSN2 had ⊢
      go_wp2_with fail
      refine (specByt_c t _ X wr HTL.out HI.out HOr.out).mono ?_
      rintro e w4 ⟨rfl, b4⟩
      have HB4 : Hid (Below W0.heap.size W0 w4) := HBr.out.trans (b4.mono HBr.out.size)
      have HB5 : Hid (Below w2.heap.size w2 w4) := HBr2.out.trans (b4.mono HBr2.out.size)
      clear b4
      generalize bytV t X = Y at HS1 HSN2 had ⊢
      go_wp2
      go_roundw
      case rel => exact ⟨k + 1, by omega, by go_num, by rw [HSN2.out], HB4, HB5⟩
      case measure => simp [intOf]; omega
    · have hke : k = ts.length := by omega
      subst hke
      rw [List.take_length]
      go_wp2
      go_ret2
      exact ⟨by rw [HF.out, decide_eq_true HOK.out]; rfl, HDN.out _ HBr.out⟩

end Go.Proofs.Ytdhbhifgmbppjaa
