/- What is right, of the program: the bytes of each token. -/
import Derived.Test.YtdggkcohidijcaaJT
import Derived.Test.YtdggkcohidijcaaVcImpl
import Derived.Test.YtdggkcohidijcaaFrClone
namespace Go.Proofs.Ytdggkcohidijcaa
open Go.RowKit
set_option linter.unusedVariables false
set_option linter.unusedSimpArgs false

/-- The bytes of each token; nothing where they aren't right. -/
def ptB (L : List S_Pair) (ts : List Int) : List ByteArray := if okT L ts then prt L ts else []
theorem ptB_yes {L : List S_Pair} {ts : List Int} (h : okT L ts) {t : List ByteArray} (ht : tabV L = some t) : ptB L ts = ts.map (bytV t) := by unfold ptB; rw [if_pos h, prt_some ht]
theorem ptB_no {L : List S_Pair} {ts : List Int} (h : ¬ okT L ts) : ptB L ts = [] := if_neg h

theorem ptB_24 (L : List S_Pair) (ts : List Int) : ∀ b ∈ ptB L ts, b.size ≤ 24 := by
  intro b hb
  by_cases h : okT L ts
  · obtain ⟨t, ht⟩ := okV_tab h.1
    rw [ptB_yes h ht] at hb
    exact bytes_24 ht h.2.2 b hb
  · rw [ptB_no h] at hb; cases hb

theorem ptB_len (L : List S_Pair) (ts : List Int) : (ptB L ts).length ≤ 1000 := by
  by_cases h : okT L ts
  · obtain ⟨t, ht⟩ := okV_tab h.1
    rw [ptB_yes h ht, List.length_map]
    exact h.2.1
  · rw [ptB_no h]; exact Nat.zero_le _

theorem deB_pt (L : List S_Pair) (ts : List Int) : deB L ts = catB (ptB L ts) := by
  unfold deB ptB
  split <;> rfl

theorem enB_pt (L : List S_Pair) (ts : List Int) : enB L ts = (endF (ptB L ts)).1 := by
  unfold enB ptB
  split <;> rfl

set_option maxRecDepth 20000 in
set_option maxHeartbeats 4000000 in
theorem partsOf_c (L : List S_Pair) (p : Option Addr) (cap : Nat) (ts : List Int) (q : Option Addr) (cq : Nat) (w : World) (hn : L.length ≤ 1048576) (hm : ts.length ≤ 1048576) (hr : RowR w (.slice p L.length cap) L.length 2 (rPair L)) (ht : IR w (.slice q ts.length cq) ts) :
    Calls Try.prog 39 #[.agg #[.slice p L.length cap], .slice q ts.length cq] w fun e w' => ∃ v, e = .returned (.tuple #[v, .bool (decide (okT L ts))]) ∧ w'.ownsRow w.heap.size 9 1 v (ptB L ts).length ((ptB L ts).map Value.string) ∧ Below w.heap.size w w' := by
  obtain ⟨i0, hi, hz0, hz1, hz2⟩ := info_parts infoStr
  have hn' : (L.length : Int) ≤ 1048576 := by omega
  have hm' : (ts.length : Int) ≤ 1048576 := by omega
  have HN : Hid (L.length ≤ 1048576) := hn
  have HM : Hid (ts.length ≤ 1048576) := hm
  have HR : Hid (RowR w (.slice p L.length cap) L.length 2 (rPair L)) := hr
  have HT : Hid (IR w (.slice q ts.length cq) ts) := ht
  obtain ⟨W0, hW0⟩ : ∃ W, W = w.alloc (.cells #[.slice p L.length cap] 26) := ⟨_, rfl⟩
  have HW0 : Hid (w.alloc (.cells #[.slice p L.length cap] 26) = W0) := hW0.symm
  have HZ0 : Hid (W0.heap.size = w.heap.size + 1) := by show _ = _; rw [hW0]; simp
  have HB0 : Hid (Below w.heap.size w W0) := by rw [hW0]; exact (Below.refl _ _).alloc (Nat.le_refl _) _
  have HX : Hid (∀ W', Below W0.heap.size W0 W' → W'.cell? ⟨w.heap.size, 0, none⟩ = some (.slice p L.length cap)) := fun W' hW => by
    have hk : W'.heap[w.heap.size]? = some (.cells #[.slice p L.length cap] 26) := by rw [hW.block _ (by rw [HZ0.out]; exact Nat.lt_succ_self _), hW0]; exact alloc_last _ _
    exact box1 hk
  have d := HX.out W0 (Below.refl _ _)
  have HR0 : Hid (RowR W0 (.slice p L.length cap) L.length 2 (rPair L)) := RowR.keep HR.out HB0.out (Nat.le_refl _)
  have HT0 : Hid (IR W0 (.slice q ts.length cq) ts) := IR.keep HT.out HB0.out (Nat.le_refl _)
  have HDN : Hid (∀ W', Below W0.heap.size W0 W' → Below w.heap.size w W') := fun W' hbel => HB0.out.trans (hbel.mono (by rw [HZ0.out]; exact Nat.le_succ _))
  clear hr ht hW0 hn hm
  go_enter Try.func39, Try.ntmps39
  go_wp2_with fail
  rw [HW0.out]
  have HLOW : Hid (w.heap.size ≤ W0.heap.size) := by show _ ≤ _; rw [HZ0.out]; exact Nat.le_succ _
  refine (implTab_c L p cap W0 HN.out HR0.out).mono ?_
  rintro e w1 ⟨b1, ⟨t, v, ht, rfl, ho⟩ | ⟨v, ht, rfl⟩⟩
  rotate_left
  · have HC1 : Hid (Below W0.heap.size W0 w1) := b1
    have HF : Hid (¬ okT L ts) := fun h => okV_no ht h.1
    clear b1 ht d
    go_wp2
    go_ret2
    refine ⟨.slice none 0 0, by rw [decide_eq_false HF.out]; rfl, ?_, HDN.out _ HC1.out⟩
    rw [ptB_no HF.out]
    exact World.ownsRow_nil _ _ _ _
  have HC1 : Hid (Below W0.heap.size W0 w1) := b1
  obtain ⟨tp, tc, rfl⟩ := own_sliceV ho
  have HTL : Hid (t.length ≤ 60) := by have := tabV_len ht; have := (tabV_some ht).1; show _ ≤ _; omega
  have HTV : Hid (tabV L = some t) := ht
  have HO1 : Hid (w1.ownsRow W0.heap.size 9 1 (.slice tp t.length tc) t.length (t.map Value.string)) := ho
  clear b1 ho ht d
  by_cases hlen : (1000 : Int) < (ts.length : Int)
  · have HF : Hid (¬ okT L ts) := fun h => by have := h.2.1; omega
    go_wp2
    go_ret2
    refine ⟨.slice none 0 0, by rw [decide_eq_false HF.out]; rfl, ?_, HDN.out _ HC1.out⟩
    rw [ptB_no HF.out]
    exact World.ownsRow_nil _ _ _ _
  have HLE : Hid (ts.length ≤ 1000) := by show _ ≤ _; omega
  go_wp2_with fail
  go_loopw [8, 26] (fun pv iv wr => ∃ k : Nat, k ≤ ts.length ∧ iv = .int .i64 (k : Int) ∧ Hid (wr.ownsRow w1.heap.size 9 1 pv ((ts.take k).map (bytV t)).length (((ts.take k).map (bytV t)).map Value.string)) ∧ Hid (Below w1.heap.size w1 wr) ∧ Hid (∀ j (h : j < ts.length), j < k → inL L ts[j])) (fun _ iv _ => ts.length - (intOf iv).toNat)
  case atStart => exact ⟨0, Nat.zero_le _, rfl, World.ownsRow_nil _ _ _ _, Below.refl _ _, fun j h hj => absurd hj (by omega)⟩
  case round =>
    obtain ⟨k, hk, rfl, HOV, HBr, HA⟩ := hrel
    have HB0r : Hid (Below W0.heap.size W0 wr) := HC1.out.trans (HBr.out.mono HC1.out.size)
    by_cases hlt : k < ts.length
    · have hlt' : (k : Int) < ts.length := by omega
      obtain ⟨b, off, rfl, hb, hc⟩ := HT0.out.cells (by omega)
      have c0 : wr.cell? ⟨b, off + k, none⟩ = some (.int .i64 ts[k]) := by rw [HB0r.out.cell (by exact hb)]; exact hc k hlt
      have HSN : Hid ((ts.take (k + 1)).map (bytV t) = (ts.take k).map (bytV t) ++ [bytV t ts[k]]) := map_take_snoc (bytV t) ts k hlt
      have HKL : Hid (((ts.take k).map (bytV t)).length ≤ 1000) := by show _ ≤ _; rw [List.length_map, List.length_take]; have := HLE.out; omega
      have HXk : Hid ((inL L ts[k] → ∀ j (h : j < ts.length), j < k + 1 → inL L ts[j]) ∧ (¬ inL L ts[k] → ¬ okT L ts)) := by
        refine ⟨fun h1 j h hj => ?_, fun h1 h2 => h1 (h2.2.2 _ (List.getElem_mem hlt))⟩
        rcases Nat.lt_or_ge j k with h3 | h3
        · exact HA.out j h h3
        · have : j = k := by omega
          subst this
          exact h1
      have HIV : Hid (inL L ts[k] ↔ inV t ts[k]) := inL_inV HTV.out _
      have HOr : Hid (RowR wr (.slice tp t.length tc) t.length 1 (t.map Value.string)) := RowR.keep (RowR.own HO1.out) HBr.out (Nat.le_refl _)
      clear hc HA
      generalize ts[k] = X at c0 HSN HXk HIV
      generalize (ts.take k).map (bytV t) = P at HSN HKL HOV
      go_wp2_with fail
      refine (implByt_c t _ X wr HTL.out HOr.out).mono ?_
      rintro e w4 ⟨rfl, b4⟩
      have HB4 : Hid (Below w1.heap.size w1 w4) := HBr.out.trans (b4.mono HBr.out.size)
      have HB5 : Hid (Below W0.heap.size W0 w4) := HB0r.out.trans (b4.mono HB0r.out.size)
      have hown4 : w4.ownsRow w1.heap.size 9 1 _ P.length (P.map Value.string) := own_bel HOV.out b4 (Nat.le_refl _)
      clear b4 HOV HBr HOr HB0r
      by_cases g : inV t X
      · have HA2 : Hid (∀ j (h : j < ts.length), j < k + 1 → inL L ts[j]) := HXk.out.1 (HIV.out.2 g)
        have hY := txe_no (byt_size (tabV_size HTV.out) g).1
        rw [byI_yes g]
        clear g HXk HIV
        generalize bytV t X = Y at hY HSN ⊢
        have hsz1 := HB4.out.size
        have hml : (1048577 : Nat) ≤ maxLen := by unfold maxLen; omega
        have hPl := HKL.out
        go_wp2_with (at_builtin; refine wpList_append_own _ rfl _ _ 38 rfl w1.heap.size 9 i0 (.string ⟨#[]⟩) 1 16 Try.underlying38 hi hz0 hz1 hz2 rfl (by decide) _ _ _ rfl (hown4.alloc _) ⟨w4.heap.size, 0, none⟩ 1 1 [.string Y] rfl rfl (cell_one_new _ _ _) (by intro u hu; simp at hu; subst hu; rfl) (by omega) (by omega) (by simp; omega) ?_)
        intro v' w5 hown5 hgrow _
        have R1 : w5.ownsRow w1.heap.size 9 1 v' (P ++ [Y]).length ((P ++ [Y]).map Value.string) := by simpa using hown5
        have R2 := below_append HB4.out (Nat.le_refl _) hown4 hgrow
        rw [← HSN.out] at R1
        clear hown5 hgrow hown4 HB4 HB5 HSN
        go_wp2
        go_roundw
        case rel => first | exact ⟨k + 1, by omega, by go_num, R1, R2, HA2⟩ | ((repeat apply Exists.intro); exact ⟨⟨k + 1, by omega, by go_num, R1, R2, HA2⟩, rfl⟩)
        case measure => simp [intOf]; omega
      · have HF : Hid (¬ okT L ts) := HXk.out.2 fun h => g (HIV.out.1 h)
        rw [byI_no g]
        clear g HXk HIV HSN hown4
        go_wp2
        go_ret2
        refine ⟨.slice none 0 0, by rw [decide_eq_false HF.out]; rfl, ?_, HDN.out _ HB5.out⟩
        rw [ptB_no HF.out]
        exact World.ownsRow_nil _ _ _ _
    · have hke : k = ts.length := by omega
      have HF : Hid (okT L ts) := ⟨okV_yes HTV.out, HLE.out, fun x hx => by
        obtain ⟨j, hj, rfl⟩ := List.getElem_of_mem hx
        exact HA.out j hj (by omega)⟩
      subst hke
      have HV : Hid (wr.ownsRow w1.heap.size 9 1 u8 (ptB L ts).length ((ptB L ts).map Value.string)) := by
        have := HOV.out
        rw [List.take_length] at this
        show World.ownsRow _ _ _ _ _ _ _
        rw [ptB_yes HF.out HTV.out]
        exact this
      have HL1 : Hid (w.heap.size ≤ w1.heap.size) := Nat.le_trans HLOW.out HC1.out.size
      clear HOV HA
      go_wp2
      go_ret2
      exact ⟨_, by rw [decide_eq_true HF.out]; rfl, own_low HV.out HL1.out, HDN.out _ HB0r.out⟩

end Go.Proofs.Ytdggkcohidijcaa
