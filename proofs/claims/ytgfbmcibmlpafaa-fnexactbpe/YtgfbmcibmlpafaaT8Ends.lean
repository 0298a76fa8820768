/- The specification's Ends. -/
import Derived.Test.YtgfbmcibmlpafaaT8Spec
namespace Go.Proofs.Ytgfbmcibmlpafaa
open Go.RowKit
set_option linter.unusedVariables false
set_option linter.unusedSimpArgs false

/-- Rows of two kinds of elements lie in two blocks. -/
theorem rows_apart8 {w : World} {B1 B2 : Nat} {e1 e2 : TypeId} {s1 s2 n1 n2 : Nat} {v1 v2 : Value} {x1 x2 : List Value} (h1 : w.ownsRow B1 e1 s1 v1 n1 x1) (h2 : w.ownsRow B2 e2 s2 v2 n2 x2) (he : e1 ≠ e2) : v1.ownBlock = none ∨ v1.ownBlock ≠ v2.ownBlock := by
  obtain ⟨_, ⟨rfl, _⟩ | ⟨g, c, cur, rfl, _, hh, _⟩⟩ := h1
  · exact Or.inl rfl
  · right
    obtain ⟨_, ⟨rfl, _⟩ | ⟨g2, c2, cur2, rfl, _, hh2, _⟩⟩ := h2
    · simp [Value.ownBlock]
    · intro hk
      simp only [Value.ownBlock, Option.some.injEq] at hk
      subst hk
      rw [hh] at hh2
      simp only [Option.some.injEq, Obj.cells.injEq] at hh2
      exact he hh2.2.1

set_option maxRecDepth 20000 in
set_option maxHeartbeats 4000000 in
theorem specEn_c (L : List S_Pair) (p : Option Addr) (cap : Nat) (ts : List Int) (q : Option Addr) (cq : Nat) (w : World) (hn : L.length ≤ 1048576) (hm : ts.length ≤ 1048576) (hr : RowR w (.slice p L.length cap) L.length 2 (rPair L)) (ht : IR w (.slice q ts.length cq) ts) :
    Calls Try.prog 24 #[.agg #[.slice p L.length cap], .slice q ts.length cq] w fun e w' => ∃ v, e = .returned (.tuple #[v, .bool (decide (okT L ts))]) ∧ IO w' w.heap.size v (enB L ts) ∧ Below w.heap.size w w' := by
  obtain ⟨i0, hi, hz0, hz1, hz2⟩ := info_parts infoInt
  have hn' : (L.length : Int) ≤ 1048576 := by omega
  have hm' : (ts.length : Int) ≤ 1048576 := by omega
  have HN : Hid (L.length ≤ 1048576) := hn
  have HM : Hid (ts.length ≤ 1048576) := hm
  have HR : Hid (RowR w (.slice p L.length cap) L.length 2 (rPair L)) := hr
  have HT : Hid (IR w (.slice q ts.length cq) ts) := ht
  obtain ⟨W0, hW0⟩ : ∃ W, W = w.alloc (.cells #[.slice p L.length cap] 31) := ⟨_, rfl⟩
  have HW0 : Hid (w.alloc (.cells #[.slice p L.length cap] 31) = W0) := hW0.symm
  have HZ0 : Hid (W0.heap.size = w.heap.size + 1) := by show _ = _; rw [hW0]; simp
  have HB0 : Hid (Below w.heap.size w W0) := by rw [hW0]; exact (Below.refl _ _).alloc (Nat.le_refl _) _
  have HX : Hid (∀ W', Below W0.heap.size W0 W' → W'.cell? ⟨w.heap.size, 0, none⟩ = some (.slice p L.length cap)) := fun W' hW => by
    have hk : W'.heap[w.heap.size]? = some (.cells #[.slice p L.length cap] 31) := by rw [hW.block _ (by rw [HZ0.out]; exact Nat.lt_succ_self _), hW0]; exact alloc_last _ _
    exact box1 hk
  have d := HX.out W0 (Below.refl _ _)
  have HR0 : Hid (RowR W0 (.slice p L.length cap) L.length 2 (rPair L)) := RowR.keep HR.out HB0.out (Nat.le_refl _)
  have HT0 : Hid (IR W0 (.slice q ts.length cq) ts) := IR.keep HT.out HB0.out (Nat.le_refl _)
  have HDN : Hid (∀ W', Below W0.heap.size W0 W' → Below w.heap.size w W') := fun W' hbel => HB0.out.trans (hbel.mono (by rw [HZ0.out]; exact Nat.le_succ _))
  clear hr ht hW0 hn hm
  go_enter Try.func24, Try.ntmps24
  go_wp2_with fail
  rw [HW0.out]
  obtain ⟨W1, hW1⟩ : ∃ W, W = W0.alloc (.cells #[] 3) := ⟨_, rfl⟩
  have HW1 : Hid (W0.alloc (.cells #[] 3) = W1) := hW1.symm
  have HM0 : Hid (W1.ownsRow W0.heap.size 3 1 (.slice (some ⟨w.heap.size + 1, 0, none⟩) 0 0) 0 []) := by
    have h := World.ownsRow_made (base := W0.heap.size) (e := 3) (size := 1) W0 #[] 0 (Nat.le_refl _) (by decide) rfl
    rw [HZ0.out] at h
    rw [hW1, HZ0.out]
    exact h
  have HC0 : Hid (Below W0.heap.size W0 W1) := by rw [hW1]; exact (Below.refl _ _).alloc (Nat.le_refl _) _
  clear hW1
  rw [HW1.out]
  refine (l8Ok_c L p cap ts q cq W1 HN.out HM.out (RowR.keep HR0.out HC0.out (Nat.le_refl _)) (IR.keep HT0.out HC0.out (Nat.le_refl _))).mono ?_
  rintro e w1 ⟨rfl, b1⟩
  have HC1 : Hid (Below W0.heap.size W0 w1) := HC0.out.trans (b1.mono HC0.out.size)
  have HM1 : Hid (w1.ownsRow W0.heap.size 3 1 (.slice (some ⟨w.heap.size + 1, 0, none⟩) 0 0) 0 []) := own_bel HM0.out b1 (Nat.le_refl _)
  have HLOW : Hid (w.heap.size ≤ W0.heap.size) := by show _ ≤ _; rw [HZ0.out]; exact Nat.le_succ _
  clear b1 d
  by_cases hok : okT L ts
  rotate_left
  · have HF : Hid (¬ okT L ts) := hok
    rw [decide_eq_false hok]
    go_wp2
    go_ret2
    refine ⟨_, by rw [decide_eq_false HF.out]; rfl, ?_, HDN.out _ HC1.out⟩
    rw [enB_no HF.out]
    exact own_low HM1.out HLOW.out
  rw [decide_eq_true hok]
  have HOK : Hid (okT L ts) := hok
  clear hok
  obtain ⟨t0, ht0⟩ := okV_tab HOK.out.1
  have HTB : Hid (tabV L = some t0) := ht0
  clear ht0
  have d := HX.out _ HC1.out
  have HR1 : Hid (RowR w1 (.slice p L.length cap) L.length 2 (rPair L)) := RowR.keep HR0.out HC1.out (Nat.le_refl _)
  go_wp2_with fail
  refine (specTab_c L p cap _ HN.out HR1.out).mono ?_
  rintro e w2 ⟨b2, ⟨t, v, ht, rfl, ho⟩ | ⟨v, ht, rfl⟩⟩
  rotate_left
  · have := HTB.out
    rw [ht] at this
    cases this
  obtain rfl : t = t0 := by have := HTB.out; rw [ht] at this; exact Option.some.inj this
  have HC2 : Hid (Below W0.heap.size W0 w2) := HC1.out.trans (b2.mono HC1.out.size)
  obtain ⟨tp, tc, rfl⟩ := own_sliceV ho
  have HTL : Hid (t.length ≤ 60) := by have := tabV_len ht; have := (tabV_some ht).1; show _ ≤ _; omega
  have HO2 : Hid (RowR w2 (.slice tp t.length tc) t.length 1 (t.map Value.string)) := RowR.own ho
  have H24 : Hid (∀ b ∈ ts.map (bytV t), b.size ≤ 24) := bytes_24 ht HOK.out.2.2
  have HIN : Hid (∀ x ∈ ts, inV t x) := fun x hx => (inL_inV ht x).1 (HOK.out.2.2 x hx)
  have HLE : Hid (ts.length ≤ 1000) := HOK.out.2.1
  have HF : Hid (enB L ts = (endF (ts.map (bytV t))).1) := enB_yes HOK.out ht
  have HM2 : Hid (w2.ownsRow W0.heap.size 3 1 (.slice (some ⟨w.heap.size + 1, 0, none⟩) 0 0) 0 []) := own_bel HM1.out b2 (Nat.le_refl _)
  have HS2w : Hid (W0.heap.size ≤ w2.heap.size) := HC2.out.size
  have HTBW : Hid (∀ g, (Value.slice tp t.length tc).ownBlock = some g → True) := fun _ _ => trivial
  have HOT : Hid (w2.ownsRow w1.heap.size 9 1 (.slice tp t.length tc) t.length (t.map Value.string)) := ho
  clear ho b2 ht d HR1 HTBW
  go_wp2_with fail
  go_loopw [6, 9, 10] (fun ov nv iv wr => ∃ k : Nat, k ≤ ts.length ∧ iv = .int .i64 (k : Int) ∧ nv = .int .i64 (endF ((ts.take k).map (bytV t))).2 ∧ Hid (wr.ownsRow W0.heap.size 3 1 ov (endF ((ts.take k).map (bytV t))).1.length (rI (endF ((ts.take k).map (bytV t))).1)) ∧ Hid (Below W0.heap.size W0 wr) ∧ Hid (wr.ownsRow w1.heap.size 9 1 (.slice tp t.length tc) t.length (t.map Value.string))) (fun _ _ iv _ => ts.length - (intOf iv).toNat)
  case atStart => exact ⟨0, Nat.zero_le _, rfl, rfl, HM2.out, HC2.out, HOT.out⟩
  case round =>
    obtain ⟨k, hk, rfl, rfl, HOV, HBr, HOTr⟩ := hrel
    by_cases hlt : k < ts.length
    · skip
      have hlt' : (k : Int) < ts.length := by omega
      obtain ⟨b, off, rfl, hb, hc⟩ := HT0.out.cells (by omega)
      have c0 : wr.cell? ⟨b, off + k, none⟩ = some (.int .i64 ts[k]) := by rw [HBr.out.cell (by exact hb)]; exact hc k hlt
      have HI : Hid (inV t ts[k]) := HIN.out _ (List.getElem_mem hlt)
      have HSN : Hid ((ts.take (k + 1)).map (bytV t) = (ts.take k).map (bytV t) ++ [bytV t ts[k]]) := map_take_snoc (bytV t) ts k hlt
      have HS1 : Hid ((bytV t ts[k]).size ≤ 24) := H24.out _ (List.mem_map_of_mem (List.getElem_mem hlt))
      have HS2 : Hid (∀ b ∈ (ts.take k).map (bytV t), b.size ≤ 24) := fun b hb => by
        obtain ⟨x, hx, rfl⟩ := List.mem_map.1 hb
        exact H24.out _ (List.mem_map_of_mem (List.mem_of_mem_take hx))
      have HKL : Hid (((ts.take k).map (bytV t)).length ≤ 1000) := by show _ ≤ _; rw [List.length_map, List.length_take]; have := HLE.out; omega
      have HOr : Hid (RowR wr (.slice tp t.length tc) t.length 1 (t.map Value.string)) := RowR.own HOTr.out
      clear hc
      generalize ts[k] = X at c0 HI HSN HS1
      generalize (ts.take k).map (bytV t) = P at HSN HS2 HKL HOV ⊢
      have HEN : Hid (0 ≤ (endF P).2 ∧ (endF P).2 ≤ 24000) := by have h1 := endF_end HS2.out; have h2 := HKL.out; exact ⟨h1.1, by omega⟩
      have HEL : Hid ((endF P).1.length ≤ 1000) := by show _ ≤ _; rw [endF_len HS2.out]; exact HKL.out
      have HSN2 : Hid (endF ((ts.take (k + 1)).map (bytV t)) = ((endF P).1 ++ [(endF P).2 + ((bytV t X).size : Int)], (endF P).2 + ((bytV t X).size : Int))) := by show _ = _; rw [HSN.out]; exact endF_snoc _ _
      clear HSN HS2 HKL
      generalize (endF P).2 = E at HEN HSN2 ⊢
      generalize (endF P).1 = R at HEL HSN2 HOV ⊢
      go_wp2_with fail
      refine (specByt_c t _ X wr HTL.out HI.out HOr.out).mono ?_
      rintro e w4 ⟨rfl, b4⟩
      have HB4 : Hid (Below W0.heap.size W0 w4) := HBr.out.trans (b4.mono HBr.out.size)
      have hown4 : w4.ownsRow W0.heap.size 3 1 _ R.length (rI R) := own_bel HOV.out b4 (Nat.le_refl _)
      have HOT4 : w4.ownsRow w1.heap.size 9 1 (.slice tp t.length tc) t.length (t.map Value.string) := own_bel HOTr.out b4 (Nat.le_refl _)
      clear b4 HOV HOTr HOr
      generalize bytV t X = Y at HS1 HSN2 ⊢
      have hY : (Y.size : Int) ≤ 24 := by have := HS1.out; omega
      have hE0 : 0 ≤ E := HEN.out.1
      have hE1 : E ≤ 24000 := HEN.out.2
      have hRl := HEL.out
      have hsz1 := HB4.out.size
      have hml : (1048577 : Nat) ≤ maxLen := by unfold maxLen; omega
      have e7 : IntKind.i64.wrap (E + (Y.size : Int)) = E + (Y.size : Int) := IntWalk.i64_in _ (by omega)
      go_wp2_with (at_builtin; refine wpList_append_own _ rfl _ _ 25 rfl W0.heap.size 3 i0 (.int .i64 0) 1 8 Try.underlying25 hi hz0 hz1 hz2 rfl (by decide) _ _ _ rfl (hown4.alloc _) ⟨w4.heap.size, 0, none⟩ 1 1 [.int .i64 (E + (Y.size : Int))] rfl rfl (cell_one_new _ _ _) (by intro u hu; simp at hu; subst hu; rfl) (by omega) (by omega) (by simp; omega) ?_)
      intro v' w5 hown5 hgrow _
      have R1 : w5.ownsRow W0.heap.size 3 1 v' (R ++ [E + (Y.size : Int)]).length (rI (R ++ [E + (Y.size : Int)])) := by
        have := hown5
        unfold rI at this ⊢
        simpa using this
      have R2 := below_append HB4.out (Nat.le_refl _) hown4 hgrow
      have R3 := (World.ownsRow.alloc (w := w4) HOT4 _).kept hgrow (rows_apart8 (w := w4) HOT4 hown4 (by decide))
      clear hown5 hgrow hown4 HB4 HOT4
      go_wp2
      go_roundw
      case rel => first | exact ⟨k + 1, by omega, by go_num, by rw [HSN2.out], by rw [HSN2.out]; exact R1, R2, R3⟩ | ((repeat apply Exists.intro); exact ⟨⟨k + 1, by omega, by go_num, by rw [HSN2.out], by rw [HSN2.out]; exact R1, R2, R3⟩, rfl⟩)
      case measure => simp [intOf]; omega
    · have hke : k = ts.length := by omega
      subst hke
      have HV : Hid (wr.ownsRow W0.heap.size 3 1 u6 (enB L ts).length (rI (enB L ts))) := by
        have := HOV.out
        rw [List.take_length] at this
        show World.ownsRow _ _ _ _ _ _ _
        rw [HF.out]
        exact this
      clear HOV
      go_wp2
      go_ret2
      exact ⟨_, by rw [decide_eq_true HOK.out]; rfl, own_low HV.out HLOW.out, HDN.out _ HBr.out⟩

end Go.Proofs.Ytgfbmcibmlpafaa
