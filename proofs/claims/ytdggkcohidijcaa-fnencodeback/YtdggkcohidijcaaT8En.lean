/- The program's Ends. -/
import Derived.Test.YtdggkcohidijcaaT8Impl
namespace Go.Proofs.Ytdggkcohidijcaa
open Go.RowKit
set_option linter.unusedVariables false
set_option linter.unusedSimpArgs false

set_option maxRecDepth 20000 in
set_option maxHeartbeats 4000000 in
theorem implEn_c (L : List S_Pair) (p : Option Addr) (cap : Nat) (ts : List Int) (q : Option Addr) (cq : Nat) (w : World) (hn : L.length ≤ 1048576) (hm : ts.length ≤ 1048576) (hr : RowR w (.slice p L.length cap) L.length 2 (rPair L)) (ht : IR w (.slice q ts.length cq) ts) :
    Calls Try.prog 13 #[.agg #[.slice p L.length cap], .slice q ts.length cq] w fun e w' => ∃ v, e = .returned (.tuple #[v, .bool (decide (okT L ts))]) ∧ IO w' w.heap.size v (enB L ts) ∧ Below w.heap.size w w' := by
  obtain ⟨i0, hi, hz0, hz1, hz2⟩ := info_parts infoInt
  have hn' : (L.length : Int) ≤ 1048576 := by omega
  have hm' : (ts.length : Int) ≤ 1048576 := by omega
  have HN : Hid (L.length ≤ 1048576) := hn
  have HM : Hid (ts.length ≤ 1048576) := hm
  have HR : Hid (RowR w (.slice p L.length cap) L.length 2 (rPair L)) := hr
  have HT : Hid (IR w (.slice q ts.length cq) ts) := ht
  obtain ⟨W0, hW0⟩ : ∃ W, W = w.alloc (.cells #[.slice p L.length cap] 26) := ⟨_, rfl⟩
  have HW0 : Hid (w.alloc (.cells #[.slice p L.length cap] 26) = W0) := hW0.symm
  have HZ0 : Hid (W0.heap.size = w.heap.size + 1) := by show _ = _; rw [hW0]; simp
  have HB0 : Hid (Below w.heap.size w W0) := by rw [hW0]; exact (Below.refl _ _).alloc (Nat.le_refl _) _
  have HX : Hid (∀ W', Below W0.heap.size W0 W' → W'.cell? ⟨w.heap.size, 0, none⟩ = some (.slice p L.length cap)) := fun W' hW => by
    have hk : W'.heap[w.heap.size]? = some (.cells #[.slice p L.length cap] 26) := by rw [hW.block _ (by rw [HZ0.out]; exact Nat.lt_succ_self _), hW0]; exact alloc_last _ _
    exact box1 hk
  have d := HX.out W0 (Below.refl _ _)
  have HR0 : Hid (RowR W0 (.slice p L.length cap) L.length 2 (rPair L)) := RowR.keep HR.out HB0.out (Nat.le_refl _)
  have HT0 : Hid (IR W0 (.slice q ts.length cq) ts) := IR.keep HT.out HB0.out (Nat.le_refl _)
  have HDN : Hid (∀ W', Below W0.heap.size W0 W' → Below w.heap.size w W') := fun W' hbel => HB0.out.trans (hbel.mono (by rw [HZ0.out]; exact Nat.le_succ _))
  clear hr ht hW0 hn hm
  go_enter Try.func13, Try.ntmps13
  go_wp2_with fail
  rw [HW0.out]
  have HLOW : Hid (w.heap.size ≤ W0.heap.size) := by show _ ≤ _; rw [HZ0.out]; exact Nat.le_succ _
  refine (partsOf_c L p cap ts q cq W0 HN.out HM.out HR0.out HT0.out).mono ?_
  rintro e w1 ⟨v, rfl, ho, b1⟩
  have HC1 : Hid (Below W0.heap.size W0 w1) := b1
  obtain ⟨tp, tc, rfl⟩ := own_sliceV ho
  have HO : Hid (w1.ownsRow W0.heap.size 9 1 (.slice tp (ptB L ts).length tc) (ptB L ts).length ((ptB L ts).map Value.string)) := ho
  have HPL : Hid ((ptB L ts).length ≤ 1000) := ptB_len L ts
  have HP24 : Hid (∀ b ∈ ptB L ts, b.size ≤ 24) := ptB_24 L ts
  clear b1 ho d
  obtain ⟨B, hB⟩ : ∃ B, decide (okT L ts) = B := ⟨_, rfl⟩
  have HBB : Hid (decide (okT L ts) = B) := hB
  rw [hB]
  clear hB
  obtain ⟨P, hP⟩ : ∃ P, ptB L ts = P := ⟨_, rfl⟩
  have HPP : Hid (enB L ts = (endF P).1) := by show _ = _; rw [enB_pt, hP]
  rw [hP] at HO HPL HP24 ⊢
  clear hP
  have hpl : (P.length : Int) ≤ 1000 := by have := HPL.out; omega
  go_wp2_with fail
  go_loopw [8, 9, 20] (fun ov nv iv wr => ∃ k : Nat, k ≤ P.length ∧ iv = .int .i64 (k : Int) ∧ nv = .int .i64 (endF (P.take k)).2 ∧ Hid (wr.ownsRow w1.heap.size 3 1 ov (endF (P.take k)).1.length (rI (endF (P.take k)).1)) ∧ Hid (Below w1.heap.size w1 wr)) (fun _ _ iv _ => P.length - (intOf iv).toNat)
  case atStart => exact ⟨0, Nat.zero_le _, rfl, rfl, World.ownsRow_nil _ _ _ _, Below.refl _ _⟩
  case round =>
    obtain ⟨k, hk, rfl, rfl, HOV, HBr⟩ := hrel
    by_cases hlt : k < P.length
    · have hlt' : (k : Int) < P.length := by omega
      obtain ⟨b, off, cap', hv, hb, hc⟩ := (RowR.own HO.out).some (by omega) (by decide)
      simp only [Value.slice.injEq, true_and] at hv
      obtain ⟨rfl, rfl⟩ := hv
      have c0 : wr.cell? ⟨b, off + k, none⟩ = some (.string P[k]) := by rw [HBr.out.cell (by exact hb), hc k (by omega)]; exact mapS_at P k hlt
      have HSN : Hid (endF (P.take (k + 1)) = ((endF (P.take k)).1 ++ [(endF (P.take k)).2 + (P[k].size : Int)], (endF (P.take k)).2 + (P[k].size : Int))) := by show _ = _; rw [take_snoc P k hlt]; exact endF_snoc _ _
      have HS1 : Hid (P[k].size ≤ 24) := HP24.out _ (List.getElem_mem hlt)
      have HS2 : ∀ b ∈ P.take k, b.size ≤ 24 := fun b hb => HP24.out b (List.mem_of_mem_take hb)
      have HKL : (P.take k).length ≤ 1000 := by rw [List.length_take]; have := HPL.out; omega
      have HEN : Hid (0 ≤ (endF (P.take k)).2 ∧ (endF (P.take k)).2 ≤ 24000) := by have h1 := endF_end HS2; exact ⟨h1.1, by omega⟩
      have HEL : Hid ((endF (P.take k)).1.length ≤ 1000) := by show _ ≤ _; rw [endF_len HS2]; exact HKL
      clear hc HS2 HKL
      generalize P[k] = Y at c0 HSN HS1
      generalize (endF (P.take k)).2 = E at HEN HSN ⊢
      generalize (endF (P.take k)).1 = R at HEL HSN HOV ⊢
      have hY : (Y.size : Int) ≤ 24 := by have := HS1.out; omega
      have hE0 : 0 ≤ E := HEN.out.1
      have hE1 : E ≤ 24000 := HEN.out.2
      have hRl := HEL.out
      have hsz1 := HBr.out.size
      have hml : (1048577 : Nat) ≤ maxLen := by unfold maxLen; omega
      have e7 : IntKind.i64.wrap (E + (Y.size : Int)) = E + (Y.size : Int) := IntWalk.i64_in _ (by omega)
      have hown4 := HOV.out
      go_wp2_with (at_builtin; refine wpList_append_own _ rfl _ _ 29 rfl w1.heap.size 3 i0 (.int .i64 0) 1 8 Try.underlying29 hi hz0 hz1 hz2 rfl (by decide) _ _ _ rfl (hown4.alloc _) ⟨wr.heap.size, 0, none⟩ 1 1 [.int .i64 (E + (Y.size : Int))] rfl rfl (cell_one_new _ _ _) (by intro u hu; simp at hu; subst hu; rfl) (by omega) (by omega) (by simp; omega) ?_)
      intro v' w5 hown5 hgrow _
      have R1 : w5.ownsRow w1.heap.size 3 1 v' (R ++ [E + (Y.size : Int)]).length (rI (R ++ [E + (Y.size : Int)])) := by
        have := hown5
        unfold rI at this ⊢
        simpa using this
      have R2 := below_append HBr.out (Nat.le_refl _) hown4 hgrow
      clear hown5 hgrow hown4 HBr HOV
      go_wp2
      go_roundw
      case rel => first | exact ⟨k + 1, by omega, by go_num, by rw [HSN.out], by rw [HSN.out]; exact R1, R2⟩ | ((repeat apply Exists.intro); exact ⟨⟨k + 1, by omega, by go_num, by rw [HSN.out], by rw [HSN.out]; exact R1, R2⟩, rfl⟩)
      case measure => simp [intOf]; omega
    · have hke : k = P.length := by omega
      subst hke
      have HV : Hid (wr.ownsRow w1.heap.size 3 1 u8 (endF P).1.length (rI (endF P).1)) := by
        have := HOV.out
        rw [List.take_length] at this
        exact this
      have HL1 : Hid (w.heap.size ≤ w1.heap.size) := Nat.le_trans HLOW.out HC1.out.size
      have HBw : Hid (Below w.heap.size w wr) := (HDN.out _ HC1.out).trans (HBr.out.mono HL1.out)
      clear HOV
      go_wp2
      go_ret2
      refine ⟨_, by rw [HBB.out]; rfl, ?_, HBw.out⟩
      rw [HPP.out]
      exact own_low HV.out HL1.out

end Go.Proofs.Ytdggkcohidijcaa
