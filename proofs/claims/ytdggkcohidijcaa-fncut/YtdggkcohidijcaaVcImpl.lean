/- The table of a vocabulary, of the program. -/
import Derived.Test.YtdggkcohidijcaaVcSpec
namespace Go.Proofs.Ytdggkcohidijcaa
open Go.RowKit
set_option linter.unusedVariables false
set_option linter.unusedSimpArgs false

theorem byI_yes {t : List ByteArray} {i : Int} (h : inV t i) : byI t i = bytV t i := if_pos h
theorem byI_no {t : List ByteArray} {i : Int} (h : ¬ inV t i) : byI t i = ⟨#[]⟩ := if_neg h
theorem ne_of_size {a : ByteArray} (h : 0 < a.size) : a ≠ ⟨#[]⟩ := fun e => by rw [e] at h; exact absurd h (by decide)

theorem txe_no {a : ByteArray} (h : 0 < a.size) : a.toList.isEmpty = false := by
  rw [List.isEmpty_eq_false_iff]
  intro e
  exact ne_of_size h ((tx_iff a ⟨#[]⟩).1 (e.trans (by rw [ByteArray.toList_eq])))

set_option maxRecDepth 20000 in
set_option maxHeartbeats 4000000 in
theorem implTab_c (L : List S_Pair) (p : Option Addr) (cap : Nat) (w : World) (hn : L.length ≤ 1048576) (hr : RowR w (.slice p L.length cap) L.length 2 (rPair L)) :
    Calls Try.prog 63 #[.agg #[.slice p L.length cap]] w (TabR L w) := by
  have hn' : (L.length : Int) ≤ 1048576 := by omega
  have HR : Hid (RowR w (.slice p L.length cap) L.length 2 (rPair L)) := hr
  obtain ⟨W0, hW0⟩ : ∃ W, W = w.alloc (.cells #[.slice p L.length cap] 26) := ⟨_, rfl⟩
  have HW0 : Hid (w.alloc (.cells #[.slice p L.length cap] 26) = W0) := hW0.symm
  have HZ0 : Hid (W0.heap.size = w.heap.size + 1) := by show _ = _; rw [hW0]; simp
  have HB0 : Hid (Below w.heap.size w W0) := by rw [hW0]; exact (Below.refl _ _).alloc (Nat.le_refl _) _
  have HX : Hid (∀ W', Below W0.heap.size W0 W' → W'.cell? ⟨w.heap.size, 0, none⟩ = some (.slice p L.length cap)) := fun W' hW => by
    have hk : W'.heap[w.heap.size]? = some (.cells #[.slice p L.length cap] 26) := by rw [hW.block _ (by rw [HZ0.out]; exact Nat.lt_succ_self _), hW0]; exact alloc_last _ _
    exact box1 hk
  have d := HX.out W0 (Below.refl _ _)
  obtain ⟨i0, hi, hz0, hz1, hz2⟩ := info_parts infoStr
  have hml : (1048577 : Nat) ≤ maxLen := by unfold maxLen; omega
  clear hr hn
  by_cases h60 : (60 : Int) < (L.length : Int)
  · have HF : Hid (tabV L = none) := tabV_many (by omega)
    clear hW0
    go_enter Try.func63, Try.ntmps63
    go_wp2_with fail
    rw [HW0.out]
    go_ret2
    exact tabR_no HF.out HB0.out
  have H60 : Hid (L.length ≤ 60) := by show _ ≤ _; omega
  clear hW0
  go_enter Try.func63, Try.ntmps63
  go_wp2_with fail
  rw [HW0.out]
  clear d
  go_loopw [4, 17] (fun v iv wr => ∃ (k : Nat) (t : List ByteArray), k ≤ L.length ∧ iv = .int .i64 (k : Int) ∧ Hid (tabK L k = some t) ∧ Hid (wr.ownsRow W0.heap.size 9 1 v t.length (t.map Value.string)) ∧ Hid (Below W0.heap.size W0 wr)) (fun _ iv _ => L.length - (intOf iv).toNat)
  case atStart => exact ⟨0, [], Nat.zero_le _, rfl, rfl, ⟨rfl, Or.inl ⟨rfl, rfl⟩⟩, Below.refl _ _⟩
  case round =>
    obtain ⟨k, t, hk, rfl, HK, HO, HBr⟩ := hrel
    have HB : Hid (Below w.heap.size w wr) := HB0.out.trans (HBr.out.mono (by rw [HZ0.out]; omega))
    have HTK : Hid (t.length = k) := tab_len HK.out
    have HTL : Hid (t.length ≤ 60) := by have := HTK.out; have := H60.out; show _ ≤ _; omega
    have HSZ : Hid (∀ b ∈ t, 0 < b.size ∧ b.size ≤ 24) := tab_size HK.out
    by_cases hlt : k < L.length
    · skip
      have hlt' : (k : Int) < L.length := by omega
      obtain ⟨b, off, cap', hv, hb, hc⟩ := HR.out.some (by omega) (by decide)
      simp only [Value.slice.injEq, true_and] at hv
      obtain ⟨rfl, rfl⟩ := hv
      have c : ∀ q, q < 2 → wr.cell? ⟨b, off + (k * 2 + q), none⟩ = (cPair L[k])[q]? := fun q hq => by
        rw [HB.out.cell (by exact hb), hc (k * 2 + q) (by omega)]
        exact flat_at cPair 2 cPair_len L k q hlt hq
      have c0 : wr.cell? ⟨b, off + k * 2, none⟩ = some (.int .i64 (L[k]).f0) := by have := c 0 (by decide); rw [← Nat.add_assoc] at this; exact this
      have c1 : wr.cell? ⟨b, off + k * 2 + 1, none⟩ = some (.int .i64 (L[k]).f1) := by have := c 1 (by decide); rw [← Nat.add_assoc] at this; exact this
      have HG : Hid ((okP t L[k] → tabK L (k + 1) = some (t ++ [jnV t L[k]])) ∧ (¬ okP t L[k] → tabV L = none)) := ⟨fun h => tab_step HK.out hlt h, fun h => tabV_bad (tab_bad HK.out hlt h) hlt⟩
      have hbw : b < wr.heap.size := Nat.lt_of_lt_of_le hb HB.out.size
      have hww : w.heap.size < wr.heap.size := by have := HBr.out.size; rw [HZ0.out] at this; omega
      have hne : ¬ b = wr.heap.size := by omega
      have hne' : ¬ w.heap.size = wr.heap.size := by omega
      clear c hc
      generalize L[k] = X at c0 c1 HG
      obtain ⟨W1, hW1⟩ : ∃ W, W = wr.alloc (.cells #[.int .i64 X.f0, .int .i64 X.f1] 88) := ⟨_, rfl⟩
      have HW1 : Hid (wr.alloc (.cells #[.int .i64 X.f0, .int .i64 X.f1] 88) = W1) := hW1.symm
      have HNW : Hid (Below W0.heap.size W0 W1) := by rw [hW1]; exact HBr.out.alloc HBr.out.size _
      have HND : Hid (Below w.heap.size w W1) := by rw [hW1]; exact HB.out.alloc HB.out.size _
      have HO1 : Hid (W1.ownsRow W0.heap.size 9 1 u4 t.length (t.map Value.string)) := by rw [hW1]; exact HO.out.alloc _
      obtain ⟨d0, d1⟩ := box2 (show W1.heap[wr.heap.size]? = some (.cells #[.int .i64 X.f0, .int .i64 X.f1] 88) by rw [hW1]; exact alloc_last _ _)
      have HSZ1 : Hid (wr.heap.size < W1.heap.size) := by show _ < _; rw [hW1]; simp
      clear hW1
      go_upto_region 7 with fail
      rw [HW1.out]
      refine wp_region_told (fun W => Below W1.heap.size W1 W) (by kernel_rfl) (by kernel_rfl) ((Below.refl W1.heap.size W1).drew) ?_
      refine told_pure (some 21) (u4) rfl (by kernel_rfl) (fun _ => by kernel_rfl) ?_
      refine told_pure (some 22) (.pointer (some ⟨wr.heap.size, 0, none⟩)) rfl (by kernel_rfl) (fun _ => by kernel_rfl) ?_
      refine told_load (some 23) ⟨wr.heap.size, 0, none⟩ (.int .i64 X.f0) rfl (by kernel_rfl) (fun _ => by kernel_rfl) (fun _ hS => atB hS d0) ?_
      refine told_call (some 24) (.string (byI t X.f0)) 65 #[u4, .int .i64 X.f0] rfl (by kernel_rfl) (fun _ => by kernel_rfl) (fun W hS => below_S (implByt_c t u4 X.f0 W HTL.out (RowR.keep (RowR.own HO1.out) hS (Nat.le_refl _))) hS) ?_
      refine told_pure (some 25) (u4) rfl (by kernel_rfl) (fun _ => by kernel_rfl) ?_
      refine told_pure (some 26) (.pointer (some ⟨wr.heap.size, 1, none⟩)) rfl (by kernel_rfl) (fun _ => by kernel_rfl) ?_
      refine told_load (some 27) ⟨wr.heap.size, 1, none⟩ (.int .i64 X.f1) rfl (by kernel_rfl) (fun _ => by kernel_rfl) (fun _ hS => atB hS d1) ?_
      refine told_call (some 28) (.string (byI t X.f1)) 65 #[u4, .int .i64 X.f1] rfl (by kernel_rfl) (fun _ => by kernel_rfl) (fun W hS => below_S (implByt_c t u4 X.f1 W HTL.out (RowR.keep (RowR.own HO1.out) hS (Nat.le_refl _))) hS) ?_
      refine told_pure (some 7) (.string (byI t X.f0)) rfl (by kernel_rfl) (fun _ => by kernel_rfl) ?_
      refine told_pure (some 8) (.string (byI t X.f1)) rfl (by kernel_rfl) (fun _ => by kernel_rfl) ?_
      refine told_nil ?_
      intro W2 hS2
      simp only [Act.put, List.setIfInBounds_toArray, List.set_cons_zero, List.set_cons_succ]
      have HO2 : Hid (W2.ownsRow W0.heap.size 9 1 u4 t.length (t.map Value.string)) := own_bel HO1.out hS2 (Nat.le_refl _)
      have HB2 : Hid (Below W0.heap.size W0 W2) := HNW.out.trans (Below.mono hS2 HNW.out.size)
      have HD2 : Hid (Below w.heap.size w W2) := HND.out.trans (Below.mono hS2 HND.out.size)
      clear hS2 d0 d1 c0 c1
      by_cases g0 : inV t X.f0
      rotate_left
      · have HF : Hid (tabV L = none) := HG.out.2 fun h => g0 h.1
        have HE : Hid (byI t X.f0 = ⟨#[]⟩) := byI_no g0
        rw [HE.out]
        clear g0
        go_wp2
        go_ret2
        exact tabR_no HF.out HD2.out
      by_cases g1 : inV t X.f1
      rotate_left
      · have HF : Hid (tabV L = none) := HG.out.2 fun h => g1 h.2.1
        have HE : Hid (byI t X.f1 = ⟨#[]⟩) := byI_no g1
        have HE0 : Hid (byI t X.f0 = bytV t X.f0) := byI_yes g0
        have q0 := txe_no (byt_size HSZ.out g0).1
        rw [HE.out, HE0.out]
        clear g0 g1
        generalize bytV t X.f0 = A at q0 ⊢
        go_wp2
        go_ret2
        exact tabR_no HF.out HD2.out
      have HI0 : Hid (inV t X.f0) := g0
      have HI1 : Hid (inV t X.f1) := g1
      have HE0 : Hid (byI t X.f0 = bytV t X.f0) := byI_yes g0
      have HE1 : Hid (byI t X.f1 = bytV t X.f1) := byI_yes g1
      have q0 := txe_no (byt_size HSZ.out g0).1
      have q1 := txe_no (byt_size HSZ.out g1).1
      have z0 := (byt_size HSZ.out g0).2
      have z1 := (byt_size HSZ.out g1).2
      have HJ : Hid (jnV t X = bytV t X.f0 ++ bytV t X.f1) := rfl
      rw [HE0.out, HE1.out]
      clear g0 g1
      generalize bytV t X.f0 = A at q0 z0 HJ ⊢
      generalize bytV t X.f1 = B at q1 z1 HJ ⊢
      have HAB : Hid ((A ++ B).size = A.size + B.size) := ByteArray.size_append
      have hadd : ∀ W : World, (Op.stringOp .add A B).run Try.prog W = .ok (.string (A ++ B)) W := fun W => run_string_add_sum W _ _ (by omega)
      generalize A ++ B = J at HJ HAB hadd
      have hjs : (J.size : Int) ≤ 48 := by have := HAB.out; omega
      by_cases g2 : (24 : Int) < (J.size : Int)
      · have HF : Hid (tabV L = none) := HG.out.2 fun h => by have := h.2.2.1; rw [HJ.out] at this; omega
        go_wp2
        go_ret2
        exact tabR_no HF.out HD2.out
      go_wp2_with fail
      refine (placeS_c t u4 J W2 (by have := HTL.out; omega) (RowR.own HO2.out)).mono ?_
      rintro e W3 ⟨i, rfl, hi3, b3⟩
      have HI3 : Hid (0 ≤ i ↔ J ∈ t) := hi3
      have HO3 : Hid (W3.ownsRow W0.heap.size 9 1 u4 t.length (t.map Value.string)) := own_bel HO2.out b3 (Nat.le_refl _)
      have HB3 : Hid (Below W0.heap.size W0 W3) := HB2.out.trans (b3.mono HB2.out.size)
      have HD3 : Hid (Below w.heap.size w W3) := HD2.out.trans (b3.mono HD2.out.size)
      clear hi3 b3
      by_cases g3 : 0 ≤ i
      · have HF : Hid (tabV L = none) := HG.out.2 fun h => h.2.2.2 (by rw [HJ.out]; exact HI3.out.1 g3)
        go_wp2
        go_ret2
        exact tabR_no HF.out HD3.out
      have HF : Hid (tabK L (k + 1) = some (t ++ [J])) := by
        have := HG.out.1 ⟨HI0.out, HI1.out, by rw [HJ.out]; omega, by rw [HJ.out]; exact fun h => g3 (HI3.out.2 h)⟩
        rw [HJ.out] at this
        exact this
      have hown1 := HO3.out
      have hbel1 := HB3.out
      have hsz1 := hbel1.size
      have htl := HTL.out
      go_wp2_with (at_builtin; refine wpList_append_own _ rfl _ _ 38 rfl W0.heap.size 9 i0 (.string ⟨#[]⟩) 1 16 Try.underlying38 hi hz0 hz1 hz2 rfl (by decide) _ _ _ rfl (hown1.alloc _) ⟨W3.heap.size, 0, none⟩ 1 1 [.string J] rfl rfl (cell_one_new _ _ _) (by intro u hu; simp at hu; subst hu; rfl) (by omega) (by omega) (by simp; omega) ?_)
      intro v' w2 hown2 hgrow _
      have R1 := own_snocV hown2
      have R2 := below_append hbel1 (Nat.le_refl _) hown1 hgrow
      have HR1 : Hid (w2.ownsRow W0.heap.size 9 1 v' (t ++ [J]).length ((t ++ [J]).map Value.string)) := R1
      have HR2 : Hid (Below W0.heap.size W0 w2) := R2
      clear hown2 hgrow hown1 hbel1 R1 R2
      go_wp2
      go_roundw
      case rel => exact ⟨k + 1, t ++ [J], by omega, by go_num, HF, HR1, HR2⟩
      case measure => simp [intOf]; omega
    · have hke : k = L.length := by omega
      subst hke
      have HF : Hid (tabV L = some t) := tabV_yes HK.out H60.out
      have HOw : Hid (wr.ownsRow w.heap.size 9 1 u4 t.length (t.map Value.string)) := own_low HO.out (by rw [HZ0.out]; omega)
      go_wp2
      go_ret2
      exact tabR_yes HF.out HOw.out HB.out

end Go.Proofs.Ytdggkcohidijcaa
