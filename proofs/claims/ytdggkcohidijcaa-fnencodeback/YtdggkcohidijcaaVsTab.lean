/- The table of a vocabulary, of the specification: what it has, right or not. -/
import Derived.Test.YtdggkcohidijcaaVcWalk
namespace Go.Proofs.Ytdggkcohidijcaa
open Go.RowKit
set_option linter.unusedVariables false
set_option linter.unusedSimpArgs false

/-- A table's row, behind the walk, whether the vocabulary is right or not. -/
def TabD (w : World) (e : Ending) (w' : World) : Prop := Below w.heap.size w w' ∧ ∃ (t : List ByteArray) (v : Value) (b : Bool), e = .returned (.tuple #[v, .bool b]) ∧ w'.ownsRow w.heap.size 9 1 v t.length (t.map Value.string) ∧ t.length ≤ 60 ∧ ∀ x ∈ t, x.size ≤ 24
theorem tabD_is {w w' : World} {v : Value} {t : List ByteArray} {b : Bool} (ho : w'.ownsRow w.heap.size 9 1 v t.length (t.map Value.string)) (h : t.length ≤ 60) (hs : ∀ x ∈ t, x.size ≤ 24) (hb : Below w.heap.size w w') : TabD w (.returned (.tuple #[v, .bool b])) w' := ⟨hb, t, v, b, rfl, ho, h, hs⟩

set_option maxRecDepth 20000 in
set_option maxHeartbeats 4000000 in
theorem specTabD_c (L : List S_Pair) (p : Option Addr) (cap : Nat) (w : World) (hn : L.length ≤ 1048576) (hr : RowR w (.slice p L.length cap) L.length 2 (rPair L)) :
    Calls Try.prog 38 #[.agg #[.slice p L.length cap]] w (TabD w) := by
  have hn' : (L.length : Int) ≤ 1048576 := by omega
  have HR : Hid (RowR w (.slice p L.length cap) L.length 2 (rPair L)) := hr
  obtain ⟨W0, hW0⟩ : ∃ W, W = w.alloc (.cells #[.slice p L.length cap] 26) := ⟨_, rfl⟩
  have HW0 : Hid (w.alloc (.cells #[.slice p L.length cap] 26) = W0) := hW0.symm
  have HZ0 : Hid (W0.heap.size = w.heap.size + 1) := by show _ = _; rw [hW0]; simp
  have HB0 : Hid (Below w.heap.size w W0) := by rw [hW0]; exact (Below.refl _ _).alloc (Nat.le_refl _) _
  have HX : Hid (∀ W', Below W0.heap.size W0 W' → W'.cell? ⟨w.heap.size, 0, none⟩ = some (.slice p L.length cap)) := fun W' hW => by
    have hk : W'.heap[w.heap.size]? = some (.cells #[.slice p L.length cap] 26) := by rw [hW.block _ (by rw [HZ0.out]; exact Nat.lt_succ_self _), hW0]; exact alloc_last _ _
    exact box1 hk
  have d := HX.out W0 (Below.refl _ _)
  obtain ⟨i0, hi, hz0, hz1, hz2⟩ := info_parts infoStr
  have hml : (1048577 : Nat) ≤ maxLen := by unfold maxLen; omega
  clear hr hn
  have HM : Hid ((W0.alloc (.cells #[] 9)).ownsRow W0.heap.size 9 1 (.slice (some ⟨w.heap.size + 1, 0, none⟩) 0 0) ([] : List ByteArray).length (([] : List ByteArray).map Value.string)) := by
    have h := World.ownsRow_made (base := W0.heap.size) (e := 9) (size := 1) W0 #[] 0 (Nat.le_refl _) (by decide) rfl
    rw [HZ0.out] at h ⊢
    exact h
  by_cases h60 : (60 : Int) < (L.length : Int)
  · have HF : Hid (tabV L = none) := tabV_many (by omega)
    clear hW0
    go_enter Try.func38, Try.ntmps38
    go_wp2_with fail
    rw [HW0.out]
    go_ret2
    exact tabD_is (t := []) (own_low HM.out (by rw [HZ0.out]; exact Nat.le_succ _)) (Nat.zero_le _) (by simp) (HB0.out.alloc HB0.out.size _)
  have H60 : Hid (L.length ≤ 60) := by show _ ≤ _; omega
  clear hW0
  go_enter Try.func38, Try.ntmps38
  go_wp2_with fail
  rw [HW0.out]
  clear d
  go_loopw [4, 5] (fun v iv wr => ∃ (k : Nat) (t : List ByteArray), k ≤ L.length ∧ iv = .int .i64 (k : Int) ∧ Hid (tabK L k = some t) ∧ Hid (wr.ownsRow W0.heap.size 9 1 v t.length (t.map Value.string)) ∧ Hid (Below W0.heap.size W0 wr)) (fun _ iv _ => L.length - (intOf iv).toNat)
  case atStart => exact ⟨0, [], Nat.zero_le _, rfl, rfl, HM.out, (Below.refl _ _).alloc (Nat.le_refl _) _⟩
  case round =>
    obtain ⟨k, t, hk, rfl, HK, HO, HBr⟩ := hrel
    have d := HX.out wr HBr.out
    have HB : Hid (Below w.heap.size w wr) := HB0.out.trans (HBr.out.mono (by rw [HZ0.out]; omega))
    have HTK : Hid (t.length = k) := tab_len HK.out
    have HTL : Hid (t.length ≤ 60) := by have := HTK.out; have := H60.out; show _ ≤ _; omega
    have HSZ : Hid (∀ b ∈ t, 0 < b.size ∧ b.size ≤ 24) := tab_size HK.out
    by_cases hlt : k < L.length
    · skip
      have hlt' : (k : Int) < L.length := by omega
      obtain ⟨b, off, cap', hv, hb, hc⟩ := HR.out.some (by omega) (by decide)
      simp only [Value.slice.injEq, true_and] at hv
      obtain ⟨rfl, rfl⟩ := hv
      have c : ∀ q, q < 2 → wr.cell? ⟨b, off + (k * 2 + q), none⟩ = (cPair L[k])[q]? := fun q hq => by
        rw [HB.out.cell (by exact hb), hc (k * 2 + q) (by omega)]
        exact flat_at cPair 2 cPair_len L k q hlt hq
      have c0 : wr.cell? ⟨b, off + k * 2, none⟩ = some (.int .i64 (L[k]).f0) := by have := c 0 (by decide); rw [← Nat.add_assoc] at this; exact this
      have c1 : wr.cell? ⟨b, off + k * 2 + 1, none⟩ = some (.int .i64 (L[k]).f1) := by have := c 1 (by decide); rw [← Nat.add_assoc] at this; exact this
      have HG : Hid ((okP t L[k] → tabK L (k + 1) = some (t ++ [jnV t L[k]])) ∧ (¬ okP t L[k] → tabV L = none)) := ⟨fun h => tab_step HK.out hlt h, fun h => tabV_bad (tab_bad HK.out hlt h) hlt⟩
      have hbw : b < wr.heap.size := Nat.lt_of_lt_of_le hb HB.out.size
      have hww : w.heap.size < wr.heap.size := by have := HBr.out.size; rw [HZ0.out] at this; omega
      have hne : ¬ b = wr.heap.size := by omega
      have hne' : ¬ w.heap.size = wr.heap.size := by omega
      clear c hc
      generalize L[k] = X at c0 c1 HG
      obtain ⟨W1, hW1⟩ : ∃ W, W = wr.alloc (.cells #[.int .i64 X.f0, .int .i64 X.f1] 88) := ⟨_, rfl⟩
      have HW1 : Hid (wr.alloc (.cells #[.int .i64 X.f0, .int .i64 X.f1] 88) = W1) := hW1.symm
      have HNW : Hid (Below W0.heap.size W0 W1) := by rw [hW1]; exact HBr.out.alloc HBr.out.size _
      have HND : Hid (Below w.heap.size w W1) := by rw [hW1]; exact HB.out.alloc HB.out.size _
      have HO1 : Hid (W1.ownsRow W0.heap.size 9 1 u4 t.length (t.map Value.string)) := by rw [hW1]; exact HO.out.alloc _
      obtain ⟨d0, d1⟩ := box2 (show W1.heap[wr.heap.size]? = some (.cells #[.int .i64 X.f0, .int .i64 X.f1] 88) by rw [hW1]; exact alloc_last _ _)
      have HSZ1 : Hid (wr.heap.size < W1.heap.size) := by show _ < _; rw [hW1]; simp
      clear hW1
      have e5 : IntKind.i64.wrap (255 + (k : Int)) = 255 + (k : Int) := IntWalk.i64_in _ (by omega)
      have HXi : Hid ((inV t X.f0 ↔ 0 ≤ X.f0 ∧ X.f0 ≤ 255 + (k : Int)) ∧ (inV t X.f1 ↔ 0 ≤ X.f1 ∧ X.f1 ≤ 255 + (k : Int))) := by unfold inV; rw [HTK.out]; exact ⟨Iff.rfl, Iff.rfl⟩
      by_cases g0 : inV t X.f0
      · have HI0 : Hid (inV t X.f0) := g0
        clear g0
        go_wp2_with fail
        rw [HW1.out]
        refine (sinV_yes X.f0 0 (255 + (k : Int)) W1 (HXi.out.1.1 HI0.out).1 (HXi.out.1.1 HI0.out).2).mono ?_
        rintro e wz ⟨rfl, hw⟩
        replace hw := hw.symm
        subst hw
        by_cases g1 : inV t X.f1
        · have HI1 : Hid (inV t X.f1) := g1
          clear g1
          go_wp2_with fail
          refine (sinV_yes X.f1 0 (255 + (k : Int)) W1 (HXi.out.2.1 HI1.out).1 (HXi.out.2.1 HI1.out).2).mono ?_
          rintro e wz ⟨rfl, hw⟩
          replace hw := hw.symm
          subst hw
          go_upto_region 10 with fail
          refine wp_region_told (fun W => Below W1.heap.size W1 W) (by kernel_rfl) (by kernel_rfl) ((Below.refl W1.heap.size W1).drew) ?_
          refine told_pure (some 42) (u4) rfl (by kernel_rfl) (fun _ => by kernel_rfl) ?_
          refine told_pure (some 43) (.pointer (some ⟨wr.heap.size, 0, none⟩)) rfl (by kernel_rfl) (fun _ => by kernel_rfl) ?_
          refine told_load (some 44) ⟨wr.heap.size, 0, none⟩ (.int .i64 X.f0) rfl (by kernel_rfl) (fun _ => by kernel_rfl) (fun _ hS => atB hS d0) ?_
          refine told_call (some 45) (.string (bytV t X.f0)) 64 #[u4, .int .i64 X.f0] rfl (by kernel_rfl) (fun _ => by kernel_rfl) (fun W hS => below_S (specByt_c t u4 X.f0 W HTL.out HI0.out (RowR.keep (RowR.own HO1.out) hS (Nat.le_refl _))) hS) ?_
          refine told_pure (some 46) (u4) rfl (by kernel_rfl) (fun _ => by kernel_rfl) ?_
          refine told_pure (some 47) (.pointer (some ⟨wr.heap.size, 1, none⟩)) rfl (by kernel_rfl) (fun _ => by kernel_rfl) ?_
          refine told_load (some 48) ⟨wr.heap.size, 1, none⟩ (.int .i64 X.f1) rfl (by kernel_rfl) (fun _ => by kernel_rfl) (fun _ hS => atB hS d1) ?_
          refine told_call (some 49) (.string (bytV t X.f1)) 64 #[u4, .int .i64 X.f1] rfl (by kernel_rfl) (fun _ => by kernel_rfl) (fun W hS => below_S (specByt_c t u4 X.f1 W HTL.out HI1.out (RowR.keep (RowR.own HO1.out) hS (Nat.le_refl _))) hS) ?_
          refine told_run (some 50) (.string (bytV t X.f0 ++ bytV t X.f1)) (Op.stringOp .add (bytV t X.f0) (bytV t X.f1)) rfl (by kernel_rfl) (fun _ => by kernel_rfl) (fun W _ => run_string_add_sum W _ _ (by have a := (byt_size HSZ.out HI0.out).2; have b := (byt_size HSZ.out HI1.out).2; omega)) ?_
          refine told_pure (some 7) (.string (bytV t X.f0 ++ bytV t X.f1)) rfl (by kernel_rfl) (fun _ => by kernel_rfl) ?_
          refine told_nil ?_
          intro W2 hS2
          simp only [Act.put, List.setIfInBounds_toArray, List.set_cons_zero, List.set_cons_succ]
          have HO2 : Hid (W2.ownsRow W0.heap.size 9 1 u4 t.length (t.map Value.string)) := own_bel HO1.out hS2 (Nat.le_refl _)
          have HB2 : Hid (Below W0.heap.size W0 W2) := HNW.out.trans (Below.mono hS2 HNW.out.size)
          have HD2 : Hid (Below w.heap.size w W2) := HND.out.trans (Below.mono hS2 HND.out.size)
          have HJs : Hid ((bytV t X.f0 ++ bytV t X.f1).size ≤ 48) := by show _ ≤ _; rw [ByteArray.size_append]; have a := (byt_size HSZ.out HI0.out).2; have b := (byt_size HSZ.out HI1.out).2; omega
          have HJ : Hid (jnV t X = bytV t X.f0 ++ bytV t X.f1) := rfl
          generalize bytV t X.f0 ++ bytV t X.f1 = J at HJs HJ ⊢
          clear hS2 d0 d1 d c0 c1
          have hjs : (J.size : Int) ≤ 48 := by have := HJs.out; omega
          by_cases g2 : (24 : Int) < (J.size : Int)
          · have HF : Hid (tabV L = none) := HG.out.2 fun h => by have := h.2.2.1; rw [HJ.out] at this; omega
            go_wp2
            go_ret2
            exact tabD_is (own_low HO2.out (by rw [HZ0.out]; exact Nat.le_succ _)) HTL.out (fun x hx => (HSZ.out x hx).2) HD2.out
          go_wp2_with fail
          go_loopw [8] (fun jv wq => ∃ j : Nat, j ≤ k ∧ jv = .int .i64 (j : Int) ∧ wq = W2 ∧ Hid (J ∉ t.take j)) (fun jv _ => k - (intOf jv).toNat)
          case atStart => exact ⟨0, Nat.zero_le _, rfl, rfl, by show _ ∉ _; simp⟩
          case round =>
            obtain ⟨j, hj, rfl, hwq, HN⟩ := hrel
            replace hwq := hwq.symm
            subst hwq
            by_cases hjk : j < k
            · have hjt : j < t.length := by have := HTK.out; omega
              have hjk' : (j : Int) < (k : Int) := by omega
              obtain ⟨tb, tof, tc, hv, htb, htcell⟩ := (RowR.own HO2.out).some (by omega) (by decide)
              have hcj : W2.cell? ⟨tb, tof + j, none⟩ = some (.string t[j]) := by rw [htcell j (by omega), mapS_at t j hjt]
              have htl : (j : Int) < (t.length : Int) := by omega
              have HT : Hid (t.take (j + 1) = t.take j ++ [t[j]]) := List.take_succ_eq_append_getElem hjt
              have HM : Hid (t[j] ∈ t) := List.getElem_mem hjt
              clear htcell
              generalize t[j] = Y at hcj HT HM
              subst hv
              by_cases he : Y = J
              · have hq := tx_yes he
                have HF : Hid (tabV L = none) := HG.out.2 fun h => h.2.2.2 (by rw [HJ.out, ← he]; exact HM.out)
                clear he
                go_wp2
                go_ret2
                exact tabD_is (own_low HO2.out (by rw [HZ0.out]; exact Nat.le_succ _)) HTL.out (fun x hx => (HSZ.out x hx).2) HD2.out
              · have hq := tx_no he
                have HN2 : Hid (J ∉ t.take (j + 1)) := by
                  show _ ∉ _
                  rw [HT.out, List.mem_append, List.mem_singleton]
                  rintro (h | h)
                  · exact HN.out h
                  · exact he h.symm
                clear he
                go_wp2
                go_roundw
                case rel => exact ⟨j + 1, by omega, by go_num, by trivial, HN2⟩
                case measure => simp [intOf]; omega
            · have hje : j = k := by omega
              subst hje
              have HF : Hid (tabK L (j + 1) = some (t ++ [J])) := by
                have := HG.out.1 ⟨HI0.out, HI1.out, by rw [HJ.out]; omega, by rw [HJ.out]; have h := HN.out; rw [← HTK.out, List.take_length] at h; exact h⟩
                rw [HJ.out] at this
                exact this
              have hown1 := HO2.out
              have hbel1 := HB2.out
              have hsz1 := hbel1.size
              have htl := HTL.out
              go_wp2_with (at_builtin; refine wpList_append_own _ rfl _ _ 38 rfl W0.heap.size 9 i0 (.string ⟨#[]⟩) 1 16 Try.underlying38 hi hz0 hz1 hz2 rfl (by decide) _ _ _ rfl (hown1.alloc _) ⟨W2.heap.size, 0, none⟩ 1 1 [.string J] rfl rfl (cell_one_new _ _ _) (by intro u hu; simp at hu; subst hu; rfl) (by omega) (by omega) (by simp; omega) ?_)
              intro v' w2 hown2 hgrow _
              have R1 := own_snocV hown2
              have R2 := below_append hbel1 (Nat.le_refl _) hown1 hgrow
              have HR1 : Hid (w2.ownsRow W0.heap.size 9 1 v' (t ++ [J]).length ((t ++ [J]).map Value.string)) := R1
              have HR2 : Hid (Below W0.heap.size W0 w2) := R2
              clear hown2 hgrow hown1 hbel1 R1 R2
              go_wp2
              go_roundw
              case rel => exact ⟨j + 1, t ++ [J], by omega, by go_num, HF, HR1, HR2⟩
              case measure => simp [intOf]; omega
        · have HF : Hid (tabV L = none) := HG.out.2 fun h => g1 h.2.1
          have HI1 : Hid (¬ inV t X.f1) := g1
          clear g1
          go_wp2_with fail
          refine (sinV_no X.f1 0 (255 + (k : Int)) W1 (fun h => HI1.out (HXi.out.2.2 h))).mono ?_
          rintro e wz ⟨rfl, hw⟩
          replace hw := hw.symm
          subst hw
          go_wp2
          go_ret2
          exact tabD_is (own_low HO1.out (by rw [HZ0.out]; exact Nat.le_succ _)) HTL.out (fun x hx => (HSZ.out x hx).2) HND.out
      · have HF : Hid (tabV L = none) := HG.out.2 fun h => g0 h.1
        have HI0 : Hid (¬ inV t X.f0) := g0
        clear g0
        go_wp2_with fail
        rw [HW1.out]
        refine (sinV_no X.f0 0 (255 + (k : Int)) W1 (fun h => HI0.out (HXi.out.1.2 h))).mono ?_
        rintro e wz ⟨rfl, hw⟩
        replace hw := hw.symm
        subst hw
        go_wp2
        go_ret2
        exact tabD_is (own_low HO1.out (by rw [HZ0.out]; exact Nat.le_succ _)) HTL.out (fun x hx => (HSZ.out x hx).2) HND.out
    · have hke : k = L.length := by omega
      subst hke
      have HF : Hid (tabV L = some t) := tabV_yes HK.out H60.out
      have HOw : Hid (wr.ownsRow w.heap.size 9 1 u4 t.length (t.map Value.string)) := own_low HO.out (by rw [HZ0.out]; omega)
      go_wp2
      go_ret2
      exact tabD_is HOw.out HTL.out (fun x hx => (HSZ.out x hx).2) HB.out

end Go.Proofs.Ytdggkcohidijcaa
