/- WalOk of the program. -/
import Derived.Test.YthlokfcejojdhaaDoorWwSpec
namespace Go.Proofs.YthlokfcejojdhaaDoor
open Go.RowKit
set_option linter.unusedVariables false

theorem okR_base (i t : Int) : okR ⟨4, t, i, 0, ⟨#[]⟩⟩ ↔ bsR i t := by
  unfold okR bsR
  simp

theorem okR_hard (t v : Int) : okR ⟨1, t, 0, v, ⟨#[]⟩⟩ ↔ (0 ≤ t ∧ t ≤ 100000) ∧ (-1 ≤ v ∧ v ≤ 4) := by
  unfold okR
  simp

set_option maxRecDepth 20000 in
set_option maxHeartbeats 4000000 in
theorem implWalOk_c (x : S_Wal) (p : Option Addr) (cap : Nat) (w : World) (hn : x.f4.length ≤ 1048576) (hs : ∀ y ∈ x.f4, sEntry y) (hr : RowR w (.slice p x.f4.length cap) x.f4.length 2 (rEntry x.f4)) :
    Calls Tryd.prog 18 #[.agg #[.int .i64 x.f0, .int .i64 x.f1, .int .i64 x.f2, .int .i64 x.f3, .slice p x.f4.length cap]] w fun e w' => e = .returned (.bool (decide (okW x))) ∧ Below w.heap.size w w' := by
  obtain ⟨WW, hWW⟩ : ∃ W, W = (((w.alloc (.cells #[.int .i64 x.f0, .int .i64 x.f1, .int .i64 x.f2, .int .i64 x.f3, .slice p x.f4.length cap] 26)).alloc (.cells #[.int .i64 4, .int .i64 x.f3, .int .i64 x.f2, .int .i64 0, .string ⟨#[]⟩] 57)).alloc (.cells #[.int .i64 1, .int .i64 x.f0, .int .i64 0, .int .i64 x.f1, .string ⟨#[]⟩] 57)) := ⟨_, rfl⟩
  have HW : Hid ((((w.alloc (.cells #[.int .i64 x.f0, .int .i64 x.f1, .int .i64 x.f2, .int .i64 x.f3, .slice p x.f4.length cap] 26)).alloc (.cells #[.int .i64 4, .int .i64 x.f3, .int .i64 x.f2, .int .i64 0, .string ⟨#[]⟩] 57)).alloc (.cells #[.int .i64 1, .int .i64 x.f0, .int .i64 0, .int .i64 x.f1, .string ⟨#[]⟩] 57)) = WW) := hWW.symm
  have HZ0 : Hid (WW.heap.size = w.heap.size + 3) := by show _ = _; rw [hWW]; simp
  have HBW : Hid (Below w.heap.size w WW) := by rw [hWW]; exact (((Below.refl _ _).alloc (Nat.le_refl _) _).alloc (by simp) _).alloc (by simp; omega) _
  have HX : Hid (∀ W', Below WW.heap.size WW W' → W'.cell? ⟨w.heap.size, 0, none⟩ = some (.int .i64 x.f0) ∧ W'.cell? ⟨w.heap.size, 1, none⟩ = some (.int .i64 x.f1) ∧ W'.cell? ⟨w.heap.size, 2, none⟩ = some (.int .i64 x.f2) ∧ W'.cell? ⟨w.heap.size, 3, none⟩ = some (.int .i64 x.f3) ∧ W'.cell? ⟨w.heap.size, 4, none⟩ = some (.slice p x.f4.length cap)) := fun W' hW => by
    have hk : W'.heap[w.heap.size]? = some (.cells #[.int .i64 x.f0, .int .i64 x.f1, .int .i64 x.f2, .int .i64 x.f3, .slice p x.f4.length cap] 26) := by
      rw [hW.block _ (by rw [HZ0.out]; omega), hWW, ((Below.refl (((w.alloc (.cells #[.int .i64 x.f0, .int .i64 x.f1, .int .i64 x.f2, .int .i64 x.f3, .slice p x.f4.length cap] 26)).alloc (.cells #[.int .i64 4, .int .i64 x.f3, .int .i64 x.f2, .int .i64 0, .string ⟨#[]⟩] 57))).heap.size (((w.alloc (.cells #[.int .i64 x.f0, .int .i64 x.f1, .int .i64 x.f2, .int .i64 x.f3, .slice p x.f4.length cap] 26)).alloc (.cells #[.int .i64 4, .int .i64 x.f3, .int .i64 x.f2, .int .i64 0, .string ⟨#[]⟩] 57)))).alloc (Nat.le_refl _) _).block _ (by simp; omega), ((Below.refl ((w.alloc (.cells #[.int .i64 x.f0, .int .i64 x.f1, .int .i64 x.f2, .int .i64 x.f3, .slice p x.f4.length cap] 26))).heap.size ((w.alloc (.cells #[.int .i64 x.f0, .int .i64 x.f1, .int .i64 x.f2, .int .i64 x.f3, .slice p x.f4.length cap] 26)))).alloc (Nat.le_refl _) _).block _ (by simp)]
      exact alloc_last _ _
    exact box5 hk
  have HY : Hid (∀ W', Below WW.heap.size WW W' → W'.cell? ⟨w.heap.size + 1 + 1, 0, none⟩ = some (.int .i64 1) ∧ W'.cell? ⟨w.heap.size + 1 + 1, 1, none⟩ = some (.int .i64 x.f0) ∧ W'.cell? ⟨w.heap.size + 1 + 1, 2, none⟩ = some (.int .i64 0) ∧ W'.cell? ⟨w.heap.size + 1 + 1, 3, none⟩ = some (.int .i64 x.f1) ∧ W'.cell? ⟨w.heap.size + 1 + 1, 4, none⟩ = some (.string ⟨#[]⟩)) := fun W' hW => by
    have hk : W'.heap[w.heap.size + 1 + 1]? = some (.cells #[.int .i64 1, .int .i64 x.f0, .int .i64 0, .int .i64 x.f1, .string ⟨#[]⟩] 57) := by
      rw [hW.block _ (by rw [HZ0.out]; omega), hWW]
      have := alloc_last (((w.alloc (.cells #[.int .i64 x.f0, .int .i64 x.f1, .int .i64 x.f2, .int .i64 x.f3, .slice p x.f4.length cap] 26)).alloc (.cells #[.int .i64 4, .int .i64 x.f3, .int .i64 x.f2, .int .i64 0, .string ⟨#[]⟩] 57))) (.cells #[.int .i64 1, .int .i64 x.f0, .int .i64 0, .int .i64 x.f1, .string ⟨#[]⟩] 57)
      rw [World.size_alloc, World.size_alloc] at this
      exact this
    exact box5 hk
  have HS : Hid (∀ y ∈ x.f4, sEntry y) := hs
  have HR : Hid (RowR w (.slice p x.f4.length cap) x.f4.length 2 (rEntry x.f4)) := hr
  have hn' : (x.f4.length : Int) ≤ 1048576 := by omega
  clear hs hr hWW
  go_enter Tryd.func18, Tryd.ntmps18
  go_wp2_with fail
  rw [HW.out]
  refine (implRecOk_c ⟨4, x.f3, x.f2, 0, ⟨#[]⟩⟩ WW (Nat.zero_le _)).mono ?_
  rintro e w1 ⟨rfl, b1⟩
  have HB1 : Hid (Below WW.heap.size WW w1) := b1
  clear b1
  by_cases h2 : bsR x.f2 x.f3
  rotate_left
  · rw [decide_eq_false (fun h => h2 ((okR_base _ _).1 h))]
    have HF : Hid (¬ okW x) := fun h => h2 h.1.2.2.1
    have HE : Hid (Below w.heap.size w w1) := HBW.out.trans (HB1.out.mono (by rw [HZ0.out]; omega))
    go_wp2
    go_ret
    exact ⟨ret_f HF.out, HE.out⟩
  rw [decide_eq_true ((okR_base _ _).2 h2)]
  obtain ⟨g0, g1, g2, g3, g4⟩ := HY.out w1 HB1.out
  go_wp2_with fail
  refine (implRecOk_c ⟨1, x.f0, 0, x.f1, ⟨#[]⟩⟩ w1 (Nat.zero_le _)).mono ?_
  rintro e w2 ⟨rfl, b2⟩
  have HB2 : Hid (Below WW.heap.size WW w2) := HB1.out.trans (b2.mono HB1.out.size)
  clear b2 g0 g1 g2 g3 g4
  have HE : Hid (Below w.heap.size w w2) := HBW.out.trans (HB2.out.mono (by rw [HZ0.out]; omega))
  by_cases h01 : (0 ≤ x.f0 ∧ x.f0 ≤ 100000) ∧ (-1 ≤ x.f1 ∧ x.f1 ≤ 4)
  rotate_left
  · rw [decide_eq_false (fun h => h01 ((okR_hard _ _).1 h))]
    have HF : Hid (¬ okW x) := fun h => h01 ⟨h.1.1, h.1.2.1⟩
    go_wp2
    go_ret
    exact ⟨ret_f HF.out, HE.out⟩
  rw [decide_eq_true ((okR_hard _ _).2 h01)]
  obtain ⟨d0, d1, d2, d3, d4⟩ := HX.out w2 HB2.out
  have b2 : 0 ≤ x.f2 ∧ x.f2 ≤ 100000 := by unfold bsR at h2; omega
  by_cases h3 : x.f0 < x.f3
  · have HF : Hid (¬ okW x) := fun h => by have := h.1.2.2.2.1; omega
    go_wp2
    go_ret
    exact ⟨ret_f HF.out, HE.out⟩
  by_cases h4 : (60 : Int) < (x.f4.length : Int)
  · have HF : Hid (¬ okW x) := fun h => by have := h.1.2.2.2.2.1; omega
    go_wp2
    go_ret
    exact ⟨ret_f HF.out, HE.out⟩
  have e5 : IntKind.i64.wrap (x.f2 + (x.f4.length : Int)) = x.f2 + (x.f4.length : Int) := IntWalk.i64_in _ (by omega)
  by_cases h5 : (100000 : Int) < x.f2 + (x.f4.length : Int)
  · have HF : Hid (¬ okW x) := fun h => by have := h.1.2.2.2.2.2; omega
    go_wp2
    go_ret
    exact ⟨ret_f HF.out, HE.out⟩
  have HOK : Hid (okW x ↔ okE x.f0 (lastE x.f3 x.f4 0) (x.f4.drop 0)) := ⟨fun h => h.2, fun h => ⟨⟨h01.1, h01.2, h2, by omega, by omega, by omega⟩, h⟩⟩
  obtain ⟨m, hm⟩ : ∃ m, max x.f3 1 = m := ⟨_, rfl⟩
  have HM : Hid (∀ e : Int, m ≤ e ↔ 1 ≤ e ∧ lastE x.f3 x.f4 0 ≤ e) := fun e => by show _ ↔ 1 ≤ e ∧ x.f3 ≤ e; omega
  clear h2 h01
  go_wp2_with fail
  clear h3 h4 h5 e5 b2
  go_loopw [5, 52] (fun lv iv wr => ∃ (k : Nat) (l : Int), k ≤ x.f4.length ∧ iv = .int .i64 (k : Int) ∧ lv = .int .i64 l ∧ Hid (∀ e : Int, l ≤ e ↔ 1 ≤ e ∧ lastE x.f3 x.f4 k ≤ e) ∧ Hid (okW x ↔ okE x.f0 (lastE x.f3 x.f4 k) (x.f4.drop k)) ∧ Hid (Below WW.heap.size WW wr)) (fun _ iv _ => x.f4.length - (intOf iv).toNat)
  case atStart => exact ⟨0, m, Nat.zero_le _, rfl, by simp [← hm], HM, HOK, HB2⟩
  case round =>
    obtain ⟨k, l, hk, rfl, rfl, HL0, HK, HBr⟩ := hrel
    clear d0 d1 d2 d3 d4
    obtain ⟨d0, d1, d2, d3, d4⟩ := HX.out wr HBr.out
    have HB : Hid (Below w.heap.size w wr) := HBW.out.trans (HBr.out.mono (by rw [HZ0.out]; omega))
    by_cases hlt : k < x.f4.length
    · have hlt' : (k : Int) < x.f4.length := by omega
      obtain ⟨b, off, cap', hv, hb, hc⟩ := HR.out.some (by omega) (by decide)
      simp only [Value.slice.injEq, true_and] at hv
      obtain ⟨rfl, rfl⟩ := hv
      have HC : Hid (∀ j, j < x.f4.length * 2 → w.cell? ⟨b, off + j, none⟩ = (rEntry x.f4)[j]?) := hc
      clear hc
      have c : ∀ q, q < 2 → wr.cell? ⟨b, off + (k * 2 + q), none⟩ = (cEntry x.f4[k])[q]? := fun q hq => by
        rw [HB.out.cell (by exact hb), HC.out (k * 2 + q) (by omega)]
        exact flat_at cEntry 2 cEntry_len x.f4 k q hlt hq
      have c0 : wr.cell? ⟨b, off + k * 2, none⟩ = some (.int .i64 (x.f4[k]).f0) := by have := c 0 (by decide); rw [← Nat.add_assoc] at this; exact this
      have c1 : wr.cell? ⟨b, off + k * 2 + 1, none⟩ = some (.string (x.f4[k]).f1) := by have := c 1 (by decide); rw [← Nat.add_assoc] at this; exact this
      clear c
      have HSZ : Hid (x.f4[k].f1.size ≤ 9223372036854775807) := by have := HS.out x.f4[k] (List.getElem_mem hlt); unfold sEntry maxLen at this; exact this
      have HD : Hid (okE x.f0 (lastE x.f3 x.f4 k) (x.f4.drop k) ↔ goodE x.f0 (lastE x.f3 x.f4 k) x.f4[k] ∧ okE x.f0 (lastE x.f3 x.f4 (k + 1)) (x.f4.drop (k + 1))) := okE_drop _ _ _ _ hlt
      have HL : Hid (lastE x.f3 x.f4 (k + 1) = x.f4[k].f0) := lastE_succ _ _ _ hlt
      have HNW : Hid (Below WW.heap.size WW (wr.alloc (.cells #[.int .i64 x.f4[k].f0, .string x.f4[k].f1] 63))) := HBr.out.alloc HBr.out.size _
      have HND : Hid (Below w.heap.size w (wr.alloc (.cells #[.int .i64 x.f4[k].f0, .string x.f4[k].f1] 63))) := HB.out.alloc HB.out.size _
      have hbw : b < wr.heap.size := Nat.lt_of_lt_of_le hb HB.out.size
      have hww : w.heap.size < wr.heap.size := by have := HBr.out.size; rw [HZ0.out] at this; omega
      have hne : ¬ b = wr.heap.size := by omega
      have hne' : ¬ w.heap.size = wr.heap.size := by omega
      have hsz : (x.f4[k].f1.size : Int) ≤ 9223372036854775807 := by have := HSZ.out; omega
      generalize x.f4[k] = X at c0 c1 HD HL HNW HND hsz
      clear HSZ
      generalize lastE x.f3 x.f4 k = la at HD HK HL0
      by_cases g0 : l ≤ X.f0 ∧ X.f0 ≤ x.f0
      rotate_left
      · have HF : Hid (¬ okW x) := fun h => by
          have h1 := (HD.out.1 (HK.out.1 h)).1
          exact g0 ⟨(HL0.out _).2 ⟨h1.1, h1.2.1⟩, h1.2.2.1⟩
        go_wp2_with fail
        refine (win_no X.f0 l x.f0 _ g0).mono ?_
        rintro e _ ⟨rfl, rfl⟩
        go_wp2
        go_ret
        exact ⟨ret_f HF.out, HND.out⟩
      by_cases g3 : (900 : Int) < (X.f1.size : Int)
      · have HF : Hid (¬ okW x) := fun h => by have := (HD.out.1 (HK.out.1 h)).1.2.2.2; omega
        go_wp2_with fail
        refine (win_yes X.f0 l x.f0 _ g0.1 g0.2).mono ?_
        rintro e _ ⟨rfl, rfl⟩
        go_wp2
        go_ret
        exact ⟨ret_f HF.out, HND.out⟩
      · have HG := (HL0.out X.f0).1 g0.1
        have HK1 : Hid (okW x ↔ okE x.f0 (lastE x.f3 x.f4 (k + 1)) (x.f4.drop (k + 1))) := ⟨fun h => (HD.out.1 (HK.out.1 h)).2, fun h => HK.out.2 (HD.out.2 ⟨⟨HG.1, HG.2, g0.2, by omega⟩, h⟩)⟩
        have HL1 : Hid (∀ e : Int, X.f0 ≤ e ↔ 1 ≤ e ∧ lastE x.f3 x.f4 (k + 1) ≤ e) := fun e => by rw [HL.out]; omega
        clear HG
        go_wp2_with fail
        refine (win_yes X.f0 l x.f0 _ g0.1 g0.2).mono ?_
        rintro e _ ⟨rfl, rfl⟩
        clear g0
        go_wp2
        go_roundw
        case rel => exact ⟨k + 1, X.f0, by omega, by go_num, rfl, HL1, HK1, HNW⟩
        case measure => simp [intOf]; omega
    · have hke : k = x.f4.length := by omega
      subst hke
      have HT : Hid (okW x) := HK.out.2 (by rw [List.drop_length]; trivial)
      clear HL0 HK
      go_wp2
      go_ret
      exact ⟨ret_t HT.out, HB.out⟩

end Go.Proofs.YthlokfcejojdhaaDoor
