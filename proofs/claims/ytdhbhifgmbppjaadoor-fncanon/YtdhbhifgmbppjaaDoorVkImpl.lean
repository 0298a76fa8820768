/- Canon of the program. -/
import Derived.Test.YtdhbhifgmbppjaaDoorVkMath
import Derived.Test.YtdhbhifgmbppjaaDoorBuLay
namespace Go.Proofs.YtdhbhifgmbppjaaDoor
open Go.RowKit
set_option linter.unusedVariables false
set_option linter.unusedSimpArgs false

set_option maxRecDepth 20000 in
set_option maxHeartbeats 4000000 in
theorem BuK.box {b g : Nat} {w w' : World} (h : BuK b w w') {cs : Array Value} {e : TypeId} {fz : Nat × Nat} (hh : w.heap[g]? = some (.cells cs e fz)) (hne : g ≠ b) (he : e ≠ 5) : w'.heap[g]? = some (.cells cs e fz) :=
  h g _ hh (fun e1 => by simp only [Option.some.injEq] at e1; omega) (fun c fz e1 => by simp only [Obj.cells.injEq] at e1; exact he e1.2.1)

theorem ba_nil_addV (a : ByteArray) : (⟨#[]⟩ : ByteArray) ++ a = a := by
  cases a with | mk d => rw [ByteArray.mk_append_mk]; simp

set_option maxRecDepth 20000 in
set_option maxHeartbeats 4000000 in
theorem implCanon_c (L : List S_Pair) (p : Option Addr) (cap : Nat) (w : World) (hn : L.length ≤ 1048576) (hr : RowR w (.slice p L.length cap) L.length 2 (rPair L)) :
    Calls Tryd.prog 6 #[.agg #[.slice p L.length cap]] w fun e w' => e = .returned (.string (canT L)) ∧ Below w.heap.size w w' := by
  have HN : Hid (L.length ≤ 1048576) := hn
  have HR : Hid (RowR w (.slice p L.length cap) L.length 2 (rPair L)) := hr
  obtain ⟨W0, hW0⟩ : ∃ W, W = w.alloc (.cells #[.slice p L.length cap] 26) := ⟨_, rfl⟩
  have HW0 : Hid (w.alloc (.cells #[.slice p L.length cap] 26) = W0) := hW0.symm
  have HZ0 : Hid (W0.heap.size = w.heap.size + 1) := by show _ = _; rw [hW0]; simp
  have HB0 : Hid (Below w.heap.size w W0) := by rw [hW0]; exact (Below.refl _ _).alloc (Nat.le_refl _) _
  have HX : Hid (∀ W', Below W0.heap.size W0 W' → W'.cell? ⟨w.heap.size, 0, none⟩ = some (.slice p L.length cap)) := fun W' hW => by
    have hk : W'.heap[w.heap.size]? = some (.cells #[.slice p L.length cap] 26) := by rw [hW.block _ (by rw [HZ0.out]; exact Nat.lt_succ_self _), hW0]; exact alloc_last _ _
    exact box1 hk
  have d := HX.out W0 (Below.refl _ _)
  have HR0 : Hid (RowR W0 (.slice p L.length cap) L.length 2 (rPair L)) := RowR.keep HR.out HB0.out (Nat.le_refl _)
  clear hn hr hW0
  go_enter Tryd.func6, Tryd.ntmps6
  go_wp2_with fail
  rw [HW0.out]
  refine (implVok_c L p cap W0 HN.out HR0.out).mono ?_
  rintro e w1 ⟨rfl, b1⟩
  have HC1 : Hid (Below W0.heap.size W0 w1) := b1
  have HB1 : Hid (Below w.heap.size w w1) := HB0.out.trans (b1.mono (by rw [HZ0.out]; omega))
  clear b1 d
  by_cases hok : okV L
  rotate_left
  · have HF : Hid (canT L = ⟨#[]⟩) := if_neg hok
    rw [decide_eq_false hok]
    go_wp2
    go_ret
    exact ⟨by rw [HF.out]; rfl, HB1.out⟩
  rw [decide_eq_true hok]
  have HOK : Hid (okV L) := hok
  have HWT : Hid (canT L = canP L L.length) := if_pos hok
  have hn60 : (L.length : Int) ≤ 60 := by have := okV_len hok; omega
  clear hok
  have d := HX.out w1 HC1.out
  have HNZ : Hid (0 ≤ (L.length : Int) ∧ (L.length : Int) ≤ 400) := ⟨by omega, by omega⟩
  obtain ⟨WB, hWB⟩ : ∃ W, W = w1.alloc (.cells #[.pointer none, .slice none 0 0] 41) := ⟨_, rfl⟩
  have HWB : Hid (w1.alloc (.cells #[.pointer none, .slice none 0 0] 41) = WB) := hWB.symm
  have HZB : Hid (WB.heap.size = w1.heap.size + 1) := by show _ = _; rw [hWB]; simp
  have HBB : Hid (Below w1.heap.size w1 WB) := by rw [hWB]; exact (Below.refl _ _).alloc (Nat.le_refl _) _
  have HBu : Hid (Bu w1.heap.size w1.heap.size ⟨#[]⟩ WB) := by rw [hWB]; exact bu_fresh w1
  clear hWB
  go_wp2_with fail
  rw [HWB.out]
  refine (buWrite_c w1.heap.size w1.heap.size ⟨#[]⟩ ⟨#[98, 112, 101]⟩ WB HBu.out (by decide) (by rw [HZB.out]; omega)).mono ?_
  rintro e w2 ⟨rfl, hbu, b2, k2⟩
  have HBu2 : Hid (Bu w1.heap.size w1.heap.size (⟨#[98, 112, 101]⟩ : ByteArray) w2) := by rw [ba_nil_addV] at hbu; exact hbu
  have HD2 : Hid (Below w1.heap.size w1 w2) := HBB.out.trans b2
  clear hbu b2 k2 d
  have d := HX.out w2 (HC1.out.trans (HD2.out.mono HC1.out.size))
  go_wp2_with fail
  refine (ivarV L.length w2 HNZ.out.1 HNZ.out.2).mono ?_
  rintro e w3 ⟨rfl, b3⟩
  have HBu3 : Hid (Bu w1.heap.size w1.heap.size (⟨#[98, 112, 101]⟩ : ByteArray) w3) := HBu2.out.bel b3
  have HD3 : Hid (Below w1.heap.size w1 w3) := HD2.out.trans (b3.mono HD2.out.size)
  clear b3
  go_wp2_with fail
  refine (buWrite_c w1.heap.size w1.heap.size (⟨#[98, 112, 101]⟩ : ByteArray) (vrV L.length) w3 HBu3.out (by have a := vrV_size L.length (by omega); have e : (⟨#[98, 112, 101]⟩ : ByteArray).size = 3 := rfl; omega) HD3.out.size).mono ?_
  rintro e w4 ⟨rfl, hbu, b4, k4⟩
  have HBu4 : Hid (Bu w1.heap.size w1.heap.size (canP L 0) w4) := hbu
  have HD4 : Hid (Below w1.heap.size w1 w4) := HD3.out.trans b4
  clear hbu b4 k4 d
  have d := HX.out w4 (HC1.out.trans (HD4.out.mono HC1.out.size))
  go_wp2_with fail
  clear d
  go_loopw [18] (fun iv wr => ∃ k : Nat, k ≤ L.length ∧ iv = .int .i64 (k : Int) ∧ Hid (Bu w1.heap.size w1.heap.size (canP L k) wr) ∧ Hid (Below w1.heap.size w1 wr)) (fun iv _ => L.length - (intOf iv).toNat)
  case atStart => exact ⟨0, Nat.zero_le _, rfl, HBu4, HD4⟩
  case round =>
    obtain ⟨k, hk, rfl, HBu, HBr⟩ := hrel
    have HB : Hid (Below w.heap.size w wr) := HB1.out.trans (HBr.out.mono HB1.out.size)
    by_cases hlt : k < L.length
    · skip
      have hlt' : (k : Int) < L.length := by omega
      obtain ⟨b, off, cap', hv, hb, hc⟩ := HR.out.some (by omega) (by decide)
      simp only [Value.slice.injEq, true_and] at hv
      obtain ⟨rfl, rfl⟩ := hv
      have c : ∀ q, q < 2 → wr.cell? ⟨b, off + (k * 2 + q), none⟩ = (cPair L[k])[q]? := fun q hq => by
        rw [HB.out.cell (by exact hb), hc (k * 2 + q) (by omega)]
        exact flat_at cPair 2 cPair_len L k q hlt hq
      have c0 : wr.cell? ⟨b, off + k * 2, none⟩ = some (.int .i64 (L[k]).f0) := by have := c 0 (by decide); rw [← Nat.add_assoc] at this; exact this
      have c1 : wr.cell? ⟨b, off + k * 2 + 1, none⟩ = some (.int .i64 (L[k]).f1) := by have := c 1 (by decide); rw [← Nat.add_assoc] at this; exact this
      have HRG : Hid ((0 ≤ L[k].f0 ∧ L[k].f0 ≤ 400) ∧ (0 ≤ L[k].f1 ∧ L[k].f1 ≤ 400)) := okV_range HOK.out k hlt
      have HK1 : Hid (canP L k ++ vrV L[k].f0 ++ vrV L[k].f1 = canP L (k + 1)) := (canP_at L k hlt).symm
      have HPS : Hid ((canP L k).size ≤ 300) := by have := canP_size HOK.out k hk; have := okV_len HOK.out; show _ ≤ _; omega
      clear c hc
      generalize L[k] = X at c0 c1 HRG HK1
      obtain ⟨W1, hW1⟩ : ∃ W, W = wr.alloc (.cells #[.int .i64 X.f0, .int .i64 X.f1] 48) := ⟨_, rfl⟩
      have HW1 : Hid (wr.alloc (.cells #[.int .i64 X.f0, .int .i64 X.f1] 48) = W1) := hW1.symm
      have HX1 : Hid (W1.heap[wr.heap.size]? = some (.cells #[.int .i64 X.f0, .int .i64 X.f1] 48)) := by rw [hW1]; exact alloc_last _ _
      have HBu1 : Hid (Bu w1.heap.size w1.heap.size (canP L k) W1) := by rw [hW1]; exact HBu.out.bel ((Below.refl _ _).alloc (Nat.le_refl _) _)
      have HD1 : Hid (Below w1.heap.size w1 W1) := by rw [hW1]; exact HBr.out.alloc HBr.out.size _
      have HNE : Hid (wr.heap.size ≠ w1.heap.size) := by obtain ⟨cs, hcs⟩ := HBu.out.block; have := lt_of_some hcs; show _ ≠ _; omega
      have hbw : b < wr.heap.size := Nat.lt_of_lt_of_le hb HB.out.size
      have hne : ¬ b = wr.heap.size := by omega
      obtain ⟨d0, d1⟩ := box2 HX1.out
      clear hW1
      go_wp2_with fail
      rw [HW1.out]
      refine (ivarV X.f0 W1 HRG.out.1.1 HRG.out.1.2).mono ?_
      rintro e w5 ⟨rfl, b5⟩
      have HX5 : Hid (w5.heap[wr.heap.size]? = some (.cells #[.int .i64 X.f0, .int .i64 X.f1] 48)) := (b5.block _ (lt_of_some HX1.out)).trans HX1.out
      have HBu5 : Hid (Bu w1.heap.size w1.heap.size (canP L k) w5) := HBu1.out.bel b5
      have HD5 : Hid (Below w1.heap.size w1 w5) := HD1.out.trans (b5.mono HD1.out.size)
      clear b5 d0 d1 c0 c1
      go_wp2_with fail
      refine (buWrite_c w1.heap.size w1.heap.size (canP L k) (vrV X.f0) w5 HBu5.out (by have a := vrV_size X.f0 (by have := HRG.out; omega); have := HPS.out; omega) HD5.out.size).mono ?_
      rintro e w6 ⟨rfl, hbu, b6, k6⟩
      have HX6 : Hid (w6.heap[wr.heap.size]? = some (.cells #[.int .i64 X.f0, .int .i64 X.f1] 48)) := k6.box HX5.out HNE.out (by decide)
      have HBu6 : Hid (Bu w1.heap.size w1.heap.size (canP L k ++ vrV X.f0) w6) := hbu
      have HD6 : Hid (Below w1.heap.size w1 w6) := HD5.out.trans b6
      clear hbu b6 k6
      obtain ⟨d0, d1⟩ := box2 HX6.out
      go_wp2_with fail
      refine (ivarV X.f1 w6 HRG.out.2.1 HRG.out.2.2).mono ?_
      rintro e w7 ⟨rfl, b7⟩
      have HBu7 : Hid (Bu w1.heap.size w1.heap.size (canP L k ++ vrV X.f0) w7) := HBu6.out.bel b7
      have HD7 : Hid (Below w1.heap.size w1 w7) := HD6.out.trans (b7.mono HD6.out.size)
      clear b7 d0 d1
      go_wp2_with fail
      refine (buWrite_c w1.heap.size w1.heap.size (canP L k ++ vrV X.f0) (vrV X.f1) w7 HBu7.out (by have a := vrV_size X.f0 (by have := HRG.out; omega); have b := vrV_size X.f1 (by have := HRG.out; omega); have := HPS.out; rw [ByteArray.size_append]; omega) HD7.out.size).mono ?_
      rintro e w8 ⟨rfl, hbu, b8, k8⟩
      have HBu8 : Hid (Bu w1.heap.size w1.heap.size (canP L (k + 1)) w8) := by rw [HK1.out] at hbu; exact hbu
      have HD8 : Hid (Below w1.heap.size w1 w8) := HD7.out.trans b8
      clear hbu b8 k8
      go_wp2
      go_roundw
      case rel => exact ⟨k + 1, by omega, by go_num, HBu8, HD8⟩
      case measure => simp [intOf]; omega
    · have hke : k = L.length := by omega
      have HBuE : Hid (Bu w1.heap.size w1.heap.size (canP L L.length) wr) := by rw [← hke]; exact HBu.out
      clear HBu
      subst hke
      go_wp2_with fail
      refine (buString_c w1.heap.size w1.heap.size (canP L L.length) wr HBuE.out HBr.out.size).mono ?_
      rintro e w8 ⟨rfl, b8⟩
      have HE8 : Hid (Below w.heap.size w w8) := HB1.out.trans ((HBr.out.trans b8).mono HB1.out.size)
      clear b8
      go_wp2
      go_ret
      exact ⟨by rw [HWT.out]; rfl, HE8.out⟩

end Go.Proofs.YtdhbhifgmbppjaaDoor
