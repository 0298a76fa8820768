/- PlanAdd of the program. -/
import Derived.Test.YtefbenojkajnoaaPaMath
import Derived.Test.YtefbenojkajnoaaBuLay
namespace Go.Proofs.Ytefbenojkajnoaa
open Go.RowKit
set_option linter.unusedVariables false
set_option linter.unusedSimpArgs false

set_option maxRecDepth 20000 in
set_option maxHeartbeats 4000000 in
theorem implPa_c (x y : S_Wal) (R : List S_Rec) (G : Bool) (hRk : ∀ r ∈ R, okR r) (hRl : R.length ≤ 1000) (hG : G = false → R.length = 0) (hC : ∀ (W : World) (pa pb : Option Addr) (ca cb : Nat), RdWal W x (.slice pa x.f4.length ca) → RdWal W y (.slice pb y.f4.length cb) → Calls Try.prog 18 #[.agg #[.int .i64 x.f0, .int .i64 x.f1, .int .i64 x.f2, .int .i64 x.f3, .slice pa x.f4.length ca], .agg #[.int .i64 y.f0, .int .i64 y.f1, .int .i64 y.f2, .int .i64 y.f3, .slice pb y.f4.length cb]] W fun e w' => ∃ v, e = .returned (.tuple #[v, .bool G]) ∧ w'.ownsRow W.heap.size 44 5 v R.length (rRec R) ∧ Below W.heap.size W w') : ∀ (W : World) (pa pb : Option Addr) (ca cb : Nat), RdWal W x (.slice pa x.f4.length ca) → RdWal W y (.slice pb y.f4.length cb) → Calls Try.prog 7 #[.agg #[.int .i64 x.f0, .int .i64 x.f1, .int .i64 x.f2, .int .i64 x.f3, .slice pa x.f4.length ca], .agg #[.int .i64 y.f0, .int .i64 y.f1, .int .i64 y.f2, .int .i64 y.f3, .slice pb y.f4.length cb]] W fun e w' => ∃ v, e = .returned v ∧ w'.ownsRow W.heap.size 46 4 v (plL R).length (rStep (plL R)) ∧ Below W.heap.size W w' := by
  intro w pa pb ca cb hx hy
  have HRK : Hid (∀ r ∈ R, okR r) := hRk
  have HRL : Hid (R.length ≤ 1000) := hRl
  have HGR : Hid (G = false → R.length = 0) := hG
  have HCC : Hid (∀ (W : World) (pa pb : Option Addr) (ca cb : Nat), RdWal W x (.slice pa x.f4.length ca) → RdWal W y (.slice pb y.f4.length cb) → Calls Try.prog 18 #[.agg #[.int .i64 x.f0, .int .i64 x.f1, .int .i64 x.f2, .int .i64 x.f3, .slice pa x.f4.length ca], .agg #[.int .i64 y.f0, .int .i64 y.f1, .int .i64 y.f2, .int .i64 y.f3, .slice pb y.f4.length cb]] W fun e w' => ∃ v, e = .returned (.tuple #[v, .bool G]) ∧ w'.ownsRow W.heap.size 44 5 v R.length (rRec R) ∧ Below W.heap.size W w') := hC
  have hrl : (R.length : Int) ≤ 1000 := by omega
  obtain ⟨W0, hW0⟩ : ∃ W, W = (w.alloc (.cells #[.int .i64 x.f0, .int .i64 x.f1, .int .i64 x.f2, .int .i64 x.f3, .slice pa x.f4.length ca] 30)).alloc (.cells #[.int .i64 y.f0, .int .i64 y.f1, .int .i64 y.f2, .int .i64 y.f3, .slice pb y.f4.length cb] 30) := ⟨_, rfl⟩
  have HW0 : Hid ((w.alloc (.cells #[.int .i64 x.f0, .int .i64 x.f1, .int .i64 x.f2, .int .i64 x.f3, .slice pa x.f4.length ca] 30)).alloc (.cells #[.int .i64 y.f0, .int .i64 y.f1, .int .i64 y.f2, .int .i64 y.f3, .slice pb y.f4.length cb] 30) = W0) := hW0.symm
  have HS0 : Hid (W0.heap.size = w.heap.size + 2) := by show _ = _; rw [hW0]; simp
  have HB0 : Hid (Below w.heap.size w W0) := by rw [hW0]; exact (((Below.refl _ _).alloc (Nat.le_refl _) _).alloc (by simp) _)
  have hka : W0.heap[w.heap.size]? = some (.cells #[.int .i64 x.f0, .int .i64 x.f1, .int .i64 x.f2, .int .i64 x.f3, .slice pa x.f4.length ca] 30) := by rw [hW0]; exact (Below.heap_alloc _ _ _ (by simp)).trans (alloc_last w _)
  have hkb : W0.heap[w.heap.size + 1]? = some (.cells #[.int .i64 y.f0, .int .i64 y.f1, .int .i64 y.f2, .int .i64 y.f3, .slice pb y.f4.length cb] 30) := by rw [hW0]; exact lastB w _ _
  have HX0 : Hid (RdWal W0 x (.slice pa x.f4.length ca)) := RdWal.keep hx HB0.out (Nat.le_refl _)
  have HY0 : Hid (RdWal W0 y (.slice pb y.f4.length cb)) := RdWal.keep hy HB0.out (Nat.le_refl _)
  obtain ⟨d0, d1, d2, d3, d4⟩ := box5 hka
  obtain ⟨e0, e1, e2, e3, e4⟩ := box5 hkb
  clear hW0 hx hy hRk hRl hG hC hka hkb
  go_enter Try.func7, Try.ntmps7
  go_wp2_with fail
  rw [HW0.out]
  refine (HCC.out W0 pa pb ca cb HX0.out HY0.out).mono ?_
  rintro e w1 ⟨v, rfl, ho, b1⟩
  obtain ⟨q, cq, rfl⟩ : ∃ q c, v = .slice q R.length c := by obtain ⟨p, c, hv, _⟩ := own_shape ho; exact ⟨p, c, hv⟩
  have HB1 : Hid (Below w.heap.size w w1) := HB0.out.trans (b1.mono HB0.out.size)
  have HO1 : Hid (RowR w1 (.slice q R.length cq) R.length 5 (rRec R)) := RowR.own ho
  clear ho b1 d0 d1 d2 d3 d4 e0 e1 e2 e3 e4
  cases G
  · have HR0 : Hid (R.length = 0) := HGR.out rfl
    have HF : Hid (w1.ownsRow w.heap.size 46 4 (.slice none 0 0) (plL R).length (rStep (plL R))) := by
      rw [plL_no HR0.out]
      exact World.ownsRow_nil _ _ _ _
    have HBF : Hid (Below w.heap.size w w1) := HB1.out
    go_wp2
    go_ret
    exact ⟨_, rfl, HF.out, HBF.out⟩
  by_cases hr0 : R.length = 0
  · have HR0 : Hid (R.length = 0) := hr0
    have HF : Hid (w1.ownsRow w.heap.size 46 4 (.slice none 0 0) (plL R).length (rStep (plL R))) := by
      rw [plL_no HR0.out]
      exact World.ownsRow_nil _ _ _ _
    have HBF : Hid (Below w.heap.size w w1) := HB1.out
    go_wp2
    go_ret
    exact ⟨_, rfl, HF.out, HBF.out⟩
  have HRN : Hid (R.length ≠ 0) := hr0
  have hr0b : ((R.length : Int) == 0) = false := by simp only [beq_eq_false_iff_ne, ne_eq]; omega
  have hr0p : (0 : Int) < (R.length : Int) := by omega
  obtain ⟨WB, hWB⟩ : ∃ W, W = w1.alloc (.cells #[.pointer none, .slice none 0 0] 51) := ⟨_, rfl⟩
  have HWB : Hid (w1.alloc (.cells #[.pointer none, .slice none 0 0] 51) = WB) := hWB.symm
  have HBu0 : Hid (Bu w1.heap.size w1.heap.size ⟨#[]⟩ WB) := by rw [hWB]; exact bu_fresh w1
  have HBB : Hid (Below w1.heap.size w1 WB) := by rw [hWB]; exact (Below.refl _ _).alloc (Nat.le_refl _) _
  clear hWB
  go_wp2_with fail
  rw [HWB.out]
  go_loopw [25] (fun iv wr => ∃ k : Nat, k ≤ R.length ∧ iv = .int .i64 (k : Int) ∧ Hid (Bu w1.heap.size w1.heap.size (accR (R.take k)) wr) ∧ Hid (Below w1.heap.size w1 wr)) (fun iv _ => R.length - (intOf iv).toNat)
  case atStart => exact ⟨0, Nat.zero_le _, rfl, HBu0, HBB⟩
  case round =>
    obtain ⟨k, hk, rfl, HBu, HBr⟩ := hrel
    clear HBu0 HBB
    by_cases hlt : k < R.length
    · have hlt' : (k : Int) < R.length := by omega
      obtain ⟨b, off, cap', hv, hb, hc⟩ := HO1.out.some (by omega) (by decide)
      simp only [Value.slice.injEq, true_and] at hv
      obtain ⟨rfl, rfl⟩ := hv
      have c : ∀ i, i < 5 → wr.cell? ⟨b, off + (k * 5 + i), none⟩ = (cRec R[k])[i]? := fun i hi => by
        rw [HBr.out.cell (by exact hb), hc (k * 5 + i) (by omega)]
        exact flat_at cRec 5 cRec_len R k i hlt hi
      have c0 : wr.cell? ⟨b, off + k * 5, none⟩ = some (.int .i64 (R[k]).f0) := by have := c 0 (by decide); rw [← Nat.add_assoc] at this; exact this
      have c1 : wr.cell? ⟨b, off + k * 5 + 1, none⟩ = some (.int .i64 (R[k]).f1) := by have := c 1 (by decide); rw [← Nat.add_assoc] at this; exact this
      have c2 : wr.cell? ⟨b, off + k * 5 + 2, none⟩ = some (.int .i64 (R[k]).f2) := by have := c 2 (by decide); rw [← Nat.add_assoc] at this; exact this
      have c3 : wr.cell? ⟨b, off + k * 5 + 3, none⟩ = some (.int .i64 (R[k]).f3) := by have := c 3 (by decide); rw [← Nat.add_assoc] at this; exact this
      have c4 : wr.cell? ⟨b, off + k * 5 + 4, none⟩ = some (.string (R[k]).f4) := by have := c 4 (by decide); rw [← Nat.add_assoc] at this; exact this
      have HK : Hid (okR R[k]) := HRK.out _ (List.getElem_mem hlt)
      have HAT : Hid (accR (R.take (k + 1)) = accR (R.take k) ++ frR R[k]) := accR_take R k hlt
      have HAS : Hid ((accR (R.take k)).size ≤ 918 * k) := accR_small R HRK.out k hk
      clear c hc
      generalize R[k] = r at c0 c1 c2 c3 c4 HK HAT
      have hww : b < wr.heap.size := Nat.lt_of_lt_of_le hb HBr.out.size
      have hne : ¬ b = wr.heap.size := by omega
      obtain ⟨WR, hWR⟩ : ∃ W, W = wr.alloc (.cells #[.int .i64 r.f0, .int .i64 r.f1, .int .i64 r.f2, .int .i64 r.f3, .string r.f4] 44) := ⟨_, rfl⟩
      have HWR : Hid (wr.alloc (.cells #[.int .i64 r.f0, .int .i64 r.f1, .int .i64 r.f2, .int .i64 r.f3, .string r.f4] 44) = WR) := hWR.symm
      have HBR : Hid (Below wr.heap.size wr WR) := by rw [hWR]; exact (Below.refl _ _).alloc (Nat.le_refl _) _
      have hxr : WR.heap[wr.heap.size]? = some (.cells #[.int .i64 r.f0, .int .i64 r.f1, .int .i64 r.f2, .int .i64 r.f3, .string r.f4] 44) := by rw [hWR]; exact alloc_last _ _
      obtain ⟨g0, g1, g2, g3, g4⟩ := box5 hxr
      clear hWR hxr
      go_upto_region 8 with fail
      rw [HWR.out]
      clear c0 c1 c2 c3 c4
      go_wp2_with fail
      refine (implShow_c r WR (by have := okR_data HK.out; omega)).mono ?_
      rintro e w5 ⟨rfl, b5⟩
      have HB5 : Hid (Below wr.heap.size wr w5) := HBR.out.trans (b5.mono HBR.out.size)
      clear b5 g0 g1 g2 g3 g4
      go_wp2_with fail
      refine (iframe_c r w5 HK.out).mono ?_
      rintro e w6 ⟨rfl, b6⟩
      have HB6 : Hid (Below wr.heap.size wr w6) := HB5.out.trans (b6.mono HB5.out.size)
      have HBu6 : Hid (Bu w1.heap.size w1.heap.size (accR (R.take k)) w6) := HBu.out.bel HB6.out
      have HBr6 : Hid (Below w1.heap.size w1 w6) := HBr.out.trans (HB6.out.mono HBr.out.size)
      clear b6
      go_wp2_with fail
      refine (buWrite_c w1.heap.size w1.heap.size (accR (R.take k)) (frR r) w6 HBu6.out (by have a := HAS.out; have b := frR_size HK.out; omega) HBr6.out.size).mono ?_
      rintro e w7 ⟨rfl, hbu, b7, k7⟩
      have HBu7 : Hid (Bu w1.heap.size w1.heap.size (accR (R.take (k + 1))) w7) := by show Bu _ _ _ _; rw [HAT.out]; exact hbu
      have HBr7 : Hid (Below w1.heap.size w1 w7) := HBr6.out.trans b7
      clear hbu b7 k7 HAT HAS
      go_wp2
      go_roundw
      case rel => first | exact ⟨k + 1, by omega, by go_num, HBu7, HBr7⟩ | ((repeat apply Exists.intro); exact ⟨⟨k + 1, by omega, by go_num, HBu7, HBr7⟩, rfl⟩)
      case measure => simp [intOf]; omega
    · have hke : k = R.length := by omega
      subst hke
      have HBuE : Hid (Bu w1.heap.size w1.heap.size (accR R) wr) := by
        have := HBu.out
        rw [List.take_length] at this
        exact this
      go_wp2_with fail
      refine (buString_c w1.heap.size w1.heap.size (accR R) wr HBuE.out HBr.out.size).mono ?_
      rintro e w8 ⟨rfl, b8⟩
      have HB8 : Hid (Below w.heap.size w w8) := HB1.out.trans ((HBr.out.trans b8).mono HB1.out.size)
      have HF : Hid ((w8.alloc (.cells #[.int .i64 2, .string ⟨#[108, 111, 103]⟩, .string ⟨#[]⟩, .string (accR R), .int .i64 3, .string ⟨#[108, 111, 103]⟩, .string ⟨#[]⟩, .string ⟨#[]⟩] 46)).ownsRow w.heap.size 46 4 (.slice (some ⟨w8.heap.size, 0, none⟩) 2 2) (plL R).length (rStep (plL R))) := by
        rw [plL_yes HRN.out]
        exact own_two w.heap.size (accR R) HB8.out.size
      have HBF : Hid (Below w.heap.size w (w8.alloc (.cells #[.int .i64 2, .string ⟨#[108, 111, 103]⟩, .string ⟨#[]⟩, .string (accR R), .int .i64 3, .string ⟨#[108, 111, 103]⟩, .string ⟨#[]⟩, .string ⟨#[]⟩] 46))) := HB8.out.alloc HB8.out.size _
      clear b8
      go_wp2
      go_ret
      exact ⟨_, rfl, HF.out, HBF.out⟩

end Go.Proofs.Ytefbenojkajnoaa
