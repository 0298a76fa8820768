/- The walk of what spreads a block to its words (the program's own). -/
import Derived.Test.YtdhbhifgmbppjaaDoorJSa
import Derived.Below
import Derived.OneCell
import Derived.Deep.QuietTactic
import Derived.BigQuiet
import Derived.Deep.RegionHeld3
import Derived.Deep.MidRow
import Derived.Deep.DrawnRows
namespace Go.Proofs.YtdhbhifgmbppjaaDoor
open Go.RowKit
set_option linter.unusedVariables false
attribute [local go_sem ↓] Go.wp_at_zero Go.wp_at_succ

set_option maxRecDepth 20000 in
set_option maxHeartbeats 2000000 in
theorem words_any (w : World) (B : Nat) (wt : List Int) (hB : B < w.heap.size) (hc : ∀ j, j < 64 → w.cell? ⟨B, 8 + j, none⟩ = some (.int .u8 (wt.getD j 0))) (hz : ∀ j, 0 ≤ wt.getD j 0 ∧ wt.getD j 0 ≤ 255) :
    Calls Tryd.prog 57 #[.pointer (some ⟨B, 0, none⟩)] w fun e w' => e = .returned (.agg ((wL wt 64).map (Value.int .u32)).toArray) ∧ Below w.heap.size w w' := by
  have HC : Hid (∀ j, j < 64 → w.cell? ⟨B, 8 + j, none⟩ = some (.int .u8 (wt.getD j 0))) := hc
  have HZ : Hid (∀ j, 0 ≤ wt.getD j 0 ∧ wt.getD j 0 ≤ 255) := hz
  clear hc hz
  go_enter Tryd.func57, Tryd.ntmps57
  go_wp2
  go_loopw [11] (fun i wr => ∃ k : Nat, k ≤ 16 ∧ i = .int .i64 k ∧ wr.ownsRow w.heap.size 90 1 (.slice (some ⟨w.heap.size + 1, 0, none⟩) 64 64) 64 (wCells (wL wt k)) ∧ wr.ownsRow w.heap.size 90 1 (.slice (some ⟨w.heap.size, 0, none⟩) 64 64) 64 (wCells []) ∧ Below w.heap.size w wr) (fun i _ => 16 - (intOf i).toNat)
  case atStart =>
    refine ⟨0, by omega, rfl, ?_, ?_, ?_⟩
    · have h := World.ownsRow_lit (base := w.heap.size) (size := 1) (e := 90) (w.alloc (.cells (wCells []).toArray 90)) (wCells []).toArray 64 (by simp) (by decide) (by decide)
      have e : (w.alloc (.cells (wCells []).toArray 90)).heap.size = w.heap.size + 1 := by simp
      rw [e] at h
      exact h
    · have h := World.ownsRow_lit (base := w.heap.size) (size := 1) (e := 90) w (wCells []).toArray 64 (Nat.le_refl _) (by decide) (by decide)
      exact h.alloc _
    · exact ((Below.refl _ _).alloc (Nat.le_refl _) _).alloc (by simp) _
  case round =>
    obtain ⟨k, hk, rfl, hown, hown1, hbel⟩ := hrel
    have hsz := hbel.size
    by_cases hlt : k < 16
    · have hwl : (wL wt k).length = k := wL_length wt k
      rw [wPart_start _ (by omega)] at hown
      have HW : Hid ((wL wt k).length = k) := hwl
      clear hwl
      go_wp2
      go_loopw [14] (fun j wr => ∃ m : Nat, m ≤ 4 ∧ j = .int .i64 m ∧ wr.ownsRow w.heap.size 90 1 (.slice (some ⟨w.heap.size + 1, 0, none⟩) 64 64) 64 (wPart (wL wt k) (pw wt k m)) ∧ wr.ownsRow w.heap.size 90 1 (.slice (some ⟨w.heap.size, 0, none⟩) 64 64) 64 (wCells []) ∧ Below w.heap.size w wr) (fun j _ => 4 - (intOf j).toNat)
      case atStart => exact ⟨0, by omega, rfl, hown, hown1, hbel⟩
      case round =>
        clear hown hown1 hbel
        obtain ⟨m, hm, rfl, hown, hown1, hbel⟩ := hrel
        by_cases hlt4 : m < 4
        · have cx0 : wr.cell? ⟨w.heap.size + 1, k, none⟩ = some (.int .u32 (pw wt k m)) := by
            rw [hown.cellAt k (by omega)]; have := wPart_at (wL wt k) (pw wt k m); rw [HW.out] at this; exact this
          have cx1 : wr.cell? ⟨B, 8 + (4 * k + m), none⟩ = some (.int .u8 (wt.getD (4 * k + m) 0)) := by
            rw [hbel.cell (p := ⟨B, 8 + (4 * k + m), none⟩) hB]; exact HC.out (4 * k + m) (by omega)
          have hfz := hown.frozenAt k
          obtain ⟨z0, z1⟩ := HZ.out (4 * k + m)
          obtain ⟨p0, p1⟩ := pw_le3 wt k m HZ.out hlt4
          obtain ⟨z, hzz⟩ : ∃ z, wt.getD (4 * k + m) 0 = z := ⟨_, rfl⟩
          rw [hzz] at cx1 z0 z1
          have HE : Hid (pw wt k (m + 1) = pw wt k m * 256 + z) := by show pw wt k (m + 1) = _; simp only [pw]; rw [hzz]
          clear hzz
          have hor := or_low (pw wt k m) z p0 p1 z0 (by omega)
          have i0 : (0 : Int) ≤ (k : Int) := by omega
          have i1 : (k : Int) < 64 := by omega
          have i2 : (0 : Int) ≤ 4 * (k : Int) + (m : Int) := by omega
          have i3 : 4 * (k : Int) + (m : Int) < 64 := by omega
          go_wp2
          go_region
          go_wp2
          have hst := hown.stored k (.int .u32 (pw wt k m * 256 + z))
          have R1 : ((wr.setCell ⟨w.heap.size + 1, k, none⟩ (.int .u32 (pw wt k m * 256 + z))).drew).ownsRow w.heap.size 90 1 (.slice (some ⟨w.heap.size + 1, 0, none⟩) 64 64) 64 (wPart (wL wt k) (pw wt k (m + 1))) := by
            have h1 := hst.1
            have h2 := wPart_set (wL wt k) (pw wt k m) (pw wt k m * 256 + z)
            rw [HW.out] at h2
            rw [h2] at h1
            rw [HE.out]
            exact h1.drew
          have R3 : ((wr.setCell ⟨w.heap.size + 1, k, none⟩ (.int .u32 (pw wt k m * 256 + z))).drew).ownsRow w.heap.size 90 1 (.slice (some ⟨w.heap.size, 0, none⟩) 64 64) 64 (wCells []) := (hown1.kept hst.2 (.inr (by simp [Value.ownBlock]))).drew
          have R2 : Below w.heap.size w ((wr.setCell ⟨w.heap.size + 1, k, none⟩ (.int .u32 (pw wt k m * 256 + z))).drew) := (hbel.setCell (by show w.heap.size ≤ w.heap.size + 1; omega) _).drew
          clear hst hown hown1
          go_roundw
          case rel => first | exact ⟨m + 1, by omega, by go_num, R1, R3, R2⟩ | ((repeat apply Exists.intro); exact ⟨⟨m + 1, by omega, by go_num, R1, R3, R2⟩, rfl⟩)
          case measure => simp [intOf]; omega
        · have : m = 4 := by omega
          subst this
          rw [pw_four, wPart_end _ _ (by rw [HW.out]; omega), ← wL_low wt k hlt] at hown
          go_wp2
          go_roundw
          case rel => exact ⟨k + 1, by omega, by go_num, hown, hown1, hbel⟩
          case measure => simp [intOf]; omega
    · have : k = 16 := by omega
      subst this
      go_wp2
      go_loopw [6] (fun i wr => ∃ n : Nat, 16 ≤ n ∧ n ≤ 64 ∧ i = .int .i64 n ∧ wr.ownsRow w.heap.size 90 1 (.slice (some ⟨w.heap.size + 1, 0, none⟩) 64 64) 64 (wCells (wL wt n)) ∧ wr.ownsRow w.heap.size 90 1 (.slice (some ⟨w.heap.size, 0, none⟩) 64 64) 64 (wCells []) ∧ Below w.heap.size w wr) (fun i _ => 64 - (intOf i).toNat)
      case atStart => exact ⟨16, by omega, by omega, rfl, hown, hown1, hbel⟩
      case round =>
        clear hown hown1 hbel
        obtain ⟨n, hn16, hn, rfl, hown, hown1, hbel⟩ := hrel
        by_cases hln : n < 64
        · have HW : Hid ((wL wt n).length = n) := wL_length wt n
          rw [wPart_start _ (by rw [HW.out]; omega)] at hown
          obtain ⟨xa, hxa⟩ : ∃ x, (wL wt n).getD (n - 16) 0 = x := ⟨_, rfl⟩
          obtain ⟨xb, hxb⟩ : ∃ x, (wL wt n).getD (n - 15) 0 = x := ⟨_, rfl⟩
          obtain ⟨xc, hxc⟩ : ∃ x, (wL wt n).getD (n - 7) 0 = x := ⟨_, rfl⟩
          obtain ⟨xd, hxd⟩ : ∃ x, (wL wt n).getD (n - 2) 0 = x := ⟨_, rfl⟩
          have HL : Hid (wL wt (n + 1) = wL wt n ++ [wnext xa xb xc xd]) := by show wL wt (n + 1) = _; rw [wL_high wt n (by omega), hxa, hxb, hxc, hxd]
          obtain ⟨a0, a1⟩ := wL_range wt HZ.out n (n - 16)
          obtain ⟨b0, b1⟩ := wL_range wt HZ.out n (n - 15)
          obtain ⟨c0, c1⟩ := wL_range wt HZ.out n (n - 7)
          obtain ⟨d0, d1⟩ := wL_range wt HZ.out n (n - 2)
          rw [hxa] at a0 a1
          rw [hxb] at b0 b1
          rw [hxc] at c0 c1
          rw [hxd] at d0 d1
          have ca : wr.cell? ⟨w.heap.size + 1, n - 16, none⟩ = some (.int .u32 xa) := by rw [hown.cellAt (n - 16) (by omega), ← hxa]; exact wPart_atlow _ _ _ (by rw [HW.out]; omega)
          have cb : wr.cell? ⟨w.heap.size + 1, n - 15, none⟩ = some (.int .u32 xb) := by rw [hown.cellAt (n - 15) (by omega), ← hxb]; exact wPart_atlow _ _ _ (by rw [HW.out]; omega)
          have cc : wr.cell? ⟨w.heap.size + 1, n - 7, none⟩ = some (.int .u32 xc) := by rw [hown.cellAt (n - 7) (by omega), ← hxc]; exact wPart_atlow _ _ _ (by rw [HW.out]; omega)
          have cd : wr.cell? ⟨w.heap.size + 1, n - 2, none⟩ = some (.int .u32 xd) := by rw [hown.cellAt (n - 2) (by omega), ← hxd]; exact wPart_atlow _ _ _ (by rw [HW.out]; omega)
          have cn : wr.cell? ⟨w.heap.size + 1, n, none⟩ = some (.int .u32 0) := by rw [hown.cellAt n (by omega)]; have := wPart_at (wL wt n) 0; rw [HW.out] at this; exact this
          have hfz := hown.frozenAt n
          have i0 : (0 : Int) ≤ (n : Int) := by omega
          have i1 : (n : Int) < 64 := by omega
          have i2 : (16 : Int) ≤ (n : Int) := by omega
          clear hxa hxb hxc hxd
          go_wp2
          go_quiet (fail)
          go_wp2_with fail
          refine (rot_any _ _ 7 _ (by rfl) b0 b1 (by omega) (by omega)).mono ?_
          rintro e w1 ⟨rfl, rfl⟩
          go_wp2_with fail
          refine (rot_any _ _ 18 _ (by rfl) b0 b1 (by omega) (by omega)).mono ?_
          rintro e w1 ⟨rfl, rfl⟩
          go_wp2_with fail
          refine (rot_any _ _ 17 _ (by rfl) d0 d1 (by omega) (by omega)).mono ?_
          rintro e w1 ⟨rfl, rfl⟩
          go_wp2_with fail
          refine (rot_any _ _ 19 _ (by rfl) d0 d1 (by omega) (by omega)).mono ?_
          rintro e w1 ⟨rfl, rfl⟩
          go_wp2
          go_region
          go_wp2
          have ho2 := own_drewN hown (nq + 1)
          have hst := ho2.stored n (.int .u32 (wnext xa xb xc xd))
          have R1 : ((wr.drewN (nq + 1)).setCell ⟨w.heap.size + 1, n, none⟩ (.int .u32 (wnext xa xb xc xd))).ownsRow w.heap.size 90 1 (.slice (some ⟨w.heap.size + 1, 0, none⟩) 64 64) 64 (wCells (wL wt (n + 1))) := by
            have h1 := hst.1
            have h2 := wPart_set (wL wt n) 0 (wnext xa xb xc xd)
            rw [HW.out] at h2
            rw [h2] at h1
            rw [HL.out, ← wPart_end _ _ (by rw [HW.out]; omega)]
            exact h1
          have R3 : ((wr.drewN (nq + 1)).setCell ⟨w.heap.size + 1, n, none⟩ (.int .u32 (wnext xa xb xc xd))).ownsRow w.heap.size 90 1 (.slice (some ⟨w.heap.size, 0, none⟩) 64 64) 64 (wCells []) := (own_drewN hown1 (nq + 1)).kept hst.2 (.inr (by simp [Value.ownBlock]))
          have R2 : Below w.heap.size w ((wr.drewN (nq + 1)).setCell ⟨w.heap.size + 1, n, none⟩ (.int .u32 (wnext xa xb xc xd))) := (below_drewN hbel (nq + 1)).setCell (by show w.heap.size ≤ w.heap.size + 1; omega) _
          clear hst ho2 hown hown1
          go_roundw
          case rel => first | exact ⟨n + 1, by omega, by omega, by go_num, R1, R3, R2⟩ | ((repeat apply Exists.intro); exact ⟨⟨n + 1, by omega, by omega, by go_num, R1, R3, R2⟩, rfl⟩)
          case measure => simp [intOf]; omega
        · have : n = 64 := by omega
          subst this
          rw [wCells_full _ (wL_length wt 64)] at hown
          have hl64 : ((wL wt 64).map (Value.int .u32)).length = 64 := by rw [List.length_map, wL_length]
          have hi : (Tryd.prog.info? 90).map (·.size) = some 64 := by kernel_rfl
          have hone : ((wL wt 64).map (Value.int .u32)).toArray.all (·.oneCell') = true := by
            refine all_oneCell_toArray fun v hv => ?_
            obtain ⟨x, _, rfl⟩ := List.mem_map.1 hv
            rfl
          have hth : wr.there w.heap.size 0 ((wL wt 64).map (Value.int .u32)).toArray.size := by
            have e : ((wL wt 64).map (Value.int .u32)).toArray.size = 64 := by rw [List.size_toArray, hl64]
            rw [e]; exact own_thereS hown1
          have hra := own_range hown
          have hrs := World.rangeAt_setCells_same wr w.heap.size 0 ((wL wt 64).map (Value.int .u32)) (by rw [hl64]; exact own_thereS hown1)
          have hbs := below_setCells w.heap.size (Nat.le_refl _) ((wL wt 64).map (Value.int .u32)) 0 _ hbel
          have H1 : Hid ((Tryd.prog.info? 90).map (·.size) = some ((wL wt 64).map (Value.int .u32)).length) := by show _ = _; rw [hl64]; exact hi
          have H2 : Hid ((Tryd.prog.info? 90).map (·.size) = some ((wL wt 64).map (Value.int .u32)).toArray.size) := by show _ = _; rw [List.size_toArray, hl64]; exact hi
          have H3 : Hid (((wL wt 64).map (Value.int .u32)).toArray.all (·.oneCell') = true) := hone
          have H4 : Hid (wr.there w.heap.size 0 ((wL wt 64).map (Value.int .u32)).toArray.size) := hth
          have H5 : Hid (wr.rangeAt (w.heap.size + 1) 0 ((wL wt 64).map (Value.int .u32))) := hra
          have H6 : Hid ((wr.setCells w.heap.size 0 ((wL wt 64).map (Value.int .u32))).rangeAt w.heap.size 0 ((wL wt 64).map (Value.int .u32))) := hrs
          clear hown hown1 hl64 hi hone hth hra hrs
          obtain ⟨L, hL⟩ : ∃ L, (wL wt 64).map (Value.int .u32) = L := ⟨_, rfl⟩
          rw [hL] at H1 H2 H3 H4 H5 H6 hbs
          have HL : Hid ((wL wt 64).map (Value.int .u32) = L) := hL
          clear hL
          go_wp2_with (first
            | (refine wpList_load_mid (by rfl) 90 (.tmp 3) (by rfl) (w.heap.size + 1) 0 (by rfl) L _ H5.out Tryd.underlying90 rfl H1.out ?_)
            | (refine wpList_store_mid (by rfl) 90 (.tmp 2) (.tmp 79) (by rfl) w.heap.size 0 L.toArray (by rfl) (by rfl) H4.out H2.out H3.out ?_)
            | fail)
          have hld := run_loadVar_mid (P := Tryd.prog) (wr.setCells w.heap.size 0 L) w.heap.size 0 90 L _ H6.out Tryd.underlying90 rfl H1.out
          refine bodyPost_ret (v := .agg L.toArray) ?_ rfl ⟨by rw [HL.out], hbs⟩
          rw [results_one_cell rfl]
          show ((asAddr (.pointer (some ⟨w.heap.size, 0, none⟩))).run Tryd.prog (wr.setCells w.heap.size 0 L)).andThen _ = _
          simp only [asAddr, Sem.run_pure, Result.andThen_ok, hld]

end Go.Proofs.YtdhbhifgmbppjaaDoor
