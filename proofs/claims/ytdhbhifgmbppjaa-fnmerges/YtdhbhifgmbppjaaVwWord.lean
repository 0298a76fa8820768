/- A word is drawn. -/
import Derived.Test.YtdhbhifgmbppjaaVsTab
import Derived.Test.YtdhbhifgmbppjaaVdAny
namespace Go.Proofs.Ytdhbhifgmbppjaa
open Go.RowKit
set_option linter.unusedVariables false
set_option linter.unusedSimpArgs false

set_option maxHeartbeats 1000000 in
theorem pickS_c (w : World) (B len cap : Nat) (ao : Option Addr) (zs : List Int) (st : Nat × Int) (L : Nat) (ps : List ByteArray) (hp0 : 0 < ps.length) (hp1 : ps.length ≤ 100) (hC : Cur w B ao len cap zs st) (hl : len ≤ 1048576) (hz : ∀ j, 0 ≤ zs.getD j 0 ∧ zs.getD j 0 ≤ 255)
    (hL : L ≠ B) (hp : w.heap[L]? = some (.cells (ps.map Value.string).toArray 9)) :
    Calls Try.prog 35 #[.pointer (some ⟨B, 0, none⟩), .slice (some ⟨L, 0, none⟩) ps.length ps.length] w fun e w' => ∃ (s : ByteArray) (st' : Nat × Int), e = .returned (.string s) ∧ s ∈ ps ∧ Cur w' B ao len cap zs st' ∧ w.grownBy w' (some B) := by
  have HP : Hid (w.heap[L]? = some (.cells (ps.map Value.string).toArray 9)) := hp
  have HZ : Hid (∀ j, 0 ≤ zs.getD j 0 ∧ zs.getD j 0 ≤ 255) := hz
  have HC : Hid (Cur w B ao len cap zs st) := hC
  obtain ⟨n, hn⟩ : ∃ n, ps.length = n := ⟨_, rfl⟩
  rw [hn] at hp0 hp1 ⊢
  have HN : Hid (ps.length = n) := hn
  clear hp hz hC hn
  go_enter Try.func35, Try.ntmps35
  go_wp2_with fail
  refine (below_exV _ B len cap ao zs st n HC.out hl HZ.out).mono ?_
  rintro e w1 ⟨x, st1, rfl, r0, r2, hC1, hg1⟩
  obtain ⟨k, rfl⟩ := Int.eq_ofNat_of_zero_le r0
  have hkn := r2 (by omega)
  have hkl : k < ps.length := by have := HN.out; omega
  have hb := blk_curV HP.out hg1 hL
  have hcell : w1.cell? ⟨L, k, none⟩ = some (.string ps[k]) := by
    simp only [World.cell?, hb]
    simp [hkl]
  have K1 : Hid (Cur w1 B ao len cap zs st1 ∧ w.grownBy w1 (some B)) := ⟨hC1, hg1⟩
  have HMem : Hid (ps[k] ∈ ps) := List.getElem_mem hkl
  generalize ps[k] = p at hcell HMem
  clear hC1 hg1 hb r2 hkl
  go_wp2
  go_ret
  exact ⟨p, st1, rfl, HMem.out, K1.out.1, K1.out.2⟩

theorem kd_of {w W : World} {B len cap : Nat} {ao : Option Addr} {zs : List Int} {st : Nat × Int} (hC : Cur w B ao len cap zs st) (hb : Below w.heap.size w W) : Kd w W B ao len cap zs st :=
  ⟨hC.keep (grownV hb) (by simp), ⟨hb.os, hb.tape, hb.output, hb.size, fun k hk _ => hb.block k hk⟩⟩

/-- A word is drawn. -/
def WoD (w : World) (B len cap : Nat) (ao : Option Addr) (zs : List Int) (e : Ending) (w' : World) : Prop := ∃ (s : ByteArray) (st' : Nat × Int), e = .returned (.string s) ∧ s.size ≤ 24024 ∧ Cur w' B ao len cap zs st' ∧ w.grownBy w' (some B)

def lets7 : List ByteArray := [⟨#[97]⟩, ⟨#[98]⟩, ⟨#[99]⟩, ⟨#[97, 98]⟩, ⟨#[97, 97]⟩, ⟨#[122]⟩, ⟨#[255]⟩]
theorem lets7_24 : ∀ y ∈ lets7, y.size ≤ 24 := by decide
def lets2 : List ByteArray := [⟨#[97]⟩, ⟨#[98]⟩]
theorem lets2_1 : ∀ y ∈ lets2, y.size = 1 := by decide

set_option maxRecDepth 20000 in
set_option maxHeartbeats 4000000 in
theorem l8Word_c (w : World) (B len cap : Nat) (ao : Option Addr) (zs : List Int) (st : Nat × Int) (most : Int) (hm : 0 ≤ most ∧ most ≤ 1000) (L : List S_Pair) (p : Option Addr) (c : Nat) (hn : L.length ≤ 1048576) (hr : RowR w (.slice p L.length c) L.length 2 (rPair L)) (hC : Cur w B ao len cap zs st) (hl : len ≤ 1048576) (hz : ∀ j, 0 ≤ zs.getD j 0 ∧ zs.getD j 0 ≤ 255) :
    Calls Try.prog 32 #[.pointer (some ⟨B, 0, none⟩), .agg #[.slice p L.length c], .int .i64 most] w (WoD w B len cap ao zs) := by
  have HC : Hid (Cur w B ao len cap zs st) := hC
  have HR : Hid (RowR w (.slice p L.length c) L.length 2 (rPair L)) := hr
  have HZ : Hid (∀ j, 0 ≤ zs.getD j 0 ∧ zs.getD j 0 ≤ 255) := hz
  obtain ⟨W0, hW0⟩ : ∃ W, W = w.alloc (.cells #[.slice p L.length c] 26) := ⟨_, rfl⟩
  have HW0 : Hid (w.alloc (.cells #[.slice p L.length c] 26) = W0) := hW0.symm
  have HB0 : Hid (Below w.heap.size w W0) := by rw [hW0]; exact (Below.refl _ _).alloc (Nat.le_refl _) _
  have HX0 : Hid (W0.heap[w.heap.size]? = some (.cells #[.slice p L.length c] 26)) := by rw [hW0]; exact alloc_last _ _
  have HR0 : Hid (RowR W0 (.slice p L.length c) L.length 2 (rPair L)) := RowR.keep HR.out HB0.out (Nat.le_refl _)
  have HBS : Hid (B < W0.heap.size) := Nat.lt_of_lt_of_le HC.out.lt HB0.out.size
  have d := box1 HX0.out
  have ew : IntKind.i64.wrap (most + 1) = most + 1 := IntWalk.i64_in _ (by omega)
  clear hC hr hz hW0
  go_enter Try.func32, Try.ntmps32
  go_wp2_with fail
  rw [HW0.out]
  refine (specTabD_c L p c W0 hn HR0.out).mono ?_
  rintro e w1 ⟨b1, t, v, bb, rfl, ho, h60, h24⟩
  obtain ⟨tp, tc, rfl⟩ := own_sliceV ho
  have K1 : Hid (Kd w w1 B ao len cap zs st) := (kd_of HC.out HB0.out).bel b1
  have HO1 : Hid (w1.ownsRow W0.heap.size 9 1 (.slice tp t.length tc) t.length (t.map Value.string)) := ho
  have H24 : Hid (∀ x ∈ t, x.size ≤ 24) := h24
  clear d b1 ho h24
  go_wp2_with fail
  refine (below_exV w1 B len cap ao zs st (most + 1) K1.out.cur hl HZ.out).mono ?_
  rintro e w2 ⟨x, su, rfl, x0, x1, hC2, hg2⟩
  have K2 : Hid (Kd w w2 B ao len cap zs su) := K1.out.call hC2 hg2
  have HO2 : Hid (w2.ownsRow W0.heap.size 9 1 (.slice tp t.length tc) t.length (t.map Value.string)) := own_curV HO1.out hg2 HBS.out
  have x2 := x1 (by omega)
  obtain ⟨m, rfl⟩ := Int.eq_ofNat_of_zero_le x0
  have hm9 : m ≤ 1000 := by omega
  clear hC2 hg2 x0 x1 x2 ew
  go_wp2_with fail
  go_loopw [7, 10] (fun sv nv wr => ∃ (k n : Nat) (s : ByteArray) (su : Nat × Int), sv = .string s ∧ nv = .int .i64 (n : Int) ∧ k + n ≤ 1000 ∧ Hid (s.size ≤ 24 * k) ∧ Hid (Kd w wr B ao len cap zs su) ∧ Hid (wr.ownsRow W0.heap.size 9 1 (.slice tp t.length tc) t.length (t.map Value.string))) (fun _ nv _ => (intOf nv).toNat)
  case atStart => exact ⟨0, m, ⟨#[]⟩, su, rfl, rfl, by omega, by show _ ≤ _; decide, K2, HO2⟩
  case round =>
    obtain ⟨k, n, s, su, rfl, rfl, hkn, HSS, K, HO⟩ := hrel
    by_cases hpos : 0 < n
    · have hpos' : (0 : Int) < (n : Int) := by omega
      by_cases ht0 : t.length = 0
      · have ht0' : ¬ (0 : Int) < (t.length : Int) := by omega
        have HT0 : Hid (t.length = 0) := ht0
        obtain ⟨WA, hWA⟩ : ∃ W, W = wr.alloc (.cells #[.string ⟨#[97]⟩, .string ⟨#[98]⟩, .string ⟨#[99]⟩, .string ⟨#[97, 98]⟩, .string ⟨#[97, 97]⟩, .string ⟨#[122]⟩, .string ⟨#[255]⟩] 9) := ⟨_, rfl⟩
        have HWA : Hid (wr.alloc (.cells #[.string ⟨#[97]⟩, .string ⟨#[98]⟩, .string ⟨#[99]⟩, .string ⟨#[97, 98]⟩, .string ⟨#[97, 97]⟩, .string ⟨#[122]⟩, .string ⟨#[255]⟩] 9) = WA) := hWA.symm
        have HLs : Hid (WA.heap[wr.heap.size]? = some (.cells (lets7.map Value.string).toArray 9)) := by rw [hWA]; exact alloc_last _ _
        have hbA : Below wr.heap.size wr WA := by rw [hWA]; exact (Below.refl _ _).alloc (Nat.le_refl _) _
        have KA : Hid (Kd w WA B ao len cap zs su) := K.out.bel hbA
        have HOA : Hid (WA.ownsRow W0.heap.size 9 1 (.slice tp t.length tc) t.length (t.map Value.string)) := own_bel HO.out hbA (Nat.le_refl _)
        clear hbA hWA
        go_wp2_with fail
        rw [HWA.out]
        refine (pickS_c WA B len cap ao zs su wr.heap.size lets7 (by decide) (by decide) KA.out.cur hl HZ.out (by have := K.out.cur.lt; omega) HLs.out).mono ?_
        rintro e w9 ⟨y, su9, rfl, hy, hC9, hg9⟩
        have K9 : Hid (Kd w w9 B ao len cap zs su9) := KA.out.call hC9 hg9
        have HO9 : Hid (w9.ownsRow W0.heap.size 9 1 (.slice tp t.length tc) t.length (t.map Value.string)) := own_curV HOA.out hg9 HBS.out
        have HY : Hid (y.size ≤ 24) := lets7_24 y hy
        clear hC9 hg9 hy
        have had : ∀ W, (Op.stringOp .add s y).run Try.prog W = .ok (.string (s ++ y)) W := fun W => run_string_add_sum W _ _ (by have := HY.out; have := HSS.out; omega)
        have HSN : Hid ((s ++ y).size ≤ 24 * (k + 1)) := by have := HY.out; have := HSS.out; show _ ≤ _; rw [ByteArray.size_append]; omega
        have em : IntKind.i64.wrap ((n : Int) - 1) = ((n - 1 : Nat) : Int) := by rw [IntWalk.i64_in _ (by omega)]; omega
        go_wp2
        go_roundw
        case rel => first | exact ⟨k + 1, n - 1, s ++ y, su9, rfl, by first | rfl | go_num, by omega, HSN, K9, HO9⟩ | ((repeat apply Exists.intro); exact ⟨⟨k + 1, n - 1, s ++ y, su9, rfl, by first | rfl | go_num, by omega, HSN, K9, HO9⟩, by first | rfl | rw [HT0.out]⟩)
        case measure => simp [intOf]; omega
      have htp : (0 : Int) < (t.length : Int) := by omega
      go_wp2_with fail
      refine (once_exV wr B len cap ao zs su 2 K.out.cur hl HZ.out).mono ?_
      rintro e w3 ⟨bo, su3, rfl, hC3, hg3⟩
      have K3 : Hid (Kd w w3 B ao len cap zs su3) := K.out.call hC3 hg3
      have HO3 : Hid (w3.ownsRow W0.heap.size 9 1 (.slice tp t.length tc) t.length (t.map Value.string)) := own_curV HO.out hg3 HBS.out
      clear hC3 hg3 K HO
      cases bo
      case false =>
        obtain ⟨WA, hWA⟩ : ∃ W, W = w3.alloc (.cells #[.string ⟨#[97]⟩, .string ⟨#[98]⟩, .string ⟨#[99]⟩, .string ⟨#[97, 98]⟩, .string ⟨#[97, 97]⟩, .string ⟨#[122]⟩, .string ⟨#[255]⟩] 9) := ⟨_, rfl⟩
        have HWA : Hid (w3.alloc (.cells #[.string ⟨#[97]⟩, .string ⟨#[98]⟩, .string ⟨#[99]⟩, .string ⟨#[97, 98]⟩, .string ⟨#[97, 97]⟩, .string ⟨#[122]⟩, .string ⟨#[255]⟩] 9) = WA) := hWA.symm
        have HLs : Hid (WA.heap[w3.heap.size]? = some (.cells (lets7.map Value.string).toArray 9)) := by rw [hWA]; exact alloc_last _ _
        have hbA : Below w3.heap.size w3 WA := by rw [hWA]; exact (Below.refl _ _).alloc (Nat.le_refl _) _
        have KA : Hid (Kd w WA B ao len cap zs su3) := K3.out.bel hbA
        have HOA : Hid (WA.ownsRow W0.heap.size 9 1 (.slice tp t.length tc) t.length (t.map Value.string)) := own_bel HO3.out hbA (Nat.le_refl _)
        clear hbA hWA
        go_wp2_with fail
        rw [HWA.out]
        refine (pickS_c WA B len cap ao zs su3 w3.heap.size lets7 (by decide) (by decide) KA.out.cur hl HZ.out (by have := K3.out.cur.lt; omega) HLs.out).mono ?_
        rintro e w9 ⟨y, su9, rfl, hy, hC9, hg9⟩
        have K9 : Hid (Kd w w9 B ao len cap zs su9) := KA.out.call hC9 hg9
        have HO9 : Hid (w9.ownsRow W0.heap.size 9 1 (.slice tp t.length tc) t.length (t.map Value.string)) := own_curV HOA.out hg9 HBS.out
        have HY : Hid (y.size ≤ 24) := lets7_24 y hy
        clear hC9 hg9 hy
        have had : ∀ W, (Op.stringOp .add s y).run Try.prog W = .ok (.string (s ++ y)) W := fun W => run_string_add_sum W _ _ (by have := HY.out; have := HSS.out; omega)
        have HSN : Hid ((s ++ y).size ≤ 24 * (k + 1)) := by have := HY.out; have := HSS.out; show _ ≤ _; rw [ByteArray.size_append]; omega
        have em : IntKind.i64.wrap ((n : Int) - 1) = ((n - 1 : Nat) : Int) := by rw [IntWalk.i64_in _ (by omega)]; omega
        go_wp2
        go_roundw
        case rel => first | exact ⟨k + 1, n - 1, s ++ y, su9, rfl, by first | rfl | go_num, by omega, HSN, K9, HO9⟩ | ((repeat apply Exists.intro); exact ⟨⟨k + 1, n - 1, s ++ y, su9, rfl, by first | rfl | go_num, by omega, HSN, K9, HO9⟩, by first | rfl | rw [HT0.out]⟩)
        case measure => simp [intOf]; omega
      case true =>
        go_wp2_with fail
        refine (below_exV w3 B len cap ao zs su3 t.length K3.out.cur hl HZ.out).mono ?_
        rintro e w9 ⟨q, su9, rfl, q0, q1, hC9, hg9⟩
        have q2 := q1 htp
        obtain ⟨j, rfl⟩ := Int.eq_ofNat_of_zero_le q0
        have hjt : j < t.length := by omega
        have K9 : Hid (Kd w w9 B ao len cap zs su9) := K3.out.call hC9 hg9
        have HO9 : Hid (w9.ownsRow W0.heap.size 9 1 (.slice tp t.length tc) t.length (t.map Value.string)) := own_curV HO3.out hg9 HBS.out
        clear hC9 hg9 q0 q1 K3 HO3
        obtain ⟨tb, tof, tc', hv, htb, htcell⟩ := (RowR.own HO9.out).some (by omega) (by decide)
        have hcj : w9.cell? ⟨tb, tof + j, none⟩ = some (.string t[j]) := by rw [htcell j (by omega), mapS_at t j hjt]
        have HY : Hid ((t[j]).size ≤ 24) := H24.out _ (List.getElem_mem hjt)
        clear htcell
        generalize t[j] = y at hcj HY
        simp only [Value.slice.injEq, true_and] at hv
        obtain ⟨rfl, rfl⟩ := hv
        have had : ∀ W, (Op.stringOp .add s y).run Try.prog W = .ok (.string (s ++ y)) W := fun W => run_string_add_sum W _ _ (by have := HY.out; have := HSS.out; omega)
        have HSN : Hid ((s ++ y).size ≤ 24 * (k + 1)) := by have := HY.out; have := HSS.out; show _ ≤ _; rw [ByteArray.size_append]; omega
        have em : IntKind.i64.wrap ((n : Int) - 1) = ((n - 1 : Nat) : Int) := by rw [IntWalk.i64_in _ (by omega)]; omega
        go_wp2
        go_roundw
        case rel => first | exact ⟨k + 1, n - 1, s ++ y, su9, rfl, by first | rfl | go_num, by omega, HSN, K9, HO9⟩ | ((repeat apply Exists.intro); exact ⟨⟨k + 1, n - 1, s ++ y, su9, rfl, by first | rfl | go_num, by omega, HSN, K9, HO9⟩, by first | rfl | rw [HT0.out]⟩)
        case measure => simp [intOf]; omega
    · have hpos' : ¬ (0 : Int) < (n : Int) := by omega
      go_wp2
      go_ret
      exact ⟨s, su, rfl, by have := HSS.out; omega, K.out.cur, K.out.grown⟩

end Go.Proofs.Ytdhbhifgmbppjaa
