/- A word is drawn. -/
import Derived.Test.YtdggkcohidijcaaVsTab
import Derived.Test.YtdggkcohidijcaaVdAny
import Derived.Test.YtdggkcohidijcaaVcOk
import Derived.Test.YtdggkcohidijcaaHaInts
import Derived.Test.YtdggkcohidijcaaO8Math
import Derived.Test.YtdggkcohidijcaaJT
namespace Go.Proofs.Ytdggkcohidijcaa
open Go.RowKit
set_option linter.unusedVariables false
set_option linter.unusedSimpArgs false

set_option maxHeartbeats 1000000 in
theorem pickS_c (w : World) (B len cap : Nat) (ao : Option Addr) (zs : List Int) (st : Nat × Int) (L : Nat) (ps : List ByteArray) (hp0 : 0 < ps.length) (hp1 : ps.length ≤ 100) (hC : Cur w B ao len cap zs st) (hl : len ≤ 1048576) (hz : ∀ j, 0 ≤ zs.getD j 0 ∧ zs.getD j 0 ≤ 255)
    (hL : L ≠ B) (hp : w.heap[L]? = some (.cells (ps.map Value.string).toArray 9)) :
    Calls Try.prog 44 #[.pointer (some ⟨B, 0, none⟩), .slice (some ⟨L, 0, none⟩) ps.length ps.length] w fun e w' => ∃ (s : ByteArray) (st' : Nat × Int), e = .returned (.string s) ∧ s ∈ ps ∧ Cur w' B ao len cap zs st' ∧ w.grownBy w' (some B) := by
  have HP : Hid (w.heap[L]? = some (.cells (ps.map Value.string).toArray 9)) := hp
  have HZ : Hid (∀ j, 0 ≤ zs.getD j 0 ∧ zs.getD j 0 ≤ 255) := hz
  have HC : Hid (Cur w B ao len cap zs st) := hC
  obtain ⟨n, hn⟩ : ∃ n, ps.length = n := ⟨_, rfl⟩
  rw [hn] at hp0 hp1 ⊢
  have HN : Hid (ps.length = n) := hn
  clear hp hz hC hn
  go_enter Try.func44, Try.ntmps44
  go_wp2_with fail
  refine (below_exV _ B len cap ao zs st n HC.out hl HZ.out).mono ?_
  rintro e w1 ⟨x, st1, rfl, r0, r2, hC1, hg1⟩
  obtain ⟨k, rfl⟩ := Int.eq_ofNat_of_zero_le r0
  have hkn := r2 (by omega)
  have hkl : k < ps.length := by have := HN.out; omega
  have hb := blk_curV HP.out hg1 hL
  have hcell : w1.cell? ⟨L, k, none⟩ = some (.string ps[k]) := by
    simp only [World.cell?, hb]
    simp [hkl]
  have K1 : Hid (Cur w1 B ao len cap zs st1 ∧ w.grownBy w1 (some B)) := ⟨hC1, hg1⟩
  have HMem : Hid (ps[k] ∈ ps) := List.getElem_mem hkl
  generalize ps[k] = p at hcell HMem
  clear hC1 hg1 hb r2 hkl
  go_wp2
  go_ret
  exact ⟨p, st1, rfl, HMem.out, K1.out.1, K1.out.2⟩

theorem kd_of {w W : World} {B len cap : Nat} {ao : Option Addr} {zs : List Int} {st : Nat × Int} (hC : Cur w B ao len cap zs st) (hb : Below w.heap.size w W) : Kd w W B ao len cap zs st :=
  ⟨hC.keep (grownV hb) (by simp), ⟨hb.os, hb.tape, hb.output, hb.size, fun k hk _ => hb.block k hk⟩⟩

/-- A word is drawn. -/
def WoD (w : World) (B len cap : Nat) (ao : Option Addr) (zs : List Int) (e : Ending) (w' : World) : Prop := ∃ (s : ByteArray) (st' : Nat × Int), e = .returned (.string s) ∧ s.size ≤ 24024 ∧ Cur w' B ao len cap zs st' ∧ w.grownBy w' (some B)

def lets7 : List ByteArray := [⟨#[97]⟩, ⟨#[98]⟩, ⟨#[99]⟩, ⟨#[97, 98]⟩, ⟨#[97, 97]⟩, ⟨#[122]⟩, ⟨#[255]⟩]
theorem lets7_24 : ∀ y ∈ lets7, y.size ≤ 24 := by decide
def lets2 : List ByteArray := [⟨#[97]⟩, ⟨#[98]⟩]
theorem lets2_1 : ∀ y ∈ lets2, y.size = 1 := by decide

set_option maxRecDepth 20000 in
set_option maxHeartbeats 4000000 in
theorem l8Word_c (w : World) (B len cap : Nat) (ao : Option Addr) (zs : List Int) (st : Nat × Int) (most : Int) (hm : 0 ≤ most ∧ most ≤ 1000) (L : List S_Pair) (p : Option Addr) (c : Nat) (hn : L.length ≤ 1048576) (hr : RowR w (.slice p L.length c) L.length 2 (rPair L)) (hC : Cur w B ao len cap zs st) (hl : len ≤ 1048576) (hz : ∀ j, 0 ≤ zs.getD j 0 ∧ zs.getD j 0 ≤ 255) :
    Calls Try.prog 62 #[.pointer (some ⟨B, 0, none⟩), .agg #[.slice p L.length c], .int .i64 most] w (WoD w B len cap ao zs) := by
  have HC : Hid (Cur w B ao len cap zs st) := hC
  have HR : Hid (RowR w (.slice p L.length c) L.length 2 (rPair L)) := hr
  have HZ : Hid (∀ j, 0 ≤ zs.getD j 0 ∧ zs.getD j 0 ≤ 255) := hz
  obtain ⟨W0, hW0⟩ : ∃ W, W = w.alloc (.cells #[.slice p L.length c] 26) := ⟨_, rfl⟩
  have HW0 : Hid (w.alloc (.cells #[.slice p L.length c] 26) = W0) := hW0.symm
  have HB0 : Hid (Below w.heap.size w W0) := by rw [hW0]; exact (Below.refl _ _).alloc (Nat.le_refl _) _
  have HX0 : Hid (W0.heap[w.heap.size]? = some (.cells #[.slice p L.length c] 26)) := by rw [hW0]; exact alloc_last _ _
  have HR0 : Hid (RowR W0 (.slice p L.length c) L.length 2 (rPair L)) := RowR.keep HR.out HB0.out (Nat.le_refl _)
  have HBS : Hid (B < W0.heap.size) := Nat.lt_of_lt_of_le HC.out.lt HB0.out.size
  have d := box1 HX0.out
  have ew : IntKind.i64.wrap (most + 1) = most + 1 := IntWalk.i64_in _ (by omega)
  clear hC hr hz hW0
  go_enter Try.func62, Try.ntmps62
  go_wp2_with fail
  rw [HW0.out]
  refine (specTabD_c L p c W0 hn HR0.out).mono ?_
  rintro e w1 ⟨b1, t, v, bb, rfl, ho, h60, h24⟩
  obtain ⟨tp, tc, rfl⟩ := own_sliceV ho
  have K1 : Hid (Kd w w1 B ao len cap zs st) := (kd_of HC.out HB0.out).bel b1
  have HO1 : Hid (w1.ownsRow W0.heap.size 9 1 (.slice tp t.length tc) t.length (t.map Value.string)) := ho
  have H24 : Hid (∀ x ∈ t, x.size ≤ 24) := h24
  clear d b1 ho h24
  go_wp2_with fail
  refine (below_exV w1 B len cap ao zs st (most + 1) K1.out.cur hl HZ.out).mono ?_
  rintro e w2 ⟨x, su, rfl, x0, x1, hC2, hg2⟩
  have K2 : Hid (Kd w w2 B ao len cap zs su) := K1.out.call hC2 hg2
  have HO2 : Hid (w2.ownsRow W0.heap.size 9 1 (.slice tp t.length tc) t.length (t.map Value.string)) := own_curV HO1.out hg2 HBS.out
  have x2 := x1 (by omega)
  obtain ⟨m, rfl⟩ := Int.eq_ofNat_of_zero_le x0
  have hm9 : m ≤ 1000 := by omega
  clear hC2 hg2 x0 x1 x2 ew
  go_wp2_with fail
  go_loopw [7, 10] (fun sv nv wr => ∃ (k n : Nat) (s : ByteArray) (su : Nat × Int), sv = .string s ∧ nv = .int .i64 (n : Int) ∧ k + n ≤ 1000 ∧ Hid (s.size ≤ 24 * k) ∧ Hid (Kd w wr B ao len cap zs su) ∧ Hid (wr.ownsRow W0.heap.size 9 1 (.slice tp t.length tc) t.length (t.map Value.string))) (fun _ nv _ => (intOf nv).toNat)
  case atStart => exact ⟨0, m, ⟨#[]⟩, su, rfl, rfl, by omega, by show _ ≤ _; decide, K2, HO2⟩
  case round =>
    obtain ⟨k, n, s, su, rfl, rfl, hkn, HSS, K, HO⟩ := hrel
    by_cases hpos : 0 < n
    · have hpos' : (0 : Int) < (n : Int) := by omega
      by_cases ht0 : t.length = 0
      · have ht0' : ¬ (0 : Int) < (t.length : Int) := by omega
        have HT0 : Hid (t.length = 0) := ht0
        obtain ⟨WA, hWA⟩ : ∃ W, W = wr.alloc (.cells #[.string ⟨#[97]⟩, .string ⟨#[98]⟩, .string ⟨#[99]⟩, .string ⟨#[97, 98]⟩, .string ⟨#[97, 97]⟩, .string ⟨#[122]⟩, .string ⟨#[255]⟩] 9) := ⟨_, rfl⟩
        have HWA : Hid (wr.alloc (.cells #[.string ⟨#[97]⟩, .string ⟨#[98]⟩, .string ⟨#[99]⟩, .string ⟨#[97, 98]⟩, .string ⟨#[97, 97]⟩, .string ⟨#[122]⟩, .string ⟨#[255]⟩] 9) = WA) := hWA.symm
        have HLs : Hid (WA.heap[wr.heap.size]? = some (.cells (lets7.map Value.string).toArray 9)) := by rw [hWA]; exact alloc_last _ _
        have hbA : Below wr.heap.size wr WA := by rw [hWA]; exact (Below.refl _ _).alloc (Nat.le_refl _) _
        have KA : Hid (Kd w WA B ao len cap zs su) := K.out.bel hbA
        have HOA : Hid (WA.ownsRow W0.heap.size 9 1 (.slice tp t.length tc) t.length (t.map Value.string)) := own_bel HO.out hbA (Nat.le_refl _)
        clear hbA hWA
        go_wp2_with fail
        rw [HWA.out]
        refine (pickS_c WA B len cap ao zs su wr.heap.size lets7 (by decide) (by decide) KA.out.cur hl HZ.out (by have := K.out.cur.lt; omega) HLs.out).mono ?_
        rintro e w9 ⟨y, su9, rfl, hy, hC9, hg9⟩
        have K9 : Hid (Kd w w9 B ao len cap zs su9) := KA.out.call hC9 hg9
        have HO9 : Hid (w9.ownsRow W0.heap.size 9 1 (.slice tp t.length tc) t.length (t.map Value.string)) := own_curV HOA.out hg9 HBS.out
        have HY : Hid (y.size ≤ 24) := lets7_24 y hy
        clear hC9 hg9 hy
        have had : ∀ W, (Op.stringOp .add s y).run Try.prog W = .ok (.string (s ++ y)) W := fun W => run_string_add_sum W _ _ (by have := HY.out; have := HSS.out; omega)
        have HSN : Hid ((s ++ y).size ≤ 24 * (k + 1)) := by have := HY.out; have := HSS.out; show _ ≤ _; rw [ByteArray.size_append]; omega
        have em : IntKind.i64.wrap ((n : Int) - 1) = ((n - 1 : Nat) : Int) := by rw [IntWalk.i64_in _ (by omega)]; omega
        go_wp2
        go_roundw
        case rel => first | exact ⟨k + 1, n - 1, s ++ y, su9, rfl, by first | rfl | go_num, by omega, HSN, K9, HO9⟩ | ((repeat apply Exists.intro); exact ⟨⟨k + 1, n - 1, s ++ y, su9, rfl, by first | rfl | go_num, by omega, HSN, K9, HO9⟩, by first | rfl | rw [HT0.out]⟩)
        case measure => simp [intOf]; omega
      have htp : (0 : Int) < (t.length : Int) := by omega
      go_wp2_with fail
      refine (once_exV wr B len cap ao zs su 2 K.out.cur hl HZ.out).mono ?_
      rintro e w3 ⟨bo, su3, rfl, hC3, hg3⟩
      have K3 : Hid (Kd w w3 B ao len cap zs su3) := K.out.call hC3 hg3
      have HO3 : Hid (w3.ownsRow W0.heap.size 9 1 (.slice tp t.length tc) t.length (t.map Value.string)) := own_curV HO.out hg3 HBS.out
      clear hC3 hg3 K HO
      cases bo
      case false =>
        obtain ⟨WA, hWA⟩ : ∃ W, W = w3.alloc (.cells #[.string ⟨#[97]⟩, .string ⟨#[98]⟩, .string ⟨#[99]⟩, .string ⟨#[97, 98]⟩, .string ⟨#[97, 97]⟩, .string ⟨#[122]⟩, .string ⟨#[255]⟩] 9) := ⟨_, rfl⟩
        have HWA : Hid (w3.alloc (.cells #[.string ⟨#[97]⟩, .string ⟨#[98]⟩, .string ⟨#[99]⟩, .string ⟨#[97, 98]⟩, .string ⟨#[97, 97]⟩, .string ⟨#[122]⟩, .string ⟨#[255]⟩] 9) = WA) := hWA.symm
        have HLs : Hid (WA.heap[w3.heap.size]? = some (.cells (lets7.map Value.string).toArray 9)) := by rw [hWA]; exact alloc_last _ _
        have hbA : Below w3.heap.size w3 WA := by rw [hWA]; exact (Below.refl _ _).alloc (Nat.le_refl _) _
        have KA : Hid (Kd w WA B ao len cap zs su3) := K3.out.bel hbA
        have HOA : Hid (WA.ownsRow W0.heap.size 9 1 (.slice tp t.length tc) t.length (t.map Value.string)) := own_bel HO3.out hbA (Nat.le_refl _)
        clear hbA hWA
        go_wp2_with fail
        rw [HWA.out]
        refine (pickS_c WA B len cap ao zs su3 w3.heap.size lets7 (by decide) (by decide) KA.out.cur hl HZ.out (by have := K3.out.cur.lt; omega) HLs.out).mono ?_
        rintro e w9 ⟨y, su9, rfl, hy, hC9, hg9⟩
        have K9 : Hid (Kd w w9 B ao len cap zs su9) := KA.out.call hC9 hg9
        have HO9 : Hid (w9.ownsRow W0.heap.size 9 1 (.slice tp t.length tc) t.length (t.map Value.string)) := own_curV HOA.out hg9 HBS.out
        have HY : Hid (y.size ≤ 24) := lets7_24 y hy
        clear hC9 hg9 hy
        have had : ∀ W, (Op.stringOp .add s y).run Try.prog W = .ok (.string (s ++ y)) W := fun W => run_string_add_sum W _ _ (by have := HY.out; have := HSS.out; omega)
        have HSN : Hid ((s ++ y).size ≤ 24 * (k + 1)) := by have := HY.out; have := HSS.out; show _ ≤ _; rw [ByteArray.size_append]; omega
        have em : IntKind.i64.wrap ((n : Int) - 1) = ((n - 1 : Nat) : Int) := by rw [IntWalk.i64_in _ (by omega)]; omega
        go_wp2
        go_roundw
        case rel => first | exact ⟨k + 1, n - 1, s ++ y, su9, rfl, by first | rfl | go_num, by omega, HSN, K9, HO9⟩ | ((repeat apply Exists.intro); exact ⟨⟨k + 1, n - 1, s ++ y, su9, rfl, by first | rfl | go_num, by omega, HSN, K9, HO9⟩, by first | rfl | rw [HT0.out]⟩)
        case measure => simp [intOf]; omega
      case true =>
        go_wp2_with fail
        refine (below_exV w3 B len cap ao zs su3 t.length K3.out.cur hl HZ.out).mono ?_
        rintro e w9 ⟨q, su9, rfl, q0, q1, hC9, hg9⟩
        have q2 := q1 htp
        obtain ⟨j, rfl⟩ := Int.eq_ofNat_of_zero_le q0
        have hjt : j < t.length := by omega
        have K9 : Hid (Kd w w9 B ao len cap zs su9) := K3.out.call hC9 hg9
        have HO9 : Hid (w9.ownsRow W0.heap.size 9 1 (.slice tp t.length tc) t.length (t.map Value.string)) := own_curV HO3.out hg9 HBS.out
        clear hC9 hg9 q0 q1 K3 HO3
        obtain ⟨tb, tof, tc', hv, htb, htcell⟩ := (RowR.own HO9.out).some (by omega) (by decide)
        have hcj : w9.cell? ⟨tb, tof + j, none⟩ = some (.string t[j]) := by rw [htcell j (by omega), mapS_at t j hjt]
        have HY : Hid ((t[j]).size ≤ 24) := H24.out _ (List.getElem_mem hjt)
        clear htcell
        generalize t[j] = y at hcj HY
        simp only [Value.slice.injEq, true_and] at hv
        obtain ⟨rfl, rfl⟩ := hv
        have had : ∀ W, (Op.stringOp .add s y).run Try.prog W = .ok (.string (s ++ y)) W := fun W => run_string_add_sum W _ _ (by have := HY.out; have := HSS.out; omega)
        have HSN : Hid ((s ++ y).size ≤ 24 * (k + 1)) := by have := HY.out; have := HSS.out; show _ ≤ _; rw [ByteArray.size_append]; omega
        have em : IntKind.i64.wrap ((n : Int) - 1) = ((n - 1 : Nat) : Int) := by rw [IntWalk.i64_in _ (by omega)]; omega
        go_wp2
        go_roundw
        case rel => first | exact ⟨k + 1, n - 1, s ++ y, su9, rfl, by first | rfl | go_num, by omega, HSN, K9, HO9⟩ | ((repeat apply Exists.intro); exact ⟨⟨k + 1, n - 1, s ++ y, su9, rfl, by first | rfl | go_num, by omega, HSN, K9, HO9⟩, by first | rfl | rw [HT0.out]⟩)
        case measure => simp [intOf]; omega
    · have hpos' : ¬ (0 : Int) < (n : Int) := by omega
      go_wp2
      go_ret
      exact ⟨s, su, rfl, by have := HSS.out; omega, K.out.cur, K.out.grown⟩

end Go.Proofs.Ytdggkcohidijcaa

/- What the laws of one vocabulary use. -/
namespace Go.Proofs.Ytdggkcohidijcaa
open Go.RowKit
set_option linter.unusedVariables false
set_option linter.unusedSimpArgs false

theorem bel_undrewV {B : Nat} {w w' : World} (h : Below B w.drew w') : Below B w w' := ⟨h.os, h.tape, h.output, h.size, h.block⟩

theorem sz_smallV {n : Nat} (h : ¬ szF n 1048576 < 0) : n ≤ 1048576 := by
  unfold szF at h
  split at h <;> omega

theorem ln_voc {x : S_Vocab} (h : zVocab x ≤ 1048576) : LnVocab x 1048576 := by
  unfold zVocab at h
  show x.f0.length ≤ 1048576
  omega

theorem cell1V {W : World} {b : Nat} {a : Value} (h : W.cell? ⟨b, 0, none⟩ = some a) : ∀ j u, ([a] : List Value)[j]? = some u → W.cell? ((⟨b, 0, none⟩ : Addr).add j) = some u := by
  intro j u hj
  rw [Addr.add_mid, Nat.zero_add]
  rcases j with _ | j
  · simp only [List.getElem?_cons_zero, Option.some.injEq] at hj; rw [← hj]; exact h
  · simp at hj

theorem toVocS_c (x : S_Vocab) (v0 : Value) (w : World) (hn : LnVocab x 1048576) (h : RdVocab w x v0) :
    Calls Try.prog 27 #[.agg #[v0]] w fun e w' => ∃ p c, e = .returned (.agg #[.slice p x.f0.length c]) ∧ OwVocab w' w.heap.size x (.slice p x.f0.length c) ∧ Below w.heap.size w w' := by
  refine (toVocab_c x v0 w hn h).mono ?_
  rintro e w' ⟨u0, rfl, ho, hb⟩
  obtain ⟨p, c, rfl⟩ := own_sliceV ho
  exact ⟨p, c, rfl, ho, hb⟩

end Go.Proofs.Ytdggkcohidijcaa

/- A vocabulary and a word are drawn. -/
namespace Go.Proofs.Ytdggkcohidijcaa
open Go.RowKit
set_option linter.unusedVariables false
set_option linter.unusedSimpArgs false

theorem codeBel {w W : World} {ao : Option Addr} {len : Nat} {zs : List Int} (h : CodeAt w w.heap.size ao len zs) (hb : Below w.heap.size w W) : CodeAt W W.heap.size ao len zs := by
  intro j hj
  obtain ⟨b, off, e, hlt, hcl⟩ := h j hj
  exact ⟨b, off, e, Nat.lt_of_lt_of_le hlt hb.size, by rw [hb.cell (by exact hlt)]; exact hcl⟩

theorem size_c (most : Int) (w : World) (ao : Option Addr) (len cap : Nat) (h0 : 2 ≤ most) (h1 : most ≤ 1000) (hl : len ≤ 1048576) :
    Calls Try.prog 35 #[.slice ao len cap, .int .i64 most] w fun e w' => ∃ n : Int, e = .returned (.int .i64 n) ∧ 0 ≤ n ∧ n ≤ 1000 ∧ w' = w := by
  have ew : IntKind.i64.wrap ((len : Int) / 20) = (len : Int) / 20 := IntWalk.i64_in _ (by omega)
  have ew2 : IntKind.i64.wrap (2 + (len : Int) / 20) = 2 + (len : Int) / 20 := IntWalk.i64_in _ (by omega)
  by_cases hg : most < 2 + (len : Int) / 20
  · have HF : Hid (0 ≤ most ∧ most ≤ 1000) := ⟨by omega, h1⟩
    go_enter Try.func35, Try.ntmps35
    go_wp2
    go_ret
    exact ⟨most, rfl, HF.out.1, HF.out.2, rfl⟩
  · have HF : Hid (0 ≤ 2 + (len : Int) / 20 ∧ 2 + (len : Int) / 20 ≤ 1000) := ⟨by omega, by omega⟩
    go_enter Try.func35, Try.ntmps35
    go_wp2
    go_ret
    exact ⟨_, rfl, HF.out.1, HF.out.2, rfl⟩

theorem belOf {w W : World} (h : w.grownBy W none) : Below w.heap.size w W := ⟨h.os, h.tape, h.output, h.size, fun k hk => h.block k hk (by simp)⟩

theorem belCur {w x W : World} {B : Nat} (h : Below w.heap.size w x) (hg : x.grownBy W (some B)) (hB : w.heap.size ≤ B) : Below w.heap.size w W :=
  ⟨hg.os.trans h.os, hg.tape.trans h.tape, hg.output.trans h.output, Nat.le_trans h.size hg.size, fun k hk => (hg.block k (Nat.lt_of_lt_of_le hk h.size) (fun e => by cases e; omega)).trans (h.block k hk)⟩

theorem big_c (w : World) (ao : Option Addr) (len cap : Nat) (b : Bool) (h : decide ((1048576 : Int) < len) = b) :
    Calls Try.prog 8 #[.slice ao len cap] w fun e w' => e = .returned (.bool b) ∧ w' = w := by
  go_enter Try.func8, Try.ntmps8
  go_wp2
  go_ret
  exact ⟨rfl, rfl⟩

/-- While a word is drawn: the cursor, the answer's place, the vocabulary's place and row. -/
structure WbS (w : World) (B len cap : Nat) (ao : Option Addr) (zs : List Int) (bo bv : Nat) (W : World) (L : List S_Pair) (p : Option Addr) (c : Nat) (su : Nat × Int) : Prop where
  cur : Cur W B ao len cap zs su
  down : Below w.heap.size w W
  out : W.heap[w.heap.size]? = some (.cells #[.slice none 0 0] 26)
  box : W.heap[bv]? = some (.cells #[.slice p L.length c] 26)
  row : W.ownsRow bo 88 2 (.slice p L.length c) L.length (rPair L)
  lo : w.heap.size < B
  mid : B < bo
  hi : B < bv

section
variable {w W W' : World} {B len cap : Nat} {ao : Option Addr} {zs : List Int} {bo bv : Nat} {L : List S_Pair} {p : Option Addr} {c : Nat} {su su' : Nat × Int}
theorem WbS.bel (S : WbS w B len cap ao zs bo bv W L p c su) (h : Below W.heap.size W W') : WbS w B len cap ao zs bo bv W' L p c su :=
  ⟨S.cur.keep (grownV h) (by simp), S.down.trans (h.mono S.down.size), (h.block _ (lt_of_some S.out)).trans S.out, (h.block _ (lt_of_some S.box)).trans S.box, own_bel S.row h (Nat.le_refl _), S.lo, S.mid, S.hi⟩
theorem WbS.call (S : WbS w B len cap ao zs bo bv W L p c su) (hC : Cur W' B ao len cap zs su') (hg : W.grownBy W' (some B)) : WbS w B len cap ao zs bo bv W' L p c su' :=
  ⟨hC, belCur S.down hg (Nat.le_of_lt S.lo), blk_curV S.out hg (by have := S.lo; omega), blk_curV S.box hg (by have := S.hi; omega), own_curV S.row hg S.mid, S.lo, S.mid, S.hi⟩
end

/-- A vocabulary and a text are drawn. -/
def BwD (w : World) (e : Ending) (w' : World) : Prop := ∃ (L : List S_Pair) (p : Option Addr) (c : Nat) (s : ByteArray), e = .returned (.tuple #[.agg #[.slice p L.length c], .string s]) ∧ L.length ≤ 66 ∧ s.size ≤ 24024 ∧ w'.ownsRow w.heap.size 88 2 (.slice p L.length c) L.length (rPair L) ∧ Below w.heap.size w w'

def strL : Value → Nat
  | .string s => s.size
  | _ => 0

end Go.Proofs.Ytdggkcohidijcaa

/- Rows of numbers that are the same; what came in. -/
namespace Go.Proofs.Ytdggkcohidijcaa
open Go.RowKit
set_option linter.unusedVariables false
set_option linter.unusedSimpArgs false

/-- What the walk is told of a slice of bytes that came in. -/
def IsRow (w : World) (a : Option Addr) (len cap : Nat) (zs : List Int) : Prop :=
  (a = none ∧ len = 0 ∧ cap = 0 ∧ zs = []) ∨
  ∃ x, a = some x ∧ len ≤ cap ∧ cap ≤ maxLen ∧ zs.length = cap ∧ (∀ i, i < zs.length → w.cell? (x.add i) = some (.int .u8 (zs.getD i 0))) ∧ ∀ n ∈ zs, (Lit.int .u8 n).wf = true

theorem IsRow.code {w : World} {a : Option Addr} {len cap : Nat} {zs : List Int} (h : IsRow w a len cap zs) : CodeAt w w.heap.size a len zs := by
  intro j hj
  rcases h with ⟨_, rfl, _⟩ | ⟨x, rfl, hl, hm, hz, hcell, hwz⟩
  · omega
  · obtain ⟨b, off, spot⟩ := x
    have hspot : spot = none := by simpa [Addr.add] using World.cell?_spot (hcell 0 (by omega))
    subst hspot
    have hplain : (⟨b, off, none⟩ : Addr).add j = ⟨b, off + j, none⟩ := by unfold Addr.add; split <;> simp_all
    have hc' := hcell j (by omega)
    rw [hplain] at hc'
    exact ⟨b, off, rfl, World.block_lt_of_cell? w _ hc', hc'⟩

theorem IsRow.range {w : World} {a : Option Addr} {len cap : Nat} {zs : List Int} (h : IsRow w a len cap zs) : ∀ j, 0 ≤ zs.getD j 0 ∧ zs.getD j 0 ≤ 255 := by
  intro j
  rcases h with ⟨_, _, _, rfl⟩ | ⟨x, rfl, hl, hm, hz, hcell, hwz⟩
  · simp
  · by_cases hj : j < zs.length
    · have e : zs.getD j 0 = zs[j] := by simp [List.getD, List.getElem?_eq_getElem hj]
      rw [e]
      have := bounds_u8 (hwz zs[j] (List.getElem_mem hj))
      omega
    · have e : zs.getD j 0 = 0 := by simp [List.getD, List.getElem?_eq_none (Nat.le_of_not_lt hj)]
      rw [e]; omega

theorem IsRow.len {w : World} {a : Option Addr} {len cap : Nat} {zs : List Int} (h : IsRow w a len cap zs) : len ≤ maxLen := by
  rcases h with ⟨_, rfl, _⟩ | ⟨x, rfl, hl, hm, _⟩
  · exact Nat.zero_le _
  · omega

set_option maxRecDepth 20000 in
set_option maxHeartbeats 4000000 in
theorem sameInts_c (v v2 : Value) (L : List Int) (w : World) (hn : L.length ≤ 1048576) (hr : IR w v L) (hr2 : IR w v2 L) :
    Calls Try.prog 18 #[v, v2] w fun e w' => e = .returned (.bool true) ∧ Below w.heap.size w w' := by
  have hn' : (L.length : Int) ≤ 1048576 := by omega
  have HR : Hid (IR w v L) := hr
  have HR2 : Hid (IR w v2 L) := hr2
  obtain ⟨p, cap, rfl⟩ := IR.slice hr
  obtain ⟨p2, cap2, rfl⟩ := IR.slice hr2
  clear hr hr2
  go_enter Try.func18, Try.ntmps18
  go_wp2
  go_loopw [5] (fun i wr => ∃ k : Nat, k ≤ L.length ∧ i = .int .i64 (k : Int) ∧ Hid (Below w.heap.size w wr)) (fun i _ => L.length - (intOf i).toNat)
  case atStart => exact ⟨0, Nat.zero_le _, rfl, Below.refl _ _⟩
  case round =>
    obtain ⟨k, hk, rfl, HB⟩ := hrel
    by_cases hlt : k < L.length
    · have hlt' : (k : Int) < L.length := by omega
      obtain ⟨b, off, rfl, hb, hc⟩ := HR.out.cells (by omega)
      obtain ⟨b2, off2, rfl, hb2, hc2⟩ := HR2.out.cells (by omega)
      have c0 : wr.cell? ⟨b, off + k, none⟩ = some (.int .i64 L[k]) := by rw [HB.out.cell (by exact hb)]; exact hc k hlt
      have d0 : wr.cell? ⟨b2, off2 + k, none⟩ = some (.int .i64 L[k]) := by rw [HB.out.cell (by exact hb2)]; exact hc2 k hlt
      clear hc hc2
      generalize L[k] = X at c0 d0
      go_wp2
      go_quiet (fail)
      go_wp2
      go_roundw
      case rel => exact ⟨k + 1, by omega, by go_num, bel_drewN HB.out _⟩
      case measure => simp [intOf]; omega
    · have hke : k = L.length := by omega
      subst hke
      go_wp2
      go_ret
      exact ⟨rfl, HB.out⟩

end Go.Proofs.Ytdggkcohidijcaa

/- Where two rows part; a beginning of a vocabulary. -/
namespace Go.Proofs.Ytdggkcohidijcaa
open Go.RowKit
set_option linter.unusedVariables false
set_option linter.unusedSimpArgs false

theorem prCap {w : World} {base : Nat} {p : Option Addr} {n c sz : Nat} {e : TypeId} {xs : List Value} (h : w.ownsRow base e sz (.slice p n c) n xs) : n ≤ c := by
  obtain ⟨_, ⟨hv, h0⟩ | ⟨g, cap, cur, hv, _, _, hc, _⟩⟩ := h
  · simp only [Value.slice.injEq] at hv
    omega
  · simp only [Value.slice.injEq] at hv
    omega

theorem rowPre {w : World} {p : Option Addr} {c : Nat} {L S : List S_Pair} (h : RowR w (.slice p L.length c) L.length 2 (rPair L)) (hS : L.take S.length = S) : RowR w (.slice p S.length c) S.length 2 (rPair S) := by
  have hl : S.length ≤ L.length := by
    have := congrArg List.length hS
    rw [List.length_take] at this
    omega
  obtain ⟨h1, p', cap, hv, hc⟩ := h
  simp only [Value.slice.injEq, true_and] at hv
  obtain ⟨rfl, rfl⟩ := hv
  refine ⟨by rw [rPair_len], _, c, rfl, fun j hj => ?_⟩
  obtain ⟨b', off', e, hlt, hcell⟩ := hc j (by omega)
  refine ⟨b', off', e, hlt, ?_⟩
  rw [hcell]
  have e2 : rPair L = rPair S ++ rPair (L.drop S.length) := by
    have : L = S ++ L.drop S.length := by conv => lhs; rw [← List.take_append_drop S.length L, hS]
    conv => lhs; rw [this]
    unfold rPair
    rw [List.flatMap_append]
  rw [e2, List.getElem?_append_left (by rw [rPair_len]; omega)]

theorem okT_bpe {M : List S_Pair} : ∀ (n : Nat) (ts : List Int), ts.length ≤ n → okT M ts → okT M (bpeL M ts)
  | n, ts, hn, h => by
    rcases hp : placeF M ts with _ | ⟨i, r⟩
    · unfold bpeL; rw [bpeN_none hp]; exact h
    · rw [bpeL_step hp]
      have hl := mgT_len (r := r) (matB_lt (place_is hp)).2
      match n, hn with
      | 0, hn => omega
      | n + 1, hn => exact okT_bpe n _ (by omega) (okT_mg h hp)

theorem om_start {L S : List S_Pair} (hS : L.take S.length = S) (hok : okV L) {s : ByteArray} (h64 : s.size ≤ 64) : bpF S s = bpeL S (bpI s) ∧ OmS L (bpeL L (bpI s)) S.length s.size (bpF S s).length (bpF S s) 0 := by
  have hl : S.length ≤ L.length := by
    have := congrArg List.length hS
    rw [List.length_take] at this
    omega
  have hoS : okV S := by rw [← hS]; exact okV_take hok hl
  have e : bpF S s = bpeL S (bpI s) := if_pos ⟨hoS, h64⟩
  have hT := okT_bpe _ _ (Nat.le_refl _) (okT_bp hoS h64)
  refine ⟨e, ⟨?_, ?_, ?_⟩, ?_, Nat.le_refl _⟩
  · rw [e]
    exact ⟨hok, hT.2.1, fun x hx => by have := hT.2.2 x hx; exact ⟨this.1, by have := this.2; omega⟩⟩
  · rw [e]
    have := bpe_take L S.length _ (bpI s) (Nat.le_refl _)
    rwa [hS] at this
  · rw [e]
    have := bpeN_len S (bpI s).length (bpI s)
    rw [bpI_len] at this
    show (bpeN S (bpI s).length (bpI s)).length + 0 ≤ _
    rw [bpI_len]
    omega
  · rw [e, hS]
    exact bpe_stable S _ _ (Nat.le_refl _)

end Go.Proofs.Ytdggkcohidijcaa

/- A word's tokens have its bytes, and none of them merge. -/
namespace Go.Proofs.Ytdggkcohidijcaa
open Go.RowKit
set_option linter.unusedVariables false
set_option linter.unusedSimpArgs false

theorem de_bpe {M : List S_Pair} : ∀ (n : Nat) (ts : List Int), ts.length ≤ n → okT M ts → deB M (bpeL M ts) = deB M ts
  | n, ts, hn, h => by
    rcases hp : placeF M ts with _ | ⟨i, r⟩
    · unfold bpeL; rw [bpeN_none hp]
    · rw [bpeL_step hp, ← de_mg h hp]
      have hl := mgT_len (r := r) (matB_lt (place_is hp)).2
      match n, hn with
      | 0, hn => omega
      | n + 1, hn => exact de_bpe n _ (by omega) (okT_mg h hp)

theorem cat_nums : ∀ (xs : List Int), catB (xs.map fun x => strOfNums [x]) = strOfNums xs
  | [] => rfl
  | x :: xs => by
    have e1 : catB (strOfNums [x] :: xs.map fun x => strOfNums [x]) = strOfNums [x] ++ catB (xs.map fun x => strOfNums [x]) := by
      show (xs.map fun x => strOfNums [x]).foldl (· ++ ·) ((⟨#[]⟩ : ByteArray) ++ strOfNums [x]) = _
      rw [catB_fold, show ((⟨#[]⟩ : ByteArray) ++ strOfNums [x]) = strOfNums [x] from ByteArray.empty_append]
    rw [List.map_cons, e1, cat_nums xs, strOfNums_append]
    rfl

theorem word_nums (s : ByteArray) : strOfNums (bpI s) = s := by
  apply ByteArray.ext
  apply Array.toList_inj.mp
  have e : bpI s = bl s s.size := rfl
  rw [e, strOfNums_data, ← bl_take s s.size (Nat.le_refl _), List.map_map, List.take_of_length_le (i := s.size) (l := s.data.toList) (Nat.le_of_eq Array.length_toList)]
  conv => rhs; rw [← List.map_id s.data.toList]
  apply List.map_congr_left
  intro c _
  simp

theorem de_word {L : List S_Pair} (h : okV L) {s : ByteArray} (h64 : s.size ≤ 64) : deB L (bpI s) = s := by
  obtain ⟨t, ht⟩ := okV_tab h
  rw [deB_yes (okT_bp h h64) ht]
  have e : (bpI s).map (bytV t) = (bpI s).map fun x => strOfNums [x] := by
    apply List.map_congr_left
    intro x hx
    unfold bpI at hx
    obtain ⟨i, _, rfl⟩ := List.mem_map.1 hx
    have := byteAt_rng s i
    unfold bytV
    rw [if_pos (by omega)]
  rw [e, cat_nums, word_nums]

/-- What Bpe answers: the word's bytes, stable. -/
theorem bpF_all (L : List S_Pair) (s : ByteArray) : (¬ (okV L ∧ s.size ≤ 64) → (bpF L s).length = 0) ∧ (okV L ∧ s.size ≤ 64 → decide (okT L (bpF L s)) = true ∧ deB L (bpF L s) = s ∧ stB L (bpF L s) = true) := by
  refine ⟨fun h => by unfold bpF; rw [if_neg h]; rfl, fun h => ?_⟩
  have e : bpF L s = bpeL L (bpI s) := if_pos h
  have h1 := okT_bp h.1 h.2
  have h2 := okT_bpe _ _ (Nat.le_refl _) h1
  rw [e]
  refine ⟨decide_eq_true h2, by rw [de_bpe _ _ (Nat.le_refl _) h1, de_word h.1 h.2], ?_⟩
  unfold stB
  rw [decide_eq_true h2, bpe_stable L _ _ (Nat.le_refl _)]
  rfl

/-- What MergeOnce answers. -/
theorem mo_all (L : List S_Pair) (ts : List Int) : (okT L ts ∧ moO L ts = true ∧ ((moB L ts).length : Int) = (ts.length : Int) - 1 ∧ decide (okT L (moB L ts)) = true ∧ deB L (moB L ts) = deB L ts) ∨ (okT L ts ∧ moO L ts = false ∧ stB L ts = true) ∨ (¬ okT L ts ∧ moO L ts = false) := by
  by_cases h : okT L ts
  · rcases hp : placeF L ts with _ | ⟨i, r⟩
    · refine .inr (.inl ⟨h, (moB_none h hp).2, ?_⟩)
      unfold stB
      rw [decide_eq_true h, hp]
      rfl
    · obtain ⟨e1, e2⟩ := moB_yes h hp
      have hl := mgT_len (r := r) (matB_lt (place_is hp)).2
      exact .inl ⟨h, e2, by rw [e1]; omega, by rw [e1]; exact decide_eq_true (okT_mg h hp), by rw [e1]; exact de_mg h hp⟩
  · exact .inr (.inr ⟨h, (moB_bad h).2⟩)

end Go.Proofs.Ytdggkcohidijcaa

/- What the tokens of a text come to. -/
namespace Go.Proofs.Ytdggkcohidijcaa
open Go.RowKit
set_option linter.unusedVariables false
set_option linter.unusedSimpArgs false

theorem bpF_ok {L : List S_Pair} {w : ByteArray} (h : okV L) (h64 : w.size ≤ 64) : okT L (bpF L w) ∧ deB L (bpF L w) = w := by
  obtain ⟨h1, h2, _⟩ := (bpF_all L w).2 ⟨h, h64⟩
  exact ⟨of_decide_eq_true h1, h2⟩

theorem catB_cons9 (b : ByteArray) (l : List ByteArray) : catB (b :: l) = b ++ catB l := by
  show (l.foldl (· ++ ·) ((⟨#[]⟩ : ByteArray) ++ b)) = _
  rw [catB_fold, show ((⟨#[]⟩ : ByteArray) ++ b) = b from ByteArray.empty_append]

theorem catB_app9 : ∀ (A B : List ByteArray), catB (A ++ B) = catB A ++ catB B
  | [], B => by show catB B = (⟨#[]⟩ : ByteArray) ++ catB B; exact (ByteArray.empty_append).symm
  | a :: A, B => by rw [List.cons_append, catB_cons9, catB_cons9, catB_app9 A B, ByteArray.append_assoc]

theorem cat_words {L : List S_Pair} {t : List ByteArray} (h : okV L) (ht : tabV L = some t) : ∀ (W : List ByteArray), (∀ w ∈ W, w.size ≤ 64) → catB ((W.flatMap (bpF L)).map (bytV t)) = catB W ∧ ∀ x ∈ W.flatMap (bpF L), inL L x
  | [], _ => ⟨rfl, fun x hx => by cases hx⟩
  | w :: W, hW => by
    obtain ⟨h1, h2⟩ := cat_words h ht W (fun y hy => hW y (List.mem_cons_of_mem _ hy))
    obtain ⟨h3, h4⟩ := bpF_ok h (hW w List.mem_cons_self)
    rw [deB_yes h3 ht] at h4
    refine ⟨by rw [List.flatMap_cons, List.map_append, catB_app9, h1, h4, catB_cons9], fun x hx => ?_⟩
    rw [List.flatMap_cons] at hx
    rcases List.mem_append.1 hx with hx | hx
    · exact h3.2.2 x hx
    · exact h2 x hx

theorem ext_app (s : ByteArray) (a e : Nat) (h1 : a ≤ e) (h2 : e ≤ s.size) : s.extract a e ++ s.extract e s.size = s.extract a s.size := by
  apply ByteArray.ext
  rw [ByteArray.data_append, ByteArray.data_extract, ByteArray.data_extract, ByteArray.data_extract, Array.extract_append_extract]
  congr 1
  · omega
  · have : s.data.size = s.size := rfl
    omega

theorem cat_cut (s : ByteArray) : ∀ (f a : Nat), s.size - a ≤ f → a ≤ s.size → catB (cutA s a) = s.extract a s.size
  | 0, a, h, h1 => by
    obtain rfl : a = s.size := by omega
    rw [cutA_end s _ (Nat.le_refl _)]
    apply ByteArray.ext
    simp [catB]
  | f + 1, a, h, h1 => by
    by_cases hlt : a < s.size
    · have hin := neE_in hlt
      rw [cutA_more s a hlt, catB_cons9, cat_cut s f (neE s a) (by omega) hin.2.1, ext_app s a _ (by omega) hin.2.1]
    · obtain rfl : a = s.size := by omega
      rw [cutA_end s _ (Nat.le_refl _)]
      apply ByteArray.ext
      simp [catB]

theorem cat_cutF {s : ByteArray} (h : s.size ≤ 1000) : catB (cutF s) = s := by
  unfold cutF
  rw [if_pos h, cat_cut s _ 0 (Nat.le_refl _) (Nat.zero_le _)]
  apply ByteArray.ext
  simp

theorem enc_ok {L : List S_Pair} {s : ByteArray} (h : okV L) (h2 : s.size ≤ 1000) : okT L (encF L s) ∧ deB L (encF L s) = s := by
  obtain ⟨t, ht⟩ := okV_tab h
  have hl := encF_len L s
  have e : encF L s = (cutF s).flatMap (bpF L) := by rw [(encF_yes h h2).1]; unfold enW; rw [List.take_length]
  obtain ⟨h3, h4⟩ := cat_words h ht (cutF s) (fun w hw => (cutF_all s w hw).2)
  have h5 : okT L (encF L s) := ⟨h, hl, by rw [e]; exact h4⟩
  exact ⟨h5, by rw [deB_yes h5 ht, e, h3, cat_cutF h2]⟩

/-- Ends that rise, the last one at z. -/
def Rise (acc : List Int) (z : Int) : Prop := (∀ i x y, acc[i]? = some x → acc[i + 1]? = some y → x < y) ∧ (∀ x, acc[acc.length - 1]? = some x → x = z)

theorem Rise.more {acc : List Int} {z d : Int} (h : Rise acc z) (hd : 0 < d) : Rise (acc ++ [z + d]) (z + d) := by
  refine ⟨fun i x y hx hy => ?_, fun x hx => ?_⟩
  · have hi : i + 1 < acc.length + 1 := by have := (List.getElem?_eq_some_iff.1 hy).1; simpa using this
    rw [List.getElem?_append_left (by omega)] at hx
    rcases Nat.lt_or_ge (i + 1) acc.length with h1 | h1
    · rw [List.getElem?_append_left h1] at hy
      exact h.1 i x y hx hy
    · have e : i + 1 = acc.length := by omega
      rw [e, List.getElem?_append_right (Nat.le_refl _), Nat.sub_self] at hy
      simp at hy
      have := h.2 x (by rw [show acc.length - 1 = i by omega]; exact hx)
      omega
  · rw [List.length_append, List.length_singleton, Nat.add_sub_cancel, List.getElem?_append_right (Nat.le_refl _), Nat.sub_self] at hx
    simpa using hx.symm

theorem rise_fold : ∀ (l : List ByteArray) (acc : List Int) (z : Int), (∀ b ∈ l, 1 ≤ b.size) → Rise acc z →
    Rise (l.foldl (fun s b => (s.1 ++ [s.2 + (b.size : Int)], s.2 + (b.size : Int))) (acc, z)).1 (z + ((catB l).size : Int)) ∧ (l.foldl (fun s b => (s.1 ++ [s.2 + (b.size : Int)], s.2 + (b.size : Int))) (acc, z)).1.length = acc.length + l.length
  | [], acc, z, _, h => ⟨by rw [show ((catB []).size : Int) = 0 from rfl, Int.add_zero]; exact h, rfl⟩
  | b :: l, acc, z, hb, h => by
    have h1 := hb b List.mem_cons_self
    obtain ⟨i1, i2⟩ := rise_fold l (acc ++ [z + (b.size : Int)]) (z + (b.size : Int)) (fun c hc => hb c (List.mem_cons_of_mem _ hc)) (h.more (by omega))
    rw [catB_cons9, ByteArray.size_append]
    refine ⟨?_, by rw [List.foldl_cons, i2]; simp; omega⟩
    have e : z + ((b.size + (catB l).size : Nat) : Int) = z + (b.size : Int) + ((catB l).size : Int) := by omega
    rw [e]
    exact i1

theorem ends_ok {L : List S_Pair} {ts : List Int} (h : okT L ts) : Rise (enB L ts) ((deB L ts).size : Int) ∧ (enB L ts).length = ts.length := by
  obtain ⟨t, ht⟩ := okV_tab h.1
  rw [enB_yes h ht, deB_yes h ht]
  have hb : ∀ b ∈ ts.map (bytV t), 1 ≤ b.size := by
    intro b hb
    obtain ⟨x, hx, rfl⟩ := List.mem_map.1 hb
    exact (byt_size (tabV_size ht) ((inL_inV ht x).1 (h.2.2 x hx))).1
  obtain ⟨i1, i2⟩ := rise_fold (ts.map (bytV t)) [] 0 hb ⟨fun i x y hx => by simp at hx, fun x hx => by simp at hx⟩
  rw [Int.zero_add] at i1
  exact ⟨i1, by unfold endF; rw [i2]; simp⟩

theorem no_toks {L : List S_Pair} {ts : List Int} (h : okT L ts) (h0 : ts.length = 0) : (deB L ts).size = 0 := by
  obtain rfl := List.eq_nil_of_length_eq_zero h0
  obtain ⟨t, ht⟩ := okV_tab h.1
  rw [deB_yes h ht]
  rfl

end Go.Proofs.Ytdggkcohidijcaa

/- A text of words is drawn. -/
namespace Go.Proofs.Ytdggkcohidijcaa
open Go.RowKit
set_option linter.unusedVariables false
set_option linter.unusedSimpArgs false

theorem sizeT_c (most : Int) (w : World) (ao : Option Addr) (len cap : Nat) (h0 : 2 ≤ most) (h1 : most ≤ 1000) (hl : len ≤ 1048576) :
    Calls Try.prog 35 #[.slice ao len cap, .int .i64 most] w fun e w' => ∃ n : Int, e = .returned (.int .i64 n) ∧ 0 ≤ n ∧ n ≤ most ∧ w' = w := by
  have ew : IntKind.i64.wrap ((len : Int) / 20) = (len : Int) / 20 := IntWalk.i64_in _ (by omega)
  have ew2 : IntKind.i64.wrap (2 + (len : Int) / 20) = 2 + (len : Int) / 20 := IntWalk.i64_in _ (by omega)
  by_cases hg : most < 2 + (len : Int) / 20
  · have HF : Hid (0 ≤ most ∧ most ≤ most) := ⟨by omega, Int.le_refl _⟩
    go_enter Try.func35, Try.ntmps35
    go_wp2
    go_ret
    exact ⟨most, rfl, HF.out.1, HF.out.2, rfl⟩
  · have HF : Hid (0 ≤ 2 + (len : Int) / 20 ∧ 2 + (len : Int) / 20 ≤ most) := ⟨by omega, by omega⟩
    go_enter Try.func35, Try.ntmps35
    go_wp2
    go_ret
    exact ⟨_, rfl, HF.out.1, HF.out.2, rfl⟩

def lets13 : List ByteArray := [⟨#[32]⟩, ⟨#[32]⟩, ⟨#[]⟩, ⟨#[32, 32]⟩, ⟨#[10]⟩, ⟨#[32, 9, 32]⟩, ⟨#[49, 50]⟩, ⟨#[51, 52, 53, 54]⟩, ⟨#[46]⟩, ⟨#[32, 46]⟩, ⟨#[33, 63]⟩, ⟨#[32, 32, 32]⟩, ⟨#[13, 10]⟩]
theorem lets13_4 : ∀ y ∈ lets13, y.size ≤ 4 := by decide
def lets4 : List ByteArray := [⟨#[97]⟩, ⟨#[98]⟩, ⟨#[32]⟩, ⟨#[49]⟩]
theorem lets4_1 : ∀ y ∈ lets4, y.size = 1 := by decide

/-- While a text is drawn: the cursor, the vocabulary's place and row. -/
structure LnS (w : World) (B len cap : Nat) (ao : Option Addr) (zs : List Int) (bv : Nat) (W : World) (bo : Nat) (L : List S_Pair) (p : Option Addr) (c : Nat) (su : Nat × Int) : Prop where
  kd : Kd w W B ao len cap zs su
  box : W.heap[bv]? = some (.cells #[.slice p L.length c] 26)
  row : W.ownsRow bo 88 2 (.slice p L.length c) L.length (rPair L)
  mid : B < bo
  hi : B < bv

section
variable {w W W' : World} {B len cap : Nat} {ao : Option Addr} {zs : List Int} {bo bv : Nat} {L : List S_Pair} {p : Option Addr} {c : Nat} {su su' : Nat × Int}
theorem LnS.bel (S : LnS w B len cap ao zs bv W bo L p c su) (h : Below W.heap.size W W') : LnS w B len cap ao zs bv W' bo L p c su :=
  ⟨S.kd.bel h, (h.block _ (lt_of_some S.box)).trans S.box, own_bel S.row h (Nat.le_refl _), S.mid, S.hi⟩
theorem LnS.call (S : LnS w B len cap ao zs bv W bo L p c su) (hC : Cur W' B ao len cap zs su') (hg : W.grownBy W' (some B)) : LnS w B len cap ao zs bv W' bo L p c su' :=
  ⟨S.kd.call hC hg, blk_curV S.box hg (by have := S.hi; omega), own_curV S.row hg S.mid, S.mid, S.hi⟩
end

/-- A text is drawn. -/
def LiD (w : World) (B len cap : Nat) (ao : Option Addr) (zs : List Int) (e : Ending) (w' : World) : Prop := ∃ (s : ByteArray) (st' : Nat × Int), e = .returned (.string s) ∧ s.size ≤ 300000 ∧ Cur w' B ao len cap zs st' ∧ w.grownBy w' (some B)

def strN : Value → Nat
  | .string s => s.size
  | _ => 0

set_option maxRecDepth 20000 in
set_option maxHeartbeats 4000000 in
theorem l9Line_c (w : World) (B len cap : Nat) (ao : Option Addr) (zs : List Int) (st : Nat × Int) (most : Int) (hm : 0 ≤ most ∧ most ≤ 12) (L : List S_Pair) (p : Option Addr) (c bo : Nat) (hn : L.length ≤ 1048576) (hr : w.ownsRow bo 88 2 (.slice p L.length c) L.length (rPair L)) (hbo : B < bo) (hC : Cur w B ao len cap zs st) (hl : len ≤ 1048576) (hz : ∀ j, 0 ≤ zs.getD j 0 ∧ zs.getD j 0 ≤ 255) :
    Calls Try.prog 36 #[.pointer (some ⟨B, 0, none⟩), .agg #[.slice p L.length c], .int .i64 most] w (LiD w B len cap ao zs) := by
  have HZ : Hid (∀ j, 0 ≤ zs.getD j 0 ∧ zs.getD j 0 ≤ 255) := hz
  have HN : Hid (L.length ≤ 1048576) := hn
  obtain ⟨W0, hW0⟩ : ∃ W, W = w.alloc (.cells #[.slice p L.length c] 26) := ⟨_, rfl⟩
  have HW0 : Hid (w.alloc (.cells #[.slice p L.length c] 26) = W0) := hW0.symm
  have hB0 : Below w.heap.size w W0 := by rw [hW0]; exact (Below.refl _ _).alloc (Nat.le_refl _) _
  have S0 : Hid (LnS w B len cap ao zs w.heap.size W0 bo L p c st) := ⟨kd_of hC hB0, by rw [hW0]; exact alloc_last _ _, own_bel hr hB0 (Nat.le_refl _), hbo, hC.lt⟩
  have ew : IntKind.i64.wrap (most + 1) = most + 1 := IntWalk.i64_in _ (by omega)
  clear hC hr hz hW0 hB0 hn
  go_enter Try.func36, Try.ntmps36
  go_wp2_with fail
  rw [HW0.out]
  refine (below_exV W0 B len cap ao zs st (most + 1) S0.out.kd.cur hl HZ.out).mono ?_
  rintro e w2 ⟨x, su, rfl, x0, x1, hC2, hg2⟩
  have S2 : Hid (LnS w B len cap ao zs w.heap.size w2 bo L p c su) := S0.out.call hC2 hg2
  have x2 := x1 (by omega)
  obtain ⟨m, rfl⟩ := Int.eq_ofNat_of_zero_le x0
  have hm9 : m ≤ 12 := by omega
  clear hC2 hg2 x0 x1 x2 ew hm
  go_wp2_with fail
  go_loopw [7, 8] (fun sv nv wr => ∃ (k n : Nat) (s : ByteArray) (su : Nat × Int), sv = .string s ∧ nv = .int .i64 (n : Int) ∧ k + n ≤ 12 ∧ Hid (s.size ≤ 24028 * k) ∧ Hid (LnS w B len cap ao zs w.heap.size wr bo L p c su)) (fun _ nv _ => (intOf nv).toNat)
  case atStart => exact ⟨0, m, ⟨#[]⟩, su, rfl, rfl, by omega, by show _ ≤ _; decide, S2⟩
  case round =>
    obtain ⟨k, n, s, su, rfl, rfl, hkn, HSS, S⟩ := hrel
    by_cases hpos : 0 < n
    · have hpos' : (0 : Int) < (n : Int) := by omega
      have d := box1 S.out.box
      go_wp2_with fail
      refine (l8Word_c wr B len cap ao zs su 5 (by decide) L p c HN.out (RowR.own S.out.row) S.out.kd.cur hl HZ.out).mono ?_
      rintro e w5 ⟨y5, su5, rfl, hy5, hC5, hg5⟩
      have S5 : Hid (LnS w B len cap ao zs w.heap.size w5 bo L p c su5) := S.out.call hC5 hg5
      have HY5 : Hid (y5.size ≤ 24024) := hy5
      have had5 : ∀ W, (Op.stringOp .add s y5).run Try.prog W = .ok (.string (s ++ y5)) W := fun W => run_string_add_sum W _ _ (by have := HY5.out; have := HSS.out; omega)
      have HS5 : Hid ((s ++ y5).size ≤ 24028 * k + 24024) := by have := HY5.out; have := HSS.out; show _ ≤ _; rw [ByteArray.size_append]; omega
      clear hC5 hg5 hy5 d S HSS HY5
      generalize s ++ y5 = s5 at had5 HS5
      obtain ⟨WA, hWA⟩ : ∃ W, W = w5.alloc (.cells #[.string ⟨#[32]⟩, .string ⟨#[32]⟩, .string ⟨#[]⟩, .string ⟨#[32, 32]⟩, .string ⟨#[10]⟩, .string ⟨#[32, 9, 32]⟩, .string ⟨#[49, 50]⟩, .string ⟨#[51, 52, 53, 54]⟩, .string ⟨#[46]⟩, .string ⟨#[32, 46]⟩, .string ⟨#[33, 63]⟩, .string ⟨#[32, 32, 32]⟩, .string ⟨#[13, 10]⟩] 9) := ⟨_, rfl⟩
      have HWA : Hid (w5.alloc (.cells #[.string ⟨#[32]⟩, .string ⟨#[32]⟩, .string ⟨#[]⟩, .string ⟨#[32, 32]⟩, .string ⟨#[10]⟩, .string ⟨#[32, 9, 32]⟩, .string ⟨#[49, 50]⟩, .string ⟨#[51, 52, 53, 54]⟩, .string ⟨#[46]⟩, .string ⟨#[32, 46]⟩, .string ⟨#[33, 63]⟩, .string ⟨#[32, 32, 32]⟩, .string ⟨#[13, 10]⟩] 9) = WA) := hWA.symm
      have HLs : Hid (WA.heap[w5.heap.size]? = some (.cells (lets13.map Value.string).toArray 9)) := by rw [hWA]; exact alloc_last _ _
      have SA : Hid (LnS w B len cap ao zs w.heap.size WA bo L p c su5) := S5.out.bel (by rw [hWA]; exact (Below.refl _ _).alloc (Nat.le_refl _) _)
      clear hWA
      go_wp2_with fail
      rw [HWA.out]
      refine (pickS_c WA B len cap ao zs su5 w5.heap.size lets13 (by decide) (by decide) SA.out.kd.cur hl HZ.out (by have := S5.out.kd.cur.lt; omega) HLs.out).mono ?_
      rintro e w9 ⟨y, su9, rfl, hy, hC9, hg9⟩
      have S9 : Hid (LnS w B len cap ao zs w.heap.size w9 bo L p c su9) := SA.out.call hC9 hg9
      have HY : Hid (y.size ≤ 4) := lets13_4 y hy
      have had : ∀ W, (Op.stringOp .add s5 y).run Try.prog W = .ok (.string (s5 ++ y)) W := fun W => run_string_add_sum W _ _ (by have := HY.out; have := HS5.out; omega)
      have HSN : Hid ((s5 ++ y).size ≤ 24028 * (k + 1)) := by have := HY.out; have := HS5.out; show _ ≤ _; rw [ByteArray.size_append]; omega
      have em : IntKind.i64.wrap ((n : Int) - 1) = ((n - 1 : Nat) : Int) := by rw [IntWalk.i64_in _ (by omega)]; omega
      clear hC9 hg9 hy
      go_wp2
      go_roundw
      case rel => first | exact ⟨k + 1, n - 1, s5 ++ y, su9, rfl, by first | rfl | go_num, by omega, HSN, S9⟩ | ((repeat apply Exists.intro); exact ⟨⟨k + 1, n - 1, s5 ++ y, su9, rfl, by first | rfl | go_num, by omega, HSN, S9⟩, rfl⟩)
      case measure => simp [intOf]; omega
    have hpos' : ¬ (0 : Int) < (n : Int) := by omega
    have HS2 : Hid (s.size ≤ 300000) := by have := HSS.out; show _ ≤ _; omega
    clear HSS
    go_wp2_with fail
    refine (once_exV wr B len cap ao zs su 30 S.out.kd.cur hl HZ.out).mono ?_
    rintro e w5 ⟨bo5, s7, rfl, hC5, hg5⟩
    have S5 : Hid (LnS w B len cap ao zs w.heap.size w5 bo L p c s7) := S.out.call hC5 hg5
    clear hC5 hg5 S
    cases bo5
    case false =>
      go_wp2
      go_ret
      exact ⟨s, s7, rfl, HS2.out, S5.out.kd.cur, S5.out.kd.grown⟩
    case true =>
      clear HS2
      go_wp2_with fail
      refine (below_exV w5 B len cap ao zs s7 2 S5.out.kd.cur hl HZ.out).mono ?_
      rintro e w6 ⟨x, s8, rfl, v0, v1, hC6, hg6⟩
      have S6 : Hid (LnS w B len cap ao zs w.heap.size w6 bo L p c s8) := S5.out.call hC6 hg6
      have v2 := v1 (by omega)
      obtain ⟨m, rfl⟩ := Int.eq_ofNat_of_zero_le v0
      have hm2 : m ≤ 1 := by omega
      have e5 : IntKind.i64.wrap (1000 + (m : Int)) = 1000 + (m : Int) := IntWalk.i64_in _ (by omega)
      clear hC6 hg6 S5 v0 v1 v2
      go_wp2_with fail
      go_loopw [7] (fun sv wr => ∃ (s : ByteArray) (sq : Nat × Int), sv = .string s ∧ Hid (s.size ≤ 1000 + m) ∧ Hid (LnS w B len cap ao zs w.heap.size wr bo L p c sq)) (fun sv _ => 1000 + m - strN sv)
      case atStart => exact ⟨⟨#[]⟩, s8, rfl, Nat.zero_le _, S6⟩
      case round =>
        obtain ⟨s, sq, rfl, HSS, S⟩ := hrel
        clear S6
        by_cases hlt : s.size < 1000 + m
        · have hlt' : (s.size : Int) < 1000 + (m : Int) := by omega
          obtain ⟨WA, hWA⟩ : ∃ W, W = wr.alloc (.cells #[.string ⟨#[97]⟩, .string ⟨#[98]⟩, .string ⟨#[32]⟩, .string ⟨#[49]⟩] 9) := ⟨_, rfl⟩
          have HWA : Hid (wr.alloc (.cells #[.string ⟨#[97]⟩, .string ⟨#[98]⟩, .string ⟨#[32]⟩, .string ⟨#[49]⟩] 9) = WA) := hWA.symm
          have HLs : Hid (WA.heap[wr.heap.size]? = some (.cells (lets4.map Value.string).toArray 9)) := by rw [hWA]; exact alloc_last _ _
          have SA : Hid (LnS w B len cap ao zs w.heap.size WA bo L p c sq) := S.out.bel (by rw [hWA]; exact (Below.refl _ _).alloc (Nat.le_refl _) _)
          clear hWA
          go_wp2_with fail
          rw [HWA.out]
          refine (pickS_c WA B len cap ao zs sq wr.heap.size lets4 (by decide) (by decide) SA.out.kd.cur hl HZ.out (by have := S.out.kd.cur.lt; omega) HLs.out).mono ?_
          rintro e w9 ⟨y, su9, rfl, hy, hC9, hg9⟩
          have S9 : Hid (LnS w B len cap ao zs w.heap.size w9 bo L p c su9) := SA.out.call hC9 hg9
          have HY : Hid (y.size = 1) := lets4_1 y hy
          have had : ∀ W, (Op.stringOp .add s y).run Try.prog W = .ok (.string (s ++ y)) W := fun W => run_string_add_sum W _ _ (by have := HY.out; omega)
          have HSN : Hid ((s ++ y).size = s.size + 1) := by show _ = _; rw [ByteArray.size_append, HY.out]
          have HLT : Hid (s.size < 1000 + m) := hlt
          clear hC9 hg9 hy
          go_wp2
          go_roundw
          case rel => exact ⟨s ++ y, su9, rfl, by have h1 := HSN.out; have h2 := HLT.out; show _ ≤ _; omega, S9⟩
          case measure => show 1000 + m - (s ++ y).size < 1000 + m - s.size; have h1 := HSN.out; have h2 := HLT.out; omega
        · have hlt' : ¬ (s.size : Int) < 1000 + (m : Int) := by omega
          have HS2 : Hid (s.size ≤ 300000) := by have := HSS.out; show _ ≤ _; omega
          go_wp2
          go_ret
          exact ⟨s, sq, rfl, HS2.out, S.out.kd.cur, S.out.kd.grown⟩

end Go.Proofs.Ytdggkcohidijcaa
