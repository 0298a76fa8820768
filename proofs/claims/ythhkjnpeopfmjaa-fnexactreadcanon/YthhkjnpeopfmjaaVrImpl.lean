/- ReadCanon of the program. -/
import Derived.Test.YthhkjnpeopfmjaaVrPairs
namespace Go.Proofs.Ythhkjnpeopfmjaa
open Go.RowKit
set_option linter.unusedVariables false
set_option linter.unusedSimpArgs false

theorem pairs_of : ∀ (A : List Int) (n : Nat), A.length = 2 * n → ∃ L, flatP L = A
  | [], _, _ => ⟨[], rfl⟩
  | [a], n, h => by simp at h; omega
  | a :: b :: A, n, h => by
    obtain ⟨L, hL⟩ := pairs_of A (n - 1) (by simp at h; omega)
    exact ⟨⟨a, b⟩ :: L, by show a :: b :: flatP L = _; rw [hL]⟩

set_option maxRecDepth 20000 in
set_option maxHeartbeats 4000000 in
theorem implRead_c (s : ByteArray) (w : World) (hs : s.size ≤ 1048576) : Calls Try.prog 20 #[.string s] w (RdcR s w) := by
  obtain ⟨W0, hW0⟩ : ∃ W, W = w.alloc (.cells #[.slice none 0 0] 29) := ⟨_, rfl⟩
  have HW0 : Hid (w.alloc (.cells #[.slice none 0 0] 29) = W0) := hW0.symm
  have HX0 : Hid (W0.heap[w.heap.size]? = some (.cells #[.slice none 0 0] 29)) := by rw [hW0]; exact alloc_last _ _
  have HZ0 : Hid (W0.heap.size = w.heap.size + 1) := by show _ = _; rw [hW0]; simp
  have HB0 : Hid (Below w.heap.size w W0) := by rw [hW0]; exact (Below.refl _ _).alloc (Nat.le_refl _) _
  clear hW0
  have HS : Hid (s.size ≤ 1048576) := hs
  have hsI : (s.size : Int) ≤ 1048576 := by omega
  clear hs
  go_enter Try.func20, Try.ntmps20
  go_wp2_with fail
  rw [HW0.out]
  refine (cut_c s W0 HS.out).mono ?_
  rintro e wz ⟨⟨T, hT, rfl⟩ | ⟨hT, rfl⟩, hw⟩
  rotate_left
  · replace hw := hw.symm
    subst hw
    have HF : Hid (¬ HasV s) := fun ⟨L, hL, e⟩ => hT (catN ((L.length : Int) :: flatP L)) (by rw [← e]; exact canT_cat hL)
    clear hT
    have z0 := box1 HX0.out
    have zf0 := frz1 HX0.out 0
    go_wp2
    refine bodyPost_ret (v := .tuple #[.agg #[.slice none 0 0], .bool false]) (by simp [results, Try.results20, go_sem, z0]) rfl ?_
    exact rdc_no HF.out (HB0.out.setCell (Nat.le_refl _) _)
  replace hw := hw.symm
  subst hw
  have HT : Hid (s = pfx ++ T) := hT
  clear hT
  by_cases h250 : (250 : Int) < (s.size : Int)
  · have HF : Hid (¬ HasV s) := fun ⟨L, hL, e⟩ => by have := (has_tail hL e).2.2.1; omega
    have z0 := box1 HX0.out
    have zf0 := frz1 HX0.out 0
    go_wp2
    refine bodyPost_ret (v := .tuple #[.agg #[.slice none 0 0], .bool false]) (by simp [results, Try.results20, go_sem, z0]) rfl ?_
    exact rdc_no HF.out (HB0.out.setCell (Nat.le_refl _) _)
  have HTS : Hid (T.size ≤ 1000) := by have := congrArg ByteArray.size HT.out; rw [ByteArray.size_append] at this; show _ ≤ _; omega
  have HNO : Hid ((∀ A, InN A → T ≠ catN A) → ¬ HasV s) := fun h ⟨L, hL, e⟩ => h _ (okV_inN hL) (by
    have := canT_cat hL
    rw [e, HT.out] at this
    exact ba_cancel this)
  go_wp2_with fail
  refine (readVars_c T W0 HTS.out).mono ?_
  rintro e w1 ⟨b1, ⟨A, v, hA, hin, rfl, ho⟩ | ⟨hA, rfl⟩⟩
  rotate_left
  · have HX1 : Hid (w1.heap[w.heap.size]? = some (.cells #[.slice none 0 0] 29)) := (b1.block _ (lt_of_some HX0.out)).trans HX0.out
    have HB1 : Hid (Below w.heap.size w w1) := HB0.out.trans (b1.mono HB0.out.size)
    have HF : Hid (¬ HasV s) := HNO.out hA
    clear b1 hA
    have z0 := box1 HX1.out
    have zf0 := frz1 HX1.out 0
    go_wp2
    refine bodyPost_ret (v := .tuple #[.agg #[.slice none 0 0], .bool false]) (by simp [results, Try.results20, go_sem, z0]) rfl ?_
    exact rdc_no HF.out (HB1.out.setCell (Nat.le_refl _) _)
  have HX1 : Hid (w1.heap[w.heap.size]? = some (.cells #[.slice none 0 0] 29)) := (b1.block _ (lt_of_some HX0.out)).trans HX0.out
  have HB1 : Hid (Below w.heap.size w w1) := HB0.out.trans (b1.mono HB0.out.size)
  have HO1 : Hid (w1.ownsRow W0.heap.size 3 1 v A.length (A.map (Value.int .i64))) := ho
  have HAL : Hid (A.length ≤ 1000) := by have := catN_len A; rw [← hA] at this; have := HTS.out; show _ ≤ _; omega
  have HSE : Hid (∀ L, okV L → canT L = s → A = (L.length : Int) :: flatP L) := fun L hL e => by
    have h1 := canT_cat hL
    rw [e, HT.out] at h1
    have h2 := ba_cancel h1
    rw [hA] at h2
    exact cat_inj hin (okV_inN hL) h2
  have HSA : Hid (s = pfx ++ catN A) := by rw [← hA]; exact HT.out
  obtain ⟨p, cap, rfl⟩ := own_sliceV ho
  have HIN : Hid (InN A) := hin
  clear b1 ho hA hin
  cases A with
  | nil =>
    have HF : Hid (¬ HasV s) := fun ⟨L, hL, e⟩ => by cases HSE.out L hL e
    have hl0 : ((([] : List Int).length : Nat) : Int) = 0 := rfl
    have z0 := box1 HX1.out
    have zf0 := frz1 HX1.out 0
    go_wp2
    refine bodyPost_ret (v := .tuple #[.agg #[.slice none 0 0], .bool false]) (by simp [results, Try.results20, go_sem, z0]) rfl ?_
    exact rdc_no HF.out (HB1.out.setCell (Nat.le_refl _) _)
  | cons n0 A =>
    obtain ⟨g, off, cap', hv, hb, hc⟩ := (RowR.own HO1.out).some (by simp) (by decide)
    simp only [Value.slice.injEq, true_and] at hv
    obtain ⟨rfl, rfl⟩ := hv
    have c0 : w1.cell? ⟨g, off, none⟩ = some (.int .i64 n0) := by have := hc 0 (by simp); rw [Nat.add_zero] at this; rw [this]; rfl
    have hn0 := HIN.out n0 List.mem_cons_self
    obtain ⟨len, hlen⟩ : ∃ len, (n0 :: A).length = len := ⟨_, rfl⟩
    have HLEN : Hid (A.length + 1 = len) := hlen
    have hlI : (len : Int) ≤ 1000 := by have := HAL.out; omega
    have hl1 : (1 : Int) ≤ (len : Int) := by have := HLEN.out; omega
    have hl0 : ((len : Int) == 0) = false := by simp; omega
    have hw1 : IntKind.i64.wrap (2 * n0) = 2 * n0 := IntWalk.i64_in _ (by omega)
    have hw2 : IntKind.i64.wrap (1 + 2 * n0) = 1 + 2 * n0 := IntWalk.i64_in _ (by omega)
    rw [hlen] at HO1 ⊢
    have hcapI : len ≤ cap := by
      obtain ⟨_, ⟨h, _⟩ | ⟨g', cap', cur, hv, _, _, hle, _⟩⟩ := HO1.out
      · cases h
      · simp only [Value.slice.injEq] at hv
        obtain ⟨_, _, rfl⟩ := hv
        exact hle
    have hsl : ∀ W, (Instr.slice 68 (.slice (some ⟨g, off, none⟩) len cap) (some (.int .i64 1)) none none).run Try.prog W = .ok (.slice (if cap = 1 then some ⟨g, off, none⟩ else some ⟨g, off + 1, none⟩) (len - 1) (cap - 1)) W := fun W => by go_simp
    have HR1 : Hid (RowR w1 (.slice (if cap = 1 then some ⟨g, off, none⟩ else some ⟨g, off + 1, none⟩) (len - 1) (cap - 1)) A.length 1 (A.map (Value.int .i64))) := by
      have hA := HLEN.out
      refine ⟨by simp, (if cap = 1 then some ⟨g, off, none⟩ else some ⟨g, off + 1, none⟩), cap - 1, by rw [← hA]; rfl, fun j hj => ⟨g, off + 1, if_neg (by omega), hb, ?_⟩⟩
      have := hc (j + 1) (by simp; omega)
      rw [show off + 1 + j = off + (j + 1) by omega, this]
      rfl
    generalize (if cap = 1 then some (⟨g, off, none⟩ : Addr) else some ⟨g, off + 1, none⟩) = P1 at hsl HR1
    clear hc hlen
    by_cases hq : (len : Int) = 1 + 2 * n0
    rotate_left
    · have HF : Hid (¬ HasV s) := fun ⟨L, hL, e⟩ => by
        have h1 := HSE.out L hL e
        simp only [List.cons.injEq] at h1
        have h2 := HLEN.out
        rw [h1.2, flatP_len] at h2
        omega
      have hqb : ((len : Int) != 1 + 2 * n0) = true := by simp; exact hq
      clear hq
      have z0 := box1 HX1.out
      have zf0 := frz1 HX1.out 0
      go_wp2
      refine bodyPost_ret (v := .tuple #[.agg #[.slice none 0 0], .bool false]) (by simp [results, Try.results20, go_sem, z0]) rfl ?_
      exact rdc_no HF.out (HB1.out.setCell (Nat.le_refl _) _)
    have hqb : ((len : Int) != 1 + 2 * n0) = false := by simp; exact hq
    obtain ⟨L, hL⟩ : ∃ L, flatP L = A := pairs_of A n0.toNat (by have := HLEN.out; omega)
    have HLL : Hid (L.length ≤ 1000 ∧ (L.length : Int) = n0 ∧ 2 * L.length = A.length) := by have h1 := flatP_len L; rw [hL] at h1; have := HLEN.out; show _ ∧ _; omega
    have HSL : Hid ((∀ M, okV M → canT M = s → M = L) ∧ (okV L → canT L = s)) := ⟨fun M hM e => by
      have h1 := HSE.out M hM e
      simp only [List.cons.injEq] at h1
      exact flatP_inj (h1.2.symm.trans hL.symm), fun hk => by
      rw [canT_cat hk, HSA.out, HLL.out.2.1, hL]
      rfl⟩
    have HR2 : Hid (RowR w1 (.slice P1 (len - 1) (cap - 1)) (2 * L.length) 1 ((flatP L).map (Value.int .i64))) := by rw [HLL.out.2.2, hL]; exact HR1.out
    clear hq hL
    go_wp2_with fail
    refine (pairs_c L _ w1 HLL.out.1 HR2.out).mono ?_
    rintro e w2 ⟨v', rfl, ho2, b2⟩
    have HX2 : Hid (w2.heap[w.heap.size]? = some (.cells #[.slice none 0 0] 29)) := (b2.block _ (lt_of_some HX1.out)).trans HX1.out
    have HB2 : Hid (Below w.heap.size w w2) := HB1.out.trans (b2.mono HB1.out.size)
    have HL2 : Hid (w.heap.size < w1.heap.size) := lt_of_some HX1.out
    obtain ⟨p2, cap2, rfl⟩ := own_sliceV ho2
    have HO2 : Hid (w2.ownsRow w1.heap.size 53 2 (.slice p2 L.length cap2) L.length (rPair L)) := ho2
    clear b2 ho2 c0 hsl
    obtain ⟨W3, hW3⟩ : ∃ W, W = w2.alloc (.cells #[.slice p2 L.length cap2] 29) := ⟨_, rfl⟩
    have HW3 : Hid (w2.alloc (.cells #[.slice p2 L.length cap2] 29) = W3) := hW3.symm
    have HY3 : Hid (W3.heap[w2.heap.size]? = some (.cells #[.slice p2 L.length cap2] 29)) := by rw [hW3]; exact alloc_last _ _
    have HX3 : Hid (W3.heap[w.heap.size]? = some (.cells #[.slice none 0 0] 29)) := by rw [hW3]; exact (((Below.refl w2.heap.size w2).alloc (Nat.le_refl _) _).block _ (lt_of_some HX2.out)).trans HX2.out
    have HB3 : Hid (Below w.heap.size w W3) := by rw [hW3]; exact HB2.out.alloc HB2.out.size _
    have HO3 : Hid (W3.ownsRow w1.heap.size 53 2 (.slice p2 L.length cap2) L.length (rPair L)) := by rw [hW3]; exact HO2.out.alloc _
    clear hW3
    have y0 := box1 HY3.out
    go_wp2_with fail
    rw [HW3.out]
    refine (implVok_c L p2 cap2 W3 (by have := HLL.out.1; omega) (RowR.own HO3.out)).mono ?_
    rintro e w4 ⟨rfl, b4⟩
    have HX4 : Hid (w4.heap[w.heap.size]? = some (.cells #[.slice none 0 0] 29)) := (b4.block _ (lt_of_some HX3.out)).trans HX3.out
    have HY4 : Hid (w4.heap[w2.heap.size]? = some (.cells #[.slice p2 L.length cap2] 29)) := (b4.block _ (lt_of_some HY3.out)).trans HY3.out
    have HB4 : Hid (Below w.heap.size w w4) := HB3.out.trans (b4.mono HB3.out.size)
    have HO4 : Hid (w4.ownsRow w1.heap.size 53 2 (.slice p2 L.length cap2) L.length (rPair L)) := own_bel HO3.out b4 (Nat.le_refl _)
    clear b4 y0
    by_cases hok : okV L
    rotate_left
    · have HF : Hid (¬ HasV s) := fun ⟨M, hM, e⟩ => hok (by rw [← HSL.out.1 M hM e]; exact hM)
      rw [decide_eq_false hok]
      clear hok
      have z0 := box1 HX4.out
      have zf0 := frz1 HX4.out 0
      go_wp2
      refine bodyPost_ret (v := .tuple #[.agg #[.slice none 0 0], .bool false]) (by simp [results, Try.results20, go_sem, z0]) rfl ?_
      exact rdc_no HF.out (HB4.out.setCell (Nat.le_refl _) _)
    rw [decide_eq_true hok]
    have HOK : Hid (okV L) := hok
    clear hok
    have z0 := box1 HX4.out
    have zf0 := frz1 HX4.out 0
    have y0 := box1 HY4.out
    have HO9 : Hid ((w4.setCell ⟨w.heap.size, 0, none⟩ (.slice p2 L.length cap2)).ownsRow w.heap.size 53 2 (.slice p2 L.length cap2) L.length (rPair L)) := own_low (own_set_lt HO4.out _ (by exact HL2.out)) (Nat.le_of_lt HL2.out)
    have z9 := box1 (set1 HX4.out (.slice p2 L.length cap2))
    go_wp2
    refine bodyPost_ret (v := .tuple #[.agg #[.slice p2 L.length cap2], .bool true]) (by simp [results, Try.results20, go_sem, z9, z0]) rfl ?_
    exact rdc_yes HOK.out (HSL.out.2 HOK.out) HO9.out (HB4.out.setCell (Nat.le_refl _) _)

end Go.Proofs.Ythhkjnpeopfmjaa
