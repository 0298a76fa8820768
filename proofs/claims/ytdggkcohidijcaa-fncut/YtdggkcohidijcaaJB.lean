/- A word's bytes as tokens. -/
import Derived.Test.YtdggkcohidijcaaJM
import Derived.Test.YtdggkcohidijcaaJ8
import Derived.Test.YtdggkcohidijcaaVcOk
import Derived.Test.YtdggkcohidijcaaJT
import Derived.Test.YtdggkcohidijcaaC9Cut
namespace Go.Proofs.Ytdggkcohidijcaa
open Go.RowKit
set_option linter.unusedVariables false
set_option linter.unusedSimpArgs false

set_option maxRecDepth 20000 in
set_option maxHeartbeats 4000000 in
theorem wordToks_c (s : ByteArray) (w : World) (h64 : s.size ≤ 64) :
    Calls Try.prog 48 #[.string s] w fun e w' => ∃ v, e = .returned v ∧ IO w' w.heap.size v (bpI s) ∧ Below w.heap.size w w' := by
  obtain ⟨i0, hi, hz0, hz1, hz2⟩ := info_parts infoInt
  have hm' : (s.size : Int) ≤ 64 := by omega
  go_enter Try.func48, Try.ntmps48
  go_wp2_with fail
  go_loopw [3, 7] (fun ov iv wr => ∃ k : Nat, k ≤ s.size ∧ iv = .int .i64 (k : Int) ∧ Hid (wr.ownsRow w.heap.size 3 1 ov ((bpI s).take k).length (rI ((bpI s).take k))) ∧ Hid (Below w.heap.size w wr)) (fun _ iv _ => s.size - (intOf iv).toNat)
  case atStart => exact ⟨0, Nat.zero_le _, rfl, World.ownsRow_nil _ _ _ _, Below.refl _ _⟩
  case round =>
    obtain ⟨k, hk, rfl, HOV, HBr⟩ := hrel
    by_cases hlt : k < s.size
    · have hlt' : (k : Int) < s.size := by omega
      have hix := ixB s k hlt
      have HSN : Hid ((bpI s).take (k + 1) = (bpI s).take k ++ [byteAt s k]) := bpI_take s k hlt
      have HKL : Hid (((bpI s).take k).length ≤ 1000) := by show _ ≤ _; rw [List.length_take, bpI_len]; omega
      have hbr := byteAt_rng s k
      have ew : IntKind.i64.wrap (byteAt s k) = byteAt s k := IntWalk.i64_in _ (by omega)
      generalize (bpI s).take k = P at HSN HKL HOV
      generalize byteAt s k = bb at hix HSN hbr ew
      have hsz1 := HBr.out.size
      have hml : (1048577 : Nat) ≤ maxLen := by unfold maxLen; omega
      have hPl := HKL.out
      have hown4 := HOV.out
      go_wp2_with (at_builtin; refine wpList_append_own _ rfl _ _ 29 rfl w.heap.size 3 i0 (.int .i64 0) 1 8 Try.underlying29 hi hz0 hz1 hz2 rfl (by decide) _ _ _ rfl (hown4.alloc _) ⟨wr.heap.size, 0, none⟩ 1 1 [.int .i64 bb] rfl rfl (cell_one_new _ _ _) (by intro u hu; simp at hu; subst hu; rfl) (by omega) (by omega) (by simp; omega) ?_)
      intro v' w5 hown5 hgrow _
      have R1 : w5.ownsRow w.heap.size 3 1 v' (P ++ [bb]).length (rI (P ++ [bb])) := by
        have := hown5
        unfold rI at this ⊢
        simpa using this
      have R2 := below_append HBr.out (Nat.le_refl _) hown4 hgrow
      rw [← HSN.out] at R1
      clear hown5 hgrow hown4 HBr HOV
      go_wp2
      go_roundw
      case rel => first | exact ⟨k + 1, by omega, by go_num, R1, R2⟩ | ((repeat apply Exists.intro); exact ⟨⟨k + 1, by omega, by go_num, R1, R2⟩, rfl⟩)
      case measure => simp [intOf]; omega
    · have hke : k = s.size := by omega
      subst hke
      have HV : Hid (wr.ownsRow w.heap.size 3 1 u3 (bpI s).length (rI (bpI s))) := by
        have h := HOV.out
        rw [List.take_of_length_le (by rw [bpI_len]; exact Nat.le_refl _)] at h
        exact h
      clear HOV
      go_wp2
      go_ret
      exact ⟨_, rfl, HV.out, HBr.out⟩

end Go.Proofs.Ytdggkcohidijcaa

/- Bpe of the program. -/
namespace Go.Proofs.Ytdggkcohidijcaa
open Go.RowKit
set_option linter.unusedVariables false
set_option linter.unusedSimpArgs false

/-- How many symbols hang on a pointer. -/
def chainL (w : World) : Nat → Value → Nat
  | 0, _ => 0
  | f + 1, v => match v with
    | .pointer (some a) => 1 + (match w.cell? ⟨a.block, 3, none⟩ with
      | some u => chainL w f u
      | none => 0)
    | _ => 0

def rowLen (w : World) (R : Nat) : Nat := match w.cell? ⟨R, 1, none⟩ with
  | some v => chainL w 2000 v
  | none => 0

theorem chainL_at {w : World} {l : List Sy} (h : LiveAt w l) : ∀ (f i : Nat), l.length - i ≤ f → chainL w f (ptrO l[i]?) = l.length - i
  | 0, i, hf => by show 0 = _; omega
  | f + 1, i, hf => by
    rcases hy : l[i]? with _ | y
    · have : l.length ≤ i := List.getElem?_eq_none_iff.1 hy
      show 0 = _
      omega
    · have hi := (List.getElem?_eq_some_iff.1 hy).1
      have h3 := (cell4 (h i y hy)).2.2.2
      show 1 + (match w.cell? ⟨y.b, 3, none⟩ with
        | some u => chainL w f u
        | none => 0) = _
      rw [h3]
      show 1 + chainL w f (ptrO l[i + 1]?) = _
      rw [chainL_at h f (i + 1) (by omega)]
      omega

theorem rowLen_row {w : World} {R B : Nat} {mp : Option Addr} {mc : Nat} {M : List S_Pair} {l : List Sy} {X : List Jt} {p : Option Addr} {n c : Nat} {C : Nat → Prop} (S : RowS w R B mp mc M l X p n c C) (hl : l.length ≤ 2000) : rowLen w R = l.length := by
  unfold rowLen
  rw [S.q.cells.2.1]
  show chainL w 2000 (ptrO l[0]?) = _
  rw [chainL_at S.live 2000 0 (by omega)]
  omega

theorem bel_undrew8 {B : Nat} {w w' : World} (h : Below B w.drew w') : Below B w w' := ⟨h.os, h.tape, h.output, h.size, h.block⟩

set_option maxRecDepth 20000 in
set_option maxHeartbeats 4000000 in
theorem implBpe_c (L : List S_Pair) (p : Option Addr) (cap : Nat) (s : ByteArray) (w : World) (hn : L.length ≤ 1048576) (hm : s.size ≤ 1048576) (hr : RowR w (.slice p L.length cap) L.length 2 (rPair L)) :
    Calls Try.prog 17 #[.agg #[.slice p L.length cap], .string s] w fun e w' => ∃ v, e = .returned v ∧ IO w' w.heap.size v (bpF L s) ∧ Below w.heap.size w w' := by
  have hn' : (L.length : Int) ≤ 1048576 := by omega
  have hm' : (s.size : Int) ≤ 1048576 := by omega
  have HN : Hid (L.length ≤ 1048576) := hn
  have HR : Hid (RowR w (.slice p L.length cap) L.length 2 (rPair L)) := hr
  obtain ⟨W0, hW0⟩ : ∃ W, W = w.alloc (.cells #[.slice p L.length cap] 26) := ⟨_, rfl⟩
  have HW0 : Hid (w.alloc (.cells #[.slice p L.length cap] 26) = W0) := hW0.symm
  have HZ0 : Hid (W0.heap.size = w.heap.size + 1) := by show _ = _; rw [hW0]; simp
  have HB0 : Hid (Below w.heap.size w W0) := by rw [hW0]; exact (Below.refl _ _).alloc (Nat.le_refl _) _
  have HX : Hid (∀ W', Below W0.heap.size W0 W' → W'.cell? ⟨w.heap.size, 0, none⟩ = some (.slice p L.length cap)) := fun W' hW => by
    have hk : W'.heap[w.heap.size]? = some (.cells #[.slice p L.length cap] 26) := by rw [hW.block _ (by rw [HZ0.out]; exact Nat.lt_succ_self _), hW0]; exact alloc_last _ _
    exact box1 hk
  have d := HX.out W0 (Below.refl _ _)
  have HR0 : Hid (RowR W0 (.slice p L.length cap) L.length 2 (rPair L)) := RowR.keep HR.out HB0.out (Nat.le_refl _)
  have HDN : Hid (∀ W', Below W0.heap.size W0 W' → Below w.heap.size w W') := fun W' hbel => HB0.out.trans (hbel.mono (by rw [HZ0.out]; exact Nat.le_succ _))
  clear hr hW0 hn hm
  go_enter Try.func17, Try.ntmps17
  go_wp2_with fail
  rw [HW0.out]
  have HWS : Hid (w.heap.size ≤ W0.heap.size) := by show _ ≤ _; rw [HZ0.out]; exact Nat.le_succ _
  refine (implVok_c L p cap W0 HN.out HR0.out).mono ?_
  rintro e w1 ⟨rfl, b1⟩
  have HC1 : Hid (Below W0.heap.size W0 w1) := b1
  have HS1 : Hid (w.heap.size ≤ w1.heap.size) := (HDN.out _ b1).size
  clear b1 d
  by_cases hok : okV L
  rotate_left
  · have HF : Hid (bpF L s = []) := if_neg (fun h => hok h.1)
    rw [decide_eq_false hok]
    go_wp2
    go_ret
    exact ⟨.slice none 0 0, rfl, by rw [HF.out]; exact World.ownsRow_nil _ _ _ _, HDN.out _ HC1.out⟩
  rw [decide_eq_true hok]
  have HOK : Hid (okV L) := hok
  clear hok
  by_cases h64 : (64 : Int) < s.size
  · have HF : Hid (bpF L s = []) := if_neg (fun h => by have := h.2; omega)
    go_wp2
    go_ret
    exact ⟨.slice none 0 0, rfl, by rw [HF.out]; exact World.ownsRow_nil _ _ _ _, HDN.out _ HC1.out⟩
  have H64 : Hid (s.size ≤ 64) := by show _ ≤ _; omega
  have HB1 : Hid (Below w.heap.size w w1) := HDN.out _ HC1.out
  have HRV : Hid (∀ W, Below w1.heap.size w1 W → RowR W (.slice p L.length cap) L.length 2 (rPair L)) := fun W hb => RowR.keep (RowR.keep HR0.out HC1.out (Nat.le_refl _)) hb (Nat.le_refl _)
  have HXV : Hid (∀ W, Below w1.heap.size w1 W → W.cell? ⟨w.heap.size, 0, none⟩ = some (.slice p L.length cap)) := fun W hb => HX.out W (HC1.out.trans (hb.mono HC1.out.size))
  go_upto_region 3 with fail
  refine wp_region_L [⟨4, fun W => W.cell? ⟨w.heap.size, 0, none⟩ = some (.slice p L.length cap)⟩] (by kernel_rfl) (fun f hf => by simp only [List.mem_cons, List.not_mem_nil, or_false] at hf; subst hf; exact (HXV.out _ (Below.refl _ _).drew)) ?_
  refine At.take 0 (some 14) (.pointer (some ⟨w.heap.size, 0, none⟩)) rfl rfl (by kernel_rfl) (by kernel_rfl) (by kernel_rfl) (by kernel_rfl) (fun _ _ _ h => h) (yl_pure (by kernel_rfl) (fun _ => by kernel_rfl)) ?_
  refine At.take 1 (some 15) (.slice p L.length cap) rfl rfl (by kernel_rfl) (by kernel_rfl) (by kernel_rfl) (by kernel_rfl) (fun _ _ _ h => h) (yl_load 4 ⟨w.heap.size, 0, none⟩ (.slice p L.length cap) (List.mem_cons_self) [4] (by kernel_rfl) rfl (by kernel_rfl) (fun _ => by kernel_rfl)) ?_
  refine At.take 2 (some 16) (.string s) rfl rfl (by kernel_rfl) (by kernel_rfl) (by kernel_rfl) (by kernel_rfl) (fun _ _ _ h => h) (yl_pure (by kernel_rfl) (fun _ => by kernel_rfl)) ?_
  refine At.step 3 (some 17) rfl rfl (by kernel_rfl) (by kernel_rfl) (fun u W => ∃ (q : Option Addr) (cq : Nat), u = .slice q (bpI s).length cq ∧ IR W (.slice q (bpI s).length cq) (bpI s) ∧ Below w1.drew.heap.size w1.drew W) (gives_call (by kernel_rfl) ((wordToks_c s w1.drew H64.out).mono fun e w' ⟨v, he, ho, hb⟩ => by
      obtain ⟨q, cq, rfl⟩ := own_sliceV ho
      exact ⟨_, he, q, cq, rfl, IO.row ho, hb⟩)) ?_
  rintro u w2 ⟨q, cq, rfl, hir, bA⟩
  have HIR : Hid (IR w2 (.slice q (bpI s).length cq) (bpI s)) := hir
  have HB2 : Hid (Below w1.heap.size w1 w2) := bel_undrew8 bA
  clear hir bA
  refine ⟨held_cons (.inr ((HXV.out _ HB2.out))) (held_nil), ?_⟩
  refine At.step 4 (some 18) rfl rfl (by kernel_rfl) (by kernel_rfl) (fun u W => ∃ (RR : Nat) (l : List Sy) (X : List Jt) (pp : Option Addr) (n c : Nat), u = .pointer (some ⟨RR, 0, none⟩) ∧ l.map Sy.tok = bpI s ∧ RowS W RR w2.heap.size p cap L l X pp n c (fun _ => True) ∧ n ≤ (bpI s).length ∧ Below w2.heap.size w2 W) (gives_call (by kernel_rfl) ((rowOf_c L p cap (bpI s) q cq w2 HN.out (by rw [bpI_len]; have := H64.out; omega) (HRV.out _ HB2.out) HIR.out).mono fun e w' ⟨RR, l, X, pp, n, c, he, h1, h2, h3, h4⟩ => ⟨_, he, RR, l, X, pp, n, c, rfl, h1, h2, h3, h4⟩)) ?_
  rintro u W3 ⟨RR, l, X, pp, n, c, rfl, hmap, hS3, hn3, b3⟩
  have S3 : Hid (RowS W3 RR w2.heap.size p cap L l X pp n c (fun _ => True)) := hS3
  have HMAP : Hid (l.map Sy.tok = bpI s) := hmap
  have HNL : Hid (n + 2 * l.length ≤ 3900 ∧ l.length ≤ 64) := by
    have h1 := congrArg List.length hmap
    rw [List.length_map, bpI_len] at h1
    rw [bpI_len] at hn3
    have h2 := H64.out
    exact ⟨by omega, by omega⟩
  have HB3 : Hid (Below w.heap.size w W3) := HB1.out.trans ((HB2.out.trans (b3.mono HB2.out.size)).mono HS1.out)
  have HSZ3 : Hid (w2.heap.size ≤ W3.heap.size) := b3.size
  have HWS2 : Hid (w.heap.size ≤ w2.heap.size) := Nat.le_trans HS1.out HB2.out.size
  clear hmap hS3 hn3 b3
  refine ⟨held_cons (.inl (by kernel_rfl)) (held_nil), ?_⟩
  refine At.take 5 (some 5) (.pointer (some ⟨RR, 0, none⟩)) rfl rfl (by kernel_rfl) (by kernel_rfl) (by kernel_rfl) (by kernel_rfl) (fun _ _ _ h => h) (yl_pure (by kernel_rfl) (fun _ => by kernel_rfl)) ?_
  refine At.done (by kernel_rfl) ?_
  simp only [Act.put, List.setIfInBounds_toArray, List.set_cons_zero, List.set_cons_succ]
  go_wp2_with fail
  go_loopw [] (fun wr => ∃ (l : List Sy) (X : List Jt) (pp : Option Addr) (n c : Nat), Hid (RowS wr RR w2.heap.size p cap L l X pp n c (fun _ => True)) ∧ Hid (Below w.heap.size w wr) ∧ Hid (w2.heap.size ≤ wr.heap.size) ∧ Hid (n + 2 * l.length ≤ 3900 ∧ l.length ≤ 64) ∧ Hid (bpeL L (l.map Sy.tok) = bpeL L (bpI s))) (fun wr => rowLen wr RR)
  case atStart => exact ⟨l, X, pp, n, c, S3, HB3, HSZ3, HNL, by show _ = _; rw [HMAP.out]⟩
  case round =>
    clear S3 HB3 HSZ3 HNL HMAP
    obtain ⟨l, X, pp, n, c, S, HB, HSZ, HNL, HEQ⟩ := hrel
    have HRL : Hid (rowLen wr RR = l.length) := rowLen_row S.out (by have := HNL.out; omega)
    go_wp2_with fail
    refine (mergeNext_c (C := fun _ => True) S.out HN.out HNL.out.1 HSZ.out).mono ?_
    rintro e w3 ⟨b3, ⟨rfl, hnp, X', p', c', hS⟩ | ⟨i, y, z, r, l', X', p', n', c', rfl, hy, hz, hf, hb, hm, hll, hS, hnn⟩⟩
    · have HB3 : Hid (Below w.heap.size w w3) := HB.out.trans (b3.mono HWS2.out)
      have HS3 : Hid (RowS w3 RR w2.heap.size p cap L l X' p' 0 c' (fun _ => True)) := hS
      have HS3w : Hid (w.heap.size ≤ w3.heap.size) := HB3.out.size
      have HF : Hid (l.map Sy.tok = bpF L s) := by
        have h := HEQ.out
        rw [none_bpe hnp] at h
        rw [h]
        exact (if_pos ⟨HOK.out, H64.out⟩).symm
      clear b3 hnp hS
      go_wp2_with fail
      refine (tell_c HS3.out (by have := HNL.out; omega)).mono ?_
      rintro e w4 ⟨v, rfl, ho, b4⟩
      have HO : Hid (IO w4 w.heap.size v (bpF L s)) := by rw [← HF.out]; exact own_low ho HS3w.out
      have HB4 : Hid (Below w.heap.size w w4) := HB3.out.trans (b4.mono HS3w.out)
      clear ho b4
      go_wp2
      go_ret
      exact ⟨v, rfl, HO.out, HB4.out⟩
    · have HB3 : Hid (Below w.heap.size w w3) := HB.out.trans (b3.mono HWS2.out)
      have S2 : Hid (RowS w3 RR w2.heap.size p cap L l' X' p' n' c' (fun _ => True)) := hS
      have HSZ2 : Hid (w2.heap.size ≤ w3.heap.size) := Nat.le_trans HSZ.out b3.size
      have HNL2 : Hid (n' + 2 * l'.length ≤ 3900 ∧ l'.length ≤ 64) := by have := HNL.out; exact ⟨by omega, by omega⟩
      have HEQ2 : Hid (bpeL L (l'.map Sy.tok) = bpeL L (bpI s)) := (next_bpe hy hz hf hb hm).trans HEQ.out
      have HRL2 : Hid (rowLen w3 RR = l'.length) := rowLen_row hS (by have := HNL2.out; omega)
      have HLT : Hid (l'.length + 1 = l.length) := hll
      clear b3 hy hz hf hb hm hll hS hnn
      go_wp2
      go_roundw
      case rel => exact ⟨l', X', p', n', c', S2, HB3, HSZ2, HNL2, HEQ2⟩
      case measure => rw [HRL.out, HRL2.out]; have := HLT.out; omega

end Go.Proofs.Ytdggkcohidijcaa

/- Encode of the program. -/
namespace Go.Proofs.Ytdggkcohidijcaa
open Go.RowKit
set_option linter.unusedVariables false
set_option linter.unusedSimpArgs false

set_option maxRecDepth 20000 in
set_option maxHeartbeats 4000000 in
theorem implEnc_c (L : List S_Pair) (p : Option Addr) (cap : Nat) (s : ByteArray) (w : World) (hn : L.length ≤ 1048576) (hm : s.size ≤ 1048576) (hr : RowR w (.slice p L.length cap) L.length 2 (rPair L)) :
    Calls Try.prog 10 #[.agg #[.slice p L.length cap], .string s] w fun e w' => ∃ v, e = .returned (.tuple #[v, .int .i64 (enC L s)]) ∧ IO w' w.heap.size v (encF L s) ∧ Below w.heap.size w w' := by
  obtain ⟨i0, hi, hz0, hz1, hz2⟩ := info_parts infoInt
  have hn' : (L.length : Int) ≤ 1048576 := by omega
  have hm' : (s.size : Int) ≤ 1048576 := by omega
  have HN : Hid (L.length ≤ 1048576) := hn
  have HM : Hid (s.size ≤ maxLen) := by show _ ≤ _; unfold maxLen; omega
  have HR : Hid (RowR w (.slice p L.length cap) L.length 2 (rPair L)) := hr
  obtain ⟨W0, hW0⟩ : ∃ W, W = w.alloc (.cells #[.slice p L.length cap] 26) := ⟨_, rfl⟩
  have HW0 : Hid (w.alloc (.cells #[.slice p L.length cap] 26) = W0) := hW0.symm
  have HZ0 : Hid (W0.heap.size = w.heap.size + 1) := by show _ = _; rw [hW0]; simp
  have HB0 : Hid (Below w.heap.size w W0) := by rw [hW0]; exact (Below.refl _ _).alloc (Nat.le_refl _) _
  have HX : Hid (∀ W', Below W0.heap.size W0 W' → W'.cell? ⟨w.heap.size, 0, none⟩ = some (.slice p L.length cap)) := fun W' hW => by
    have hk : W'.heap[w.heap.size]? = some (.cells #[.slice p L.length cap] 26) := by rw [hW.block _ (by rw [HZ0.out]; exact Nat.lt_succ_self _), hW0]; exact alloc_last _ _
    exact box1 hk
  have d := HX.out W0 (Below.refl _ _)
  have HR0 : Hid (RowR W0 (.slice p L.length cap) L.length 2 (rPair L)) := RowR.keep HR.out HB0.out (Nat.le_refl _)
  have HDN : Hid (∀ W', Below W0.heap.size W0 W' → Below w.heap.size w W') := fun W' hbel => HB0.out.trans (hbel.mono (by rw [HZ0.out]; exact Nat.le_succ _))
  have HLOW : Hid (w.heap.size ≤ W0.heap.size) := by show _ ≤ _; rw [HZ0.out]; exact Nat.le_succ _
  clear hr hW0 hn hm
  go_enter Try.func10, Try.ntmps10
  go_wp2_with fail
  rw [HW0.out]
  refine (implVok_c L p cap W0 HN.out HR0.out).mono ?_
  rintro e w1 ⟨rfl, b1⟩
  have HC1 : Hid (Below W0.heap.size W0 w1) := b1
  have HM1 : Hid (w1.ownsRow W0.heap.size 3 1 (.slice none 0 0) 0 []) := World.ownsRow_nil _ _ _ _
  clear b1 d
  by_cases hok : okV L
  rotate_left
  · have HF := encF_bad (s := s) hok
    rw [decide_eq_false hok]
    clear hok
    go_wp2
    go_ret2
    exact ⟨_, by rw [HF.2]; rfl, by rw [HF.1]; exact own_low HM1.out HLOW.out, HDN.out _ HC1.out⟩
  have HOK : Hid (okV L) := hok
  rw [decide_eq_true hok]
  by_cases hbig : (1000 : Int) < (s.size : Int)
  · have HF := encF_large (s := s) hok (by omega)
    clear hok
    go_wp2
    go_ret2
    exact ⟨_, by rw [HF.2]; rfl, by rw [HF.1]; exact own_low HM1.out HLOW.out, HDN.out _ HC1.out⟩
  have hs1 : s.size ≤ 1000 := by omega
  have HF : Hid (encF L s = enW L (cutF s) (cutF s).length ∧ enC L s = 0) := encF_yes hok hs1
  clear hok
  go_wp2_with fail
  refine (implCut_c s w1 HM.out).mono ?_
  rintro e w2 ⟨v2, rfl, ho2, b2⟩
  have HC2 : Hid (Below W0.heap.size W0 w2) := HC1.out.trans (b2.mono HC1.out.size)
  have HLW : Hid ((cutF s).length ≤ 1000) := cutF_len s
  have HAW : Hid (∀ w ∈ cutF s, 1 ≤ w.size ∧ w.size ≤ 64) := cutF_all s
  have HEW : Hid (∀ i, (enW L (cutF s) i).length ≤ 1000) := enW_le L s
  unfold OwnS at ho2
  obtain ⟨q2, c2, rfl⟩ := own_sliceV ho2
  have HM2 : Hid (w2.ownsRow W0.heap.size 3 1 (.slice none 0 0) 0 []) := World.ownsRow_nil _ _ _ _
  clear b2
  obtain ⟨W, hW⟩ : ∃ W, cutF s = W := ⟨_, rfl⟩
  rw [hW] at HF HLW HAW HEW ho2 ⊢
  clear hW
  obtain ⟨n, hn⟩ : ∃ n, W.length = n := ⟨_, rfl⟩
  have HNW : Hid (W.length = n) := hn
  rw [hn] at ho2 HLW HF ⊢
  have hn1 : n ≤ 1000 := HLW.out
  clear hn
  have HO2 : Hid (w2.ownsRow w1.heap.size 9 1 (.slice q2 n c2) n (W.map Value.string)) := ho2
  clear ho2
  go_wp2_with fail
  go_loopw [6, 20] (fun tv iv wr => ∃ i : Nat, iv = .int .i64 (i : Int) ∧ i ≤ n ∧ Hid (wr.ownsRow W0.heap.size 3 1 tv (enW L W i).length (rI (enW L W i))) ∧ Hid (Below W0.heap.size W0 wr) ∧ Hid (wr.ownsRow w1.heap.size 9 1 (.slice q2 n c2) n (W.map Value.string))) (fun _ iv _ => n - (intOf iv).toNat)
  case atStart => exact ⟨0, rfl, Nat.zero_le _, HM2.out, HC2.out, HO2.out⟩
  case round =>
    obtain ⟨i, rfl, hin, HOV, HBr, HBr2⟩ := hrel
    have d := HX.out wr HBr.out
    by_cases hlt : i < n
    rotate_left
    · have hie : i = n := by omega
      have hlt' : ¬ (i : Int) < n := by omega
      have HV : Hid (IO wr w.heap.size u6 (encF L s)) := by
        show IO _ _ _ _
        rw [HF.out.1, ← hie]
        exact own_low HOV.out HLOW.out
      clear hie HOV
      go_wp2
      go_ret2
      exact ⟨_, by rw [HF.out.2]; rfl, HV.out, HDN.out _ HBr.out⟩
    have hlt' : (i : Int) < n := by omega
    have hiW : i < W.length := by have := HNW.out; omega
    obtain ⟨g, rfl, hg, hc⟩ := ownS_cells HBr2.out (by omega) HNW.out
    have HY : Hid (W[i].size ≤ 64 ∧ (bpF L W[i]).length ≤ 1000) := ⟨(HAW.out _ (List.getElem_mem hiW)).2, bpF_len L _⟩
    have c0 : wr.cell? ⟨g, i, none⟩ = some (.string W[i]) := hc i hiW
    have HMO : Hid (enW L W (i + 1) = enW L W i ++ bpF L W[i]) := enW_more L W i hiW
    have HEL : Hid ((enW L W i).length ≤ 1000) := HEW.out i
    clear hc
    generalize W[i] = Y at c0 HMO HY
    generalize enW L W i = T at HMO HEL HOV
    have HRr : Hid (RowR wr (.slice p L.length cap) L.length 2 (rPair L)) := RowR.keep HR0.out HBr.out (Nat.le_refl _)
    obtain ⟨vp, vc, rfl⟩ := own_sliceV HOV.out
    go_wp2_with fail
    refine (implBpe_c L p cap Y wr HN.out (by have := HY.out.1; omega) HRr.out).mono ?_
    rintro e Z1 ⟨v, rfl, ho, hZ⟩
    obtain ⟨pt, ct, rfl⟩ := own_sliceV ho
    have hB1 : Below W0.heap.size W0 Z1 := HBr.out.trans (hZ.mono HBr.out.size)
    have hB2 : Z1.ownsRow w1.heap.size 9 1 (.slice (some ⟨g, 0, none⟩) n c2) n (W.map Value.string) := own_bel HBr2.out hZ (Nat.le_refl _)
    have hTo : Z1.ownsRow W0.heap.size 3 1 (.slice vp T.length vc) T.length (rI T) := own_bel HOV.out hZ (Nat.le_refl _)
    obtain ⟨v', c', W2, hrun, hown, hbl, hgr⟩ := app_intsG (n := T.length) (m := (bpF L Y).length) rfl rfl hTo ho.row hB1.size (by have := HEL.out; have := HY.out.2; omega)
    have R1 : Hid (W2.ownsRow W0.heap.size 3 1 (.slice v' (T.length + (bpF L Y).length) c') (enW L W (i + 1)).length (rI (enW L W (i + 1)))) := by
      show World.ownsRow _ _ _ _ _ _ _
      rw [HMO.out, List.length_append]
      exact hown
    have R2 : Hid (Below W0.heap.size W0 W2) := hB1.trans hbl
    have R3 : Hid (W2.ownsRow w1.heap.size 9 1 (.slice (some ⟨g, 0, none⟩) n c2) n (W.map Value.string)) := hB2.kept hgr (rows_apartE hB2 hTo (by decide))
    clear hown hbl ho hZ hB1 hB2 d c0 hgr hTo
    generalize Value.slice v' (T.length + (bpF L Y).length) c' = nv at R1 hrun
    go_wp2_with (at_builtin; refine wpList_append_run8 rfl _ _ 29 rfl _ _ rfl rfl _ _ hrun ?_)
    go_roundw
    case rel => exact ⟨i + 1, by go_num, by omega, R1, R2, R3⟩
    case measure => simp [intOf]; omega

end Go.Proofs.Ytdggkcohidijcaa
