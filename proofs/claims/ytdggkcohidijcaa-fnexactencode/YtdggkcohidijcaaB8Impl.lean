/- Bpe of the program. -/
import Derived.Test.YtdggkcohidijcaaB8Wt
import Derived.Test.YtdggkcohidijcaaR8Of
import Derived.Test.YtdggkcohidijcaaR8Tell
import Derived.Test.YtdggkcohidijcaaVcOk
namespace Go.Proofs.Ytdggkcohidijcaa
open Go.RowKit
set_option linter.unusedVariables false
set_option linter.unusedSimpArgs false

/-- How many symbols hang on a pointer. -/
def chainL (w : World) : Nat → Value → Nat
  | 0, _ => 0
  | f + 1, v => match v with
    | .pointer (some a) => 1 + (match w.cell? ⟨a.block, 3, none⟩ with
      | some u => chainL w f u
      | none => 0)
    | _ => 0

def rowLen (w : World) (R : Nat) : Nat := match w.cell? ⟨R, 1, none⟩ with
  | some v => chainL w 2000 v
  | none => 0

theorem chainL_at {w : World} {l : List Sy} (h : LiveAt w l) : ∀ (f i : Nat), l.length - i ≤ f → chainL w f (ptrO l[i]?) = l.length - i
  | 0, i, hf => by show 0 = _; omega
  | f + 1, i, hf => by
    rcases hy : l[i]? with _ | y
    · have : l.length ≤ i := List.getElem?_eq_none_iff.1 hy
      show 0 = _
      omega
    · have hi := (List.getElem?_eq_some_iff.1 hy).1
      have h3 := (cell4 (h i y hy)).2.2.2
      show 1 + (match w.cell? ⟨y.b, 3, none⟩ with
        | some u => chainL w f u
        | none => 0) = _
      rw [h3]
      show 1 + chainL w f (ptrO l[i + 1]?) = _
      rw [chainL_at h f (i + 1) (by omega)]
      omega

theorem rowLen_row {w : World} {R B : Nat} {mp : Option Addr} {mc : Nat} {M : List S_Pair} {l : List Sy} {X : List Jt} {p : Option Addr} {n c : Nat} {C : Nat → Prop} (S : RowS w R B mp mc M l X p n c C) (hl : l.length ≤ 2000) : rowLen w R = l.length := by
  unfold rowLen
  rw [S.q.cells.2.1]
  show chainL w 2000 (ptrO l[0]?) = _
  rw [chainL_at S.live 2000 0 (by omega)]
  omega

theorem bel_undrew8 {B : Nat} {w w' : World} (h : Below B w.drew w') : Below B w w' := ⟨h.os, h.tape, h.output, h.size, h.block⟩

set_option maxRecDepth 20000 in
set_option maxHeartbeats 4000000 in
theorem implBpe_c (L : List S_Pair) (p : Option Addr) (cap : Nat) (s : ByteArray) (w : World) (hn : L.length ≤ 1048576) (hm : s.size ≤ 1048576) (hr : RowR w (.slice p L.length cap) L.length 2 (rPair L)) :
    Calls Try.prog 17 #[.agg #[.slice p L.length cap], .string s] w fun e w' => ∃ v, e = .returned v ∧ IO w' w.heap.size v (bpF L s) ∧ Below w.heap.size w w' := by
  have hn' : (L.length : Int) ≤ 1048576 := by omega
  have hm' : (s.size : Int) ≤ 1048576 := by omega
  have HN : Hid (L.length ≤ 1048576) := hn
  have HR : Hid (RowR w (.slice p L.length cap) L.length 2 (rPair L)) := hr
  obtain ⟨W0, hW0⟩ : ∃ W, W = w.alloc (.cells #[.slice p L.length cap] 26) := ⟨_, rfl⟩
  have HW0 : Hid (w.alloc (.cells #[.slice p L.length cap] 26) = W0) := hW0.symm
  have HZ0 : Hid (W0.heap.size = w.heap.size + 1) := by show _ = _; rw [hW0]; simp
  have HB0 : Hid (Below w.heap.size w W0) := by rw [hW0]; exact (Below.refl _ _).alloc (Nat.le_refl _) _
  have HX : Hid (∀ W', Below W0.heap.size W0 W' → W'.cell? ⟨w.heap.size, 0, none⟩ = some (.slice p L.length cap)) := fun W' hW => by
    have hk : W'.heap[w.heap.size]? = some (.cells #[.slice p L.length cap] 26) := by rw [hW.block _ (by rw [HZ0.out]; exact Nat.lt_succ_self _), hW0]; exact alloc_last _ _
    exact box1 hk
  have d := HX.out W0 (Below.refl _ _)
  have HR0 : Hid (RowR W0 (.slice p L.length cap) L.length 2 (rPair L)) := RowR.keep HR.out HB0.out (Nat.le_refl _)
  have HDN : Hid (∀ W', Below W0.heap.size W0 W' → Below w.heap.size w W') := fun W' hbel => HB0.out.trans (hbel.mono (by rw [HZ0.out]; exact Nat.le_succ _))
  clear hr hW0 hn hm
  go_enter Try.func17, Try.ntmps17
  go_wp2_with fail
  rw [HW0.out]
  have HWS : Hid (w.heap.size ≤ W0.heap.size) := by show _ ≤ _; rw [HZ0.out]; exact Nat.le_succ _
  refine (implVok_c L p cap W0 HN.out HR0.out).mono ?_
  rintro e w1 ⟨rfl, b1⟩
  have HC1 : Hid (Below W0.heap.size W0 w1) := b1
  have HS1 : Hid (w.heap.size ≤ w1.heap.size) := (HDN.out _ b1).size
  clear b1 d
  by_cases hok : okV L
  rotate_left
  · have HF : Hid (bpF L s = []) := if_neg (fun h => hok h.1)
    rw [decide_eq_false hok]
    go_wp2
    go_ret
    exact ⟨.slice none 0 0, rfl, by rw [HF.out]; exact World.ownsRow_nil _ _ _ _, HDN.out _ HC1.out⟩
  rw [decide_eq_true hok]
  have HOK : Hid (okV L) := hok
  clear hok
  by_cases h64 : (64 : Int) < s.size
  · have HF : Hid (bpF L s = []) := if_neg (fun h => by have := h.2; omega)
    go_wp2
    go_ret
    exact ⟨.slice none 0 0, rfl, by rw [HF.out]; exact World.ownsRow_nil _ _ _ _, HDN.out _ HC1.out⟩
  have H64 : Hid (s.size ≤ 64) := by show _ ≤ _; omega
  have HB1 : Hid (Below w.heap.size w w1) := HDN.out _ HC1.out
  have HRV : Hid (∀ W, Below w1.heap.size w1 W → RowR W (.slice p L.length cap) L.length 2 (rPair L)) := fun W hb => RowR.keep (RowR.keep HR0.out HC1.out (Nat.le_refl _)) hb (Nat.le_refl _)
  have HXV : Hid (∀ W, Below w1.heap.size w1 W → W.cell? ⟨w.heap.size, 0, none⟩ = some (.slice p L.length cap)) := fun W hb => HX.out W (HC1.out.trans (hb.mono HC1.out.size))
  go_upto_region 3 with fail
  refine wp_region_L [⟨4, fun W => W.cell? ⟨w.heap.size, 0, none⟩ = some (.slice p L.length cap)⟩] (by kernel_rfl) (fun f hf => by simp only [List.mem_cons, List.not_mem_nil, or_false] at hf; subst hf; exact (HXV.out _ (Below.refl _ _).drew)) ?_
  refine At.take 0 (some 14) (.pointer (some ⟨w.heap.size, 0, none⟩)) rfl rfl (by kernel_rfl) (by kernel_rfl) (by kernel_rfl) (by kernel_rfl) (fun _ _ _ h => h) (yl_pure (by kernel_rfl) (fun _ => by kernel_rfl)) ?_
  refine At.take 1 (some 15) (.slice p L.length cap) rfl rfl (by kernel_rfl) (by kernel_rfl) (by kernel_rfl) (by kernel_rfl) (fun _ _ _ h => h) (yl_load 4 ⟨w.heap.size, 0, none⟩ (.slice p L.length cap) (List.mem_cons_self) [4] (by kernel_rfl) rfl (by kernel_rfl) (fun _ => by kernel_rfl)) ?_
  refine At.take 2 (some 16) (.string s) rfl rfl (by kernel_rfl) (by kernel_rfl) (by kernel_rfl) (by kernel_rfl) (fun _ _ _ h => h) (yl_pure (by kernel_rfl) (fun _ => by kernel_rfl)) ?_
  refine At.step 3 (some 17) rfl rfl (by kernel_rfl) (by kernel_rfl) (fun u W => ∃ (q : Option Addr) (cq : Nat), u = .slice q (bpI s).length cq ∧ IR W (.slice q (bpI s).length cq) (bpI s) ∧ Below w1.drew.heap.size w1.drew W) (gives_call (by kernel_rfl) ((wordToks_c s w1.drew H64.out).mono fun e w' ⟨v, he, ho, hb⟩ => by
      obtain ⟨q, cq, rfl⟩ := own_sliceV ho
      exact ⟨_, he, q, cq, rfl, IO.row ho, hb⟩)) ?_
  rintro u w2 ⟨q, cq, rfl, hir, bA⟩
  have HIR : Hid (IR w2 (.slice q (bpI s).length cq) (bpI s)) := hir
  have HB2 : Hid (Below w1.heap.size w1 w2) := bel_undrew8 bA
  clear hir bA
  refine ⟨held_cons (.inr ((HXV.out _ HB2.out))) (held_nil), ?_⟩
  refine At.step 4 (some 18) rfl rfl (by kernel_rfl) (by kernel_rfl) (fun u W => ∃ (RR : Nat) (l : List Sy) (X : List Jt) (pp : Option Addr) (n c : Nat), u = .pointer (some ⟨RR, 0, none⟩) ∧ l.map Sy.tok = bpI s ∧ RowS W RR w2.heap.size p cap L l X pp n c (fun _ => True) ∧ n ≤ (bpI s).length ∧ Below w2.heap.size w2 W) (gives_call (by kernel_rfl) ((rowOf_c L p cap (bpI s) q cq w2 HN.out (by rw [bpI_len]; have := H64.out; omega) (HRV.out _ HB2.out) HIR.out).mono fun e w' ⟨RR, l, X, pp, n, c, he, h1, h2, h3, h4⟩ => ⟨_, he, RR, l, X, pp, n, c, rfl, h1, h2, h3, h4⟩)) ?_
  rintro u W3 ⟨RR, l, X, pp, n, c, rfl, hmap, hS3, hn3, b3⟩
  have S3 : Hid (RowS W3 RR w2.heap.size p cap L l X pp n c (fun _ => True)) := hS3
  have HMAP : Hid (l.map Sy.tok = bpI s) := hmap
  have HNL : Hid (n + 2 * l.length ≤ 3900 ∧ l.length ≤ 64) := by
    have h1 := congrArg List.length hmap
    rw [List.length_map, bpI_len] at h1
    rw [bpI_len] at hn3
    have h2 := H64.out
    exact ⟨by omega, by omega⟩
  have HB3 : Hid (Below w.heap.size w W3) := HB1.out.trans ((HB2.out.trans (b3.mono HB2.out.size)).mono HS1.out)
  have HSZ3 : Hid (w2.heap.size ≤ W3.heap.size) := b3.size
  have HWS2 : Hid (w.heap.size ≤ w2.heap.size) := Nat.le_trans HS1.out HB2.out.size
  clear hmap hS3 hn3 b3
  refine ⟨held_cons (.inl (by kernel_rfl)) (held_nil), ?_⟩
  refine At.take 5 (some 5) (.pointer (some ⟨RR, 0, none⟩)) rfl rfl (by kernel_rfl) (by kernel_rfl) (by kernel_rfl) (by kernel_rfl) (fun _ _ _ h => h) (yl_pure (by kernel_rfl) (fun _ => by kernel_rfl)) ?_
  refine At.done (by kernel_rfl) ?_
  simp only [Act.put, List.setIfInBounds_toArray, List.set_cons_zero, List.set_cons_succ]
  go_wp2_with fail
  go_loopw [] (fun wr => ∃ (l : List Sy) (X : List Jt) (pp : Option Addr) (n c : Nat), Hid (RowS wr RR w2.heap.size p cap L l X pp n c (fun _ => True)) ∧ Hid (Below w.heap.size w wr) ∧ Hid (w2.heap.size ≤ wr.heap.size) ∧ Hid (n + 2 * l.length ≤ 3900 ∧ l.length ≤ 64) ∧ Hid (bpeL L (l.map Sy.tok) = bpeL L (bpI s))) (fun wr => rowLen wr RR)
  case atStart => exact ⟨l, X, pp, n, c, S3, HB3, HSZ3, HNL, by show _ = _; rw [HMAP.out]⟩
  case round =>
    clear S3 HB3 HSZ3 HNL HMAP
    obtain ⟨l, X, pp, n, c, S, HB, HSZ, HNL, HEQ⟩ := hrel
    have HRL : Hid (rowLen wr RR = l.length) := rowLen_row S.out (by have := HNL.out; omega)
    go_wp2_with fail
    refine (mergeNext_c (C := fun _ => True) S.out HN.out HNL.out.1 HSZ.out).mono ?_
    rintro e w3 ⟨b3, ⟨rfl, hnp, X', p', c', hS⟩ | ⟨i, y, z, r, l', X', p', n', c', rfl, hy, hz, hf, hb, hm, hll, hS, hnn⟩⟩
    · have HB3 : Hid (Below w.heap.size w w3) := HB.out.trans (b3.mono HWS2.out)
      have HS3 : Hid (RowS w3 RR w2.heap.size p cap L l X' p' 0 c' (fun _ => True)) := hS
      have HS3w : Hid (w.heap.size ≤ w3.heap.size) := HB3.out.size
      have HF : Hid (l.map Sy.tok = bpF L s) := by
        have h := HEQ.out
        rw [none_bpe hnp] at h
        rw [h]
        exact (if_pos ⟨HOK.out, H64.out⟩).symm
      clear b3 hnp hS
      go_wp2_with fail
      refine (tell_c HS3.out (by have := HNL.out; omega)).mono ?_
      rintro e w4 ⟨v, rfl, ho, b4⟩
      have HO : Hid (IO w4 w.heap.size v (bpF L s)) := by rw [← HF.out]; exact own_low ho HS3w.out
      have HB4 : Hid (Below w.heap.size w w4) := HB3.out.trans (b4.mono HS3w.out)
      clear ho b4
      go_wp2
      go_ret
      exact ⟨v, rfl, HO.out, HB4.out⟩
    · have HB3 : Hid (Below w.heap.size w w3) := HB.out.trans (b3.mono HWS2.out)
      have S2 : Hid (RowS w3 RR w2.heap.size p cap L l' X' p' n' c' (fun _ => True)) := hS
      have HSZ2 : Hid (w2.heap.size ≤ w3.heap.size) := Nat.le_trans HSZ.out b3.size
      have HNL2 : Hid (n' + 2 * l'.length ≤ 3900 ∧ l'.length ≤ 64) := by have := HNL.out; exact ⟨by omega, by omega⟩
      have HEQ2 : Hid (bpeL L (l'.map Sy.tok) = bpeL L (bpI s)) := (next_bpe hy hz hf hb hm).trans HEQ.out
      have HRL2 : Hid (rowLen w3 RR = l'.length) := rowLen_row hS (by have := HNL2.out; omega)
      have HLT : Hid (l'.length + 1 = l.length) := hll
      clear b3 hy hz hf hb hm hll hS hnn
      go_wp2
      go_roundw
      case rel => exact ⟨l', X', p', n', c', S2, HB3, HSZ2, HNL2, HEQ2⟩
      case measure => rw [HRL.out, HRL2.out]; have := HLT.out; omega

end Go.Proofs.Ytdggkcohidijcaa
