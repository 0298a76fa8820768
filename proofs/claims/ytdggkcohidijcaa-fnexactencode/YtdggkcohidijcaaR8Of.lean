/- A row of tokens. -/
import Derived.Test.YtdggkcohidijcaaR8Next
namespace Go.Proofs.Ytdggkcohidijcaa
open Go.RowKit
set_option linter.unusedVariables false
set_option linter.unusedSimpArgs false

/-- One more symbol behind the last one. -/
theorem snoc_row {w : World} {R B : Nat} {mp : Option Addr} {mc : Nat} {M : List S_Pair} {l : List Sy} {X : List Jt} {p : Option Addr} {n c : Nat} {C : Nat → Prop} {W : World} {m : Nat} {y : Sy} {t a : Int} {s : Nat} (S : RowS w R B mp mc M l X p n c (fun _ => True)) (hs : w.heap.size = s) (hB : B ≤ s) (hl : l.length = m + 1) (hy : l[m]? = some y) (ha : ∀ x ∈ l, x.pl < a)
    (hb : Below B w W) (hy2 : W.heap[y.b]? = some (.cells #[.int .i64 y.tok, .int .i64 y.pl, prvV l m, .pointer (some ⟨s, 0, none⟩)] 109)) (hs2 : W.heap[s]? = some (.cells #[.int .i64 t, .int .i64 a, .pointer (some ⟨y.b, 0, none⟩), .pointer none] 109))
    (hoth : ∀ k, k < w.heap.size → k ≠ y.b → W.heap[k]? = w.heap[k]?) : RowS W R B mp mc M (l ++ [⟨s, t, a⟩]) X p n c (fun j => j ≠ m) := by
  have hlt : ∀ x ∈ l, x.b < s := fun x hx => by
    obtain ⟨k, hk⟩ := List.mem_iff_getElem?.1 hx
    have := lt_of_some (S.live k x hk)
    omega
  have hat : ∀ (j : Nat) (v : Sy), (l ++ [⟨s, t, a⟩])[j]? = some v → (j < m + 1 ∧ l[j]? = some v) ∨ (j = m + 1 ∧ v = ⟨s, t, a⟩) := fun j v hv => by
    rcases Nat.lt_or_ge j l.length with h | h
    · rw [List.getElem?_append_left h] at hv; exact .inl ⟨by omega, hv⟩
    · rw [List.getElem?_append_right h] at hv
      have hj : j - l.length = 0 := by
        rcases Nat.eq_zero_or_pos (j - l.length) with h2 | h2
        · exact h2
        · rw [List.getElem?_eq_none (by simp; omega)] at hv; cases hv
      rw [hj] at hv
      exact .inr ⟨by omega, (Option.some.inj hv).symm⟩
  have hpre : ∀ j, j < m + 1 → (l ++ [⟨s, t, a⟩])[j]? = l[j]? := fun j hj => List.getElem?_append_left (by omega)
  have hlast : (l ++ [⟨s, t, a⟩])[m + 1]? = some ⟨s, t, a⟩ := by rw [List.getElem?_append_right (by omega), hl, Nat.sub_self]; rfl
  have hprv : ∀ j, j ≤ m + 1 → prvV (l ++ [⟨s, t, a⟩]) j = prvV l j := fun j hj => by
    cases j with
    | zero => rfl
    | succ k => show ptrO (l ++ [⟨s, t, a⟩])[k]? = ptrO l[k]?; rw [hpre k (by omega)]
  have hne : ∀ k v, l[k]? = some v → k ≠ m → v.b ≠ y.b := fun k v hv hk e => hk (S.mono.inj hv hy e)
  have hLv : LiveAt W (l ++ [⟨s, t, a⟩]) := by
    intro j v hv
    rcases hat j v hv with ⟨h1, h2⟩ | ⟨rfl, rfl⟩
    · rw [hprv j (by omega)]
      by_cases hj : j = m
      · subst hj
        rw [hy] at h2; cases h2
        rw [hlast]
        exact hy2
      · rw [hpre (j + 1) (by omega), hoth v.b (lt_of_some (S.live j v h2)) (hne j v h2 hj)]
        exact S.live j v h2
    · rw [hprv (m + 1) (Nat.le_refl _), List.getElem?_eq_none (by rw [List.length_append, hl]; simp)]
      show W.heap[s]? = some (.cells #[.int .i64 t, .int .i64 a, ptrO l[m]?, .pointer none] 109)
      rw [hy]
      exact hs2
  have hJ : ∀ x ∈ X, JOk W (l ++ [⟨s, t, a⟩]) x := fun x hx => by
    refine ⟨(S.jok x hx).1, ?_⟩
    rcases (S.jok x hx).2 with ⟨k, v, hv, e1, e2⟩ | ⟨t1, p1, h1⟩
    · exact .inl ⟨k, v, by rw [hpre k (by have := (List.getElem?_eq_some_iff.1 hv).1; omega)]; exact hv, e1, e2⟩
    · by_cases h2 : x.b = y.b
      · have h3 := S.live m y hy
        rw [← h2, h1] at h3
        simp only [Option.some.injEq, Obj.cells.injEq, Array.mk.injEq, List.cons.injEq, Value.int.injEq, true_and] at h3
        exact .inl ⟨m, y, by rw [hpre m (by omega)]; exact hy, h2.symm, h3.1.2.1.symm⟩
      · exact .inr ⟨t1, p1, (hoth _ (lt_of_some h1) h2).trans h1⟩
  have hRy : R ≠ y.b := fun e => by have := S.live m y hy; rw [← e, S.q.row] at this; simp at this
  refine ⟨⟨?_, ?_, S.q.len, fun x hx => (hJ x hx).sym hLv⟩, hLv, ?_, S.hp, hJ, ?_, row_low S.mrow hb S.bm, S.bR, ?_, S.bm⟩
  · rw [hoth R (lt_of_some S.q.row) hRy, hpre 0 (by omega)]
    exact S.q.row
  · obtain ⟨h1, ⟨hv, h2⟩ | ⟨g, cp, cur, hv, hg, hh, r⟩⟩ := S.q.own
    · exact ⟨h1, .inl ⟨hv, h2⟩⟩
    · exact ⟨h1, .inr ⟨g, cp, cur, hv, hg, by rw [hoth g (lt_of_some hh) (fun e => kind_ne S.q.own (S.live m y hy) (by decide) (by rw [hv, ← e]; rfl))]; exact hh, r⟩⟩
  · intro j k v v2 hjk hv hv2
    rcases hat j v hv with ⟨h1, h2⟩ | ⟨h1, h2⟩ <;> rcases hat k v2 hv2 with ⟨h3, h4⟩ | ⟨h3, h4⟩
    · exact S.mono j k v v2 hjk h2 h4
    · rw [h4]; exact ⟨hlt v (List.mem_of_getElem? h2), ha v (List.mem_of_getElem? h2)⟩
    · omega
    · omega
  · intro j v v2 r hj hv hv2 hr hf
    rcases hat (j + 1) v2 hv2 with ⟨h1, h2⟩ | ⟨h1, h2⟩
    · rw [hpre j (by omega)] at hv
      exact S.cov j v v2 r trivial hv h2 hr hf
    · exact absurd (by omega) hj
  · intro v hv
    rcases List.mem_append.1 hv with h | h
    · exact S.bl v h
    · rw [List.mem_singleton.1 h]; exact hB

/-- The first symbol. -/
theorem one_row {w W : World} {R B : Nat} {mp : Option Addr} {mc : Nat} {M : List S_Pair} {X : List Jt} {p : Option Addr} {n c : Nat} {t a : Int} {s : Nat} (S : RowS w R B mp mc M [] X p n c (fun _ => True)) (hX : X = []) (hB : B ≤ s) (hb : Below B w W)
    (hR : W.heap[R]? = some (.cells #[.slice mp M.length mc, .pointer (some ⟨s, 0, none⟩), (.func (.func 72) #[] #[]), .slice p n c] 107)) (hs2 : W.heap[s]? = some (.cells #[.int .i64 t, .int .i64 a, .pointer none, .pointer none] 109)) (ho : W.ownsRow B 112 2 (.slice p n c) n (rJ X)) : RowS W R B mp mc M [⟨s, t, a⟩] X p n c (fun _ => True) := by
  have hat : ∀ (j : Nat) (v : Sy), ([⟨s, t, a⟩] : List Sy)[j]? = some v → j = 0 ∧ v = ⟨s, t, a⟩ := fun j v hv => by
    rcases j with _ | j
    · exact ⟨rfl, (Option.some.inj hv).symm⟩
    · simp at hv
  subst hX
  refine ⟨⟨hR, ho, S.q.len, fun x hx => by cases hx⟩, ?_, ?_, S.hp, (fun x hx => by cases hx), ?_, row_low S.mrow hb S.bm, S.bR, ?_, S.bm⟩
  · intro j v hv
    obtain ⟨rfl, rfl⟩ := hat j v hv
    exact hs2
  · intro j k v v2 hjk hv hv2
    have := (hat j v hv).1
    have := (hat k v2 hv2).1
    omega
  · intro j v v2 r _ hv hv2
    have := (hat (j + 1) v2 hv2).1
    omega
  · intro v hv
    rw [List.mem_singleton.1 hv]; exact hB

set_option maxRecDepth 20000 in
set_option maxHeartbeats 8000000 in
theorem rowOf_c (M : List S_Pair) (mp : Option Addr) (mc : Nat) (ts : List Int) (q : Option Addr) (cq : Nat) (w : World) (hM : M.length ≤ 1048576) (ht : ts.length ≤ 1000) (hm : RowR w (.slice mp M.length mc) M.length 2 (rPair M)) (hts : IR w (.slice q ts.length cq) ts) :
    Calls Try.prog 47 #[.slice mp M.length mc, .slice q ts.length cq] w fun e w' => ∃ (R : Nat) (l : List Sy) (X : List Jt) (p : Option Addr) (n c : Nat), e = .returned (.pointer (some ⟨R, 0, none⟩)) ∧ l.map Sy.tok = ts ∧ RowS w' R w.heap.size mp mc M l X p n c (fun _ => True) ∧ n ≤ ts.length ∧ Below w.heap.size w w' := by
  have HM : Hid (M.length ≤ 1048576) := hM
  have HT : Hid (IR w (.slice q ts.length cq) ts) := hts
  have HR : Hid (RowR w (.slice mp M.length mc) M.length 2 (rPair M)) := hm
  obtain ⟨B, hB⟩ : ∃ B, w.heap.size = B := ⟨_, rfl⟩
  have HB : Hid (w.heap.size = B) := hB
  have hBM : ∀ b off, mp = some ⟨b, off, none⟩ → 0 < M.length → b < B := fun b off e h => by
    obtain ⟨b', off', c', hv, hb, _⟩ := hm.some h (by decide)
    simp only [Value.slice.injEq, true_and] at hv
    rw [hv.1] at e
    simp only [Option.some.injEq, Addr.mk.injEq, and_true] at e
    omega
  have HBM : Hid (∀ b off, mp = some ⟨b, off, none⟩ → 0 < M.length → b < B) := hBM
  have hts' : (ts.length : Int) ≤ 1000 := by omega
  clear hM hts hm hB hBM
  go_enter Try.func47, Try.ntmps47
  go_upto_region 2 with fail
  rw [HB.out]
  refine wp_genW (fun W => Hid (RowS W B B mp mc M [] [] none 0 0 (fun _ => True)) ∧ Hid (Below B w W)) ⟨?_, by rw [← HB.out]; exact (Below.refl _ _).alloc (Nat.le_refl _) _⟩ ?_
  · refine ⟨⟨?_, World.ownsRow_nil _ _ _ _, rfl, fun x hx => by cases hx⟩, (fun i y h => by simp at h), (fun i j x y _ h => by simp at h), (fun i x y _ h => by simp at h), (fun x hx => by cases hx), (fun i y z r _ h => by simp at h), ?_, Nat.le_refl _, (fun y hy => by cases hy), HBM.out⟩
    · rw [← HB.out]; exact alloc_last _ _
    · exact HR.out.keep ((Below.refl _ _).alloc (Nat.le_refl _) _) (Nat.le_refl _)
  rintro W0 ⟨S0, HB0⟩
  go_wp2_with fail
  go_loopw [6, 16] (fun lv iv wr => ∃ (k : Nat) (l : List Sy) (X : List Jt) (p : Option Addr) (n c : Nat), iv = .int .i64 (k : Int) ∧ k ≤ ts.length ∧ lv = prvV l k ∧ Hid (l.length = k) ∧ Hid (l.map Sy.tok = ts.take k) ∧ Hid (∀ x ∈ l, x.pl < (k : Int)) ∧ Hid (RowS wr B B mp mc M l X p n c (fun _ => True)) ∧ n ≤ k ∧ Hid (Below B w wr)) (fun _ iv _ => ts.length - (intOf iv).toNat)
  case atStart => exact ⟨0, [], [], none, 0, 0, rfl, Nat.zero_le _, rfl, rfl, rfl, (fun x hx => by cases hx), S0, Nat.le_refl _, HB0⟩
  case round =>
    clear S0 HB0
    obtain ⟨k, l, X, p, n, c, rfl, hk, hlv, HLL, HTK, HPL, S, hnk, HBr⟩ := hrel
    subst hlv
    by_cases hlt : k < ts.length
    rotate_left
    · have hke : k = ts.length := by omega
      have HMAP : Hid (l.map Sy.tok = ts) := by have := HTK.out; rw [hke, List.take_length] at this; exact this
      subst hke
      go_wp2
      go_ret
      exact ⟨B, l, X, p, n, c, rfl, HMAP.out, by rw [HB.out]; exact S.out, hnk, by rw [HB.out]; exact HBr.out⟩
    have hlt' : (k : Int) < ts.length := by omega
    obtain ⟨tb, off, rfl, htb, htc⟩ := HT.out.cells (by omega)
    have c0 : wr.cell? ⟨tb, off + k, none⟩ = some (.int .i64 ts[k]) := by rw [HBr.out.cell (by rw [← HB.out]; exact htb)]; exact htc k hlt
    have HTK2 : Hid (ts.take (k + 1) = ts.take k ++ [ts[k]]) := take_snoc ts k hlt
    clear htc
    generalize ts[k] = t at c0 HTK2
    have hBw : B ≤ wr.heap.size := by have := HBr.out.size; have := HB.out; omega
    obtain ⟨s, hs⟩ : ∃ s, wr.heap.size = s := ⟨_, rfl⟩
    have HS : Hid (wr.heap.size = s) := hs
    have hBs : B ≤ s := by omega
    clear hs
    rcases k with _ | m
    · rw [show prvV l 0 = .pointer none from rfl]
      replace c0 : wr.cell? ⟨tb, off, none⟩ = some (.int .i64 t) := c0
      go_upto_region 7 with fail
      rw [HS.out]
      refine wp_genW (fun W => Hid (W.heap[s]? = some (.cells #[.int .i64 t, .int .i64 ((0 : Nat) : Int), .pointer none, .pointer none] 109)) ∧ Hid (Below wr.heap.size wr W)) ⟨by rw [← HS.out]; exact alloc_last _ _, (Below.refl _ _).alloc (Nat.le_refl _) _⟩ ?_
      clear c0
      rintro W1 ⟨HX1, HW1⟩
      have S1 : Hid (RowS W1 B B mp mc M l X p n c (fun _ => True)) := S.out.bel HW1.out
      have HB1 : Hid (Below B w W1) := HBr.out.trans (HW1.out.mono hBw)
      have HPL2 : Hid (∀ x ∈ l ++ [(⟨s, t, ((0 : Nat) : Int)⟩ : Sy)], x.pl < ((0 + 1 : Nat) : Int)) := fun x hx => by
        rcases List.mem_append.1 hx with h | h
        · have := HPL.out x h; omega
        · rw [List.mem_singleton.1 h]; show ((0 : Nat) : Int) < _; omega
      have HMAP2 : Hid ((l ++ [(⟨s, t, ((0 : Nat) : Int)⟩ : Sy)]).map Sy.tok = ts.take (0 + 1)) := by show _ = _; rw [List.map_append, HTK.out, HTK2.out]; rfl
      have HLL2 : Hid ((l ++ [(⟨s, t, ((0 : Nat) : Int)⟩ : Sy)]).length = 0 + 1) := by show _ = _; rw [List.length_append, HLL.out]; rfl
      have hl0 : l = [] := List.eq_nil_of_length_eq_zero HLL.out
      subst hl0
      have hn0 : n = 0 := by omega
      subst hn0
      have HXN : Hid (X = []) := List.eq_nil_of_length_eq_zero S1.out.q.len
      have y1 := S1.out.q.cells.2.1
      have yf := S1.out.q.frz
      have HsB : Hid (s ≠ B) := fun e => by have h1 := lt_of_some S.out.q.row; have := HS.out; omega
      have HE : Hid (RowS (W1.setCell ⟨B, 1, none⟩ (.pointer (some ⟨s, 0, none⟩))) B B mp mc M [⟨s, t, ((0 : Nat) : Int)⟩] X p 0 c (fun _ => True)) := by
        refine one_row S1.out HXN.out hBs ((Below.refl B W1).setCell (by exact Nat.le_refl B) _) (set_at S1.out.q.row _) (set_off HX1.out _ HsB.out) ?_
        obtain ⟨h1, ⟨hv, h2⟩ | ⟨g, cp, cur, hv, hg, hh, r⟩⟩ := S1.out.q.own
        · exact ⟨h1, .inl ⟨hv, h2⟩⟩
        · exact ⟨h1, .inr ⟨g, cp, cur, hv, hg, set_off hh _ (fun e => kind_ne S1.out.q.own S1.out.q.row (by decide) (by rw [hv, ← e]; rfl)), r⟩⟩
      have HBE : Hid (Below B w (W1.setCell ⟨B, 1, none⟩ (.pointer (some ⟨s, 0, none⟩)))) := HB1.out.setCell (Nat.le_refl _) _
      go_wp2
      go_roundw
      case rel => exact ⟨1, [⟨s, t, ((0 : Nat) : Int)⟩], X, p, 0, c, by go_num, by omega, rfl, rfl, HMAP2, HPL2, HE, by omega, HBE⟩
      case measure => simp [intOf]; omega
    · obtain ⟨y, hy⟩ : ∃ y, l[m]? = some y := ⟨_, List.getElem?_eq_getElem (by have := HLL.out; omega)⟩
      have HY : Hid (l[m]? = some y) := hy
      rw [show prvV l (m + 1) = .pointer (some ⟨y.b, 0, none⟩) from ptrO_some hy]
      go_upto_region 7 with fail
      rw [HS.out]
      refine wp_genW (fun W => Hid (W.heap[s]? = some (.cells #[.int .i64 t, .int .i64 ((m + 1 : Nat) : Int), .pointer (some ⟨y.b, 0, none⟩), .pointer none] 109)) ∧ Hid (Below wr.heap.size wr W)) ⟨by rw [← HS.out]; exact alloc_last _ _, (Below.refl _ _).alloc (Nat.le_refl _) _⟩ ?_
      clear c0
      rintro W1 ⟨HX1, HW1⟩
      have S1 : Hid (RowS W1 B B mp mc M l X p n c (fun _ => True)) := S.out.bel HW1.out
      have HB1 : Hid (Below B w W1) := HBr.out.trans (HW1.out.mono hBw)
      have HPL2 : Hid (∀ x ∈ l ++ [(⟨s, t, ((m + 1 : Nat) : Int)⟩ : Sy)], x.pl < ((m + 1 + 1 : Nat) : Int)) := fun x hx => by
        rcases List.mem_append.1 hx with h | h
        · have := HPL.out x h; omega
        · rw [List.mem_singleton.1 h]; show ((m + 1 : Nat) : Int) < _; omega
      have HMAP2 : Hid ((l ++ [(⟨s, t, ((m + 1 : Nat) : Int)⟩ : Sy)]).map Sy.tok = ts.take (m + 1 + 1)) := by show _ = _; rw [List.map_append, HTK.out, HTK2.out]; rfl
      have HLL2 : Hid ((l ++ [(⟨s, t, ((m + 1 : Nat) : Int)⟩ : Sy)]).length = m + 1 + 1) := by show _ = _; rw [List.length_append, HLL.out]; rfl
      have hlast : l[m + 1]? = none := List.getElem?_eq_none (by have := HLL.out; omega)
      have HYb : Hid (W1.heap[y.b]? = some (.cells #[.int .i64 y.tok, .int .i64 y.pl, prvV l m, .pointer none] 109)) := by
        have h := S1.out.live m y hy
        rw [ptrO_none hlast] at h
        exact h
      obtain ⟨y0, y1, y2, y3⟩ := cell4 HYb.out
      have yf := frz_cells HYb.out
      have HBY : Hid (B ≤ y.b) := S1.out.bl y (List.mem_of_getElem? hy)
      have HYS : Hid (y.b ≠ s) := fun e => by have h1 := lt_of_some (S.out.live m y hy); have := HS.out; omega
      clear hy hlast
      go_upto_region 10 with fail
      refine wp_genW (fun W => Hid (RowS W B B mp mc M (l ++ [⟨s, t, ((m + 1 : Nat) : Int)⟩]) X p n c (fun j => j ≠ m)) ∧ Hid (Below B w W) ∧ Hid (B ≤ W.heap.size)) ⟨?_, HB1.out.setCell (by exact HBY.out) _, (by show B ≤ (W1.setCell ⟨y.b, 3, none⟩ (.pointer (some ⟨s, 0, none⟩))).heap.size; simp only [World.setCell, Array.size_modify]; exact Nat.le_trans hBw HW1.out.size)⟩ ?_
      · exact snoc_row (C := fun _ => True) S.out HS.out hBs HLL.out HY.out (fun x hx => HPL.out x hx) (((HW1.out).mono hBw).setCell (by exact HBY.out) _) (set_at HYb.out _) (set_off HX1.out _ (Ne.symm HYS.out)) (fun k hk hne => set_off (HW1.out.block k hk) _ hne)
      clear y0 y1 y2 y3 yf
      rintro W2 ⟨S2, HB2, HBS2⟩
      have HY2 : Hid ((l ++ [(⟨s, t, ((m + 1 : Nat) : Int)⟩ : Sy)])[m]? = some y) := by show _ = _; rw [List.getElem?_append_left (by have := HLL.out; omega)]; exact HY.out
      have HZ2 : Hid ((l ++ [(⟨s, t, ((m + 1 : Nat) : Int)⟩ : Sy)])[m + 1]? = some ⟨s, t, ((m + 1 : Nat) : Int)⟩) := by show _ = _; rw [List.getElem?_append_right (by have := HLL.out; omega), HLL.out, Nat.sub_self]; rfl
      generalize l ++ [(⟨s, t, ((m + 1 : Nat) : Int)⟩ : Sy)] = l2 at S2 HY2 HZ2 HPL2 HMAP2 HLL2
      go_wp2_with fail
      refine (offer_c S2.out HM.out (by omega) HBS2.out HY2.out).mono ?_
      rintro e W3 ⟨rfl, X3, p3, n3, c3, hS3, hn3, hf3⟩
      have S3 : Hid (RowS W3 B B mp mc M l2 X3 p3 n3 c3 (fun _ => True)) := hS3.weak (fun j _ => by
        by_cases h : j = m
        · exact .inr h
        · exact .inl h)
      have HB3 : Hid (Below B w W3) := HB2.out.trans (hf3.below S2.out.bR (fun q hq => (S2.out.q.own.lt q hq).1) HBS2.out)
      have HLV : Hid ((Value.pointer (some ⟨s, 0, none⟩)) = prvV l2 (m + 1 + 1)) := (ptrO_some HZ2.out).symm
      clear hS3 hf3
      go_wp2
      go_roundw
      case rel => exact ⟨m + 1 + 1, l2, X3, p3, n3, c3, by go_num, by omega, HLV.out, HLL2, HMAP2, HPL2, S3, by omega, HB3⟩
      case measure => simp [intOf]; omega

end Go.Proofs.Ytdggkcohidijcaa
