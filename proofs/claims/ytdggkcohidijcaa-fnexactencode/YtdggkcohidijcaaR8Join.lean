/- Two symbols have become one. -/
import Derived.Test.YtdggkcohidijcaaR8Mem
namespace Go.Proofs.Ytdggkcohidijcaa
open Go.RowKit
set_option linter.unusedVariables false
set_option linter.unusedSimpArgs false

/-- Where two have become one. -/
def Mrg8 (l l' : List Sy) (i : Nat) (y : Sy) (t : Int) : Prop := ∀ j, l'[j]? = if j < i then l[j]? else if j = i then some ⟨y.b, t, y.pl⟩ else l[j + 1]?

theorem mrg_is {l : List Sy} {i : Nat} {y z : Sy} (hy : l[i]? = some y) (hz : l[i + 1]? = some z) (t : Int) : Mrg8 l (l.take i ++ ⟨y.b, t, y.pl⟩ :: l.drop (i + 2)) i y t := by
  have hi := (List.getElem?_eq_some_iff.1 hz).1
  have hl : (l.take i).length = i := by rw [List.length_take]; omega
  intro j
  by_cases h1 : j < i
  · rw [if_pos h1, List.getElem?_append_left (by omega), List.getElem?_take_of_lt h1]
  · rw [if_neg h1, List.getElem?_append_right (by omega), hl]
    by_cases h2 : j = i
    · rw [if_pos h2, h2, Nat.sub_self]; rfl
    · rw [if_neg h2]
      obtain ⟨d, rfl⟩ : ∃ d, j = i + 1 + d := ⟨j - i - 1, by omega⟩
      rw [show i + 1 + d - i = d + 1 by omega, List.getElem?_cons_succ, List.getElem?_drop]
      congr 1
      omega

theorem Mrg8.mono {l l' : List Sy} {i : Nat} {y : Sy} {t : Int} (h : Mrg8 l l' i y t) (hy : l[i]? = some y) (hm : Mono8 l) : Mono8 l' := by
  have key : ∀ (j : Nat) (x : Sy), l'[j]? = some x → ∃ (k : Nat) (x0 : Sy), l[k]? = some x0 ∧ x0.b = x.b ∧ x0.pl = x.pl ∧ ((j ≤ i ∧ k = j) ∨ (i < j ∧ k = j + 1)) := by
    intro j x hx
    rw [h j] at hx
    by_cases h1 : j < i
    · rw [if_pos h1] at hx; exact ⟨j, x, hx, rfl, rfl, .inl ⟨by omega, rfl⟩⟩
    · rw [if_neg h1] at hx
      by_cases h2 : j = i
      · rw [if_pos h2] at hx; cases hx; exact ⟨i, y, hy, rfl, rfl, .inl ⟨by omega, h2.symm⟩⟩
      · rw [if_neg h2] at hx; exact ⟨j + 1, x, hx, rfl, rfl, .inr ⟨by omega, rfl⟩⟩
  intro a b x x2 hab hx hx2
  obtain ⟨k, u, hu, e1, e2, h1⟩ := key a x hx
  obtain ⟨k2, u2, hu2, e3, e4, h2⟩ := key b x2 hx2
  have := hm k k2 u u2 (by omega) hu hu2
  rw [e1, e2, e3, e4] at this
  exact this

/-- Two symbols have become one: the row behind the stores. -/
theorem join_row {w W : World} {R B : Nat} {mp : Option Addr} {mc : Nat} {M : List S_Pair} {l l' : List Sy} {X : List Jt} {p : Option Addr} {n c : Nat} {i : Nat} {y z : Sy} {t : Int} {C : Nat → Prop} (S : RowS w R B mp mc M l X p n c C) (hC : ∀ j, j ≠ i → C j) (hy : l[i]? = some y) (hz : l[i + 1]? = some z) (hM : Mrg8 l l' i y t)
    (hs : w.heap.size ≤ W.heap.size) (hbel : Below B w W)
    (hWy : W.heap[y.b]? = some (.cells #[.int .i64 t, .int .i64 y.pl, prvV l i, ptrO l[i + 2]?] 109))
    (hWz : ∃ (t0 : Int) (p0 : Value), W.heap[z.b]? = some (.cells #[.int .i64 t0, .int .i64 z.pl, p0, .pointer none] 109))
    (hWu : ∀ u, l[i + 2]? = some u → W.heap[u.b]? = some (.cells #[.int .i64 u.tok, .int .i64 u.pl, .pointer (some ⟨y.b, 0, none⟩), ptrO l[i + 3]?] 109))
    (hoth : ∀ k, k < w.heap.size → k ≠ y.b → k ≠ z.b → (∀ u, l[i + 2]? = some u → k ≠ u.b) → W.heap[k]? = w.heap[k]?) :
    RowS W R B mp mc M l' X p n c (fun j => j ≠ i ∧ j + 1 ≠ i) := by
  have hrow : W.heap[R]? = w.heap[R]? := hoth R (lt_of_some S.q.row) (fun e => by have := S.live i y hy; rw [← e, S.q.row] at this; simp at this) (fun e => by have := S.live _ z hz; rw [← e, S.q.row] at this; simp at this) (fun u hu e => by have := S.live _ u hu; rw [← e, S.q.row] at this; simp at this)
  have hJ : ∀ x ∈ X, JOk W l' x := by
    intro x hx
    refine ⟨(S.jok x hx).1, ?_⟩
    have hlv : ∀ (k : Nat) (v : Sy), l[k]? = some v → v.b = x.b → v.pl = x.a → k ≠ i + 1 → ∃ (k : Nat) (v : Sy), l'[k]? = some v ∧ v.b = x.b ∧ v.pl = x.a := by
      intro k v hv e1 e2 hk
      rcases Nat.lt_trichotomy k i with h | h | h
      · exact ⟨k, v, by rw [hM k, if_pos h]; exact hv, e1, e2⟩
      · subst h
        rw [hy] at hv; cases hv
        exact ⟨k, ⟨y.b, t, y.pl⟩, by rw [hM k, if_neg (by omega), if_pos rfl], e1, e2⟩
      · exact ⟨k - 1, v, by rw [hM (k - 1), if_neg (by omega), if_neg (by omega), show k - 1 + 1 = k by omega]; exact hv, e1, e2⟩
    rcases (S.jok x hx).2 with ⟨k, v, hv, e1, e2⟩ | ⟨t1, p1, h1⟩
    · by_cases hk : k = i + 1
      · subst hk
        rw [hz] at hv; cases hv
        obtain ⟨t0, p0, h0⟩ := hWz
        exact .inr ⟨t0, p0, by rw [← e1, ← e2]; exact h0⟩
      · exact .inl (hlv k v hv e1 e2 hk)
    · have hpl : ∀ (k : Nat) (v : Sy), l[k]? = some v → v.b = x.b → v.pl = x.a := fun k v hv e => by
        have := S.live k v hv
        rw [e, h1] at this
        simp only [Option.some.injEq, Obj.cells.injEq, Array.mk.injEq, List.cons.injEq, Value.int.injEq, true_and] at this
        exact this.1.2.1.symm
      by_cases h2 : x.b = y.b
      · exact .inl (hlv i y hy h2.symm (hpl i y hy h2.symm) (by omega))
      · by_cases h3 : x.b = z.b
        · obtain ⟨t0, p0, h0⟩ := hWz
          exact .inr ⟨t0, p0, by rw [h3, ← hpl (i + 1) z hz h3.symm]; exact h0⟩
        · by_cases h4 : ∃ u, l[i + 2]? = some u ∧ x.b = u.b
          · obtain ⟨u, hu, e⟩ := h4
            exact .inl (hlv (i + 2) u hu e.symm (hpl _ u hu e.symm) (by omega))
          · exact .inr ⟨t1, p1, (hoth _ (lt_of_some h1) h2 h3 (fun u hu e => h4 ⟨u, hu, e⟩)).trans h1⟩
  have hLv : LiveAt W l' := by
    intro j v hv
    have hpr : ∀ (k : Nat), k ≠ i + 1 → k ≠ i → ∀ u, l[k]? = some u → (∀ u2, l[i + 2]? = some u2 → u.b ≠ u2.b) → W.heap[u.b]? = w.heap[u.b]? := fun k h1 h2 u hu h3 =>
      hoth _ (lt_of_some (S.live k u hu)) (fun e => h2 (S.mono.inj hu hy e)) (fun e => h1 (S.mono.inj hu hz e)) h3
    rw [hM j] at hv
    by_cases h1 : j < i
    · rw [if_pos h1] at hv
      rw [hpr j (by omega) (by omega) v hv (fun u2 hu2 e => by have := S.mono.inj hv hu2 e; omega), S.live j v hv]
      have e1 : prvV l' j = prvV l j := by
        cases j with
        | zero => rfl
        | succ k => show ptrO l'[k]? = ptrO l[k]?; rw [hM k, if_pos (by omega)]
      have e2 : ptrO l'[j + 1]? = ptrO l[j + 1]? := by
        rw [hM (j + 1)]
        by_cases h2 : j + 1 < i
        · rw [if_pos h2]
        · have h3 : j + 1 = i := by omega
          rw [if_neg h2, if_pos h3, h3, hy]
          rfl
      rw [e1, e2]
    · rw [if_neg h1] at hv
      by_cases h2 : j = i
      · rw [if_pos h2] at hv; cases hv
        subst h2
        rw [hWy]
        have e1 : prvV l' j = prvV l j := by
          cases j with
          | zero => rfl
          | succ k => show ptrO l'[k]? = ptrO l[k]?; rw [hM k, if_pos (by omega)]
        have e2 : l'[j + 1]? = l[j + 2]? := by rw [hM (j + 1), if_neg (by omega), if_neg (by omega)]
        rw [e1, e2]
      · rw [if_neg h2] at hv
        have e2 : l'[j + 1]? = l[j + 2]? := by rw [hM (j + 1), if_neg (by omega), if_neg (by omega)]
        by_cases h3 : j = i + 1
        · subst h3
          rw [hWu v hv, e2]
          have e1 : prvV l' (i + 1) = .pointer (some ⟨y.b, 0, none⟩) := by
            show ptrO l'[i]? = _
            rw [hM i, if_neg (by omega), if_pos rfl]
            rfl
          rw [e1]
        · rw [hpr (j + 1) (by omega) (by omega) v hv (fun u2 hu2 e => by have := S.mono.inj hv hu2 e; omega), S.live (j + 1) v hv, e2]
          have e1 : prvV l' j = prvV l (j + 1) := by
            cases j with
            | zero => omega
            | succ k => show ptrO l'[k]? = ptrO l[k + 1]?; rw [hM k, if_neg (by omega), if_neg (by omega)]
          rw [e1]
  refine ⟨⟨?_, ?_, S.q.len, fun x hx => (hJ x hx).sym hLv⟩, hLv, hM.mono hy S.mono, S.hp, hJ, ?_, row_low S.mrow hbel S.bm, S.bR, ?_, S.bm⟩
  · rw [hrow, S.q.row]
    have e : ptrO l'[0]? = ptrO l[0]? := by
      rw [hM 0]
      by_cases h1 : 0 < i
      · rw [if_pos h1]
      · have h2 : i = 0 := by omega
        subst h2
        rw [if_neg (by omega), if_pos rfl, hy]
        rfl
    rw [e]
  · obtain ⟨h1, ⟨hv, h2⟩ | ⟨g, cp, cur, hv, hg, hh, r⟩⟩ := S.q.own
    · exact ⟨h1, .inl ⟨hv, h2⟩⟩
    · have hk : ∀ (k : Nat) (v : Sy), l[k]? = some v → g ≠ v.b := fun k v hv' e => kind_ne S.q.own (S.live k v hv') (by decide) (by rw [hv, ← e]; rfl)
      exact ⟨h1, .inr ⟨g, cp, cur, hv, hg, by rw [hoth g (lt_of_some hh) (hk i y hy) (hk _ z hz) (fun u hu => hk _ u hu)]; exact hh, r⟩⟩
  · intro j v v2 r hj hv hv2 hr hf
    rw [hM j] at hv
    rw [hM (j + 1)] at hv2
    by_cases h1 : j < i
    · rw [if_pos h1] at hv
      rw [if_pos (by omega)] at hv2
      exact S.cov j v v2 r (hC j (by omega)) hv hv2 hr hf
    · rw [if_neg h1, if_neg hj.1] at hv
      rw [if_neg (by omega), if_neg (by omega)] at hv2
      exact S.cov (j + 1) v v2 r (hC _ (by omega)) hv hv2 hr hf
  · intro v hv
    obtain ⟨j, hj⟩ := List.mem_iff_getElem?.1 hv
    rw [hM j] at hj
    by_cases h1 : j < i
    · rw [if_pos h1] at hj; exact S.bl v (List.mem_of_getElem? hj)
    · rw [if_neg h1] at hj
      by_cases h2 : j = i
      · rw [if_pos h2] at hj; cases hj; exact S.bl y (List.mem_of_getElem? hy)
      · rw [if_neg h2] at hj; exact S.bl v (List.mem_of_getElem? hj)

end Go.Proofs.Ytdggkcohidijcaa
