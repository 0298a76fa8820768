/- What the frames of a log come to; no program is named here. -/
import Derived.Test.YthlokfcejojdhaaDoorFsMath
import Derived.Test.YthlokfcejojdhaaDoorWvMath
import Derived.Test.YthlokfcejojdhaaDoorWyMath
import Derived.Test.YthlokfcejojdhaaDoorWwImpl
namespace Go.Proofs.YthlokfcejojdhaaDoor
open Go.RowKit
set_option linter.unusedVariables false
set_option linter.unusedSimpArgs false

theorem okE_snoc (top : Int) (e : S_Entry) (h1 : 1 ≤ e.f0) (h3 : e.f0 ≤ top) (h4 : e.f1.size ≤ 900) : ∀ (L : List S_Entry) (b : Int), okE top b L → (match L[L.length - 1]? with | some a => a.f0 | none => b) ≤ e.f0 → okE top b (L ++ [e])
  | [], b, _, h => ⟨h1, h, h3, h4, trivial⟩
  | [a], b, hok, h => ⟨hok.1, hok.2.1, hok.2.2.1, hok.2.2.2.1, h1, h, h3, h4, trivial⟩
  | a :: c :: L, b, hok, h => by
    refine ⟨hok.1, hok.2.1, hok.2.2.1, hok.2.2.2.1, okE_snoc top e h1 h3 h4 (c :: L) a.f0 hok.2.2.2.2 ?_⟩
    have e1 : (a :: c :: L)[(a :: c :: L).length - 1]? = (c :: L)[(c :: L).length - 1]? := by
      simp only [List.length_cons]
      rw [show L.length + 1 + 1 - 1 = (L.length + 1 - 1) + 1 by omega, List.getElem?_cons_succ]
    rw [e1] at h
    have hl : (c :: L).length - 1 < (c :: L).length := by simp
    rw [List.getElem?_eq_getElem hl] at h ⊢
    exact h

theorem okE_up {top top2 : Int} (h : top ≤ top2) : ∀ (L : List S_Entry) (b : Int), okE top b L → okE top2 b L
  | [], _, _ => trivial
  | a :: L, b, hok => ⟨hok.1, hok.2.1, by have := hok.2.2.1; omega, hok.2.2.2.1, okE_up h L a.f0 hok.2.2.2.2⟩

theorem okE_take (top : Int) : ∀ (L : List S_Entry) (b : Int) (k : Nat), okE top b L → okE top b (L.take k)
  | [], b, k, _ => by rw [List.take_nil]; trivial
  | a :: L, b, 0, _ => trivial
  | a :: L, b, k + 1, hok => ⟨hok.1, hok.2.1, hok.2.2.1, hok.2.2.2.1, okE_take top L a.f0 k hok.2.2.2.2⟩

/-- A record that fits leaves the log right. -/
theorem okW_step {x : S_Wal} {r : S_Rec} (h : okW x) (hr : okR r) (hf : fitsR x r) : okW (stepF x r) := by
  obtain ⟨⟨h0, h1, h2, h3, h4, h5⟩, hE⟩ := h
  rcases hf with ⟨hk, hf⟩ | ⟨hk, hf⟩ | ⟨hk, hf⟩
  · rw [step_1 hk]
    have ho : x.f0 ≤ r.f1 := by rcases hf with hf | hf <;> omega
    rcases hr with hr | hr | hr | hr
    · exact ⟨⟨hr.2.1, hr.2.2.1, h2, by show x.f3 ≤ r.f1; omega, h4, h5⟩, okE_up ho _ _ hE⟩
    · omega
    · omega
    · omega
  · rw [step_2 hk]
    obtain ⟨f1, f2, f3, f4⟩ := hf
    rcases hr with hr | hr | hr | hr
    · omega
    · refine ⟨⟨h0, h1, h2, h3, ?_, ?_⟩, okE_snoc _ ⟨r.f1, r.f4⟩ hr.2.1.1 f4 hr.2.2.2.2 _ _ hE f3⟩
      · show (x.f4 ++ [_]).length ≤ 60
        rw [List.length_append]
        simp only [List.length_singleton]
        omega
      · show x.f2 + ((x.f4 ++ [_]).length : Int) ≤ 100000
        rw [List.length_append]
        simp only [List.length_singleton]
        have := hr.2.2.1.2
        omega
    · omega
    · omega
  · rw [step_3 hk]
    refine ⟨⟨h0, h1, h2, h3, ?_, ?_⟩, okE_take _ _ _ _ hE⟩
    · show (x.f4.take _).length ≤ 60
      rw [List.length_take]
      omega
    · show x.f2 + ((x.f4.take _).length : Int) ≤ 100000
      rw [List.length_take]
      omega

/-- The log that a base begins. -/
def bgW (r : S_Rec) : S_Wal := ⟨r.f1, -1, r.f2, r.f1, []⟩

theorem okW_bg {r : S_Rec} (h : okR r) (hk : r.f0 = 4) : okW (bgW r) := by
  rcases h with h | h | h | h
  · omega
  · omega
  · omega
  · have hb : bsR r.f2 r.f1 := by
      have e : r = ⟨4, r.f1, r.f2, 0, ⟨#[]⟩⟩ := by
        obtain ⟨a, b, c, d, f⟩ := r
        simp only [S_Rec.mk.injEq]
        exact ⟨hk, trivial, trivial, h.2.2.1, h.2.2.2⟩
      refine (okR_base r.f2 r.f1).1 ?_
      rw [← e]
      exact .inr (.inr (.inr h))
    have h2 := h.2.1
    refine ⟨⟨⟨?_, ?_⟩, ⟨by show (-1 : Int) ≤ -1; omega, by show (-1 : Int) ≤ 4; omega⟩, hb, Int.le_refl _, Nat.zero_le _, ?_⟩, trivial⟩
    · show 0 ≤ r.f1
      rcases h2 with h2 | h2 <;> omega
    · show r.f1 ≤ 100000
      rcases h2 with h2 | h2 <;> omega
    · show r.f2 + ((0 : Nat) : Int) ≤ 100000
      rcases h2 with h2 | h2 <;> omega

/-- What the bodies behind the first one come to. -/
def rpL : S_Wal → Int → List ByteArray → S_Wal × Int
  | x, n, [] => (x, n)
  | x, n, b :: l => if okR (rdR b) ∧ fitsR x (rdR b) then rpL (stepF x (rdR b)) (n + (8 + (b.size : Int))) l else (x, n)

theorem rpL_yes {x : S_Wal} {n : Int} {b : ByteArray} {l : List ByteArray} (h : okR (rdR b) ∧ fitsR x (rdR b)) : rpL x n (b :: l) = rpL (stepF x (rdR b)) (n + (8 + (b.size : Int))) l := by
  show (if okR (rdR b) ∧ fitsR x (rdR b) then _ else _) = _
  rw [if_pos h]
theorem rpL_no {x : S_Wal} {n : Int} {b : ByteArray} {l : List ByteArray} (h : ¬ (okR (rdR b) ∧ fitsR x (rdR b))) : rpL x n (b :: l) = (x, n) := by
  show (if okR (rdR b) ∧ fitsR x (rdR b) then _ else _) = _
  rw [if_neg h]

/-- What all bodies come to. -/
def rpA (L : List ByteArray) : (S_Wal × Int) × Bool := match L with
  | [] => ((zeroW, 0), false)
  | b :: l => if okR (rdR b) ∧ (rdR b).f0 = 4 then (rpL (bgW (rdR b)) (8 + (b.size : Int)) l, true) else ((zeroW, 0), false)

theorem rpA_nil : rpA [] = ((zeroW, 0), false) := rfl
theorem rpA_yes {b : ByteArray} {l : List ByteArray} (h : okR (rdR b) ∧ (rdR b).f0 = 4) : rpA (b :: l) = (rpL (bgW (rdR b)) (8 + (b.size : Int)) l, true) := if_pos h
theorem rpA_no {b : ByteArray} {l : List ByteArray} (h : ¬ (okR (rdR b) ∧ (rdR b).f0 = 4)) : rpA (b :: l) = ((zeroW, 0), false) := if_neg h

theorem Frs.small {t : ByteArray} {L : List ByteArray} {e : Nat} (h : Frs t L e) : ∀ b ∈ L, b.size ≤ 2000 := by
  induction h with
  | stop t hs => intro b hb; cases hb
  | more t n L e hok _ ih =>
    intro b hb
    rcases List.mem_cons.1 hb with rfl | hb
    · have h2 := hok.2.1
      have hz : (t.extract 8 (8 + n)).size ≤ n := by simp; omega
      omega
    · exact ih b hb

/-- While the bodies are read, the next one is number k. -/
structure RpS (L : List ByteArray) (x : S_Wal) (n : Int) (k : Nat) : Prop where
  all : rpA L = (rpL x n (L.drop k), true)
  ok : okW x
  low : 0 ≤ n
  high : n ≤ 2008 * (k : Int)

theorem rp_begin {b : ByteArray} {l : List ByteArray} (hb : b.size ≤ 2000) (h : okR (rdR b) ∧ (rdR b).f0 = 4) : RpS (b :: l) (bgW (rdR b)) (8 + (b.size : Int)) 1 :=
  ⟨rpA_yes h, okW_bg h.1 h.2, by omega, by omega⟩

theorem RpS.next {L : List ByteArray} {x : S_Wal} {n : Int} {k : Nat} (S : RpS L x n k) (hk : k < L.length) (hb : (L[k]).size ≤ 2000) (h : okR (rdR L[k]) ∧ fitsR x (rdR L[k])) : RpS L (stepF x (rdR L[k])) (n + (8 + ((L[k]).size : Int))) (k + 1) := by
  have e : L.drop k = L[k] :: L.drop (k + 1) := List.drop_eq_getElem_cons hk
  refine ⟨?_, okW_step S.ok h.1 h.2, by have := S.low; omega, by have := S.high; omega⟩
  rw [S.all, e, rpL_yes h]

theorem RpS.stop {L : List ByteArray} {x : S_Wal} {n : Int} {k : Nat} (S : RpS L x n k) (hk : k < L.length) (h : ¬ (okR (rdR L[k]) ∧ fitsR x (rdR L[k]))) : rpA L = ((x, n), true) := by
  have e : L.drop k = L[k] :: L.drop (k + 1) := List.drop_eq_getElem_cons hk
  rw [S.all, e, rpL_no h]

theorem RpS.last {L : List ByteArray} {x : S_Wal} {n : Int} {k : Nat} (S : RpS L x n k) (hk : L.length ≤ k) : rpA L = ((x, n), true) := by
  rw [S.all, List.drop_eq_nil_of_le hk]
  rfl

end Go.Proofs.YthlokfcejojdhaaDoor
