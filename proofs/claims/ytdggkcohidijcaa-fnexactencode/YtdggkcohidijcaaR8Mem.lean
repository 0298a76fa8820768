/- A row of symbols in memory. -/
import Derived.Test.YtdggkcohidijcaaH8Push
namespace Go.Proofs.Ytdggkcohidijcaa
open Go.RowKit
set_option linter.unusedVariables false
set_option linter.unusedSimpArgs false

/-- A symbol: its block, its token, its place. -/
structure Sy where
  b : Nat
  tok : Int
  pl : Int

def ptrO : Option Sy → Value
  | some y => .pointer (some ⟨y.b, 0, none⟩)
  | none => .pointer none

def prvV (l : List Sy) : Nat → Value
  | 0 => .pointer none
  | i + 1 => ptrO l[i]?

def LiveAt (w : World) (l : List Sy) : Prop := ∀ (i : Nat) (y : Sy), l[i]? = some y → w.heap[y.b]? = some (.cells #[.int .i64 y.tok, .int .i64 y.pl, prvV l i, ptrO l[i + 1]?] 109)

def Mono8 (l : List Sy) : Prop := ∀ (i j : Nat) (x y : Sy), i < j → l[i]? = some x → l[j]? = some y → x.b < y.b ∧ x.pl < y.pl

/-- A joint's symbol lives, or has nothing behind it. -/
def JOk (w : World) (l : List Sy) (x : Jt) : Prop := 0 ≤ x.r ∧ ((∃ (i : Nat) (y : Sy), l[i]? = some y ∧ y.b = x.b ∧ y.pl = x.a) ∨ ∃ (t : Int) (p : Value), w.heap[x.b]? = some (.cells #[.int .i64 t, .int .i64 x.a, p, .pointer none] 109))

theorem JOk.sym {w : World} {l : List Sy} {x : Jt} (h : JOk w l x) (hl : LiveAt w l) : Sym w x.b x.a := by
  rcases h.2 with ⟨i, y, h1, h2, h3⟩ | ⟨t, p, h1⟩
  · rw [← h2, ← h3]; exact ⟨_, _, _, hl i y h1⟩
  · exact ⟨t, p, _, h1⟩

structure RowS (w : World) (R B : Nat) (mp : Option Addr) (mc : Nat) (M : List S_Pair) (l : List Sy) (X : List Jt) (p : Option Addr) (n c : Nat) (C : Nat → Prop) : Prop where
  q : HqS w R B (.slice mp M.length mc) (ptrO l[0]?) X p n c
  live : LiveAt w l
  mono : Mono8 l
  hp : HpOk X
  jok : ∀ x ∈ X, JOk w l x
  cov : ∀ (i : Nat) (y z : Sy) (r : Int), C i → l[i]? = some y → l[i + 1]? = some z → 0 ≤ r → IsFst M y.tok z.tok r → ⟨r, y.b, y.pl⟩ ∈ X
  mrow : RowR w (.slice mp M.length mc) M.length 2 (rPair M)
  bR : B ≤ R
  bl : ∀ y ∈ l, B ≤ y.b
  bm : ∀ (b off : Nat), mp = some ⟨b, off, none⟩ → 0 < M.length → b < B

section
variable {w w' W : World} {R B : Nat} {mp : Option Addr} {mc : Nat} {M : List S_Pair} {l l' : List Sy} {X Y : List Jt} {p p' : Option Addr} {n n' c c' : Nat} {C C' : Nat → Prop}

theorem ptrO_none {o : Option Sy} (h : o = none) : ptrO o = .pointer none := by rw [h]; rfl
theorem ptrO_some {o : Option Sy} {y : Sy} (h : o = some y) : ptrO o = .pointer (some ⟨y.b, 0, none⟩) := by rw [h]; rfl

theorem RowS.bel (S : RowS w R B mp mc M l X p n c C) (h : Below w.heap.size w w') : RowS w' R B mp mc M l X p n c C :=
  ⟨S.q.bel h, fun i y hy => (h.block _ (lt_of_some (S.live i y hy))).trans (S.live i y hy), S.mono, S.hp, fun x hx => ⟨(S.jok x hx).1, (S.jok x hx).2.imp id (fun ⟨t, p, h1⟩ => ⟨t, p, (h.block _ (lt_of_some h1)).trans h1⟩)⟩, S.cov, S.mrow.keep h (Nat.le_refl _), S.bR, S.bl, S.bm⟩

/-- Live blocks are told apart. -/
theorem Mono8.inj (h : Mono8 l) {i j : Nat} {x y : Sy} (hx : l[i]? = some x) (hy : l[j]? = some y) (e : x.b = y.b) : i = j := by
  rcases Nat.lt_trichotomy i j with h1 | h1 | h1
  · have := (h i j x y h1 hx hy).1; omega
  · exact h1
  · have := (h j i y x h1 hy hx).1; omega

theorem sym_fr {b : Nat} {a : Int} {v : Value} {base : Nat} {size m : Nat} {xs : List Value} {v0 v1 v2 v3 : Value} (h : Sym w b a) (hf : Fr8 R v w w') (ho : w.ownsRow base 112 size v m xs) (hR : w.heap[R]? = some (.cells #[v0, v1, v2, v3] 107)) : Sym w' b a := by
  obtain ⟨t, q1, q2, hs⟩ := h
  exact ⟨t, q1, q2, (hf.block _ (lt_of_some hs) (fun e => by rw [e, hR] at hs; simp at hs) (kind_ne ho hs (by decide))).trans hs⟩

theorem blk_fr {b : Nat} {cs : Array Value} {v : Value} {base : Nat} {size m : Nat} {xs : List Value} {v0 v1 v2 v3 : Value} (hs : w.heap[b]? = some (.cells cs 109)) (hf : Fr8 R v w w') (ho : w.ownsRow base 112 size v m xs) (hR : w.heap[R]? = some (.cells #[v0, v1, v2, v3] 107)) : w'.heap[b]? = some (.cells cs 109) :=
  (hf.block _ (lt_of_some hs) (fun e => by rw [e, hR] at hs; simp at hs) (kind_ne ho hs (by decide))).trans hs

theorem row_low {m : Nat} {xs : List Value} (h : RowR w (.slice mp m mc) m 2 xs) (hb : Below B w w') (hm : ∀ (b off : Nat), mp = some ⟨b, off, none⟩ → 0 < m → b < B) : RowR w' (.slice mp m mc) m 2 xs := by
  obtain ⟨h1, p, cap, hv, hc⟩ := h
  simp only [Value.slice.injEq, true_and] at hv
  obtain ⟨rfl, rfl⟩ := hv
  refine ⟨h1, mp, mc, rfl, fun j hj => ?_⟩
  obtain ⟨b, off, e, hlt, hcell⟩ := hc j hj
  exact ⟨b, off, e, Nat.lt_of_lt_of_le hlt hb.size, by rw [hb.cell (by exact hm b off e (by omega))]; exact hcell⟩

/-- The queue turned: the row is as it was. -/
theorem RowS.fr (S : RowS w R B mp mc M l X p n c C) (hf : Fr8 R (.slice p n c) w w') (hB : B ≤ w.heap.size) (hq : HqS w' R B (.slice mp M.length mc) (ptrO l[0]?) Y p' n' c') (hk : HpOk Y) (hj : ∀ z ∈ Y, JOk w l z) (hc : ∀ (i : Nat) (y z : Sy) (r : Int), C' i → l[i]? = some y → l[i + 1]? = some z → 0 ≤ r → IsFst M y.tok z.tok r → ⟨r, y.b, y.pl⟩ ∈ Y) : RowS w' R B mp mc M l Y p' n' c' C' := by
  refine ⟨hq, fun i y hy => blk_fr (S.live i y hy) hf S.q.own S.q.row, S.mono, hk, fun x hx => ⟨(hj x hx).1, (hj x hx).2.imp id (fun ⟨t, p, h1⟩ => ⟨t, p, blk_fr h1 hf S.q.own S.q.row⟩)⟩, hc, ?_, S.bR, S.bl, S.bm⟩
  exact row_low S.mrow (hf.below S.bR (fun k hk => (S.q.own.lt k hk).1) hB) S.bm
end

end Go.Proofs.Ytdggkcohidijcaa
