/- Plain facts on the words and rounds of the sum by blocks; no program is named here. -/
import Derived.Laws.BitsLemmas
import Derived.Laws.BitsAllLaws
import Derived.Laws.Wrap64
import Derived.Laws.Closers25b
import Derived.Test.YtdhbhifgmbppjaaDoorRows
import Derived.WalkKit
import Derived.WalkSpells
import Derived.WalkLawsBesides
import GoSem.Claim
import Derived.Below
import Derived.OneCell
import Derived.Deep.MidRow
namespace Go.Proofs.YtdhbhifgmbppjaaDoor

/-- x turned to the right by n bits. -/
def rt (x : Int) (n : Nat) : Int := bits .or .u32 (x / 2 ^ n) (x * 2 ^ (32 - n) % 4294967296)

def xr (x y : Int) : Int := bits .xor .u32 x y
def an (x y : Int) : Int := bits .and .u32 x y

def sg0 (x : Int) : Int := xr (xr (rt x 7) (rt x 18)) (x / 8)
def sg1 (x : Int) : Int := xr (xr (rt x 17) (rt x 19)) (x / 1024)
def wnext (a b c d : Int) : Int := (a + sg0 b + c + sg1 d) % 4294967296
def bs1 (e : Int) : Int := xr (xr (rt e 6) (rt e 11)) (rt e 25)
def bs0 (a : Int) : Int := xr (xr (rt a 2) (rt a 13)) (rt a 22)
def nt (x : Int) : Int := bits .xor .u32 (if IntKind.u32.signed = true then -1 else IntKind.u32.max) x
def chs (e f g : Int) : Int := xr (an e f) (an (nt e) g)
def maj (a b c : Int) : Int := xr (xr (an a b) (an a c)) (an b c)

/-- The word at place i of the bytes. -/
def w4 (bl : List Int) (i : Nat) : Int := bl.getD (4 * i) 0 * 16777216 + bl.getD (4 * i + 1) 0 * 65536 + bl.getD (4 * i + 2) 0 * 256 + bl.getD (4 * i + 3) 0

/-- The first n words that a block is spread to. -/
def wL (bl : List Int) : Nat → List Int
  | 0 => []
  | n + 1 => wL bl n ++ [if n < 16 then w4 bl n else wnext ((wL bl n).getD (n - 16) 0) ((wL bl n).getD (n - 15) 0) ((wL bl n).getD (n - 7) 0) ((wL bl n).getD (n - 2) 0)]

theorem wL_length (bl : List Int) : ∀ n, (wL bl n).length = n
  | 0 => rfl
  | n + 1 => by simp [wL, wL_length bl n]

theorem wL_low (bl : List Int) (n : Nat) (h : n < 16) : wL bl (n + 1) = wL bl n ++ [w4 bl n] := by
  simp [wL, h]

theorem wL_high (bl : List Int) (n : Nat) (h : ¬ n < 16) : wL bl (n + 1) = wL bl n ++ [wnext ((wL bl n).getD (n - 16) 0) ((wL bl n).getD (n - 15) 0) ((wL bl n).getD (n - 7) 0) ((wL bl n).getD (n - 2) 0)] := by
  simp [wL, h]

/-- Eight words. -/
structure V8 where
  a : Int
  b : Int
  c : Int
  d : Int
  e : Int
  f : Int
  g : Int
  h : Int

def V8.l (v : V8) : List Int := [v.a, v.b, v.c, v.d, v.e, v.f, v.g, v.h]

/-- The first sum of a round. -/
def t1 (v : V8) (k w : Int) : Int := (v.h + bs1 v.e + chs v.e v.f v.g + k + w) % 4294967296

/-- One round. -/
def rnd (v : V8) (k w : Int) : V8 :=
  ⟨(t1 v k w + bs0 v.a + maj v.a v.b v.c) % 4294967296, v.a, v.b, v.c, (v.d + t1 v k w) % 4294967296, v.e, v.f, v.g⟩

def rds (ks ws : List Int) (v : V8) : Nat → V8
  | 0 => v
  | n + 1 => rnd (rds ks ws v n) (ks.getD n 0) (ws.getD n 0)

def add8 (x y : V8) : V8 :=
  ⟨(x.a + y.a) % 4294967296, (x.b + y.b) % 4294967296, (x.c + y.c) % 4294967296, (x.d + y.d) % 4294967296, (x.e + y.e) % 4294967296, (x.f + y.f) % 4294967296, (x.g + y.g) % 4294967296, (x.h + y.h) % 4294967296⟩

/-- A block brought in. -/
def blk (ks : List Int) (v : V8) (bl : List Int) : V8 := add8 v (rds ks (wL bl 64) v 64)

/-- In range. -/
def in32 (x : Int) : Prop := 0 ≤ x ∧ x ≤ 4294967295

theorem or_comm32 (a b : Int) : bits .or .u32 a b = bits .or .u32 b a := by
  show IntKind.u32.wrap ((BitVec.ofInt 32 a ||| BitVec.ofInt 32 b).toNat : Int) = IntKind.u32.wrap ((BitVec.ofInt 32 b ||| BitVec.ofInt 32 a).toNat : Int)
  rw [BitVec.or_comm]

theorem or_low (x y : Int) (h0 : 0 ≤ x) (h1 : x ≤ 16777215) (h2 : 0 ≤ y) (h3 : y < 256) : bits .or .u32 (x * 256) y = x * 256 + y :=
  bits_join .u32 32 (by decide) (fun n a b => by simp [IntKind.wrap, IntKind.bits, IntKind.signed]; omega) 8 (x * 256) y (by omega) (by omega) (by omega) h2 (by omega) (by omega)

theorem rt_range (x : Int) (n : Nat) : 0 ≤ rt x n ∧ rt x n ≤ 4294967295 := ⟨bits_lo_u32 _ _ _, bits_hi_u32 _ _ _⟩

theorem xr_range (x y : Int) : 0 ≤ xr x y ∧ xr x y ≤ 4294967295 := ⟨bits_lo_u32 _ _ _, bits_hi_u32 _ _ _⟩

theorem an_range (x y : Int) : 0 ≤ an x y ∧ an x y ≤ 4294967295 := ⟨bits_lo_u32 _ _ _, bits_hi_u32 _ _ _⟩

theorem w4_range (bl : List Int) (k : Nat) (hz : ∀ j, 0 ≤ bl.getD j 0 ∧ bl.getD j 0 ≤ 255) : 0 ≤ w4 bl k ∧ w4 bl k ≤ 4294967295 := by
  have h0 := hz (4 * k)
  have h1 := hz (4 * k + 1)
  have h2 := hz (4 * k + 2)
  have h3 := hz (4 * k + 3)
  unfold w4
  omega

theorem wnext_range (a b c d : Int) : 0 ≤ wnext a b c d ∧ wnext a b c d ≤ 4294967295 := by
  unfold wnext; omega

theorem getD_snoc_range (l : List Int) (x : Int) (hl : ∀ j, 0 ≤ l.getD j 0 ∧ l.getD j 0 ≤ 4294967295) (hx : 0 ≤ x ∧ x ≤ 4294967295) (j : Nat) : 0 ≤ (l ++ [x]).getD j 0 ∧ (l ++ [x]).getD j 0 ≤ 4294967295 := by
  have h := hl j
  by_cases h1 : j < l.length
  · simp only [List.getD, List.getElem?_append_left h1] at h ⊢
    exact h
  · by_cases h2 : j = l.length
    · subst h2
      simpa [List.getD] using hx
    · simp [List.getD, List.getElem?_eq_none (show (l ++ [x]).length ≤ j by simp; omega)]

theorem wL_range (bl : List Int) (hz : ∀ j, 0 ≤ bl.getD j 0 ∧ bl.getD j 0 ≤ 255) : ∀ n j, 0 ≤ (wL bl n).getD j 0 ∧ (wL bl n).getD j 0 ≤ 4294967295
  | 0, j => by simp [wL]
  | n + 1, j => by
    refine getD_snoc_range _ _ (wL_range bl hz n) ?_ j
    split
    · exact w4_range bl n hz
    · exact wnext_range _ _ _ _

def V8.ok (v : V8) : Prop := (0 ≤ v.a ∧ v.a ≤ 4294967295) ∧ (0 ≤ v.b ∧ v.b ≤ 4294967295) ∧ (0 ≤ v.c ∧ v.c ≤ 4294967295) ∧ (0 ≤ v.d ∧ v.d ≤ 4294967295) ∧ (0 ≤ v.e ∧ v.e ≤ 4294967295) ∧ (0 ≤ v.f ∧ v.f ≤ 4294967295) ∧ (0 ≤ v.g ∧ v.g ≤ 4294967295) ∧ (0 ≤ v.h ∧ v.h ≤ 4294967295)

theorem rnd_ok (v : V8) (k w : Int) (h : v.ok) : (rnd v k w).ok := by
  obtain ⟨ha, hb, hc, hd, he, hf, hg, hh⟩ := h
  refine ⟨?_, ha, hb, hc, ?_, he, hf, hg⟩
  · show 0 ≤ (t1 v k w + bs0 v.a + maj v.a v.b v.c) % 4294967296 ∧ (t1 v k w + bs0 v.a + maj v.a v.b v.c) % 4294967296 ≤ 4294967295
    omega
  · show 0 ≤ (v.d + t1 v k w) % 4294967296 ∧ (v.d + t1 v k w) % 4294967296 ≤ 4294967295
    omega

theorem rds_ok (ks ws : List Int) (v : V8) (h : v.ok) : ∀ n, (rds ks ws v n).ok
  | 0 => h
  | n + 1 => rnd_ok _ _ _ (rds_ok ks ws v h n)

theorem add8_ok (x y : V8) : (add8 x y).ok := by
  unfold V8.ok add8
  simp only
  omega

theorem blk_ok (ks : List Int) (v : V8) (bl : List Int) : (blk ks v bl).ok := add8_ok _ _

end Go.Proofs.YtdhbhifgmbppjaaDoor

/- The walks of the two that turn a word to the right. -/
namespace Go.Proofs.YtdhbhifgmbppjaaDoor
open Go.RowKit
set_option linter.unusedVariables false

theorem turn_any (x m : Int) (n : Nat) (w : World) (hm : m = n) (h0 : 0 ≤ x) (h1 : x ≤ 4294967295) (hn1 : 1 ≤ n) (hn2 : n ≤ 31) :
    Calls Tryd.prog 46 #[.int .u32 x, .int .i64 m] w fun e w' => e = .returned (.int .u32 (rt x n)) ∧ w' = w := by
  subst hm
  go_enter Tryd.func46, Tryd.ntmps46
  go_wp2
  go_ret
  exact ⟨rfl, rfl⟩

theorem and_31 (n : Nat) (hn1 : 1 ≤ n) (hn2 : n ≤ 31) : bits .and .u64 (IntKind.u64.wrap (-(n : Int))) 31 = 32 - (n : Int) := by
  have e : IntKind.u64.wrap (-(n : Int)) = 18446744073709551616 - (n : Int) := by rw [IntKind.wrap_u64]; omega
  rw [e, u64_and _ _ (by omega) (by omega) (by omega) (by omega)]
  have h := Nat.and_two_pow_sub_one_eq_mod (18446744073709551616 - (n : Int)).toNat 5
  have e2 : (2 : Nat) ^ 5 - 1 = (31 : Int).toNat := by decide
  rw [e2] at h
  rw [h]
  have e3 : (2 : Nat) ^ 5 = 32 := by decide
  omega

theorem rot_any (x m : Int) (n : Nat) (w : World) (hm : m = -(n : Int)) (h0 : 0 ≤ x) (h1 : x ≤ 4294967295) (hn1 : 1 ≤ n) (hn2 : n ≤ 31) :
    Calls Tryd.prog 58 #[.int .u32 x, .int .i64 m] w fun e w' => e = .returned (.int .u32 (rt x n)) ∧ w' = w := by
  subst hm
  have h31 := and_31 n hn1 hn2
  have HO : Hid (bits .or .u32 (x * 2 ^ (32 - n) % 4294967296) (x / 2 ^ (32 - (32 - n))) = rt x n) := by
    show bits .or .u32 (x * 2 ^ (32 - n) % 4294967296) (x / 2 ^ (32 - (32 - n))) = rt x n
    rw [show 32 - (32 - n) = n by omega]; exact or_comm32 _ _
  go_enter Tryd.func58, Tryd.ntmps58
  go_wp2
  go_ret
  refine ⟨?_, rfl⟩
  rw [← HO.out]
  rfl

end Go.Proofs.YtdhbhifgmbppjaaDoor

/- Plain facts on the cells of a row of words under way. -/
namespace Go.Proofs.YtdhbhifgmbppjaaDoor

/-- The cells of n places: the words that are there, then noughts. -/
def wCells (ws : List Int) : List Value := (ws ++ List.replicate (64 - ws.length) 0).map (Value.int .u32)

/-- The same with one word under way. -/
def wPart (ws : List Int) (x : Int) : List Value := (ws ++ x :: List.replicate (63 - ws.length) 0).map (Value.int .u32)

/-- A word under way: its first m bytes. -/
def pw (bl : List Int) (k : Nat) : Nat → Int
  | 0 => 0
  | m + 1 => pw bl k m * 256 + bl.getD (4 * k + m) 0

theorem pw_four (bl : List Int) (k : Nat) : pw bl k 4 = w4 bl k := by
  simp only [pw, w4, Nat.add_zero]; omega

theorem pw_range (bl : List Int) (k : Nat) (hz : ∀ j, 0 ≤ bl.getD j 0 ∧ bl.getD j 0 ≤ 255) : ∀ m, 0 ≤ pw bl k m ∧ pw bl k m < 256 ^ m
  | 0 => by simp [pw]
  | m + 1 => by
    have h := pw_range bl k hz m
    have hb := hz (4 * k + m)
    have e : (256 : Int) ^ (m + 1) = 256 ^ m * 256 := Int.pow_succ _ _
    simp only [pw, e]; omega

theorem pw_le3 (bl : List Int) (k m : Nat) (hz : ∀ j, 0 ≤ bl.getD j 0 ∧ bl.getD j 0 ≤ 255) (hm : m < 4) : 0 ≤ pw bl k m ∧ pw bl k m ≤ 16777215 := by
  have h := pw_range bl k hz m
  have : (256 : Int) ^ m ≤ 16777216 := by
    rcases m with _ | _ | _ | _ | m
    · decide
    · decide
    · decide
    · decide
    · omega
  omega

theorem wPart_start (ws : List Int) (h : ws.length < 64) : wCells ws = wPart ws 0 := by
  unfold wCells wPart
  rw [show 64 - ws.length = (63 - ws.length) + 1 by omega, List.replicate_succ]

theorem wPart_end (ws : List Int) (x : Int) (h : ws.length < 64) : wPart ws x = wCells (ws ++ [x]) := by
  unfold wCells wPart
  rw [List.length_append, show 64 - (ws.length + [x].length) = 63 - ws.length by simp only [List.length_cons, List.length_nil]; omega]
  simp

theorem wPart_at (ws : List Int) (x : Int) : (wPart ws x)[ws.length]? = some (.int .u32 x) := by
  unfold wPart; simp

theorem wPart_set (ws : List Int) (x y : Int) : (wPart ws x).set ws.length (.int .u32 y) = wPart ws y := by
  unfold wPart
  rw [← List.map_set, List.set_append_right _ _ (Nat.le_refl _)]
  simp

theorem wCells_at (ws : List Int) (j : Nat) (h : j < ws.length) : (wCells ws)[j]? = some (.int .u32 (ws.getD j 0)) := by
  unfold wCells
  rw [List.getElem?_map, List.getElem?_append_left h]
  simp [List.getD, List.getElem?_eq_getElem h]

theorem wPart_atlow (ws : List Int) (x : Int) (j : Nat) (h : j < ws.length) : (wPart ws x)[j]? = some (.int .u32 (ws.getD j 0)) := by
  unfold wPart
  rw [List.getElem?_map, List.getElem?_append_left h]
  simp [List.getD, List.getElem?_eq_getElem h]

theorem wCells_length (ws : List Int) (h : ws.length ≤ 64) : (wCells ws).length = 64 := by
  unfold wCells; simp; omega

theorem wCells_full (ws : List Int) (h : ws.length = 64) : wCells ws = ws.map (Value.int .u32) := by
  unfold wCells; simp [h]

end Go.Proofs.YtdhbhifgmbppjaaDoor

/- Laws on rows and arrays of the call's own, whole ones out of and into a block. -/
namespace Go.Proofs.YtdhbhifgmbppjaaDoor
open Go.RowKit
set_option linter.unusedVariables false

theorem own_drewN {w : World} {base : Nat} {e : TypeId} {size : Nat} {v : Value} {n : Nat} {xs : List Value} (h : w.ownsRow base e size v n xs) (k : Nat) : (w.drewN k).ownsRow base e size v n xs := by
  induction k with
  | zero => exact h
  | succ k ih => exact ih

theorem below_drewN {B : Nat} {w w' : World} (h : Below B w w') (k : Nat) : Below B w (w'.drewN k) := by
  induction k with
  | zero => exact h
  | succ k ih => exact ⟨ih.os, ih.tape, ih.output, ih.size, ih.block⟩

theorem below_setCells {B : Nat} {w : World} (b : Nat) (hb : B ≤ b) : ∀ (vs : List Value) (o : Nat) (w' : World), Below B w w' → Below B w (w'.setCells b o vs)
  | [], _, _, h => h
  | v :: r, o, w', h => below_setCells b hb r (o + 1) _ (h.setCell hb v)

theorem own_range {w : World} {base : Nat} {e : TypeId} {g n cap : Nat} {xs : List Value} (h : w.ownsRow base e 1 (.slice (some ⟨g, 0, none⟩) n cap) n xs) : w.rangeAt g 0 xs := fun j v hv => by
  have hl := h.1
  have hj : j < xs.length := (List.getElem?_eq_some_iff.1 hv).1
  rw [Nat.zero_add, h.cellAt j (by omega)]
  exact hv

theorem own_thereS {w : World} {base : Nat} {e : TypeId} {g n cap : Nat} {xs : List Value} (h : w.ownsRow base e 1 (.slice (some ⟨g, 0, none⟩) n cap) n xs) : w.there g 0 n := fun j hj => by
  have hl := h.1
  rw [Nat.zero_add, h.cellAt j (by omega), List.getElem?_eq_getElem (by omega)]
  exact ⟨rfl, h.frozenAt j⟩

theorem results_one_cell {fn : Func} {p : Tmp} {ty : TypeId} (h : fn.results = #[.cell p ty]) (tmps : Array Value) (P : Program) (w : World) :
    (results fn tmps).run P w = ((asAddr (tmps.getD p undef)).run P w).andThen fun a w₁ => (loadVar ty a).run P w₁ := by
  simp only [results, h]
  simp [Sem.run_bind, Result.andThen]

end Go.Proofs.YtdhbhifgmbppjaaDoor
