/- Joints are offered. -/
import Derived.Test.YtdggkcohidijcaaR8Join
namespace Go.Proofs.Ytdggkcohidijcaa
open Go.RowKit
set_option linter.unusedVariables false
set_option linter.unusedSimpArgs false

theorem isFst_upto (L : List S_Pair) (a b : Int) : ∀ n, n ≤ L.length → (∃ k, k < n ∧ IsFst L a b (k : Int)) ∨ ∀ q, q < n → ∀ h' : q < L.length, ¬ (L[q].f0 = a ∧ L[q].f1 = b)
  | 0, _ => .inr fun q h => absurd h (by omega)
  | n + 1, hn => by
    rcases isFst_upto L a b n (by omega) with ⟨k, hk, h⟩ | h
    · exact .inl ⟨k, by omega, h⟩
    · by_cases hm : L[n].f0 = a ∧ L[n].f1 = b
      · exact .inl ⟨n, by omega, .inl ⟨n, rfl, by omega, hm, h⟩⟩
      · refine .inr fun q hq h' => ?_
        rcases Nat.lt_or_ge q n with h1 | h1
        · exact h q h1 h'
        · have : q = n := by omega
          subst this
          exact hm

theorem isFst_ex (L : List S_Pair) (a b : Int) : ∃ i, IsFst L a b i := by
  rcases isFst_upto L a b L.length (Nat.le_refl _) with ⟨k, _, h⟩ | h
  · exact ⟨_, h⟩
  · exact ⟨-1, .inr ⟨rfl, fun q h' => h q h' h'⟩⟩

theorem placeI_c (L : List S_Pair) (v : Value) (a b i : Int) (hi : IsFst L a b i) (w : World) (hn : L.length ≤ 1048576) (hr : RowR w v L.length 2 (rPair L)) :
    Calls Try.prog 88 #[v, .agg #[.int .i64 a, .int .i64 b]] w fun e w' => e = .returned (.int .i64 i) ∧ Below w.heap.size w w' :=
  (placeP_c L v a b w hn hr).mono fun e w' ⟨j, he, hj, hb⟩ => by
    obtain rfl := isFst_one hi hj
    exact ⟨he, hb⟩

theorem rank_nil (R : Nat) (w : World) : Calls Try.prog 75 #[.pointer (some ⟨R, 0, none⟩), .pointer none] w fun e w' => e = .returned (.int .i64 (-1)) ∧ w' = w := by
  go_enter Try.func75, Try.ntmps75
  go_wp2
  go_ret
  exact ⟨rfl, rfl⟩

theorem cell4 {w : World} {b : Nat} {a0 a1 a2 a3 : Value} {t : TypeId} (h : w.heap[b]? = some (.cells #[a0, a1, a2, a3] t)) : w.cell? ⟨b, 0, none⟩ = some a0 ∧ w.cell? ⟨b, 1, none⟩ = some a1 ∧ w.cell? ⟨b, 2, none⟩ = some a2 ∧ w.cell? ⟨b, 3, none⟩ = some a3 := by
  simp [World.cell?, h]

theorem rank_last (R b : Nat) (w : World) (t a : Int) (pv : Value) (h : w.heap[b]? = some (.cells #[.int .i64 t, .int .i64 a, pv, .pointer none] 109)) : Calls Try.prog 75 #[.pointer (some ⟨R, 0, none⟩), .pointer (some ⟨b, 0, none⟩)] w fun e w' => e = .returned (.int .i64 (-1)) ∧ w' = w := by
  obtain ⟨c0, c1, c2, c3⟩ := cell4 h
  clear h
  go_enter Try.func75, Try.ntmps75
  go_wp2
  go_ret
  exact ⟨rfl, rfl⟩

set_option maxRecDepth 20000 in
set_option maxHeartbeats 4000000 in
theorem rank_two (R b b2 : Nat) (w : World) (M : List S_Pair) (mp : Option Addr) (mc : Nat) (t a t2 i : Int) (pv x1 x2 x3 : Value) (hi : IsFst M t t2 i) (hn : M.length ≤ 1048576) (hr : RowR w (.slice mp M.length mc) M.length 2 (rPair M))
    (hm : w.cell? ⟨R, 0, none⟩ = some (.slice mp M.length mc)) (h : w.heap[b]? = some (.cells #[.int .i64 t, .int .i64 a, pv, .pointer (some ⟨b2, 0, none⟩)] 109)) (h2 : w.heap[b2]? = some (.cells #[.int .i64 t2, x1, x2, x3] 109)) :
    Calls Try.prog 75 #[.pointer (some ⟨R, 0, none⟩), .pointer (some ⟨b, 0, none⟩)] w fun e w' => e = .returned (.int .i64 i) ∧ Below w.heap.size w w' := by
  obtain ⟨c0, c1, c2, c3⟩ := cell4 h
  obtain ⟨d0, _, _, _⟩ := cell4 h2
  have HI : Hid (IsFst M t t2 i) := hi
  have HN : Hid (M.length ≤ 1048576) := hn
  have HR : Hid (RowR w (.slice mp M.length mc) M.length 2 (rPair M)) := hr
  have hm0 := hm
  clear h h2 hi hn hr hm
  go_enter Try.func75, Try.ntmps75
  go_upto_region 3 with fail
  refine wp_region_told (fun W => Below w.heap.size w W) (by kernel_rfl) (by kernel_rfl) ((Below.refl w.heap.size w).drew) ?_
  refine told_pure (some 14) (.pointer (some ⟨R, 0, none⟩)) rfl (by kernel_rfl) (fun _ => by kernel_rfl) ?_
  refine told_pure (some 15) (.pointer (some ⟨R, 0, none⟩)) rfl (by kernel_rfl) (fun _ => by kernel_rfl) ?_
  refine told_pure (some 16) (.pointer (some ⟨R, 0, none⟩)) rfl (by kernel_rfl) (fun _ => by kernel_rfl) ?_
  refine told_load (some 17) ⟨R, 0, none⟩ (.slice mp M.length mc) rfl (by kernel_rfl) (fun _ => by kernel_rfl) (fun _ hS => atB hS hm0) ?_
  refine told_pure (some 18) (.pointer (some ⟨b, 0, none⟩)) rfl (by kernel_rfl) (fun _ => by kernel_rfl) ?_
  refine told_pure (some 19) (.pointer (some ⟨b, 0, none⟩)) rfl (by kernel_rfl) (fun _ => by kernel_rfl) ?_
  refine told_pure (some 20) (.pointer (some ⟨b, 0, none⟩)) rfl (by kernel_rfl) (fun _ => by kernel_rfl) ?_
  refine told_load (some 21) ⟨b, 0, none⟩ (.int .i64 t) rfl (by kernel_rfl) (fun _ => by kernel_rfl) (fun _ hS => atB hS c0) ?_
  refine told_pure (some 22) (.pointer (some ⟨b, 0, none⟩)) rfl (by kernel_rfl) (fun _ => by kernel_rfl) ?_
  refine told_pure (some 23) (.pointer (some ⟨b, 0, none⟩)) rfl (by kernel_rfl) (fun _ => by kernel_rfl) ?_
  refine told_pure (some 24) (.pointer (some ⟨b, 3, none⟩)) rfl (by kernel_rfl) (fun _ => by kernel_rfl) ?_
  refine told_load (some 25) ⟨b, 3, none⟩ (.pointer (some ⟨b2, 0, none⟩)) rfl (by kernel_rfl) (fun _ => by kernel_rfl) (fun _ hS => atB hS c3) ?_
  refine told_pure (some 26) (.pointer (some ⟨b2, 0, none⟩)) rfl (by kernel_rfl) (fun _ => by kernel_rfl) ?_
  refine told_pure (some 27) (.pointer (some ⟨b2, 0, none⟩)) rfl (by kernel_rfl) (fun _ => by kernel_rfl) ?_
  refine told_load (some 28) ⟨b2, 0, none⟩ (.int .i64 t2) rfl (by kernel_rfl) (fun _ => by kernel_rfl) (fun _ hS => atB hS d0) ?_
  refine told_pure (some 29) (.agg #[.int .i64 t, .int .i64 t2]) rfl (by kernel_rfl) (fun _ => by kernel_rfl) ?_
  refine told_call (some 30) (.int .i64 i) 88 #[.slice mp M.length mc, .agg #[.int .i64 t, .int .i64 t2]] rfl (by kernel_rfl) (fun _ => by kernel_rfl) (fun W hS => below_S (placeI_c M _ t t2 i HI.out W HN.out (HR.out.keep hS (Nat.le_refl _))) hS) ?_
  refine told_pure (some 4) (.int .i64 i) rfl (by kernel_rfl) (fun _ => by kernel_rfl) ?_
  refine told_nil ?_
  intro W2 hS2
  simp only [Act.put, List.setIfInBounds_toArray, List.set_cons_zero, List.set_cons_succ]
  have HB : Hid (Below w.heap.size w W2) := hS2
  clear hS2 c0 c1 c2 c3 d0 hm0
  go_wp2
  go_ret
  exact ⟨rfl, HB.out⟩

/-- What a symbol and the one behind it merge by, of a row in memory: -1 where none. -/
def RkAt (M : List S_Pair) (l : List Sy) (i : Nat) (y : Sy) (r : Int) : Prop := match l[i + 1]? with
  | some z => IsFst M y.tok z.tok r
  | none => r = -1

theorem rkAt_ex (M : List S_Pair) (l : List Sy) (i : Nat) (y : Sy) : ∃ r, RkAt M l i y r := by
  unfold RkAt
  rcases l[i + 1]? with _ | z
  · exact ⟨_, rfl⟩
  · exact isFst_ex M _ _

theorem rank_live {w : World} {R B : Nat} {mp : Option Addr} {mc : Nat} {M : List S_Pair} {l : List Sy} {X : List Jt} {p : Option Addr} {n c : Nat} {C : Nat → Prop} (S : RowS w R B mp mc M l X p n c C) (hn : M.length ≤ 1048576) {i : Nat} {y : Sy} {r : Int} (hy : l[i]? = some y) (hr : RkAt M l i y r) : Calls Try.prog 75 #[.pointer (some ⟨R, 0, none⟩), .pointer (some ⟨y.b, 0, none⟩)] w fun e w' => e = .returned (.int .i64 r) ∧ Below w.heap.size w w' := by
  unfold RkAt at hr
  have h := S.live i y hy
  rcases hz : l[i + 1]? with _ | z
  · rw [hz] at hr h
    have hr' : r = -1 := hr
    subst hr'
    exact (rank_last R y.b w _ _ _ h).mono fun e w' ⟨he, hw⟩ => ⟨he, by rw [hw]; exact Below.refl _ _⟩
  · rw [hz] at hr h
    exact rank_two R y.b z.b w M mp mc _ _ _ r _ _ _ _ hr hn S.mrow S.q.cells.1 h (S.live _ z hz)

/-- The cover, with one place more. -/
theorem cov_more {M : List S_Pair} {l : List Sy} {X Y : List Jt} {C : Nat → Prop} {i : Nat} {y : Sy} {r : Int} (hc : ∀ (i : Nat) (y z : Sy) (r : Int), C i → l[i]? = some y → l[i + 1]? = some z → 0 ≤ r → IsFst M y.tok z.tok r → ⟨r, y.b, y.pl⟩ ∈ X) (hy : l[i]? = some y) (hr : RkAt M l i y r) (hX : ∀ x ∈ X, x ∈ Y) (hm : 0 ≤ r → ⟨r, y.b, y.pl⟩ ∈ Y) :
    ∀ (j : Nat) (v z : Sy) (s : Int), (C j ∨ j = i) → l[j]? = some v → l[j + 1]? = some z → 0 ≤ s → IsFst M v.tok z.tok s → ⟨s, v.b, v.pl⟩ ∈ Y := by
  intro j v z s hj hv hz hs hf
  rcases hj with hj | rfl
  · exact hX _ (hc j v z s hj hv hz hs hf)
  · rw [hy] at hv; cases hv
    unfold RkAt at hr
    rw [hz] at hr
    obtain rfl := isFst_one hf hr
    exact hm hs

set_option maxRecDepth 20000 in
set_option maxHeartbeats 4000000 in
theorem offer_c {w : World} {R B : Nat} {mp : Option Addr} {mc : Nat} {M : List S_Pair} {l : List Sy} {X : List Jt} {p : Option Addr} {n c : Nat} {C : Nat → Prop} (S : RowS w R B mp mc M l X p n c C) (hM : M.length ≤ 1048576) (hn : n + 1 ≤ 4000) (hB : B ≤ w.heap.size) {i : Nat} {y : Sy} (hy : l[i]? = some y) :
    Calls Try.prog 73 #[.pointer (some ⟨R, 0, none⟩), .pointer (some ⟨y.b, 0, none⟩)] w fun e w' => e = .returned (.tuple #[]) ∧ ∃ X' p' n' c', RowS w' R B mp mc M l X' p' n' c' (fun j => C j ∨ j = i) ∧ n' ≤ n + 1 ∧ Fr8 R (.slice p n c) w w' := by
  have HS : Hid (RowS w R B mp mc M l X p n c C) := S
  have HY : Hid (l[i]? = some y) := hy
  have HM : Hid (M.length ≤ 1048576) := hM
  obtain ⟨r, hr⟩ := rkAt_ex M l i y
  have HR : Hid (RkAt M l i y r) := hr
  clear S hy hM hr
  go_enter Try.func73, Try.ntmps73
  go_wp2_with fail
  refine (rank_live HS.out HM.out HY.out HR.out).mono ?_
  rintro e w1 ⟨rfl, b1⟩
  have HB1 : Hid (Below w.heap.size w w1) := b1
  have HS1 : Hid (RowS w1 R B mp mc M l X p n c C) := HS.out.bel b1
  clear b1
  by_cases h0 : 0 ≤ r
  · go_wp2_with fail
    refine (push_c X ⟨r, y.b, y.pl⟩ w1 R B (.slice mp M.length mc) (ptrO l[0]?) p n c hn HS1.out.q HS1.out.hp ⟨_, _, _, HS1.out.live i y HY.out⟩ (Nat.le_trans hB HB1.out.size)).mono ?_
    rintro e w2 ⟨rfl, Y, p', c', hq, hk, hm, hf, _⟩
    have HF : Hid (Fr8 R (.slice p n c) w w2) := (Fr8.of_bel HB1.out).trans (Nxt8.refl _ _) hf
    have HE : Hid (RowS w2 R B mp mc M l Y p' (n + 1) c' (fun j => C j ∨ j = i)) := HS1.out.fr hf (Nat.le_trans hB HB1.out.size) hq hk (fun z hz => by
      rcases (hm z).1 hz with h | h
      · exact HS1.out.jok z h
      · rw [h]; exact ⟨h0, .inl ⟨i, y, HY.out, rfl, rfl⟩⟩) (cov_more HS1.out.cov HY.out HR.out (fun x hx => (hm x).2 (.inl hx)) (fun _ => (hm _).2 (.inr rfl)))
    clear hq hk hm hf
    go_wp2
    go_end0
    exact ⟨rfl, Y, p', n + 1, c', HE.out, Nat.le_refl _, HF.out⟩
  · have HE : Hid (RowS w1 R B mp mc M l X p n c (fun j => C j ∨ j = i)) := ⟨HS1.out.q, HS1.out.live, HS1.out.mono, HS1.out.hp, HS1.out.jok, cov_more HS1.out.cov HY.out HR.out (fun x hx => hx) (fun h => absurd h h0), HS1.out.mrow, HS1.out.bR, HS1.out.bl, HS1.out.bm⟩
    go_wp2
    go_end0
    exact ⟨rfl, X, p, n, c, HE.out, Nat.le_succ _, Fr8.of_bel HB1.out⟩

theorem offer_nil (R : Nat) (w : World) : Calls Try.prog 73 #[.pointer (some ⟨R, 0, none⟩), .pointer none] w fun e w' => e = .returned (.tuple #[]) ∧ w' = w := by
  go_enter Try.func73, Try.ntmps73
  go_wp2_with fail
  refine (rank_nil R w).mono ?_
  rintro e wz ⟨rfl, hw⟩
  replace hw := hw.symm
  subst hw
  go_wp2
  go_end0
  exact ⟨rfl, rfl⟩

end Go.Proofs.Ytdggkcohidijcaa
