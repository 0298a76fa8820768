/- A heap of joints; no program is named here. -/
import Derived.Test.YtdggkcohidijcaaT8Math
namespace Go.Proofs.Ytdggkcohidijcaa
open Go.RowKit
set_option linter.unusedVariables false

/-- A joint: its number, the block of its symbol, that one's place. -/
structure Jt where
  r : Int
  b : Nat
  a : Int

def ltJ (x y : Jt) : Prop := x.r < y.r ∨ (x.r = y.r ∧ x.a < y.a)
instance (x y : Jt) : Decidable (ltJ x y) := by unfold ltJ; infer_instance
def leJ (x y : Jt) : Prop := ¬ ltJ y x

theorem leJ_iff (x y : Jt) : leJ x y ↔ x.r < y.r ∨ (x.r = y.r ∧ x.a ≤ y.a) := by
  unfold leJ ltJ
  omega

theorem leJ_refl (x : Jt) : leJ x x := by rw [leJ_iff]; omega
theorem leJ_lt {x y : Jt} (h : ltJ x y) : leJ x y := by rw [leJ_iff]; unfold ltJ at h; omega
theorem leJ_trans {x y z : Jt} (h : leJ x y) (k : leJ y z) : leJ x z := by rw [leJ_iff] at *; omega

/-- No item is less than the one above it. -/
def HpOk (X : List Jt) : Prop := ∀ i x y, 0 < i → X[i]? = some x → X[(i - 1) / 2]? = some y → leJ y x

def UpI (X : List Jt) (c : Nat) : Prop :=
  (∀ i x y, 0 < i → i ≠ c → X[i]? = some x → X[(i - 1) / 2]? = some y → leJ y x) ∧
  (∀ i x y, 0 < i → (i - 1) / 2 = c → 0 < c → X[i]? = some x → X[(c - 1) / 2]? = some y → leJ y x)

def DnI (X : List Jt) (c : Nat) : Prop :=
  (∀ i x y, 0 < i → (i - 1) / 2 ≠ c → X[i]? = some x → X[(i - 1) / 2]? = some y → leJ y x) ∧
  (∀ i x y, 0 < i → (i - 1) / 2 = c → 0 < c → X[i]? = some x → X[(c - 1) / 2]? = some y → leJ y x)

/-- Two items have changed places. -/
def Swp (X Y : List Jt) (i j : Nat) : Prop := Y.length = X.length ∧ ∀ k, Y[k]? = if k = j then X[i]? else if k = i then X[j]? else X[k]?

theorem Swp.mem {X Y : List Jt} {i j : Nat} (h : Swp X Y i j) (hi : i < X.length) (hj : j < X.length) (y : Jt) : y ∈ Y ↔ y ∈ X := by
  rw [List.mem_iff_getElem?, List.mem_iff_getElem?]
  constructor
  · rintro ⟨k, hk⟩
    rw [h.2] at hk
    by_cases h1 : k = j
    · rw [if_pos h1] at hk; exact ⟨_, hk⟩
    · rw [if_neg h1] at hk
      by_cases h2 : k = i
      · rw [if_pos h2] at hk; exact ⟨_, hk⟩
      · rw [if_neg h2] at hk; exact ⟨_, hk⟩
  · rintro ⟨k, hk⟩
    by_cases h1 : k = i
    · exact ⟨j, by rw [h.2, if_pos rfl, ← h1]; exact hk⟩
    · by_cases h2 : k = j
      · refine ⟨i, ?_⟩
        rw [h.2]
        by_cases h3 : i = j
        · exact absurd (h2.trans h3.symm) h1
        · rw [if_neg h3, if_pos rfl, ← h2]; exact hk
      · exact ⟨k, by rw [h.2, if_neg h2, if_neg h1]; exact hk⟩

theorem swp_set {X : List Jt} {i j : Nat} {x y : Jt} (hx : X[i]? = some x) (hy : X[j]? = some y) : Swp X ((X.set i y).set j x) i j := by
  have hi := (List.getElem?_eq_some_iff.1 hx).1
  have hj := (List.getElem?_eq_some_iff.1 hy).1
  refine ⟨by simp, fun k => ?_⟩
  by_cases h1 : k = j
  · subst h1
    rw [if_pos rfl, hx, List.getElem?_set_self (by simpa using hj)]
  · rw [if_neg h1, List.getElem?_set_ne (Ne.symm h1)]
    by_cases h2 : k = i
    · subst h2
      rw [if_pos rfl, hy, List.getElem?_set_self hi]
    · rw [if_neg h2, List.getElem?_set_ne (Ne.symm h2)]

theorem up_step {X Y : List Jt} {c : Nat} {xc xp : Jt} (hc0 : 0 < c) (hxc : X[c]? = some xc) (hxp : X[(c - 1) / 2]? = some xp) (hlt : ltJ xc xp)
    (hS : Swp X Y c ((c - 1) / 2)) (h : UpI X c) : UpI Y ((c - 1) / 2) := by
  obtain ⟨p, hp⟩ : ∃ p, (c - 1) / 2 = p := ⟨_, rfl⟩
  have hpc : p < c := by omega
  have hY := hS.2
  rw [hp] at hxp hY ⊢
  refine ⟨fun i x y hi hne hx hy => ?_, fun i x y hi hpi hp0 hx hy => ?_⟩
  · rw [hY, if_neg hne] at hx
    rw [hY] at hy
    by_cases hic : i = c
    · rw [if_pos hic, hxp] at hx
      rw [if_pos (by rw [hic]; exact hp), hxc] at hy
      cases hx; cases hy
      exact leJ_lt hlt
    · rw [if_neg hic] at hx
      by_cases hq : (i - 1) / 2 = p
      · rw [if_pos hq, hxc] at hy; cases hy
        exact leJ_trans (leJ_lt hlt) (h.1 i x xp hi hic hx (by rw [hq]; exact hxp))
      · rw [if_neg hq] at hy
        by_cases hqc : (i - 1) / 2 = c
        · rw [if_pos hqc, hxp] at hy; cases hy
          exact h.2 i x xp hi hqc hc0 hx (by rw [hp]; exact hxp)
        · rw [if_neg hqc] at hy
          exact h.1 i x y hi hic hx hy
  · have hip : i ≠ p := by omega
    have hpp : (p - 1) / 2 ≠ p := by omega
    have hppc : (p - 1) / 2 ≠ c := by omega
    rw [hY, if_neg hpp, if_neg hppc] at hy
    have h1 : leJ y xp := h.1 p xp y hp0 (by omega) hxp hy
    rw [hY, if_neg hip] at hx
    by_cases hic : i = c
    · rw [if_pos hic, hxp] at hx; cases hx; exact h1
    · rw [if_neg hic] at hx
      exact leJ_trans h1 (h.1 i x xp hi hic hx (by rw [hpi]; exact hxp))

theorem up_top {X : List Jt} (h : UpI X 0) : HpOk X := fun i x y hi hx hy => h.1 i x y hi (by omega) hx hy

theorem up_done {X : List Jt} {c : Nat} {xc xp : Jt} (hxc : X[c]? = some xc) (hxp : X[(c - 1) / 2]? = some xp) (hlt : ¬ ltJ xc xp) (h : UpI X c) : HpOk X := fun i x y hi hx hy => by
  by_cases hic : i = c
  · subst hic
    rw [hxc] at hx; rw [hxp] at hy
    cases hx; cases hy
    exact hlt
  · exact h.1 i x y hi hic hx hy

theorem up_start {X : List Jt} (z : Jt) (h : HpOk X) : UpI (X ++ [z]) X.length := by
  have key : ∀ i x, i ≠ X.length → (X ++ [z])[i]? = some x → X[i]? = some x := by
    intro i x hne hx
    have hi := (List.getElem?_eq_some_iff.1 hx).1
    rw [List.length_append, List.length_singleton] at hi
    rwa [List.getElem?_append_left (by omega)] at hx
  refine ⟨fun i x y hi hne hx hy => ?_, fun i x y hi hpi h0 hx hy => ?_⟩
  · have hx' := key i x hne hx
    have hil := (List.getElem?_eq_some_iff.1 hx').1
    exact h i x y hi hx' (key _ y (by omega) hy)
  · have hil := (List.getElem?_eq_some_iff.1 hx).1
    rw [List.length_append, List.length_singleton] at hil
    omega

theorem dn_step {X Y : List Jt} {c m : Nat} {xc xm : Jt} (hm0 : 0 < m) (hmc : (m - 1) / 2 = c) (hxc : X[c]? = some xc) (hxm : X[m]? = some xm) (hlt : ltJ xm xc)
    (hmin : ∀ i x, 0 < i → (i - 1) / 2 = c → X[i]? = some x → leJ xm x) (hS : Swp X Y c m) (h : DnI X c) : DnI Y m := by
  have hcm : c < m := by omega
  have hY := hS.2
  refine ⟨fun i x y hi hne hx hy => ?_, fun i x y hi hpi _ hx hy => ?_⟩
  · rw [hY, if_neg hne] at hy
    rw [hY] at hx
    by_cases hqc : (i - 1) / 2 = c
    · rw [if_pos hqc, hxm] at hy; cases hy
      by_cases him : i = m
      · rw [if_pos him, hxc] at hx; cases hx
        exact leJ_lt hlt
      · rw [if_neg him, if_neg (by omega)] at hx
        exact hmin i x hi hqc hx
    · rw [if_neg hqc] at hy
      have him : i ≠ m := fun e => hqc (by rw [e]; exact hmc)
      rw [if_neg him] at hx
      by_cases hic : i = c
      · rw [if_pos hic, hxm] at hx; cases hx
        exact h.2 m xm y hm0 hmc (by omega) hxm (by rw [← hic]; exact hy)
      · rw [if_neg hic] at hx
        exact h.1 i x y hi hqc hx hy
  · have him : i ≠ m := by omega
    have hic : i ≠ c := by omega
    rw [hY, if_neg him, if_neg hic] at hx
    rw [hmc, hY, if_neg (by omega), if_pos rfl, hxm] at hy
    cases hy
    exact h.1 i x xm hi (by omega) hx (by rw [hpi]; exact hxm)

theorem dn_done {X : List Jt} {c : Nat} {xc : Jt} (hxc : X[c]? = some xc) (hk : ∀ i x, 0 < i → (i - 1) / 2 = c → X[i]? = some x → leJ xc x) (h : DnI X c) : HpOk X := fun i x y hi hx hy => by
  by_cases hqc : (i - 1) / 2 = c
  · rw [hqc, hxc] at hy; cases hy
    exact hk i x hi hqc hx
  · exact h.1 i x y hi hqc hx hy

theorem dn_none {X : List Jt} {c : Nat} (hc : X.length ≤ 2 * c + 1) (h : DnI X c) : HpOk X := fun i x y hi hx hy => by
  have hil := (List.getElem?_eq_some_iff.1 hx).1
  exact h.1 i x y hi (by omega) hx hy

theorem dn_start {X Y : List Jt} {n : Nat} (hn : X.length = n + 1) (hS : Swp X Y 0 n) (h : HpOk X) : DnI (Y.take n) 0 := by
  have key : ∀ i x, 0 < i → (Y.take n)[i]? = some x → X[i]? = some x := by
    intro i x hi hx
    have hil := (List.getElem?_eq_some_iff.1 hx).1
    rw [List.length_take] at hil
    rw [List.getElem?_take_of_lt (by omega), hS.2, if_neg (by omega), if_neg (by omega)] at hx
    exact hx
  refine ⟨fun i x y hi hne hx hy => ?_, fun i x y _ _ h0 => absurd h0 (by omega)⟩
  exact h i x y hi (key i x hi hx) (key _ y (by omega) hy)

theorem hp_min {X : List Jt} (h : HpOk X) {x0 : Jt} (h0 : X[0]? = some x0) : ∀ (i : Nat) (x : Jt), X[i]? = some x → leJ x0 x := by
  intro i
  induction i using Nat.strongRecOn with
  | _ i ih =>
    intro x hx
    rcases Nat.eq_zero_or_pos i with h1 | h1
    · subst h1
      rw [h0] at hx; cases hx
      exact leJ_refl _
    · have hil := (List.getElem?_eq_some_iff.1 hx).1
      have hq : (i - 1) / 2 < X.length := by omega
      exact leJ_trans (ih _ (by omega) _ (List.getElem?_eq_getElem hq)) (h i x _ h1 hx (List.getElem?_eq_getElem hq))

theorem pop_mem {X Y : List Jt} {n : Nat} {x0 : Jt} (hn : X.length = n + 1) (h0 : X[0]? = some x0) (hS : Swp X Y 0 n) : (∀ y, y ∈ Y.take n → y ∈ X) ∧ ∀ y, y ∈ X → y = x0 ∨ y ∈ Y.take n := by
  have hm := hS.mem (by omega) (by omega)
  refine ⟨fun y hy => (hm y).1 (List.mem_of_mem_take hy), fun y hy => ?_⟩
  obtain ⟨k, hk⟩ := List.mem_iff_getElem?.1 ((hm y).2 hy)
  have hkl := (List.getElem?_eq_some_iff.1 hk).1
  rw [hS.1] at hkl
  by_cases h1 : k = n
  · rw [hS.2, if_pos h1, h0] at hk
    cases hk
    exact .inl rfl
  · exact .inr (List.mem_iff_getElem?.2 ⟨k, by rw [List.getElem?_take_of_lt (by omega)]; exact hk⟩)

/-- The cells of a joint, and of a row of them. -/
def cJ (x : Jt) : List Value := [.int .i64 x.r, .pointer (some ⟨x.b, 0, none⟩)]
def rJ (X : List Jt) : List Value := X.flatMap cJ
theorem cJ_len (x : Jt) : (cJ x).length = 2 := rfl
theorem rJ_len (X : List Jt) : (rJ X).length = X.length * 2 := flat_length cJ 2 cJ_len X
theorem rJ_at {X : List Jt} {k : Nat} {x : Jt} (h : X[k]? = some x) (q : Nat) (hq : q < 2) : (rJ X)[k * 2 + q]? = (cJ x)[q]? := by
  obtain ⟨hk, rfl⟩ := List.getElem?_eq_some_iff.1 h
  exact flat_at cJ 2 cJ_len X k q hk hq

theorem rJ_set (x : Jt) : ∀ (X : List Jt) (i : Nat), i < X.length → rJ (X.set i x) = setN (rJ X) (i * 2) (cJ x)
  | y :: X, 0, _ => by
    show rJ (x :: X) = _
    simp [rJ, cJ, setN, List.flatMap_cons]
  | y :: X, i + 1, h => by
    have ih := rJ_set x X i (by simpa using h)
    show rJ (y :: X.set i x) = _
    have e1 : rJ (y :: X.set i x) = cJ y ++ rJ (X.set i x) := rfl
    have e2 : rJ (y :: X) = cJ y ++ rJ X := rfl
    rw [e1, e2, ih]
    have e3 : (i + 1) * 2 = i * 2 + 1 + 1 := by omega
    rw [e3]
    rfl

theorem rJ_one (X : List Jt) (x : Jt) : rJ (X ++ [x]) = rJ X ++ cJ x := by unfold rJ; rw [List.flatMap_append]; simp

theorem rJ_take (X : List Jt) (n : Nat) (h : n ≤ X.length) : rJ (X.take n) = (rJ X).take (n * 2) := by
  have e : rJ X = rJ (X.take n) ++ rJ (X.drop n) := by unfold rJ; rw [← List.flatMap_append, List.take_append_drop]
  have h1 : (rJ (X.take n)).length = n * 2 := by rw [rJ_len, List.length_take]; omega
  rw [e]
  exact (List.take_left' h1).symm

end Go.Proofs.Ytdggkcohidijcaa
