/- The text of a vocabulary. -/
import Derived.Test.YtdhbhifgmbppjaaDoorVcOk
import Derived.Test.YtdhbhifgmbppjaaDoorVarWalk
namespace Go.Proofs.YtdhbhifgmbppjaaDoor
open Go.RowKit
set_option linter.unusedVariables false
set_option linter.unusedSimpArgs false

def vrV (n : Int) : ByteArray := strOfNums (varL n)

theorem vrV_size (n : Int) (h : n < 16384) : (vrV n).size ≤ 2 := by
  unfold vrV
  rw [strOfNums_size]
  by_cases a : 128 ≤ n
  · rw [varL_more n a, varL_last _ (by omega)]; simp
  · rw [varL_last n (by omega)]; simp

theorem svarV (n : Int) (w : World) (h0 : 0 ≤ n) (h1 : n ≤ 400) : Calls Tryd.prog 47 #[.int .i64 n] w fun e w' => e = .returned (.string (vrV n)) ∧ Below w.heap.size w w' := specVar_yes n w h0 (by omega)

theorem ivarV (n : Int) (w : World) (h0 : 0 ≤ n) (h1 : n ≤ 400) : Calls Tryd.prog 19 #[.int .i64 n] w fun e w' => e = .returned (.string (vrV n)) ∧ Below w.heap.size w w' := implVar_yes n w h0 (by omega)

/-- The text of the first k merges. -/
def canP (L : List S_Pair) : Nat → ByteArray
  | 0 => (⟨#[98, 112, 101]⟩ : ByteArray) ++ vrV L.length
  | k + 1 => match L[k]? with
    | some p => canP L k ++ vrV p.f0 ++ vrV p.f1
    | none => canP L k

def canT (L : List S_Pair) : ByteArray := if okV L then canP L L.length else ⟨#[]⟩

theorem canP_at (L : List S_Pair) (k : Nat) (h : k < L.length) : canP L (k + 1) = canP L k ++ vrV L[k].f0 ++ vrV L[k].f1 := by
  show (match L[k]? with
    | some p => canP L k ++ vrV p.f0 ++ vrV p.f1
    | none => canP L k) = _
  rw [List.getElem?_eq_getElem h]

theorem tab_range {L : List S_Pair} : ∀ {m : Nat} {t : List ByteArray}, tabK L m = some t → ∀ k, k < m → ∀ h : k < L.length, (0 ≤ L[k].f0 ∧ L[k].f0 ≤ 255 + (k : Int)) ∧ (0 ≤ L[k].f1 ∧ L[k].f1 ≤ 255 + (k : Int))
  | 0, _, _, k, hk, _ => absurd hk (by omega)
  | m + 1, t, h, k, hk, hL => by
    obtain ⟨t0, p, h0, hp, ho, rfl⟩ := tab_inv h
    rcases Nat.lt_succ_iff_lt_or_eq.1 hk with h1 | h1
    · exact tab_range h0 k h1 hL
    · subst h1
      rw [List.getElem?_eq_getElem hL, Option.some.injEq] at hp
      subst hp
      have a := ho.1
      have b := ho.2.1
      unfold inV at a b
      rw [tab_len h0] at a b
      exact ⟨a, b⟩

theorem okV_range {L : List S_Pair} (h : okV L) (k : Nat) (hk : k < L.length) : (0 ≤ L[k].f0 ∧ L[k].f0 ≤ 400) ∧ (0 ≤ L[k].f1 ∧ L[k].f1 ≤ 400) := by
  have hl := okV_len h
  unfold okV at h
  obtain ⟨t, ht⟩ := Option.isSome_iff_exists.1 h
  have := tab_range (tabV_some ht).2 k hk hk
  omega

theorem canP_size {L : List S_Pair} (h : okV L) : ∀ k, k ≤ L.length → (canP L k).size ≤ 5 + 4 * k
  | 0, _ => by
    have := vrV_size L.length (by have := okV_len h; omega)
    show ((⟨#[98, 112, 101]⟩ : ByteArray) ++ vrV L.length).size ≤ _
    rw [ByteArray.size_append]
    have e : (⟨#[98, 112, 101]⟩ : ByteArray).size = 3 := rfl
    omega
  | k + 1, hk => by
    have ih := canP_size h k (by omega)
    have r := okV_range h k (by omega)
    have a := vrV_size L[k].f0 (by omega)
    have b := vrV_size L[k].f1 (by omega)
    rw [canP_at L k (by omega), ByteArray.size_append, ByteArray.size_append]
    omega

theorem canT_size (L : List S_Pair) : (canT L).size ≤ 250 := by
  unfold canT
  split
  · rename_i h
    have a := canP_size h L.length (Nat.le_refl _)
    have b := okV_len h
    omega
  · exact Nat.zero_le _

theorem canP_pos (L : List S_Pair) : ∀ k, 3 ≤ (canP L k).size
  | 0 => by
    show 3 ≤ ((⟨#[98, 112, 101]⟩ : ByteArray) ++ vrV L.length).size
    rw [ByteArray.size_append]
    exact Nat.le_add_right 3 _
  | k + 1 => by
    have ih := canP_pos L k
    show 3 ≤ (match L[k]? with
      | some p => canP L k ++ vrV p.f0 ++ vrV p.f1
      | none => canP L k).size
    split
    · rw [ByteArray.size_append, ByteArray.size_append]; omega
    · exact ih

theorem canT_pos {L : List S_Pair} (h : okV L) : 0 < (canT L).size := by
  unfold canT
  rw [if_pos h]
  have := canP_pos L L.length
  omega

end Go.Proofs.YtdhbhifgmbppjaaDoor
