/- What Encode answers. -/
import Derived.Test.YtdggkcohidijcaaC9Math
import Derived.Test.YtdggkcohidijcaaM8Bpe
import Derived.Test.YtdggkcohidijcaaHaInts
import Derived.Test.YtdggkcohidijcaaStWalk
import Derived.Test.YtdggkcohidijcaaT8Ends
namespace Go.Proofs.Ytdggkcohidijcaa
open Go.RowKit
set_option linter.unusedVariables false
set_option linter.unusedSimpArgs false

/-- What the words of a text merge to, the first i of them. -/
def enW (L : List S_Pair) (W : List ByteArray) (i : Nat) : List Int := (W.take i).flatMap (bpF L)

theorem enW_more (L : List S_Pair) (W : List ByteArray) (i : Nat) (h : i < W.length) : enW L W (i + 1) = enW L W i ++ bpF L W[i] := by
  unfold enW
  rw [List.take_add_one, List.getElem?_eq_getElem h, List.flatMap_append]
  simp

theorem bpF_len2 (L : List S_Pair) (s : ByteArray) : (bpF L s).length ≤ s.size := by
  unfold bpF
  split
  · have := bpeN_len L (bpI s).length (bpI s)
    rw [bpI_len] at this
    show (bpeN L (bpI s).length (bpI s)).length ≤ _
    rw [bpI_len]
    exact this
  · exact Nat.zero_le _

theorem cutA_sum (L : List S_Pair) (s : ByteArray) : ∀ (f a : Nat), s.size - a ≤ f → ((cutA s a).flatMap (bpF L)).length ≤ s.size - a
  | 0, a, h => by rw [cutA_end s a (by omega)]; exact Nat.zero_le _
  | f + 1, a, h => by
    by_cases hlt : a < s.size
    · have hin := neE_in hlt
      have h1 := cutA_sum L s f (neE s a) (by omega)
      have h2 := bpF_len2 L (s.extract a (neE s a))
      rw [size_rest s a _ hin.2.1] at h2
      rw [cutA_more s a hlt, List.flatMap_cons, List.length_append]
      omega
    · rw [cutA_end s a (by omega)]; exact Nat.zero_le _

theorem enW_le (L : List S_Pair) (s : ByteArray) (i : Nat) : (enW L (cutF s) i).length ≤ 1000 := by
  have h0 : ((cutF s).flatMap (bpF L)).length ≤ 1000 := by
    unfold cutF
    split
    · have := cutA_sum L s _ 0 (Nat.le_refl _); omega
    · exact Nat.zero_le _
  have h1 : ((cutF s).flatMap (bpF L)) = enW L (cutF s) i ++ ((cutF s).drop i).flatMap (bpF L) := by
    unfold enW
    rw [← List.flatMap_append, List.take_append_drop]
  rw [h1, List.length_append] at h0
  omega

/-- What Encode answers. -/
def encF (L : List S_Pair) (s : ByteArray) : List Int := if okV L ∧ s.size ≤ 1000 then enW L (cutF s) (cutF s).length else []
def enC (L : List S_Pair) (s : ByteArray) : Int := if okV L then (if s.size ≤ 1000 then 0 else 2) else 1
theorem encF_len (L : List S_Pair) (s : ByteArray) : (encF L s).length ≤ 1000 := by
  unfold encF
  split
  · exact enW_le L s _
  · exact Nat.zero_le _
theorem encF_yes {L : List S_Pair} {s : ByteArray} (h : okV L) (h2 : s.size ≤ 1000) : encF L s = enW L (cutF s) (cutF s).length ∧ enC L s = 0 := by
  unfold encF enC
  rw [if_pos ⟨h, h2⟩, if_pos h, if_pos h2]
  exact ⟨rfl, rfl⟩
theorem encF_bad {L : List S_Pair} {s : ByteArray} (h : ¬ okV L) : encF L s = [] ∧ enC L s = 1 := by
  unfold encF enC
  rw [if_neg (fun g => h g.1), if_neg h]
  exact ⟨rfl, rfl⟩
theorem encF_large {L : List S_Pair} {s : ByteArray} (h : okV L) (h2 : ¬ s.size ≤ 1000) : encF L s = [] ∧ enC L s = 2 := by
  unfold encF enC
  rw [if_neg (fun g => h2 g.2), if_pos h, if_neg h2]
  exact ⟨rfl, rfl⟩

theorem ownS_cells {w : World} {base : Nat} {q : Option Addr} {n c : Nat} {W : List ByteArray} (h : w.ownsRow base 9 1 (.slice q n c) n (W.map Value.string)) (hn : 0 < n) (hl : W.length = n) : ∃ g, q = some ⟨g, 0, none⟩ ∧ g < w.heap.size ∧ ∀ j (hj : j < W.length), w.cell? ⟨g, j, none⟩ = some (.string W[j]) := by
  have h' := h
  obtain ⟨h1, ⟨hv, h2⟩ | ⟨g, cap, cur, hv, hg, hh, _⟩⟩ := h'
  · omega
  · simp only [Value.slice.injEq] at hv
    obtain ⟨rfl, _, rfl⟩ := hv
    exact ⟨g, rfl, lt_of_some hh, fun j hj => by rw [World.ownsRow.cellAt h j (by omega)]; rw [List.getElem?_map, List.getElem?_eq_getElem hj]; rfl⟩

theorem rows_apartE {w : World} {B1 B2 : Nat} {e1 e2 : TypeId} {v1 v2 : Value} {n1 n2 : Nat} {x1 x2 : List Value} (h1 : w.ownsRow B1 e1 1 v1 n1 x1) (h2 : w.ownsRow B2 e2 1 v2 n2 x2) (he : e1 ≠ e2) : v1.ownBlock = none ∨ v1.ownBlock ≠ v2.ownBlock := by
  obtain ⟨_, ⟨rfl, _⟩ | ⟨g, c, cur, rfl, _, hh, _⟩⟩ := h1
  · exact Or.inl rfl
  · right
    obtain ⟨_, ⟨rfl, _⟩ | ⟨g2, c2, cur2, rfl, _, hh2, _⟩⟩ := h2
    · simp [Value.ownBlock]
    · intro e
      simp only [Value.ownBlock, Option.some.injEq] at e
      rw [e, hh2] at hh
      simp only [Option.some.injEq, Obj.cells.injEq] at hh
      exact he hh.2.1.symm

theorem bel_undrewE {B : Nat} {w w' : World} (h : Below B w.drew w') : Below B w w' := ⟨h.os, h.tape, h.output, h.size, h.block⟩
theorem cell1E {w : World} {b : Nat} {v : Value} (h : w.cell? ⟨b, 0, none⟩ = some v) : ∀ j u, ([v] : List Value)[j]? = some u → w.cell? ((⟨b, 0, none⟩ : Addr).add j) = some u := fun j u hu => by
  cases j with
  | zero => simp at hu; subst hu; simpa [Addr.add] using h
  | succ j => simp at hu

theorem app_intsG {w : World} {base : Nat} {v : Value} {xs T : List Int} {p : Option Addr} {n m c : Nat} (hn : xs.length = n) (hm : T.length = m) (ho : w.ownsRow base 3 1 v n (rI xs)) (hr : RowR w (.slice p m c) m 1 (rI T)) (hb : base ≤ w.heap.size) (hl : n + m ≤ 1000000) :
    ∃ v' c' w', (Builtin.append_ #[29, 29] 29 #[v, .slice p m c]).run Try.prog w = .ok (.slice v' (n + m) c') w' ∧ w'.ownsRow base 3 1 (.slice v' (n + m) c') (n + m) (rI (xs ++ T)) ∧ Below base w w' ∧ w.grownBy w' v.ownBlock := by
  obtain ⟨i0, hi, hz0, hz1, hz2⟩ := info_parts infoInt
  have hrI : rI (xs ++ T) = rI xs ++ rI T := by unfold rI; rw [List.map_append]
  have hbl : ∀ k, v.ownBlock = some k → base ≤ k := fun k hk => (ho.lt k hk).1
  rcases Nat.eq_zero_or_pos m with h0 | h0
  · subst h0
    have hT : T = [] := List.eq_nil_of_length_eq_zero hm
    subst hT
    cases p with
    | none =>
      have hrun := run_append_owned_none (P := Try.prog) (w := w) base 29 29 3 i0 1 Try.underlying29 hi v n (rI xs) ho
      obtain ⟨q, d, rfl⟩ := own_sliceV ho
      have hc : c = c := rfl
      refine ⟨q, d, w, ?_, ?_, Below.refl _ _, World.grownBy.refl _ _⟩
      · exact hrun
      · rw [List.append_nil]; exact ho
    | some a =>
      obtain ⟨v', w', hrun, hown, hgrow, _⟩ := run_append_own (P := Try.prog) w base 29 29 3 i0 (.int .i64 0) 1 8 Try.underlying29 hi hz0 hz1 hz2 rfl (by decide) v n (rI xs) ho a 0 c [] rfl (fun j u hj => by simp at hj) (fun u hu => by cases hu) (by unfold maxLen; omega) (by omega) hb
      obtain ⟨q, d, rfl⟩ := own_sliceV hown
      refine ⟨q, d, w', hrun, by rw [List.append_nil]; simpa using hown, (Below.refl _ _).grown hgrow hb (fun k hk => hbl k hk), hgrow⟩
  · obtain ⟨b, off, c2, hv, hlt, hc⟩ := hr.some h0 (by decide)
    simp only [Value.slice.injEq, true_and] at hv
    obtain ⟨rfl, rfl⟩ := hv
    obtain ⟨v', w', hrun, hown, hgrow, _⟩ := run_append_own (P := Try.prog) w base 29 29 3 i0 (.int .i64 0) 1 8 Try.underlying29 hi hz0 hz1 hz2 rfl (by decide) v n (rI xs) ho ⟨b, off, none⟩ m c (rI T) (by rw [rI_len, hm, Nat.mul_one]) (fun j u hj => by
      have hjl : j < m := by
        have := (List.getElem?_eq_some_iff.1 hj).1
        rw [rI_len] at this
        omega
      rw [Addr.add_mid, hc j (by omega)]
      exact hj) (fun u hu => by
      unfold rI at hu
      obtain ⟨y, _, rfl⟩ := List.mem_map.1 hu
      rfl) (by unfold maxLen; omega) (by omega) hb
    obtain ⟨q, d, rfl⟩ := own_sliceV hown
    exact ⟨q, d, w', hrun, by rw [hrI]; exact hown, (Below.refl _ _).grown hgrow hb (fun k hk => hbl k hk), hgrow⟩

end Go.Proofs.Ytdggkcohidijcaa
