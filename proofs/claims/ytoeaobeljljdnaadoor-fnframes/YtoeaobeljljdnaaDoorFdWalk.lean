/- The walks of what the laws draw by: a byte of a code, a code that follows from another one. -/
import Derived.Test.YtoeaobeljljdnaaDoorDhWalk
import Derived.Test.YtoeaobeljljdnaaDoorFsWalk
namespace Go.Proofs.YtoeaobeljljdnaaDoor
open Go.RowKit
set_option linter.unusedVariables false

theorem CodeAt.keep {w w' : World} {B N : Nat} {ao : Option Addr} {len : Nat} {zs : List Int} (h : CodeAt w B ao len zs) (hb : Below N w w') (hN : B ≤ N) : CodeAt w' B ao len zs := by
  intro j hj
  obtain ⟨b, off, e, hB, hc⟩ := h j hj
  exact ⟨b, off, e, hB, by rw [hb.cell (by show b < N; omega)]; exact hc⟩

/-- A code's byte, or one that follows from it. -/
def atF (zs : List Int) (len i : Nat) : Int := if i < len then zs.getD i 0 else ((i : Int) * 37 + (len : Int) * 11) % 256

theorem atF_range (zs : List Int) (len i : Nat) (hz : ∀ j, 0 ≤ zs.getD j 0 ∧ zs.getD j 0 ≤ 255) : 0 ≤ atF zs len i ∧ atF zs len i ≤ 255 := by
  unfold atF
  split
  · exact hz i
  · omega

set_option maxRecDepth 20000 in
set_option maxHeartbeats 400000 in
theorem at_c (w : World) (B : Nat) (ao : Option Addr) (len cap i : Nat) (zs : List Int) (hc : CodeAt w B ao len zs) (hl : len ≤ 1048576) (hi : i ≤ 10) (hz : ∀ j, 0 ≤ zs.getD j 0 ∧ zs.getD j 0 ≤ 255) :
    Calls Tryd.prog 7 #[.slice ao len cap, .int .i64 (i : Int)] w fun e w' => e = .returned (.int .i64 (atF zs len i)) ∧ w' = w := by
  by_cases h : i < len
  · obtain ⟨b, off, rfl, hcell⟩ := code_row hc (by omega)
    have e1 := hcell i h
    have h' : (i : Int) < len := by omega
    have HA : Hid (atF zs len i = zs.getD i 0) := by unfold atF; exact if_pos h
    obtain ⟨z0, z1⟩ := hz i
    clear hcell hc hz
    generalize zs.getD i 0 = z at e1 HA z0 z1
    go_enter Tryd.func7, Tryd.ntmps7
    go_wp2
    go_ret
    exact ⟨by rw [HA.out]; rfl, rfl⟩
  · have HA : Hid (atF zs len i = ((i : Int) * 37 + (len : Int) * 11) % 256) := by unfold atF; exact if_neg h
    have h' : ¬ (i : Int) < len := by omega
    clear hc hz
    go_enter Tryd.func7, Tryd.ntmps7
    go_wp2
    go_ret
    exact ⟨by rw [HA.out]; rfl, rfl⟩

theorem big_c (w : World) (ao : Option Addr) (len cap : Nat) (b : Bool) (h : decide ((1048576 : Int) < len) = b) :
    Calls Tryd.prog 6 #[.slice ao len cap] w fun e w' => e = .returned (.bool b) ∧ w' = w := by
  go_enter Tryd.func6, Tryd.ntmps6
  go_wp2
  go_ret
  exact ⟨rfl, rfl⟩

/-- What 'fresh' hands back: a row of bytes of its own. -/
def FreshR (w : World) (e : Ending) (w' : World) : Prop :=
  ∃ ao n cap zs, e = .returned (.slice ao n cap) ∧ CodeAt w' w'.heap.size ao n zs ∧ n ≤ 601 ∧ (∀ j, 0 ≤ zs.getD j 0 ∧ zs.getD j 0 ≤ 255) ∧ Below w.heap.size w w'

theorem own_form1 {w : World} {base : Nat} {e : TypeId} {v : Value} {n : Nat} {xs : List Value} (h : w.ownsRow base e 1 v n xs) (hn : 0 < n) :
    ∃ g c, v = .slice (some ⟨g, 0, none⟩) n c ∧ g < w.heap.size ∧ ∀ j, j < n → w.cell? ⟨g, j, none⟩ = xs[j]? := by
  have h' := h
  obtain ⟨h1, ⟨rfl, h2⟩ | ⟨g, c, cur, rfl, hg, hh, _⟩⟩ := h'
  · omega
  · exact ⟨g, c, rfl, lt_of_some hh, fun j hj => h.cellAt j (by omega)⟩

set_option maxRecDepth 20000 in
set_option maxHeartbeats 1000000 in
theorem fresh_c (w : World) (ao : Option Addr) (len cap s : Nat) (zs : List Int) (hc : CodeAt w w.heap.size ao len zs) (hl : len ≤ 1048576) (hs : s ≤ 10) (hz : ∀ j, 0 ≤ zs.getD j 0 ∧ zs.getD j 0 ≤ 255) :
    Calls Tryd.prog 9 #[.slice ao len cap, .int .i64 (s : Int)] w (FreshR w) := by
  obtain ⟨i0, hi, hz0, hz1, hz2⟩ := info_parts info5
  have HC : Hid (CodeAt w w.heap.size ao len zs) := hc
  have HZ : Hid (∀ j, 0 ≤ zs.getD j 0 ∧ zs.getD j 0 ≤ 255) := hz
  clear hc hz
  have hs0 : (s : Int) % 256 = s := by omega
  go_enter Tryd.func9, Tryd.ntmps9
  go_wp2
  go_loopw [5, 6] (fun v i wr => ∃ (acc : List Int) (k : Nat), i = .int .i64 (k : Int) ∧ acc.length = k + 1 ∧ k ≤ 600 ∧ k ≤ len ∧ wr.ownsRow w.heap.size 5 1 v acc.length (acc.map (Value.int .u8)) ∧ Below w.heap.size w wr ∧ Hid (∀ j, 0 ≤ acc.getD j 0 ∧ acc.getD j 0 ≤ 255)) (fun _ i _ => 600 - (intOf i).toNat)
  case atStart => exact ⟨[(s : Int)], 0, rfl, rfl, by omega, Nat.zero_le _, World.ownsRow_lit w #[.int .u8 (s : Int)] 1 (Nat.le_refl _) (by decide) rfl, (Below.refl _ _).alloc (Nat.le_refl _) _, fun j => by cases j <;> simp <;> omega⟩
  case round =>
    obtain ⟨acc, k, rfl, hal, hk6, hkl, hown, hbel, HA⟩ := hrel
    have HAL : Hid (acc.length = k + 1) := hal
    have hal2 : acc.length ≤ 601 := by omega
    clear hal
    have hsz := hbel.size
    by_cases hlt : k < len ∧ k < 600
    · obtain ⟨hk1, hk2⟩ := hlt
      have hk1' : (k : Int) < len := by omega
      have hk2' : (k : Int) < 600 := by omega
      obtain ⟨b, off, hao, hcell⟩ := code_row (HC.out.keep hbel (Nat.le_refl _)) (by omega)
      subst hao
      have e1 := hcell k hk1
      obtain ⟨z0, z1⟩ := HZ.out k
      clear hcell
      generalize zs.getD k 0 = z at e1 z0 z1
      have hP0 : 0 ≤ (s : Int) * ((k : Int) % 7 + 1) := Int.mul_nonneg (by omega) (by omega)
      have hP1 : (s : Int) * ((k : Int) % 7 + 1) ≤ 70 := by
        have := Int.mul_le_mul (a := (s : Int)) (b := (k : Int) % 7 + 1) (c := 10) (d := 7) (by omega) (by omega) (by omega) (by omega)
        omega
      obtain ⟨P, hP⟩ : ∃ P, (s : Int) * ((k : Int) % 7 + 1) = P := ⟨_, rfl⟩
      rw [hP] at hP0 hP1
      go_wp2_with (at_builtin; refine wpList_append_own _ rfl _ _ 22 rfl w.heap.size 5 i0 (.int .u8 0) 1 1 Tryd.underlying22 hi hz0 hz1 hz2 rfl (by decide) _ _ _ rfl (hown.alloc _) ⟨wr.heap.size, 0, none⟩ 1 1 [.int .u8 ((z * 3 + P) % 256)] rfl rfl (cell_one_new _ _ _) (by intro u hu; simp at hu; subst hu; rfl) (by unfold maxLen; omega) (by omega) (by simp; omega) ?_)
      intro v' w2 hown2 hgrow _
      have R1 := own_snoc hown2
      have R2 := below_append hbel (Nat.le_refl _) hown hgrow
      have R3 : Hid (∀ j, 0 ≤ (acc ++ [(z * 3 + P) % 256]).getD j 0 ∧ (acc ++ [(z * 3 + P) % 256]).getD j 0 ≤ 255) := fun j => by
        by_cases hj : j < acc.length
        · have := HA.out j
          simp only [List.getD, List.getElem?_append_left hj] at this ⊢
          exact this
        · simp only [List.getD, List.getElem?_append_right (Nat.le_of_not_lt hj)]
          cases j - acc.length <;> simp <;> omega
      clear hown2 hgrow hown hbel HA
      go_wp2
      go_roundw
      case rel => first | exact ⟨acc ++ [(z * 3 + P) % 256], k + 1, by go_num, by simp [HAL.out], by omega, by omega, R1, R2, R3⟩ | ((repeat apply Exists.intro); exact ⟨⟨acc ++ [(z * 3 + P) % 256], k + 1, by go_num, by simp [HAL.out], by omega, by omega, R1, R2, R3⟩, rfl⟩)
      case measure => simp [intOf]; omega
    · obtain ⟨g, c, hv, hg, hcells⟩ := own_form1 hown (by have := HAL.out; omega)
      subst hv
      have HF : Hid (FreshR w (.returned (.slice (some ⟨g, 0, none⟩) acc.length c)) wr) := by
        refine ⟨_, _, _, acc, rfl, fun j hj => ⟨g, 0, rfl, hg, ?_⟩, hal2, HA.out, hbel⟩
        rw [Nat.zero_add, hcells j hj]
        simp [List.getD, List.getElem?_eq_getElem hj]
      clear hcells hown hbel HA
      by_cases h1 : k < len
      · have h1' : (k : Int) < len := by omega
        have h2 : ¬ (k : Int) < 600 := by omega
        clear hlt
        go_wp2
        go_ret
        exact HF.out
      · have h1' : ¬ (k : Int) < len := by omega
        clear hlt
        go_wp2
        go_ret
        exact HF.out

end Go.Proofs.YtoeaobeljljdnaaDoor
