/- A row of moves that is copied. -/
import Derived.Test.YtmknplpcpmkhiaaGreatDiTakeD
import Derived.Test.YtmknplpcpmkhiaaGreatDkSpec8
import Derived.Test.YtmknplpcpmkhiaaGreatDiClone
namespace Go.Proofs.YtmknplpcpmkhiaaGreat
open Go.RowKit Go.Maps
set_option linter.unusedVariables false

theorem append_emptyM_run (w : World) (g c : Nat) (a : Addr) : (Builtin.append_ #[26, 26] 26 #[.slice (some ⟨g, 0, none⟩) 0 0, .slice (some a) 0 c]).run Tryz.prog w = .ok (.slice (some ⟨g, 0, none⟩) 0 0) w := by kernel_rfl

theorem eqlMv (w : World) (a : Option Addr) (n c n' c' : Nat) : (binOp .eql 26 (.slice a n c) (.slice none n' c')).run Tryz.prog w = .ok (.bool a.isNone) w := Lib.run_eql_slice_nil w _ _ a n c n' c' Tryz.underlying26

theorem infoMv : (Tryz.prog.info? 51).map (fun i => (i.zero, i.size, i.bytes)) = some (some (.agg #[.int .i64 0, .string ⟨#[]⟩, .string ⟨#[]⟩, .int .i64 0]), 4, 48) := by kernel_rfl

set_option maxRecDepth 20000 in
set_option maxHeartbeats 1000000 in
theorem cloneS_nil (w : World) : Calls Tryz.prog 125 #[.slice none 0 0] w fun e w' => e = .returned (.slice none 0 0) ∧ w' = w := by
  have q24 := eqlMv
  go_enter Tryz.func125, Tryz.ntmps125
  go_wp2
  go_ret
  exact ⟨rfl, rfl⟩

set_option maxRecDepth 20000 in
set_option maxHeartbeats 1000000 in
theorem cloneS_empty (a : Addr) (cap : Nat) (w : World) : Calls Tryz.prog 125 #[.slice (some a) 0 cap] w fun e w' => e = .returned (.slice (some ⟨w.heap.size, 0, none⟩) 0 0) ∧ w' = w.alloc (.cells #[] 51) := by
  have q24 := eqlMv
  go_enter Tryz.func125, Tryz.ntmps125
  go_wp2_with (at_builtin; refine wpList_append_same rfl _ _ 26 rfl _ _ rfl rfl (append_emptyM_run _ _ _ _) ?_)
  go_wp2
  go_ret
  exact ⟨rfl, rfl⟩

set_option maxRecDepth 20000 in
set_option maxHeartbeats 1000000 in
theorem cloneS_some (b off : Nat) (L : List S_Move) (cap : Nat) (w : World) (hl : 0 < L.length) (hn : L.length ≤ 1048576) (hr : RowR w (.slice (some ⟨b, off, none⟩) L.length cap) L.length 4 (rMove L)) :
    Calls Tryz.prog 125 #[.slice (some ⟨b, off, none⟩) L.length cap] w fun e w' => ∃ v', e = .returned v' ∧ w'.ownsRow w.heap.size 51 4 v' L.length (rMove L) ∧ Below w.heap.size w w' := by
  obtain ⟨i0, hi, hz0, hz1, hz2⟩ := info_parts infoMv
  obtain ⟨b', off', cap', hv, hb, hc⟩ := hr.some hl (by decide)
  simp only [Value.slice.injEq, Option.some.injEq, Addr.mk.injEq, true_and, and_true] at hv
  obtain ⟨⟨rfl, rfl⟩, rfl⟩ := hv
  have HO0 : Hid ((w.alloc (.cells #[] 51)).ownsRow w.heap.size 51 4 (.slice (some ⟨w.heap.size, 0, none⟩) 0 0) 0 []) := World.ownsRow_made (base := w.heap.size) (e := 51) (size := 4) w #[] 0 (by simp) (by decide) (by simp)
  have HN3 : Hid (∀ j u, (rMove L)[j]? = some u → (w.alloc (.cells #[] 51)).cell? ((⟨b, off, none⟩ : Addr).add j) = some u) := fun j u hj => by
    have hjl : j < L.length * 4 := by
      rcases Nat.lt_or_ge j (L.length * 4) with h | h
      · exact h
      · rw [List.getElem?_eq_none (by rw [rMove_len]; exact h)] at hj; simp at hj
    rw [Addr.add_mid, World.cell?_alloc_lt _ _ ⟨b, off + j, none⟩ hb, hc j hjl]
    exact hj
  have H1C : Hid (∀ u ∈ rMove L, u.oneCell' = true) := fun u hu => by
    unfold rMove at hu
    obtain ⟨y, _, hy⟩ := List.mem_flatMap.1 hu
    simp [cMove] at hy
    rcases hy with rfl | rfl | rfl | rfl <;> rfl
  have hlz : (rMove L).length = L.length * 4 := rMove_len _
  clear hr hc
  have q24 := eqlMv
  go_enter Tryz.func125, Tryz.ntmps125
  go_wp2_with (at_builtin; refine wpList_append_own _ rfl _ _ 26 rfl w.heap.size 51 i0 (.agg #[.int .i64 0, .string ⟨#[]⟩, .string ⟨#[]⟩, .int .i64 0]) 4 48 Tryz.underlying26 hi hz0 hz1 hz2 rfl (by decide) _ _ _ rfl HO0.out ⟨b, off, none⟩ L.length cap (rMove L) rfl hlz HN3.out H1C.out (by unfold maxLen; omega) (by omega) (by simp) ?_)
  intro v5 w1 own1 hgr _
  have HD1 : Hid (w1.ownsRow w.heap.size 51 4 v5 L.length (rMove L)) := by show World.ownsRow _ _ _ _ _ _ _; simpa using own1
  have HC1 : Hid (Below w.heap.size w w1) := ((Below.refl _ _).alloc (Nat.le_refl _) _).grown hgr (by simp) (fun k hk => by simp only [Value.ownBlock, Option.some.injEq] at hk; omega)
  clear own1 hgr
  go_wp2
  go_ret
  exact ⟨_, rfl, HD1.out, HC1.out⟩

theorem cloneS_c (p : Option Addr) (L : List S_Move) (cap : Nat) (w : World) (hn : L.length ≤ 1048576) (hr : RowR w (.slice p L.length cap) L.length 4 (rMove L)) (hp : p = none → cap = 0) :
    Calls Tryz.prog 125 #[.slice p L.length cap] w fun e w' => ∃ v', e = .returned v' ∧ w'.ownsRow w.heap.size 51 4 v' L.length (rMove L) ∧ Below w.heap.size w w' := by
  rcases Nat.eq_zero_or_pos L.length with h0 | h0
  · have e : L = [] := List.eq_nil_of_length_eq_zero h0
    subst e
    cases p with
    | none =>
      have := hp rfl
      subst this
      exact (cloneS_nil w).mono (by rintro e w' ⟨rfl, rfl⟩; exact ⟨_, rfl, ⟨rfl, Or.inl ⟨rfl, rfl⟩⟩, Below.refl _ _⟩)
    | some a => exact (cloneS_empty a cap w).mono (by rintro e w' ⟨rfl, rfl⟩; exact ⟨_, rfl, World.ownsRow_made (base := w.heap.size) (e := 51) (size := 4) w #[] 0 (by simp) (by decide) (by simp), (Below.refl _ _).alloc (Nat.le_refl _) _⟩)
  · obtain ⟨b, off, cap', hv, _⟩ := hr.some h0 (by decide)
    simp only [Value.slice.injEq, true_and] at hv
    obtain ⟨rfl, rfl⟩ := hv
    exact cloneS_some b off L cap w h0 hn hr

end Go.Proofs.YtmknplpcpmkhiaaGreat
