/- The steps of hard records and of cuts, by the program. -/
import Derived.Test.YtengfkakiohfaaaWyCopy
import Derived.Test.YtengfkakiohfaaaWcFits
namespace Go.Proofs.Ytengfkakiohfaaa
open Go.RowKit
set_option linter.unusedVariables false
set_option linter.unusedSimpArgs false

/-- The log behind a record, or as it was. -/
def stG (x : S_Wal) (r : S_Rec) : S_Wal := if fitsR x r then stepF x r else x

/-- What a record's step answers, and what it makes of the log in block b. -/
def StR (x : S_Wal) (r : S_Rec) (b base B : Nat) (w : World) (e : Ending) (w' : World) : Prop :=
  e = .returned (.bool (decide (fitsR x r))) ∧ ∃ q c, w'.heap[b]? = some (.cells #[.int .i64 (stG x r).f0, .int .i64 (stG x r).f1, .int .i64 (stG x r).f2, .int .i64 (stG x r).f3, .slice q (stG x r).f4.length c] 26) ∧ w'.ownsRow base 68 2 (.slice q (stG x r).f4.length c) (stG x r).f4.length (rEntry (stG x r).f4) ∧ Below B w w'

theorem stR_no {x : S_Wal} {r : S_Rec} {b base B : Nat} {w w' : World} {q : Option Addr} {c : Nat} (h : ¬ fitsR x r) (h1 : w'.heap[b]? = some (.cells #[.int .i64 x.f0, .int .i64 x.f1, .int .i64 x.f2, .int .i64 x.f3, .slice q x.f4.length c] 26)) (h2 : w'.ownsRow base 68 2 (.slice q x.f4.length c) x.f4.length (rEntry x.f4)) (h3 : Below B w w') : StR x r b base B w (.returned (.bool false)) w' := by
  have e : stG x r = x := if_neg h
  unfold StR
  rw [e, decide_eq_false h]
  exact ⟨rfl, q, c, h1, h2, h3⟩

theorem stR_yes {x : S_Wal} {r : S_Rec} {b base B : Nat} {w w' : World} {q : Option Addr} {c : Nat} {y : S_Wal} (h : fitsR x r) (e : stepF x r = y) (h1 : w'.heap[b]? = some (.cells #[.int .i64 y.f0, .int .i64 y.f1, .int .i64 y.f2, .int .i64 y.f3, .slice q y.f4.length c] 26)) (h2 : w'.ownsRow base 68 2 (.slice q y.f4.length c) y.f4.length (rEntry y.f4)) (h3 : Below B w w') : StR x r b base B w (.returned (.bool true)) w' := by
  have e : stG x r = y := (if_pos h).trans e
  unfold StR
  rw [e, decide_eq_true h]
  exact ⟨rfl, q, c, h1, h2, h3⟩

/-- The row of entries does not lie in the log's own block. -/
theorem own_ne {w : World} {base b n : Nat} {v : Value} {xs : List Value} {cs : Array Value} (ho : w.ownsRow base 68 2 v n xs) (hx : w.heap[b]? = some (.cells cs 26)) : ∀ k, v.ownBlock = some k → k ≠ b := by
  intro k hk e
  subst e
  obtain ⟨_, ⟨rfl, _⟩ | ⟨g, cap, cur, rfl, _, hh, _⟩⟩ := ho
  · cases hk
  · simp only [Value.ownBlock, Option.some.injEq] at hk
    subst hk
    rw [hh] at hx
    simp only [Option.some.injEq, Obj.cells.injEq] at hx
    exact absurd hx.2.1 (by decide)

theorem own_setS {w : World} {base : Nat} {e : TypeId} {size n : Nat} {v : Value} {xs : List Value} {a : Addr} (ho : w.ownsRow base e size v n xs) (u : Value) (hne : ∀ k, v.ownBlock = some k → k ≠ a.block) : (w.setCell a u).ownsRow base e size v n xs := by
  obtain ⟨h1, ⟨rfl, h2⟩ | ⟨g, cap, cur, rfl, hg, hh, r⟩⟩ := ho
  · exact ⟨h1, .inl ⟨rfl, h2⟩⟩
  · exact ⟨h1, .inr ⟨g, cap, cur, rfl, hg, by rw [Below.heap_setCell _ _ _ _ (hne g rfl)]; exact hh, r⟩⟩

theorem cell_set_neS {w : World} {a p : Addr} {u v : Value} (h : w.cell? a = some u) (hn : a.block ≠ p.block) : (w.setCell p v).cell? a = some u := by
  unfold World.cell? at *
  rw [Below.heap_setCell _ _ _ _ hn]
  exact h

theorem cells2S {w W : World} {b : Nat} {c0 c1 : Value} {T : TypeId} (h : w.heap[b]? = some (.cells #[c0, c1] T)) (hS : Below w.heap.size w W) : ∀ j u, [c0, c1][j]? = some u → W.cell? ((⟨b, 0, none⟩ : Addr).add j) = some u := by
  have h' : W.heap[b]? = some (.cells #[c0, c1] T) := (hS.block _ (lt_of_some h)).trans h
  obtain ⟨a0, a1⟩ := box2S h'
  intro j u hj
  rw [Addr.add_mid, Nat.zero_add]
  rcases j with _ | _ | j
  · simp only [List.getElem?_cons_zero, Option.some.injEq] at hj; rw [← hj]; exact a0
  · simp only [List.getElem?_cons_succ, List.getElem?_cons_zero, Option.some.injEq] at hj; rw [← hj]; exact a1
  · simp at hj

theorem box3S {w : World} {b : Nat} {a0 a1 a2 : Value} {t : TypeId} (h : w.heap[b]? = some (.cells #[a0, a1, a2] t)) : w.cell? ⟨b, 0, none⟩ = some a0 ∧ w.cell? ⟨b, 1, none⟩ = some a1 ∧ w.cell? ⟨b, 2, none⟩ = some a2 := by
  simp [World.cell?, h]

theorem box1S {w : World} {b : Nat} {a0 : Value} {t : TypeId} (h : w.heap[b]? = some (.cells #[a0] t)) : w.cell? ⟨b, 0, none⟩ = some a0 := by
  simp [World.cell?, h]

theorem fitH_1 (x : S_Wal) (r : S_Rec) (h : r.f0 = 1) : fitH x ⟨r.f1, r.f3, 0, 0, []⟩ ↔ fitsR x r := by
  rw [fits_1 h]
  unfold fitH fit1
  constructor
  · rintro (h | ⟨h1, h2 | h2⟩)
    · exact .inl h
    · exact .inr ⟨h1, .inl h2⟩
    · exact .inr ⟨h1, .inr h2.symm⟩
  · rintro (h | ⟨h1, h2 | h2⟩)
    · exact .inl h
    · exact .inr ⟨h1, .inl h2⟩
    · exact .inr ⟨h1, .inr h2.symm⟩

theorem winS_yes (n a b : Int) (w : World) (h1 : a ≤ n) (h2 : n ≤ b) : Calls Try.prog 49 #[.int .i64 n, .int .i64 a, .int .i64 b] w fun e w' => e = .returned (.bool true) ∧ Below w.heap.size w w' :=
  (win_yes n a b w h1 h2).mono fun e w' ⟨he, hw⟩ => ⟨he, by rw [hw]; exact Below.refl _ _⟩

theorem winS_no (n a b : Int) (w : World) (h : ¬ (a ≤ n ∧ n ≤ b)) : Calls Try.prog 49 #[.int .i64 n, .int .i64 a, .int .i64 b] w fun e w' => e = .returned (.bool false) ∧ Below w.heap.size w w' :=
  (win_no n a b w h).mono fun e w' ⟨he, hw⟩ => ⟨he, by rw [hw]; exact Below.refl _ _⟩

set_option maxRecDepth 20000 in
set_option maxHeartbeats 4000000 in
theorem step_hard (x : S_Wal) (r : S_Rec) (p : Option Addr) (cap b base B : Nat) (w : World) (hk : r.f0 = 1) (hz : r.f4.size ≤ 1048576) (hr2 : 0 ≤ r.f2 ∧ r.f2 ≤ 1000000) (hL : x.f4.length ≤ 1048576 ∧ (0 ≤ x.f2 ∧ x.f2 ≤ 100000)) (hx : w.heap[b]? = some (.cells #[.int .i64 x.f0, .int .i64 x.f1, .int .i64 x.f2, .int .i64 x.f3, .slice p x.f4.length cap] 26)) (ho : w.ownsRow base 68 2 (.slice p x.f4.length cap) x.f4.length (rEntry x.f4)) (hB : B ≤ b ∧ B ≤ base) (hbw : base ≤ w.heap.size) :
    Calls Try.prog 79 #[.agg #[.int .i64 r.f1, .int .i64 r.f3], .pointer (some ⟨b, 0, none⟩)] w (StR x r b base B w) := by
  have HL : Hid (x.f4.length ≤ 1048576 ∧ (0 ≤ x.f2 ∧ x.f2 ≤ 100000)) := hL
  have HK : Hid (r.f0 = _) := hk
  have HRI : Hid (0 ≤ r.f2 ∧ r.f2 ≤ 1000000) := hr2
  have HZR : Hid (r.f4.size ≤ 1048576) := hz
  have HBB : Hid (b < w.heap.size ∧ base ≤ w.heap.size ∧ B ≤ b ∧ B ≤ base) := ⟨lt_of_some hx, hbw, hB.1, hB.2⟩
  have hbs := lt_of_some hx
  obtain ⟨W0, hW0⟩ : ∃ W, W = w.alloc (.cells #[.int .i64 r.f1, .int .i64 r.f3] 58) := ⟨_, rfl⟩
  have HW0 : Hid (w.alloc (.cells #[.int .i64 r.f1, .int .i64 r.f3] 58) = W0) := hW0.symm
  have HR0 : Hid (W0.heap[w.heap.size]? = some (.cells #[.int .i64 r.f1, .int .i64 r.f3] 58)) := by rw [hW0]; exact alloc_last _ _
  have HX0 : Hid (W0.heap[b]? = some (.cells #[.int .i64 x.f0, .int .i64 x.f1, .int .i64 x.f2, .int .i64 x.f3, .slice p x.f4.length cap] 26)) := by rw [hW0, Below.heap_alloc _ _ _ (by omega)]; exact hx
  have HO0 : Hid (W0.ownsRow base 68 2 (.slice p x.f4.length cap) x.f4.length (rEntry x.f4)) := by rw [hW0]; exact ho.alloc _
  have HB0 : Hid (Below w.heap.size w W0) := by rw [hW0]; exact (Below.refl _ _).alloc (Nat.le_refl _) _
  have hnn : (0 : Int) ≤ x.f4.length := by omega
  have hll : (x.f4.length : Int) ≤ 1048576 := by omega
  obtain ⟨hx2a, hx2b⟩ := hL.2
  have hwl : IntKind.i64.wrap (x.f2 + (x.f4.length : Int)) = x.f2 + (x.f4.length : Int) := IntWalk.i64_in _ (by omega)
  have hwl1 : IntKind.i64.wrap (x.f2 + (x.f4.length : Int) + 1) = x.f2 + (x.f4.length : Int) + 1 := IntWalk.i64_in _ (by omega)
  have hw1 : IntKind.i64.wrap (x.f2 + 1) = x.f2 + 1 := IntWalk.i64_in _ (by omega)
  obtain ⟨d0, d1, d2, d3, d4⟩ := box5 HX0.out
  clear hx ho hB hbw hz hr2 hk hL hW0 hbs
  by_cases hf : fitsR x r
  rotate_left
  · have HF : Hid (¬ fitsR x r) := hf
    have HFC : Hid (∀ W : World, Calls Try.prog 26 #[.agg #[.int .i64 r.f1, .int .i64 r.f3], .agg #[.int .i64 x.f0, .int .i64 x.f1, .int .i64 x.f2, .int .i64 x.f3, .slice p x.f4.length cap]] W fun e w' => e = .returned (.bool false) ∧ Below W.heap.size W w') := fun W => by
      have := implFits_c x ⟨r.f1, r.f3, 0, 0, []⟩ p cap W HL.out.1 HL.out.2
      rw [decide_eq_false (fun h => hf ((fitH_1 x r HK.out).1 h))] at this
      exact this
    clear hf
    go_enter Try.func79, Try.ntmps79
    go_upto_region 1 with fail
    rw [HW0.out]
    refine wp_region_told (fun W => Below W0.heap.size W0 W) (by kernel_rfl) (by kernel_rfl) ((Below.refl W0.heap.size W0).drew) ?_
    refine told_loads (some 5) ⟨w.heap.size, 0, none⟩ [.int .i64 r.f1, .int .i64 r.f3] rfl (by kernel_rfl) (fun _ => by kernel_rfl) (fun _ hS => cells2S HR0.out hS) ?_
    refine told_pure (some 6) (.pointer (some ⟨b, 0, none⟩)) rfl (by kernel_rfl) (fun _ => by kernel_rfl) ?_
    refine told_pure (some 7) (.pointer (some ⟨b, 0, none⟩)) rfl (by kernel_rfl) (fun _ => by kernel_rfl) ?_
    refine told_loads (some 8) ⟨b, 0, none⟩ [(.int .i64 x.f0), (.int .i64 x.f1), (.int .i64 x.f2), (.int .i64 x.f3), (.slice p x.f4.length cap)] rfl (by kernel_rfl) (fun _ => by kernel_rfl) (fun _ hS => cellsS HX0.out hS) ?_
    refine told_call (some 9) (.bool false) 26 #[.agg #[.int .i64 r.f1, .int .i64 r.f3], .agg #[.int .i64 x.f0, .int .i64 x.f1, .int .i64 x.f2, .int .i64 x.f3, .slice p x.f4.length cap]] rfl (by kernel_rfl) (fun _ => by kernel_rfl) (fun W hS => below_S (HFC.out W) hS) ?_
    refine told_pure (some 10) (.bool true) rfl (by kernel_rfl) (fun _ => by kernel_rfl) ?_
    refine told_nil ?_
    intro w1 hS
    simp only [Act.put, List.setIfInBounds_toArray, List.set_cons_zero, List.set_cons_succ]
    have HB1 : Hid (Below W0.heap.size W0 w1) := hS
    clear hS
    have HX9 : Hid (w1.heap[b]? = some (.cells #[.int .i64 x.f0, .int .i64 x.f1, .int .i64 x.f2, .int .i64 x.f3, .slice p x.f4.length cap] 26)) := (HB1.out.block _ (lt_of_some HX0.out)).trans HX0.out
    have HO9 : Hid (w1.ownsRow base 68 2 (.slice p x.f4.length cap) x.f4.length (rEntry x.f4)) := own_bel HO0.out HB1.out (Nat.le_refl _)
    have HB9 : Hid (Below B w w1) := (HB0.out.trans (HB1.out.mono HB0.out.size)).mono (by have := HBB.out; omega)
    go_wp2
    go_ret
    exact stR_no HF.out HX9.out HO9.out HB9.out
  have HF : Hid (fitsR x r) := hf
  have HE : Hid (stepF x r = ⟨r.f1, r.f3, x.f2, x.f3, x.f4⟩) := step_1 HK.out
  have HFC : Hid (∀ W : World, Calls Try.prog 26 #[.agg #[.int .i64 r.f1, .int .i64 r.f3], .agg #[.int .i64 x.f0, .int .i64 x.f1, .int .i64 x.f2, .int .i64 x.f3, .slice p x.f4.length cap]] W fun e w' => e = .returned (.bool true) ∧ Below W.heap.size W w') := fun W => by
    have := implFits_c x ⟨r.f1, r.f3, 0, 0, []⟩ p cap W HL.out.1 HL.out.2
    rw [decide_eq_true ((fitH_1 x r HK.out).2 hf)] at this
    exact this
  clear hf
  go_enter Try.func79, Try.ntmps79
  go_upto_region 1 with fail
  rw [HW0.out]
  refine wp_region_told (fun W => Below W0.heap.size W0 W) (by kernel_rfl) (by kernel_rfl) ((Below.refl W0.heap.size W0).drew) ?_
  refine told_loads (some 5) ⟨w.heap.size, 0, none⟩ [.int .i64 r.f1, .int .i64 r.f3] rfl (by kernel_rfl) (fun _ => by kernel_rfl) (fun _ hS => cells2S HR0.out hS) ?_
  refine told_pure (some 6) (.pointer (some ⟨b, 0, none⟩)) rfl (by kernel_rfl) (fun _ => by kernel_rfl) ?_
  refine told_pure (some 7) (.pointer (some ⟨b, 0, none⟩)) rfl (by kernel_rfl) (fun _ => by kernel_rfl) ?_
  refine told_loads (some 8) ⟨b, 0, none⟩ [(.int .i64 x.f0), (.int .i64 x.f1), (.int .i64 x.f2), (.int .i64 x.f3), (.slice p x.f4.length cap)] rfl (by kernel_rfl) (fun _ => by kernel_rfl) (fun _ hS => cellsS HX0.out hS) ?_
  refine told_call (some 9) (.bool true) 26 #[.agg #[.int .i64 r.f1, .int .i64 r.f3], .agg #[.int .i64 x.f0, .int .i64 x.f1, .int .i64 x.f2, .int .i64 x.f3, .slice p x.f4.length cap]] rfl (by kernel_rfl) (fun _ => by kernel_rfl) (fun W hS => below_S (HFC.out W) hS) ?_
  refine told_pure (some 10) (.bool false) rfl (by kernel_rfl) (fun _ => by kernel_rfl) ?_
  refine told_nil ?_
  intro w1 hS
  simp only [Act.put, List.setIfInBounds_toArray, List.set_cons_zero, List.set_cons_succ]
  have HB1 : Hid (Below W0.heap.size W0 w1) := hS
  clear hS
  have HX1 : Hid (w1.heap[b]? = some (.cells #[.int .i64 x.f0, .int .i64 x.f1, .int .i64 x.f2, .int .i64 x.f3, .slice p x.f4.length cap] 26)) := (HB1.out.block _ (lt_of_some HX0.out)).trans HX0.out
  have HR1 : Hid (w1.heap[w.heap.size]? = some (.cells #[.int .i64 r.f1, .int .i64 r.f3] 58)) := (HB1.out.block _ (lt_of_some HR0.out)).trans HR0.out
  have HO1 : Hid (w1.ownsRow base 68 2 (.slice p x.f4.length cap) x.f4.length (rEntry x.f4)) := own_bel HO0.out HB1.out (Nat.le_refl _)
  have HBw : Hid (Below w.heap.size w w1) := HB0.out.trans (HB1.out.mono HB0.out.size)
  clear d0 d1 d2 d3 d4
  go_upto_region 3 with fail
  have e0 : w1.drew.cell? ⟨w.heap.size, 0, none⟩ = some (.int .i64 r.f1) := (box2S HR1.out).1
  have e1 : w1.drew.cell? ⟨w.heap.size, 1, none⟩ = some (.int .i64 r.f3) := (box2S HR1.out).2
  have d0 : w1.drew.cell? ⟨b, 0, none⟩ = some (.int .i64 x.f0) := (box5 HX1.out).1
  have df : ∀ o, w1.drew.frozen? ⟨b, o, none⟩ = false := frz5 HX1.out
  refine wp_region_L [⟨8, fun W => W.cell? ⟨w.heap.size, 0, none⟩ = some (.int .i64 r.f1)⟩, ⟨11, fun W => W.cell? ⟨w.heap.size, 1, none⟩ = some (.int .i64 r.f3)⟩] (by kernel_rfl) (fun f hf => by
      simp only [List.mem_cons, List.not_mem_nil, or_false] at hf
      rcases hf with rfl | rfl
      · exact e0
      · exact e1
      ) ?_
  refine At.take 0 (some 11) (.pointer (some ⟨b, 0, none⟩)) rfl rfl (by kernel_rfl) (by kernel_rfl) (by kernel_rfl) (by kernel_rfl) (fun _ _ _ h => h) (yl_pure (by kernel_rfl) (fun _ => by kernel_rfl)) ?_
  refine At.take 1 (some 12) (.pointer (some ⟨b, 0, none⟩)) rfl rfl (by kernel_rfl) (by kernel_rfl) (by kernel_rfl) (by kernel_rfl) (fun _ _ _ h => h) (yl_pure (by kernel_rfl) (fun _ => by kernel_rfl)) ?_
  refine At.take 2 (some 13) (.pointer (some ⟨w.heap.size, 0, none⟩)) rfl rfl (by kernel_rfl) (by kernel_rfl) (by kernel_rfl) (by kernel_rfl) (fun _ _ _ h => h) (yl_pure (by kernel_rfl) (fun _ => by kernel_rfl)) ?_
  refine At.take 3 (some 14) (.int .i64 r.f1) rfl rfl (by kernel_rfl) (by kernel_rfl) (by kernel_rfl) (by kernel_rfl) (fun _ _ _ h => h) (yl_load 8 ⟨w.heap.size, 0, none⟩ (.int .i64 r.f1) (List.mem_cons_self) [6, 7, 8] (by kernel_rfl) rfl (by kernel_rfl) (fun _ => by kernel_rfl)) ?_
  refine At.take 4 (some 15) (.pointer (some ⟨w.heap.size, 1, none⟩)) rfl rfl (by kernel_rfl) (by kernel_rfl) (by kernel_rfl) (by kernel_rfl) (fun _ _ _ h => h) (yl_pure (by kernel_rfl) (fun _ => by kernel_rfl)) ?_
  refine At.take 5 (some 16) (.int .i64 r.f3) rfl rfl (by kernel_rfl) (by kernel_rfl) (by kernel_rfl) (by kernel_rfl) (fun _ _ _ h => h) (yl_load 11 ⟨w.heap.size, 1, none⟩ (.int .i64 r.f3) (List.mem_cons_of_mem _ (List.mem_cons_self)) [9, 10, 11] (by kernel_rfl) rfl (by kernel_rfl) (fun _ => by kernel_rfl)) ?_
  refine At.take 6 (some 17) (.pointer (some ⟨b, 0, none⟩)) rfl rfl (by kernel_rfl) (by kernel_rfl) (by kernel_rfl) (by kernel_rfl) (fun _ _ _ h => h) (yl_pure (by kernel_rfl) (fun _ => by kernel_rfl)) ?_
  refine At.take 7 (some 18) (.pointer (some ⟨b, 0, none⟩)) rfl rfl (by kernel_rfl) (by kernel_rfl) (by kernel_rfl) (by kernel_rfl) (fun _ _ _ h => h) (yl_pure (by kernel_rfl) (fun _ => by kernel_rfl)) ?_
  refine At.step 8 none rfl rfl (by kernel_rfl) (by kernel_rfl) (fun u W => u = undef ∧ W = w1.drew.setCell ⟨b, 0, none⟩ (.int .i64 r.f1)) (gives_store (p := ⟨b, 0, none⟩) (x := .int .i64 r.f1) (y := .int .i64 x.f0) (fun _ => by kernel_rfl) (by rfl) d0 (df 0)) ?_
  rintro u WA ⟨rfl, hWA⟩
  refine ⟨by rw [hWA]; exact held_cons (.inl (by kernel_rfl)) (held_cons (.inr (cell_set_neS (by exact e1) (by have := HBB.out; show w.heap.size ≠ b; omega))) (held_nil)), ?_⟩
  have HXA : Hid (WA.heap[b]? = some (.cells #[.int .i64 r.f1, .int .i64 x.f1, .int .i64 x.f2, .int .i64 x.f3, .slice p x.f4.length cap] 26)) := by rw [hWA]; exact heap_setCell_same w1.drew b 0 _ _ (.int .i64 r.f1) HX1.out
  have r1 := (box5 HXA.out).2.1
  have rf := frz5 HXA.out
  refine At.take 9 (some 19) (.pointer (some ⟨b, 0, none⟩)) rfl rfl (by kernel_rfl) (by kernel_rfl) (by kernel_rfl) (by kernel_rfl) (fun _ _ _ h => h) (yl_pure (by kernel_rfl) (fun _ => by kernel_rfl)) ?_
  refine At.take 10 (some 20) (.pointer (some ⟨b, 1, none⟩)) rfl rfl (by kernel_rfl) (by kernel_rfl) (by kernel_rfl) (by kernel_rfl) (fun _ _ _ h => h) (yl_pure (by kernel_rfl) (fun _ => by kernel_rfl)) ?_
  refine At.step 11 none rfl rfl (by kernel_rfl) (by kernel_rfl) (fun u W => u = undef ∧ W = WA.setCell ⟨b, 1, none⟩ (.int .i64 r.f3)) (gives_store (p := ⟨b, 1, none⟩) (x := .int .i64 r.f3) (y := .int .i64 x.f1) (fun _ => by kernel_rfl) (by rfl) r1 (rf 1)) ?_
  rintro u WE ⟨rfl, hWE⟩
  refine ⟨held_cons (.inl (by kernel_rfl)) (held_cons (.inl (by kernel_rfl)) (held_nil)), ?_⟩
  refine At.done (by kernel_rfl) ?_
  simp only [Act.put, List.setIfInBounds_toArray, List.set_cons_zero, List.set_cons_succ]
  have HXE : Hid (WE.heap[b]? = some (.cells #[.int .i64 r.f1, .int .i64 r.f3, .int .i64 x.f2, .int .i64 x.f3, .slice p x.f4.length cap] 26)) := by rw [hWE]; exact heap_setCell_same WA b 1 _ _ (.int .i64 r.f3) HXA.out
  have HOE : Hid (WE.ownsRow base 68 2 (.slice p x.f4.length cap) x.f4.length (rEntry x.f4)) := by rw [hWE, hWA]; exact own_setS (own_setS (show w1.drew.ownsRow _ _ _ _ _ _ from HO1.out) _ (own_ne HO1.out HX1.out)) _ (own_ne HO1.out HX1.out)
  have HBE : Hid (Below B w WE) := by rw [hWE, hWA]; exact ((((HBw.out.mono (by have := HBB.out; omega)) : Below B w w1).drew).setCell (by exact HBB.out.2.2.1) _).setCell (by exact HBB.out.2.2.1) _
  clear hWE hWA d0 df e0 e1 r1 rf
  go_wp2
  go_ret
  exact stR_yes HF.out HE.out HXE.out HOE.out HBE.out

set_option maxRecDepth 20000 in
set_option maxHeartbeats 4000000 in
theorem step_cut (x : S_Wal) (r : S_Rec) (p : Option Addr) (cap b base B : Nat) (w : World) (hk : r.f0 = 3) (hz : r.f4.size ≤ 1048576) (hr2 : 0 ≤ r.f2 ∧ r.f2 ≤ 1000000) (hL : x.f4.length ≤ 1048576 ∧ (0 ≤ x.f2 ∧ x.f2 ≤ 100000)) (hx : w.heap[b]? = some (.cells #[.int .i64 x.f0, .int .i64 x.f1, .int .i64 x.f2, .int .i64 x.f3, .slice p x.f4.length cap] 26)) (ho : w.ownsRow base 68 2 (.slice p x.f4.length cap) x.f4.length (rEntry x.f4)) (hB : B ≤ b ∧ B ≤ base) (hbw : base ≤ w.heap.size) :
    Calls Try.prog 80 #[.agg #[.int .i64 r.f2], .pointer (some ⟨b, 0, none⟩)] w (StR x r b base B w) := by
  have HL : Hid (x.f4.length ≤ 1048576 ∧ (0 ≤ x.f2 ∧ x.f2 ≤ 100000)) := hL
  have HK : Hid (r.f0 = _) := hk
  have HRI : Hid (0 ≤ r.f2 ∧ r.f2 ≤ 1000000) := hr2
  have HZR : Hid (r.f4.size ≤ 1048576) := hz
  have HBB : Hid (b < w.heap.size ∧ base ≤ w.heap.size ∧ B ≤ b ∧ B ≤ base) := ⟨lt_of_some hx, hbw, hB.1, hB.2⟩
  have hbs := lt_of_some hx
  obtain ⟨W0, hW0⟩ : ∃ W, W = w.alloc (.cells #[.int .i64 r.f2] 61) := ⟨_, rfl⟩
  have HW0 : Hid (w.alloc (.cells #[.int .i64 r.f2] 61) = W0) := hW0.symm
  have HR0 : Hid (W0.heap[w.heap.size]? = some (.cells #[.int .i64 r.f2] 61)) := by rw [hW0]; exact alloc_last _ _
  have HX0 : Hid (W0.heap[b]? = some (.cells #[.int .i64 x.f0, .int .i64 x.f1, .int .i64 x.f2, .int .i64 x.f3, .slice p x.f4.length cap] 26)) := by rw [hW0, Below.heap_alloc _ _ _ (by omega)]; exact hx
  have HO0 : Hid (W0.ownsRow base 68 2 (.slice p x.f4.length cap) x.f4.length (rEntry x.f4)) := by rw [hW0]; exact ho.alloc _
  have HB0 : Hid (Below w.heap.size w W0) := by rw [hW0]; exact (Below.refl _ _).alloc (Nat.le_refl _) _
  have hnn : (0 : Int) ≤ x.f4.length := by omega
  have hll : (x.f4.length : Int) ≤ 1048576 := by omega
  obtain ⟨hx2a, hx2b⟩ := hL.2
  have hwl : IntKind.i64.wrap (x.f2 + (x.f4.length : Int)) = x.f2 + (x.f4.length : Int) := IntWalk.i64_in _ (by omega)
  have hwl1 : IntKind.i64.wrap (x.f2 + (x.f4.length : Int) + 1) = x.f2 + (x.f4.length : Int) + 1 := IntWalk.i64_in _ (by omega)
  have hw1 : IntKind.i64.wrap (x.f2 + 1) = x.f2 + 1 := IntWalk.i64_in _ (by omega)
  obtain ⟨d0, d1, d2, d3, d4⟩ := box5 HX0.out
  clear hx ho hB hbw hz hr2 hk hL hW0 hbs
  have e0 := box1S HR0.out
  by_cases hf : fitsR x r
  rotate_left
  · have HF : Hid (¬ fitsR x r) := hf
    have HW : Hid (¬ (x.f2 + 1 ≤ r.f2 ∧ r.f2 ≤ x.f2 + (x.f4.length : Int))) := fun h => hf ((fits_3 HK.out).2 ⟨by omega, h.2⟩)
    clear hf
    go_enter Try.func80, Try.ntmps80
    go_upto_region 1 with fail
    rw [HW0.out]
    refine wp_region_told (fun W => Below W0.heap.size W0 W) (by kernel_rfl) (by kernel_rfl) ((Below.refl W0.heap.size W0).drew) ?_
    refine told_pure (some 5) (.pointer (some ⟨w.heap.size, 0, none⟩)) rfl (by kernel_rfl) (fun _ => by kernel_rfl) ?_
    refine told_load (some 6) ⟨w.heap.size, 0, none⟩ (.int .i64 r.f2) rfl (by kernel_rfl) (fun _ => by kernel_rfl) (fun _ hS => atB hS e0) ?_
    refine told_pure (some 7) (.pointer (some ⟨b, 0, none⟩)) rfl (by kernel_rfl) (fun _ => by kernel_rfl) ?_
    refine told_pure (some 8) (.pointer (some ⟨b, 0, none⟩)) rfl (by kernel_rfl) (fun _ => by kernel_rfl) ?_
    refine told_pure (some 9) (.pointer (some ⟨b, 2, none⟩)) rfl (by kernel_rfl) (fun _ => by kernel_rfl) ?_
    refine told_load (some 10) ⟨b, 2, none⟩ (.int .i64 x.f2) rfl (by kernel_rfl) (fun _ => by kernel_rfl) (fun _ hS => atB hS d2) ?_
    refine told_is (some 11) (.int .i64 (IntKind.i64.wrap (x.f2 + 1))) (.int .i64 (x.f2 + 1)) (by rw [hw1]) rfl (by kernel_rfl) (fun _ => by kernel_rfl) ?_
    refine told_pure (some 12) (.pointer (some ⟨b, 0, none⟩)) rfl (by kernel_rfl) (fun _ => by kernel_rfl) ?_
    refine told_pure (some 13) (.pointer (some ⟨b, 0, none⟩)) rfl (by kernel_rfl) (fun _ => by kernel_rfl) ?_
    refine told_pure (some 14) (.pointer (some ⟨b, 2, none⟩)) rfl (by kernel_rfl) (fun _ => by kernel_rfl) ?_
    refine told_load (some 15) ⟨b, 2, none⟩ (.int .i64 x.f2) rfl (by kernel_rfl) (fun _ => by kernel_rfl) (fun _ hS => atB hS d2) ?_
    refine told_pure (some 16) (.pointer (some ⟨b, 0, none⟩)) rfl (by kernel_rfl) (fun _ => by kernel_rfl) ?_
    refine told_pure (some 17) (.pointer (some ⟨b, 0, none⟩)) rfl (by kernel_rfl) (fun _ => by kernel_rfl) ?_
    refine told_pure (some 18) (.pointer (some ⟨b, 4, none⟩)) rfl (by kernel_rfl) (fun _ => by kernel_rfl) ?_
    refine told_load (some 19) ⟨b, 4, none⟩ (.slice p x.f4.length cap) rfl (by kernel_rfl) (fun _ => by kernel_rfl) (fun _ hS => atB hS d4) ?_
    refine told_pure (some 20) (.int .i64 x.f4.length) rfl (by kernel_rfl) (fun _ => by kernel_rfl) ?_
    refine told_is (some 21) (.int .i64 (IntKind.i64.wrap (x.f2 + (x.f4.length : Int)))) (.int .i64 (x.f2 + (x.f4.length : Int))) (by rw [hwl]) rfl (by kernel_rfl) (fun _ => by kernel_rfl) ?_
    refine told_call (some 22) (.bool false) 49 #[.int .i64 r.f2, .int .i64 (x.f2 + 1), .int .i64 (x.f2 + (x.f4.length : Int))] rfl (by kernel_rfl) (fun _ => by kernel_rfl) (fun W hS => below_S (winS_no r.f2 (x.f2 + 1) (x.f2 + (x.f4.length : Int)) W HW.out) hS) ?_
    refine told_pure (some 23) (.bool true) rfl (by kernel_rfl) (fun _ => by kernel_rfl) ?_
    refine told_nil ?_
    intro w1 hS
    simp only [Act.put, List.setIfInBounds_toArray, List.set_cons_zero, List.set_cons_succ]
    have HB1 : Hid (Below W0.heap.size W0 w1) := hS
    clear hS
    have HX9 : Hid (w1.heap[b]? = some (.cells #[.int .i64 x.f0, .int .i64 x.f1, .int .i64 x.f2, .int .i64 x.f3, .slice p x.f4.length cap] 26)) := (HB1.out.block _ (lt_of_some HX0.out)).trans HX0.out
    have HO9 : Hid (w1.ownsRow base 68 2 (.slice p x.f4.length cap) x.f4.length (rEntry x.f4)) := own_bel HO0.out HB1.out (Nat.le_refl _)
    have HB9 : Hid (Below B w w1) := (HB0.out.trans (HB1.out.mono HB0.out.size)).mono (by have := HBB.out; omega)
    go_wp2
    go_ret
    exact stR_no HF.out HX9.out HO9.out HB9.out
  have HF : Hid (fitsR x r) := hf
  have hf3 := (fits_3 HK.out).1 hf
  unfold fit3 at hf3
  have HW : Hid (x.f2 + 1 ≤ r.f2 ∧ r.f2 ≤ x.f2 + (x.f4.length : Int)) := ⟨by omega, hf3.2⟩
  obtain ⟨k, hk⟩ : ∃ k, k = (r.f2 - x.f2 - 1).toNat := ⟨_, rfl⟩
  have HKL : Hid (k ≤ x.f4.length) := by show _ ≤ _; omega
  have HE : Hid (stepF x r = ⟨x.f0, x.f1, x.f2, x.f3, x.f4.take k⟩) := by have := step_3 (x := x) HK.out; rw [← hk] at this; exact this
  have HWC : Hid (IntKind.i64.wrap (r.f2 - x.f2) = r.f2 - x.f2 ∧ IntKind.i64.wrap (r.f2 - x.f2 - 1) = (k : Int)) := ⟨IntWalk.i64_in _ (by have := HRI.out; omega), by rw [IntWalk.i64_in _ (by have := HRI.out; omega)]; omega⟩
  have hkc : k ≤ cap := by
    have h := HKL.out
    rcases HO0.out.2 with ⟨h1, h2⟩ | ⟨g, cap', _, hv, _, _, hle, _⟩
    · omega
    · simp only [Value.slice.injEq] at hv; omega
  have hkcI : (k : Int) ≤ (cap : Int) := by omega
  have HL7 : Hid ((x.f4.take k).length = k) := by have := HKL.out; show _ = _; rw [List.length_take]; omega
  clear hf hf3 hk hkc
  go_enter Try.func80, Try.ntmps80
  go_upto_region 1 with fail
  rw [HW0.out]
  refine wp_region_told (fun W => Below W0.heap.size W0 W) (by kernel_rfl) (by kernel_rfl) ((Below.refl W0.heap.size W0).drew) ?_
  refine told_pure (some 5) (.pointer (some ⟨w.heap.size, 0, none⟩)) rfl (by kernel_rfl) (fun _ => by kernel_rfl) ?_
  refine told_load (some 6) ⟨w.heap.size, 0, none⟩ (.int .i64 r.f2) rfl (by kernel_rfl) (fun _ => by kernel_rfl) (fun _ hS => atB hS e0) ?_
  refine told_pure (some 7) (.pointer (some ⟨b, 0, none⟩)) rfl (by kernel_rfl) (fun _ => by kernel_rfl) ?_
  refine told_pure (some 8) (.pointer (some ⟨b, 0, none⟩)) rfl (by kernel_rfl) (fun _ => by kernel_rfl) ?_
  refine told_pure (some 9) (.pointer (some ⟨b, 2, none⟩)) rfl (by kernel_rfl) (fun _ => by kernel_rfl) ?_
  refine told_load (some 10) ⟨b, 2, none⟩ (.int .i64 x.f2) rfl (by kernel_rfl) (fun _ => by kernel_rfl) (fun _ hS => atB hS d2) ?_
  refine told_is (some 11) (.int .i64 (IntKind.i64.wrap (x.f2 + 1))) (.int .i64 (x.f2 + 1)) (by rw [hw1]) rfl (by kernel_rfl) (fun _ => by kernel_rfl) ?_
  refine told_pure (some 12) (.pointer (some ⟨b, 0, none⟩)) rfl (by kernel_rfl) (fun _ => by kernel_rfl) ?_
  refine told_pure (some 13) (.pointer (some ⟨b, 0, none⟩)) rfl (by kernel_rfl) (fun _ => by kernel_rfl) ?_
  refine told_pure (some 14) (.pointer (some ⟨b, 2, none⟩)) rfl (by kernel_rfl) (fun _ => by kernel_rfl) ?_
  refine told_load (some 15) ⟨b, 2, none⟩ (.int .i64 x.f2) rfl (by kernel_rfl) (fun _ => by kernel_rfl) (fun _ hS => atB hS d2) ?_
  refine told_pure (some 16) (.pointer (some ⟨b, 0, none⟩)) rfl (by kernel_rfl) (fun _ => by kernel_rfl) ?_
  refine told_pure (some 17) (.pointer (some ⟨b, 0, none⟩)) rfl (by kernel_rfl) (fun _ => by kernel_rfl) ?_
  refine told_pure (some 18) (.pointer (some ⟨b, 4, none⟩)) rfl (by kernel_rfl) (fun _ => by kernel_rfl) ?_
  refine told_load (some 19) ⟨b, 4, none⟩ (.slice p x.f4.length cap) rfl (by kernel_rfl) (fun _ => by kernel_rfl) (fun _ hS => atB hS d4) ?_
  refine told_pure (some 20) (.int .i64 x.f4.length) rfl (by kernel_rfl) (fun _ => by kernel_rfl) ?_
  refine told_is (some 21) (.int .i64 (IntKind.i64.wrap (x.f2 + (x.f4.length : Int)))) (.int .i64 (x.f2 + (x.f4.length : Int))) (by rw [hwl]) rfl (by kernel_rfl) (fun _ => by kernel_rfl) ?_
  refine told_call (some 22) (.bool true) 49 #[.int .i64 r.f2, .int .i64 (x.f2 + 1), .int .i64 (x.f2 + (x.f4.length : Int))] rfl (by kernel_rfl) (fun _ => by kernel_rfl) (fun W hS => below_S (winS_yes r.f2 (x.f2 + 1) (x.f2 + (x.f4.length : Int)) W HW.out.1 HW.out.2) hS) ?_
  refine told_pure (some 23) (.bool false) rfl (by kernel_rfl) (fun _ => by kernel_rfl) ?_
  refine told_nil ?_
  intro w1 hS
  simp only [Act.put, List.setIfInBounds_toArray, List.set_cons_zero, List.set_cons_succ]
  have HB1 : Hid (Below W0.heap.size W0 w1) := hS
  clear hS
  have HX1 : Hid (w1.heap[b]? = some (.cells #[.int .i64 x.f0, .int .i64 x.f1, .int .i64 x.f2, .int .i64 x.f3, .slice p x.f4.length cap] 26)) := (HB1.out.block _ (lt_of_some HX0.out)).trans HX0.out
  have HR1 : Hid (w1.heap[w.heap.size]? = some (.cells #[.int .i64 r.f2] 61)) := (HB1.out.block _ (lt_of_some HR0.out)).trans HR0.out
  have HO1 : Hid (w1.ownsRow base 68 2 (.slice p x.f4.length cap) x.f4.length (rEntry x.f4)) := own_bel HO0.out HB1.out (Nat.le_refl _)
  have HBw : Hid (Below w.heap.size w w1) := HB0.out.trans (HB1.out.mono HB0.out.size)
  clear d0 d1 d2 d3 d4 e0
  go_upto_region 3 with fail
  have e0 : w1.drew.cell? ⟨w.heap.size, 0, none⟩ = some (.int .i64 r.f2) := box1S HR1.out
  have d2 : w1.drew.cell? ⟨b, 2, none⟩ = some (.int .i64 x.f2) := (box5 HX1.out).2.2.1
  have d4 : w1.drew.cell? ⟨b, 4, none⟩ = some (.slice p x.f4.length cap) := (box5 HX1.out).2.2.2.2
  have df : ∀ o, w1.drew.frozen? ⟨b, o, none⟩ = false := frz5 HX1.out
  refine wp_region_L [⟨16, fun W => W.cell? ⟨b, 4, none⟩ = some (.slice p x.f4.length cap)⟩, ⟨16, fun W => W.cell? ⟨w.heap.size, 0, none⟩ = some (.int .i64 r.f2)⟩, ⟨16, fun W => W.cell? ⟨b, 2, none⟩ = some (.int .i64 x.f2)⟩] (by kernel_rfl) (fun f hf => by
      simp only [List.mem_cons, List.not_mem_nil, or_false] at hf
      rcases hf with rfl | rfl | rfl
      · exact d4
      · exact e0
      · exact d2
      ) ?_
  refine At.take 0 (some 24) (.pointer (some ⟨b, 0, none⟩)) rfl rfl (by kernel_rfl) (by kernel_rfl) (by kernel_rfl) (by kernel_rfl) (fun _ _ _ h => h) (yl_pure (by kernel_rfl) (fun _ => by kernel_rfl)) ?_
  refine At.take 1 (some 25) (.pointer (some ⟨b, 0, none⟩)) rfl rfl (by kernel_rfl) (by kernel_rfl) (by kernel_rfl) (by kernel_rfl) (fun _ _ _ h => h) (yl_pure (by kernel_rfl) (fun _ => by kernel_rfl)) ?_
  refine At.take 2 (some 26) (.pointer (some ⟨b, 0, none⟩)) rfl rfl (by kernel_rfl) (by kernel_rfl) (by kernel_rfl) (by kernel_rfl) (fun _ _ _ h => h) (yl_pure (by kernel_rfl) (fun _ => by kernel_rfl)) ?_
  refine At.take 3 (some 27) (.pointer (some ⟨b, 4, none⟩)) rfl rfl (by kernel_rfl) (by kernel_rfl) (by kernel_rfl) (by kernel_rfl) (fun _ _ _ h => h) (yl_pure (by kernel_rfl) (fun _ => by kernel_rfl)) ?_
  refine At.take 4 (some 28) (.slice p x.f4.length cap) rfl rfl (by kernel_rfl) (by kernel_rfl) (by kernel_rfl) (by kernel_rfl) (fun _ _ _ h => h) (yl_load 16 ⟨b, 4, none⟩ (.slice p x.f4.length cap) (List.mem_cons_self) [13, 14, 15, 16] (by kernel_rfl) rfl (by kernel_rfl) (fun _ => by kernel_rfl)) ?_
  refine At.take 5 (some 29) (.pointer (some ⟨w.heap.size, 0, none⟩)) rfl rfl (by kernel_rfl) (by kernel_rfl) (by kernel_rfl) (by kernel_rfl) (fun _ _ _ h => h) (yl_pure (by kernel_rfl) (fun _ => by kernel_rfl)) ?_
  refine At.take 6 (some 30) (.int .i64 r.f2) rfl rfl (by kernel_rfl) (by kernel_rfl) (by kernel_rfl) (by kernel_rfl) (fun _ _ _ h => h) (yl_load 16 ⟨w.heap.size, 0, none⟩ (.int .i64 r.f2) (List.mem_cons_of_mem _ (List.mem_cons_self)) [11, 12, 13, 14, 15, 16] (by kernel_rfl) rfl (by kernel_rfl) (fun _ => by kernel_rfl)) ?_
  refine At.take 7 (some 31) (.pointer (some ⟨b, 0, none⟩)) rfl rfl (by kernel_rfl) (by kernel_rfl) (by kernel_rfl) (by kernel_rfl) (fun _ _ _ h => h) (yl_pure (by kernel_rfl) (fun _ => by kernel_rfl)) ?_
  refine At.take 8 (some 32) (.pointer (some ⟨b, 0, none⟩)) rfl rfl (by kernel_rfl) (by kernel_rfl) (by kernel_rfl) (by kernel_rfl) (fun _ _ _ h => h) (yl_pure (by kernel_rfl) (fun _ => by kernel_rfl)) ?_
  refine At.take 9 (some 33) (.pointer (some ⟨b, 2, none⟩)) rfl rfl (by kernel_rfl) (by kernel_rfl) (by kernel_rfl) (by kernel_rfl) (fun _ _ _ h => h) (yl_pure (by kernel_rfl) (fun _ => by kernel_rfl)) ?_
  refine At.take 10 (some 34) (.int .i64 x.f2) rfl rfl (by kernel_rfl) (by kernel_rfl) (by kernel_rfl) (by kernel_rfl) (fun _ _ _ h => h) (yl_load 16 ⟨b, 2, none⟩ (.int .i64 x.f2) (List.mem_cons_of_mem _ (List.mem_cons_of_mem _ (List.mem_cons_self))) [11, 12, 13, 14, 15, 16] (by kernel_rfl) rfl (by kernel_rfl) (fun _ => by kernel_rfl)) ?_
  refine At.take 11 (some 35) (.int .i64 (r.f2 - x.f2)) rfl rfl (by kernel_rfl) (by kernel_rfl) (by kernel_rfl) (by kernel_rfl) (fun _ _ _ h => h) (yl_is (.int .i64 (IntKind.i64.wrap (r.f2 - x.f2))) (by rw [HWC.out.1]) (by kernel_rfl) (fun _ => by kernel_rfl)) ?_
  refine At.take 12 (some 36) (.int .i64 (k : Int)) rfl rfl (by kernel_rfl) (by kernel_rfl) (by kernel_rfl) (by kernel_rfl) (fun _ _ _ h => h) (yl_is (.int .i64 (IntKind.i64.wrap (r.f2 - x.f2 - 1))) (by rw [HWC.out.2]) (by kernel_rfl) (fun _ => by kernel_rfl)) ?_
  refine At.take 13 (some 37) (.slice p k cap) rfl rfl (by kernel_rfl) (by kernel_rfl) (by kernel_rfl) (by kernel_rfl) (fun _ _ _ h => h) (yl_pure (by kernel_rfl) (fun W => by go_simp)) ?_
  refine At.take 14 (some 38) (.pointer (some ⟨b, 0, none⟩)) rfl rfl (by kernel_rfl) (by kernel_rfl) (by kernel_rfl) (by kernel_rfl) (fun _ _ _ h => h) (yl_pure (by kernel_rfl) (fun _ => by kernel_rfl)) ?_
  refine At.take 15 (some 39) (.pointer (some ⟨b, 4, none⟩)) rfl rfl (by kernel_rfl) (by kernel_rfl) (by kernel_rfl) (by kernel_rfl) (fun _ _ _ h => h) (yl_pure (by kernel_rfl) (fun _ => by kernel_rfl)) ?_
  refine At.step 16 none rfl rfl (by kernel_rfl) (by kernel_rfl) (fun u W => u = undef ∧ W = w1.drew.setCell ⟨b, 4, none⟩ (.slice p k cap)) (gives_store (p := ⟨b, 4, none⟩) (x := .slice p k cap) (y := .slice p x.f4.length cap) (fun _ => by kernel_rfl) (by rfl) d4 (df 4)) ?_
  rintro u WE ⟨rfl, hWE⟩
  refine ⟨held_cons (.inl (by kernel_rfl)) (held_cons (.inl (by kernel_rfl)) (held_cons (.inl (by kernel_rfl)) (held_nil))), ?_⟩
  refine At.done (by kernel_rfl) ?_
  simp only [Act.put, List.setIfInBounds_toArray, List.set_cons_zero, List.set_cons_succ]
  have HXE : Hid (WE.heap[b]? = some (.cells #[.int .i64 x.f0, .int .i64 x.f1, .int .i64 x.f2, .int .i64 x.f3, .slice p k cap] 26)) := by rw [hWE]; exact heap_setCell_same w1.drew b 4 _ _ (.slice p k cap) HX1.out
  have HOE : Hid (WE.ownsRow base 68 2 (.slice p k cap) (x.f4.take k).length (rEntry (x.f4.take k))) := by rw [hWE]; exact own_setS (show w1.drew.ownsRow _ _ _ _ _ _ from own_cutS HO1.out HKL.out) _ (own_ne (own_cutS HO1.out HKL.out) HX1.out)
  have HBE : Hid (Below B w WE) := by rw [hWE]; exact (((HBw.out.mono (by have := HBB.out; omega)) : Below B w w1).drew).setCell (by exact HBB.out.2.2.1) _
  clear hWE d2 d4 df e0
  go_wp2
  go_ret
  exact stR_yes (q := p) (c := cap) (y := ⟨x.f0, x.f1, x.f2, x.f3, x.f4.take k⟩) HF.out HE.out (by show WE.heap[b]? = some (Obj.cells #[.int .i64 x.f0, .int .i64 x.f1, .int .i64 x.f2, .int .i64 x.f3, .slice p (x.f4.take k).length cap] _); rw [HL7.out]; exact HXE.out) (by show WE.ownsRow _ _ _ (.slice p (x.f4.take k).length cap) _ _; rw [HL7.out]; have := HOE.out; rw [HL7.out] at this; exact this) HBE.out

end Go.Proofs.Ytengfkakiohfaaa
