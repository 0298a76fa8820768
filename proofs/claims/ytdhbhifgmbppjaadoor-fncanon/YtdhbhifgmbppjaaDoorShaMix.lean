/- The walk of what brings a block into the state (the program's own). -/
import Derived.Test.YtdhbhifgmbppjaaDoorShaWords
namespace Go.Proofs.YtdhbhifgmbppjaaDoor
open Go.RowKit
set_option linter.unusedVariables false
attribute [local go_sem ↓] Go.wp_at_zero Go.wp_at_succ

/-- The cells of a sum under way: the state, the bytes that wait, how many there were. -/
def sCells (st : List Int) (wt : List Int) (sz : Int) : List Value := st.map (Value.int .u32) ++ (wt.map (Value.int .u8) ++ [.int .i64 sz])

theorem sCells_st (st wt : List Int) (sz : Int) (hs : st.length = 8) (j : Nat) (hj : j < 8) : (sCells st wt sz)[j]? = some (.int .u32 (st.getD j 0)) := by
  unfold sCells
  rw [List.getElem?_append_left (by simp; omega), List.getElem?_map]
  simp [List.getD, List.getElem?_eq_getElem (show j < st.length by omega)]

theorem sCells_wt (st wt : List Int) (sz : Int) (hs : st.length = 8) (hw : wt.length = 64) (j : Nat) (hj : j < 64) : (sCells st wt sz)[8 + j]? = some (.int .u8 (wt.getD j 0)) := by
  unfold sCells
  rw [List.getElem?_append_right (by simp; omega), List.length_map, hs, Nat.add_sub_cancel_left, List.getElem?_append_left (by simp; omega), List.getElem?_map]
  simp [List.getD, List.getElem?_eq_getElem (show j < wt.length by omega)]

theorem sCells_sz (st wt : List Int) (sz : Int) (hs : st.length = 8) (hw : wt.length = 64) : (sCells st wt sz)[72]? = some (.int .i64 sz) := by
  unfold sCells
  rw [List.getElem?_append_right (by simp; omega), List.length_map, hs, List.getElem?_append_right (by simp; omega), List.length_map, hw]
  rfl

theorem sCells_set_st (st wt : List Int) (sz x : Int) (j : Nat) (hj : j < st.length) : (sCells st wt sz).set j (.int .u32 x) = sCells (st.set j x) wt sz := by
  unfold sCells
  rw [List.set_append_left _ _ (by simpa using hj), List.map_set]

theorem sCells_set_wt (st wt : List Int) (sz x : Int) (j : Nat) (hs : st.length = 8) (hj : j < wt.length) : (sCells st wt sz).set (8 + j) (.int .u8 x) = sCells st (wt.set j x) sz := by
  unfold sCells
  rw [List.set_append_right _ _ (by simp; omega), List.length_map, hs, Nat.add_sub_cancel_left, List.set_append_left _ _ (by simpa using hj), List.map_set]

theorem sCells_set_sz (st wt : List Int) (sz x : Int) (hs : st.length = 8) (hw : wt.length = 64) : (sCells st wt sz).set 72 (.int .i64 x) = sCells st wt x := by
  unfold sCells
  rw [List.set_append_right _ _ (by simp; omega), List.length_map, hs, List.set_append_right _ _ (by simp; omega), List.length_map, hw]
  rfl

theorem new_there (w : World) (c : Array Value) (t : TypeId) (n : Nat) (h : c.size = n) : (w.alloc (.cells c t)).there w.heap.size 0 n := by
  subst h
  intro j hj
  have hg : (w.alloc (.cells c t)).heap[w.heap.size]? = some (.cells c t) := by
    show (w.heap.push _)[w.heap.size]? = _
    simp
  constructor
  · rw [Nat.zero_add, cell_of_row _ _ j c t (0, 0) hg]
    simp [hj]
  · simp only [World.frozen?, hg]
    simp

theorem index64 (L : List Value) (j : Nat) (v : Value) (hj : j < 64) (h : L[j]? = some v) (w : World) : (Instr.index 90 (.agg L.toArray) (.int .i64 j)).run Tryd.prog w = .ok v w := by
  have h0 : (0 : Int) ≤ (j : Int) ∧ (j : Int) < 64 := by omega
  have h1 : L.toArray[j]? = some v := by simpa using h
  simp [Instr.index, asIntOf, h0, part, go_sem, h]
  omega

theorem index8 (L : List Value) (j : Nat) (v : Value) (hj : j < 8) (h : L[j]? = some v) (w : World) : (Instr.index 75 (.agg L.toArray) (.int .i64 j)).run Tryd.prog w = .ok v w := by
  have h0 : (0 : Int) ≤ (j : Int) ∧ (j : Int) < 8 := by omega
  have h1 : L.toArray[j]? = some v := by simpa using h
  simp [Instr.index, asIntOf, h0, part, go_sem, h]
  omega

theorem val_int {k : IntKind} {a b : Int} (h : a = b) : Value.int k a = .int k b := by rw [h]

/-- The state while the rounds' words are added, the first k done. -/
def part8 (x y : V8) (k : Nat) : List Int := (add8 x y).l.take k ++ x.l.drop k

theorem part8_set (x y : V8) (k : Nat) (hk : k < 8) : (part8 x y k).set k ((x.l.getD k 0 + y.l.getD k 0) % 4294967296) = part8 x y (k + 1) := by
  rcases k with _ | _ | _ | _ | _ | _ | _ | _ | k
  all_goals first | rfl | omega

theorem part8_at (x y : V8) (k : Nat) (hk : k < 8) : (part8 x y k).getD k 0 = x.l.getD k 0 := by
  rcases k with _ | _ | _ | _ | _ | _ | _ | _ | k
  all_goals first | rfl | omega

theorem part8_length (x y : V8) (k : Nat) (hk : k ≤ 8) : (part8 x y k).length = 8 := by
  simp [part8, V8.l]; omega

theorem l_getD_range (x : V8) (h : x.ok) (k : Nat) : 0 ≤ x.l.getD k 0 ∧ x.l.getD k 0 ≤ 4294967295 := by
  obtain ⟨h1, h2, h3, h4, h5, h6, h7, h8⟩ := h
  rcases k with _ | _ | _ | _ | _ | _ | _ | _ | k
  · exact h1
  · exact h2
  · exact h3
  · exact h4
  · exact h5
  · exact h6
  · exact h7
  · exact h8
  · simp [V8.l]

theorem l_cell (y : V8) (k : Nat) (hk : k < 8) : (y.l.map (Value.int .u32))[k]? = some (.int .u32 (y.l.getD k 0)) := by
  rcases k with _ | _ | _ | _ | _ | _ | _ | _ | k
  all_goals first | rfl | omega

theorem wp_gen {P : Program} {c : Code} {Q : Exit → Act → World → Prop} {a : Act} (F : World → Prop) {W0 : World} (h0 : F W0) (h : ∀ W, F W → Code.wp P c Q a W) : Code.wp P c Q a W0 := h W0 h0

theorem own_below {w w' : World} {N base : Nat} {e : TypeId} {size : Nat} {g n cap k : Nat} {xs : List Value} (h : w.ownsRow base e size (.slice (some ⟨g, 0, none⟩) n cap) k xs) (hb : Below N w w') (hg : g < N) : w'.ownsRow base e size (.slice (some ⟨g, 0, none⟩) n cap) k xs := by
  obtain ⟨h1, h2⟩ := h
  refine ⟨h1, ?_⟩
  rcases h2 with ⟨h2, _⟩ | ⟨g', cap', cur, hv, hg', hh, r⟩
  · simp at h2
  · have hv' := hv
    simp only [Value.slice.injEq, Option.some.injEq, Addr.mk.injEq, and_true] at hv'
    obtain ⟨rfl, _⟩ := hv'
    exact Or.inr ⟨g, cap', cur, hv, hg', by rw [hb.block g hg]; exact hh, r⟩

set_option maxRecDepth 20000 in
set_option maxHeartbeats 2000000 in
theorem mix_any (w : World) (B : Nat) (ks : List Int) (st : V8) (wt : List Int) (sz : Int) (hwt : wt.length = 64) (hz : ∀ j, 0 ≤ wt.getD j 0 ∧ wt.getD j 0 ≤ 255)
    (hr : st.ok) (hB0 : 0 < B) (hk : ∀ j, j < 64 → w.cell? ⟨0, j, none⟩ = some (.int .u32 (ks.getD j 0))) (hkr : ∀ j, 0 ≤ ks.getD j 0 ∧ ks.getD j 0 ≤ 4294967295)
    (hown : w.ownsRow B 78 1 (.slice (some ⟨B, 0, none⟩) 73 73) 73 (sCells st.l wt sz)) :
    Calls Tryd.prog 54 #[.pointer (some ⟨B, 0, none⟩)] w fun e w' => e = .returned (.tuple #[]) ∧ w'.ownsRow B 78 1 (.slice (some ⟨B, 0, none⟩) 73 73) 73 (sCells (blk ks st wt).l wt sz) ∧ Below B w w' := by
  have hB : B < w.heap.size := (hown.lt B rfl).2
  have HZ : Hid (∀ j, 0 ≤ wt.getD j 0 ∧ wt.getD j 0 ≤ 255) := hz
  have HK : Hid (∀ j, j < 64 → w.cell? ⟨0, j, none⟩ = some (.int .u32 (ks.getD j 0))) := hk
  have HKR : Hid (∀ j, 0 ≤ ks.getD j 0 ∧ ks.getD j 0 ≤ 4294967295) := hkr
  have HR : Hid st.ok := hr
  clear hz hk hkr hr
  go_enter Tryd.func54, Tryd.ntmps54
  go_wp2_with fail
  refine (words_any _ B wt hB (fun j hj => by rw [hown.cellAt (8 + j) (by omega)]; exact sCells_wt _ _ _ rfl hwt j hj) HZ.out).mono ?_
  rintro e w1 ⟨rfl, hb1⟩
  have hl64 : ((wL wt 64).map (Value.int .u32)).length = 64 := by rw [List.length_map, wL_length]
  have hi : (Tryd.prog.info? 90).map (·.size) = some 64 := by kernel_rfl
  have H3 : Hid (((wL wt 64).map (Value.int .u32)).toArray.all (·.oneCell') = true) := by
    refine all_oneCell_toArray fun v hv => ?_
    obtain ⟨x, _, rfl⟩ := List.mem_map.1 hv
    rfl
  have H2 : Hid ((Tryd.prog.info? 90).map (·.size) = some ((wL wt 64).map (Value.int .u32)).toArray.size) := by show _ = _; rw [List.size_toArray, hl64]; exact hi
  have H1 : Hid ((Tryd.prog.info? 90).map (·.size) = some ((wL wt 64).map (Value.int .u32)).length) := by show _ = _; rw [hl64]; exact hi
  have H6 : Hid (((wL wt 64).map (Value.int .u32)).toArray.size = 64) := by show _ = _; rw [List.size_toArray, hl64]
  generalize hL : (wL wt 64).map (Value.int .u32) = L at *
  have HL : Hid ((wL wt 64).map (Value.int .u32) = L) := hL
  have HO : Hid (w.ownsRow B 78 1 (.slice (some ⟨B, 0, none⟩) 73 73) 73 (sCells st.l wt sz)) := hown
  clear hL hl64 hi hown
  go_wp2_with (first
    | (refine wpList_store_mid (by rfl) 90 (.tmp 2) (.tmp 20) (by rfl) w1.heap.size 0 L.toArray (by rfl) (by rfl) (new_there _ _ _ _ H6.out.symm) H2.out H3.out ?_)
    | fail)
  refine wp_gen (fun W => W.rangeAt w1.heap.size 0 L ∧ Below w.heap.size w W ∧ w.heap.size ≤ w1.heap.size) ⟨World.rangeAt_setCells_same _ _ _ _ (new_there _ _ _ _ (by rw [← List.size_toArray, H6.out]; rfl)), below_setCells _ hb1.size _ _ _ (hb1.alloc hb1.size _), hb1.size⟩ ?_
  rintro w2 ⟨hra, hb2, hs2⟩
  generalize w1.heap.size = g at *
  have hown := own_below HO.out hb2 hB
  have c0 : w2.cell? ⟨B, 0, none⟩ = some (.int .u32 st.a) := by rw [hown.cellAt 0 (by omega)]; rfl
  have c1 : w2.cell? ⟨B, 1, none⟩ = some (.int .u32 st.b) := by rw [hown.cellAt 1 (by omega)]; rfl
  have c2 : w2.cell? ⟨B, 2, none⟩ = some (.int .u32 st.c) := by rw [hown.cellAt 2 (by omega)]; rfl
  have c3 : w2.cell? ⟨B, 3, none⟩ = some (.int .u32 st.d) := by rw [hown.cellAt 3 (by omega)]; rfl
  have c4 : w2.cell? ⟨B, 4, none⟩ = some (.int .u32 st.e) := by rw [hown.cellAt 4 (by omega)]; rfl
  have c5 : w2.cell? ⟨B, 5, none⟩ = some (.int .u32 st.f) := by rw [hown.cellAt 5 (by omega)]; rfl
  have c6 : w2.cell? ⟨B, 6, none⟩ = some (.int .u32 st.g) := by rw [hown.cellAt 6 (by omega)]; rfl
  have c7 : w2.cell? ⟨B, 7, none⟩ = some (.int .u32 st.h) := by rw [hown.cellAt 7 (by omega)]; rfl
  have H5 : Hid (w2.rangeAt g 0 L) := hra
  have HO2 : Hid (w2.ownsRow B 78 1 (.slice (some ⟨B, 0, none⟩) 73 73) 73 (sCells st.l wt sz)) := hown
  clear hra hown
  go_quiet (fail)
  go_wp2
  go_quiet (fail)
  go_wp2_with (first
    | (refine wpList_load_mid (by rfl) 90 (.tmp 2) (by rfl) g 0 (by rfl) L _ H5.out Tryd.underlying90 rfl H1.out ?_)
    | fail)
  refine wp_gen (fun W => W.ownsRow B 78 1 (.slice (some ⟨B, 0, none⟩) 73 73) 73 (sCells st.l wt sz) ∧ Below w.heap.size w W) ⟨HO2.out, below_drewN hb2 _⟩ ?_
  clear hb2 HO2 H5 c0 c1 c2 c3 c4 c5 c6 c7
  clear w2
  rintro w3 ⟨hown, hb3⟩
  have HO3 : Hid (w3.ownsRow B 78 1 (.slice (some ⟨B, 0, none⟩) 73 73) 73 (sCells st.l wt sz)) := hown
  clear hown
  go_loop [3, 4, 5, 6, 7, 8, 9, 10, 62] (fun a b c d e f g h i => ∃ n : Nat, n ≤ 64 ∧ i = .int .i64 n ∧ a = .int .u32 (rds ks (wL wt 64) st n).a ∧ b = .int .u32 (rds ks (wL wt 64) st n).b ∧ c = .int .u32 (rds ks (wL wt 64) st n).c ∧ d = .int .u32 (rds ks (wL wt 64) st n).d ∧ e = .int .u32 (rds ks (wL wt 64) st n).e ∧ f = .int .u32 (rds ks (wL wt 64) st n).f ∧ g = .int .u32 (rds ks (wL wt 64) st n).g ∧ h = .int .u32 (rds ks (wL wt 64) st n).h) (fun _ _ _ _ _ _ _ _ i => 64 - (intOf i).toNat)
  case atStart => exact ⟨0, by omega, rfl, rfl, rfl, rfl, rfl, rfl, rfl, rfl, rfl⟩
  case round =>
    obtain ⟨n, hn, rfl, rfl, rfl, rfl, rfl, rfl, rfl, rfl, rfl⟩ := hrel
    have HV : Hid ((rds ks (wL wt 64) st n).ok) := rds_ok _ _ _ HR.out n
    have HS : Hid (rds ks (wL wt 64) st (n + 1) = rnd (rds ks (wL wt 64) st n) (ks.getD n 0) ((wL wt 64).getD n 0)) := rfl
    generalize hv : rds ks (wL wt 64) st n = v at *
    have HN : Hid (rds ks (wL wt 64) st n = v) := hv
    clear hv
    obtain ⟨va, vb, vc, vd, ve, vf, vg, vh⟩ := v
    obtain ⟨⟨a0, a1⟩, ⟨b0, b1⟩, ⟨cc0, cc1⟩, ⟨d0, d1⟩, ⟨e0, e1⟩, ⟨f0, f1⟩, ⟨g0, g1⟩, ⟨h0, h1⟩⟩ := HV.out
    simp only at a0 a1 b0 b1 cc0 cc1 d0 d1 e0 e1 f0 f1 g0 g1 h0 h1
    by_cases hlt : n < 64
    · have hkc : w3.cell? ⟨0, n, none⟩ = some (.int .u32 (ks.getD n 0)) := by rw [hb3.cell (p := ⟨0, n, none⟩) (by show 0 < w.heap.size; omega)]; exact HK.out n hlt
      obtain ⟨k0, k1⟩ := HKR.out n
      have hLn : L[n]? = some (.int .u32 ((wL wt 64).getD n 0)) := by
        rw [← HL.out, List.getElem?_map]
        have : n < (wL wt 64).length := by rw [wL_length]; exact hlt
        simp [List.getD, List.getElem?_eq_getElem this]
      obtain ⟨x0, x1⟩ := wL_range wt HZ.out 64 n
      generalize ks.getD n 0 = kn at *
      generalize (wL wt 64).getD n 0 = wn at *
      have i0 : (0 : Int) ≤ (n : Int) := by omega
      have i1 : (n : Int) < 64 := by omega
      have hix := index64 L n (.int .u32 wn) hlt hLn
      obtain ⟨E1, hE1⟩ : ∃ x, bits .xor .u32 (bits .xor .u32 (rt ve 6) (rt ve 11)) (rt ve 25) = x := ⟨_, rfl⟩
      obtain ⟨NV, hNV⟩ : ∃ x, bits .xor .u32 (if IntKind.u32.signed = true then -1 else IntKind.u32.max) ve = x := ⟨_, rfl⟩
      obtain ⟨CH, hCH⟩ : ∃ x, bits .xor .u32 (bits .and .u32 ve vf) (bits .and .u32 NV vg) = x := ⟨_, rfl⟩
      obtain ⟨A0, hA0⟩ : ∃ x, bits .xor .u32 (bits .xor .u32 (rt va 2) (rt va 13)) (rt va 22) = x := ⟨_, rfl⟩
      obtain ⟨MJ, hMJ⟩ : ∃ x, bits .xor .u32 (bits .xor .u32 (bits .and .u32 va vb) (bits .and .u32 va vc)) (bits .and .u32 vb vc) = x := ⟨_, rfl⟩
      obtain ⟨T1, hT1⟩ : ∃ x, (vh + E1 + CH + kn + wn) % 4294967296 = x := ⟨_, rfl⟩
      have HS2 : Hid (rds ks (wL wt 64) st (n + 1) = ⟨(T1 + A0 + MJ) % 4294967296, va, vb, vc, (vd + T1) % 4294967296, ve, vf, vg⟩) := by
        show rds ks (wL wt 64) st (n + 1) = _
        rw [HS.out, ← hT1, ← hMJ, ← hA0, ← hCH, ← hNV, ← hE1]
        rfl
      have t0 : 0 ≤ T1 ∧ T1 ≤ 4294967295 := by omega
      obtain ⟨t0, t1⟩ := t0
      clear HS
      go_wp2_with fail
      refine (rot_any _ _ 6 _ (by rfl) e0 e1 (by omega) (by omega)).mono ?_
      rintro e w4 ⟨rfl, hq⟩
      replace hq := hq.symm
      subst hq
      go_wp2_with fail
      refine (rot_any _ _ 11 _ (by rfl) e0 e1 (by omega) (by omega)).mono ?_
      rintro e w4 ⟨rfl, hq⟩
      replace hq := hq.symm
      subst hq
      go_wp2_with fail
      refine (rot_any _ _ 25 _ (by rfl) e0 e1 (by omega) (by omega)).mono ?_
      rintro e w4 ⟨rfl, hq⟩
      replace hq := hq.symm
      subst hq
      go_wp2_with fail
      refine (rot_any _ _ 2 _ (by rfl) a0 a1 (by omega) (by omega)).mono ?_
      rintro e w4 ⟨rfl, hq⟩
      replace hq := hq.symm
      subst hq
      go_wp2_with fail
      refine (rot_any _ _ 13 _ (by rfl) a0 a1 (by omega) (by omega)).mono ?_
      rintro e w4 ⟨rfl, hq⟩
      replace hq := hq.symm
      subst hq
      go_wp2_with fail
      refine (rot_any _ _ 22 _ (by rfl) a0 a1 (by omega) (by omega)).mono ?_
      rintro e w4 ⟨rfl, hq⟩
      replace hq := hq.symm
      subst hq
      go_wp2
      go_round
      case rel =>
        refine ⟨n + 1, by omega, by go_num, ?_, ?_, ?_, ?_, ?_, ?_, ?_, ?_⟩
        all_goals rw [HS2.out]
        exact val_int (by show _ = (T1 + A0 + MJ) % 4294967296; omega)
      case measure => simp [intOf]; omega
    · have : n = 64 := by omega
      subst this
      clear HS
      go_wp2
      go_loopw [136] (fun i wr => ∃ k : Nat, k ≤ 8 ∧ i = .int .i64 k ∧ wr.ownsRow B 78 1 (.slice (some ⟨B, 0, none⟩) 73 73) 73 (sCells (part8 st ⟨va, vb, vc, vd, ve, vf, vg, vh⟩ k) wt sz) ∧ Below B w wr) (fun i _ => 8 - (intOf i).toNat)
      case atStart => exact ⟨0, by omega, rfl, HO3.out, hb3.mono (by omega)⟩
      case round =>
        obtain ⟨k, hk8, rfl, hown, hbel⟩ := hrel
        by_cases hlk : k < 8
        · have hpl := part8_length st ⟨va, vb, vc, vd, ve, vf, vg, vh⟩ k hk8
          have hcx : wr.cell? ⟨B, k, none⟩ = some (.int .u32 (st.l.getD k 0)) := by
            rw [hown.cellAt k (by omega), sCells_st _ _ _ hpl k hlk, part8_at _ _ _ hlk]
          have hfz := hown.frozenAt k
          have hst := hown.stored k (.int .u32 ((st.l.getD k 0 + (V8.mk va vb vc vd ve vf vg vh).l.getD k 0) % 4294967296))
          rw [sCells_set_st _ _ _ _ _ (by omega), part8_set _ _ _ hlk] at hst
          have hix := index8 _ k _ hlk (l_cell ⟨va, vb, vc, vd, ve, vf, vg, vh⟩ k hlk)
          have hix2 : ∀ w, (Instr.index 75 (.agg #[.int .u32 va, .int .u32 vb, .int .u32 vc, .int .u32 vd, .int .u32 ve, .int .u32 vf, .int .u32 vg, .int .u32 vh]) (.int .i64 k)).run Tryd.prog w = .ok (.int .u32 ((V8.mk va vb vc vd ve vf vg vh).l.getD k 0)) w := hix
          obtain ⟨x0, x1⟩ := l_getD_range st HR.out k
          obtain ⟨y0, y1⟩ := l_getD_range _ HV.out k
          clear hix
          generalize st.l.getD k 0 = x at *
          generalize (V8.mk va vb vc vd ve vf vg vh).l.getD k 0 = y at *
          have i0 : (0 : Int) ≤ (k : Int) := by omega
          have i1 : (k : Int) < 8 := by omega
          have R1 := hst.1
          have R2 := hbel.setCell (p := ⟨B, k, none⟩) (Nat.le_refl _) (.int .u32 ((x + y) % 4294967296))
          have HR1 := R1.drew
          have HR2 := R2.drew
          clear hst hown R1 R2 hpl
          go_wp2
          go_region
          go_wp2
          exact ⟨⟨k + 1, by omega, by go_num, HR1, HR2⟩, by simp [intOf]; omega⟩
        · have : k = 8 := by omega
          subst this
          have hbk : part8 st ⟨va, vb, vc, vd, ve, vf, vg, vh⟩ 8 = (blk ks st wt).l := by
            show (add8 st _).l = (add8 st (rds ks (wL wt 64) st 64)).l
            rw [HN.out]
          rw [hbk] at hown
          clear hbk
          go_wp2
          go_end0
          exact ⟨rfl, hown, hbel⟩

end Go.Proofs.YtdhbhifgmbppjaaDoor
