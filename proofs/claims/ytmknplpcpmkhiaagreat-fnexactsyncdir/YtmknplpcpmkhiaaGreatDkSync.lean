/- The specification's Sync by its contract. -/
import Derived.Test.YtmknplpcpmkhiaaGreatDkCopy
import Derived.Test.YtmknplpcpmkhiaaGreatDiSync
namespace Go.Proofs.YtmknplpcpmkhiaaGreat
open Go.RowKit Go.Maps
set_option linter.unusedVariables false

theorem rInode_set (u : Int) : ∀ (L : List S_Inode) (k : Nat) (hk : k < L.length), (rInode L).set (k * 3 + 2) (.int .i64 u) = rInode (L.set k ⟨L[k].f0, L[k].f1, u⟩)
  | [], k, hk => by simp at hk
  | y :: ys, 0, _ => by simp [rInode, cInode]
  | y :: ys, k + 1, hk => by
    have ih := rInode_set u ys k (by simpa using hk)
    have e : (k + 1) * 3 + 2 = (k * 3 + 2) + 1 + 1 + 1 := by omega
    have h1 : rInode (y :: ys) = .int .i64 y.f0 :: .string y.f1 :: .int .i64 y.f2 :: rInode ys := by simp [rInode, cInode]
    have h2 : ∀ Z, rInode (y :: Z) = .int .i64 y.f0 :: .string y.f1 :: .int .i64 y.f2 :: rInode Z := fun Z => by simp [rInode, cInode]
    rw [h1, e, List.set_cons_succ, List.set_cons_succ, List.set_cons_succ, ih, List.set_cons_succ, h2]
    rfl

theorem own_set_in {w : World} {base : Nat} {e : TypeId} {size g n cap o : Nat} {u : Value} {xs : List Value} (h : w.ownsRow base e size (.slice (some ⟨g, 0, none⟩) n cap) n xs) : (w.setCell ⟨g, o, none⟩ u).ownsRow base e size (.slice (some ⟨g, 0, none⟩) n cap) n (xs.set o u) := by
  have := own_setCells [u] o xs w h
  simpa [World.setCells, setN] using this

theorem own_unfrozen {w : World} {base : Nat} {e : TypeId} {size g n cap k : Nat} {xs : List Value} (h : w.ownsRow base e size (.slice (some ⟨g, 0, none⟩) n cap) k xs) (o : Nat) : w.frozen? ⟨g, o, none⟩ = false := by
  obtain ⟨_, ⟨h1, _⟩ | ⟨g', cap', cur, h1, _, hh, _⟩⟩ := h
  · simp at h1
  · simp only [Value.slice.injEq, Option.some.injEq, Addr.mk.injEq] at h1
    obtain ⟨⟨rfl, _⟩, _⟩ := h1
    simp [World.frozen?, hh]

theorem disk_all {w : World} {b : Nat} {a0 a1 a2 a3 a4 u0 u1 u2 u3 u4 : Value} {t : TypeId} (h : w.heap[b]? = some (.cells #[a0, a1, a2, a3, a4] t)) : (((((w.setCell ⟨b, 0, none⟩ u0).setCell ⟨b, 1, none⟩ u1).setCell ⟨b, 2, none⟩ u2).setCell ⟨b, 3, none⟩ u3).setCell ⟨b, 4, none⟩ u4).heap[b]? = some (.cells #[u0, u1, u2, u3, u4] t) := by
  simp [World.setCell, Array.getElem?_modify, h]

theorem own_ne {w : World} {b1 b2 : Nat} {e1 e2 : TypeId} {s1 s2 n1 n2 k2 g c2 : Nat} {v1 : Value} {x1 x2 : List Value} (h1 : w.ownsRow b1 e1 s1 v1 n1 x1) (h2 : w.ownsRow b2 e2 s2 (.slice (some ⟨g, 0, none⟩) n2 c2) k2 x2) (hne : e1 ≠ e2) : ∀ j, v1.ownBlock = some j → j ≠ g := by
  intro j hj e
  subst e
  obtain ⟨_, ⟨rfl, _⟩ | ⟨g1, cap1, cur1, rfl, _, hh1, _⟩⟩ := h1
  · cases hj
  · simp only [Value.ownBlock, Option.some.injEq] at hj
    subst hj
    obtain ⟨_, ⟨h3, _⟩ | ⟨g', cap', cur', h3, _, hh, _⟩⟩ := h2
    · simp at h3
    · simp only [Value.slice.injEq, Option.some.injEq, Addr.mk.injEq] at h3
      obtain ⟨⟨h3, _⟩, _⟩ := h3
      rw [← h3, hh1] at hh
      simp only [Option.some.injEq, Obj.cells.injEq] at hh
      exact hne hh.2.1

theorem syF_not {x : S_Disk} {s : ByteArray} (h : nmd x s ≠ 0) : syF x s = (x, nmd x s) := by
  unfold nmd at *
  unfold syF
  split
  · rfl
  · rename_i h1
    rw [if_neg h1] at h
    split
    · rfl
    · rename_i h2
      rw [if_neg h2] at h
      exact absurd rfl h

theorem syF_yes {x : S_Disk} {s : ByteArray} (h : nmd x s = 0) : 0 ≤ fnd x s ∧ ∀ (k : Nat) (hk : k < x.f2.length), fnd x s = k → syF x s = (⟨x.f0, x.f1, x.f2.set k ⟨x.f2[k].f0, x.f2[k].f1, x.f2[k].f1.size⟩, x.f3, x.f4⟩, 0) := by
  unfold nmd at h
  split at h
  · simp at h
  · rename_i h1
    split at h
    · simp at h
    · rename_i h2
      refine ⟨by omega, fun k hk hf => ?_⟩
      unfold syF
      rw [if_neg h1, if_neg h2, hf, Int.toNat_natCast, List.getElem?_eq_getElem hk]

set_option maxRecDepth 20000 in
set_option maxHeartbeats 4000000 in
theorem specSync_c (x : S_Disk) (p2 p3 p4 : Option Addr) (c2 c3 c4 : Nat) (s : ByteArray) (w : World) (hb : Bnd x) (hr : RdDisk w x (.slice p2 x.f2.length c2) (.slice p3 x.f3.length c3) (.slice p4 x.f4.length c4)) (hc3 : x.f3.length ≤ c3) (hc4 : x.f4.length ≤ c4) (hsz : s.size ≤ 1048576) :
    Calls Tryz.prog 11 #[.agg #[.int .i64 x.f0, .int .i64 x.f1, .slice p2 x.f2.length c2, .slice p3 x.f3.length c3, .slice p4 x.f4.length c4], .string s] w (OnR x (syF x s) w) := by
  obtain ⟨W0, hW0⟩ : ∃ W, W = w.alloc (.cells #[.int .i64 x.f0, .int .i64 x.f1, .slice p2 x.f2.length c2, .slice p3 x.f3.length c3, .slice p4 x.f4.length c4] 28) := ⟨_, rfl⟩
  have HW0 : Hid (w.alloc (.cells #[.int .i64 x.f0, .int .i64 x.f1, .slice p2 x.f2.length c2, .slice p3 x.f3.length c3, .slice p4 x.f4.length c4] 28) = W0) := hW0.symm
  have HS0 : Hid (W0.heap.size = w.heap.size + 1) := by show _ = _; rw [hW0]; simp
  have HB0 : Hid (Below w.heap.size w W0) := by rw [hW0]; exact (Below.refl _ _).alloc (Nat.le_refl _) _
  have HBX : Hid (∀ W', Below W0.heap.size W0 W' → W'.cell? ⟨w.heap.size, 0, none⟩ = some (.int .i64 x.f0) ∧ W'.cell? ⟨w.heap.size, 1, none⟩ = some (.int .i64 x.f1) ∧ W'.cell? ⟨w.heap.size, 2, none⟩ = some (.slice p2 x.f2.length c2) ∧ W'.cell? ⟨w.heap.size, 3, none⟩ = some (.slice p3 x.f3.length c3) ∧ W'.cell? ⟨w.heap.size, 4, none⟩ = some (.slice p4 x.f4.length c4)) := fun W' hbel => by
    have hk : W'.heap[w.heap.size]? = some (.cells #[.int .i64 x.f0, .int .i64 x.f1, .slice p2 x.f2.length c2, .slice p3 x.f3.length c3, .slice p4 x.f4.length c4] 28) := by rw [hbel.block _ (by rw [HS0.out]; exact Nat.lt_succ_self _), hW0]; exact alloc_at _ _
    exact (disk_cell hk).1
  have HRD : Hid (∀ W', Below W0.heap.size W0 W' → RdDisk W' x (.slice p2 x.f2.length c2) (.slice p3 x.f3.length c3) (.slice p4 x.f4.length c4)) := fun W' hbel => (hr.keep HB0.out (Nat.le_refl _)).keep hbel (Nat.le_refl _)
  have HDN : Hid (∀ W', Below W0.heap.size W0 W' → Below w.heap.size w W') := fun W' hbel => HB0.out.trans (hbel.mono (by rw [HS0.out]; exact Nat.le_succ _))
  have HBN : Hid (Bnd x) := hb
  have HLN : Hid (LnDisk x 1048576) := ⟨hb.len.1, hb.dir, hb.len.2⟩
  clear hW0 hr hb
  have HCP : Hid (x.f3.length ≤ c3 ∧ x.f4.length ≤ c4) := ⟨hc3, hc4⟩
  clear hc3 hc4
  obtain ⟨WB, hWB⟩ : ∃ W, W = W0.alloc (.cells #[.int .i64 0, .int .i64 0, .slice none 0 0, .slice none 0 0, .slice none 0 0] 28) := ⟨_, rfl⟩
  have HWB : Hid (W0.alloc (.cells #[.int .i64 0, .int .i64 0, .slice none 0 0, .slice none 0 0, .slice none 0 0] 28) = WB) := hWB.symm
  have HBB : Hid (Below W0.heap.size W0 WB) := by rw [hWB]; exact (Below.refl _ _).alloc (Nat.le_refl _) _
  have HRB : Hid (WB.heap[w.heap.size + 1]? = some (.cells #[.int .i64 0, .int .i64 0, .slice none 0 0, .slice none 0 0, .slice none 0 0] 28)) := by rw [hWB, ← HS0.out]; exact alloc_at _ _
  have HDB : Hid (WB.heap[w.heap.size]? = some (.cells #[.int .i64 x.f0, .int .i64 x.f1, .slice p2 x.f2.length c2, .slice p3 x.f3.length c3, .slice p4 x.f4.length c4] 28)) := by
    rw [hWB, Below.heap_alloc _ _ _ (by rw [HS0.out]; exact Nat.lt_succ_self _), ← HW0.out]
    exact alloc_at _ _
  clear hWB
  obtain ⟨e0, e1, e2, e3, e4⟩ := HBX.out WB HBB.out
  go_enter Tryz.func11, Tryz.ntmps11
  go_wp2_with fail
  rw [HW0.out, HWB.out]
  refine (specOk_c x p2 p3 p4 c2 c3 c4 WB HBN.out (HRD.out WB HBB.out) HCP.out.1 HCP.out.2).mono ?_
  intro e w1 hdo
  clear e0 e1 e2 e3 e4
  obtain ⟨⟨hok, rfl⟩ | ⟨hno, rfl⟩, b1⟩ := hdo
  case inr =>
    have HE : Hid (¬ okX x) := hno
    have HC1 : Hid (Below W0.heap.size W0 w1) := HBB.out.trans (b1.mono HBB.out.size)
    have HR1 : Hid (w1.heap[w.heap.size + 1]? = some (.cells #[.int .i64 0, .int .i64 0, .slice none 0 0, .slice none 0 0, .slice none 0 0] 28)) := (b1.block _ (lt_of_some HRB.out)).trans HRB.out
    obtain ⟨⟨z0, z1, z2, z3, z4⟩, zf⟩ := disk_cell HR1.out
    have zf0 := zf 0
    have zf1 := zf 1
    have zf2 := zf 2
    have zf3 := zf 3
    have zf4 := zf 4
    clear hno b1 zf
    go_wp2
    refine bodyPost_ret (v := .tuple #[.agg #[.int .i64 0, .int .i64 0, .slice none 0 0, .slice none 0 0, .slice none 0 0], .int .i64 1]) (by simp [results, Tryz.results11, go_sem, z0, z1, z2, z3, z4]) rfl ⟨bare 0 0, 1, _, _, _, rfl, ⟨⟨rfl, .inl ⟨rfl, rfl⟩⟩, ⟨rfl, .inl ⟨rfl, rfl⟩⟩, ⟨rfl, .inl ⟨rfl, rfl⟩⟩⟩, ?_, .inr ⟨HE.out, rfl, rfl⟩⟩
    exact (((((HDN.out _ HC1.out).setCell (Nat.le_succ _) _).setCell (Nat.le_succ _) _).setCell (Nat.le_succ _) _).setCell (Nat.le_succ _) _).setCell (Nat.le_succ _) _
  have HE : Hid (okX x) := hok
  have HC1 : Hid (Below W0.heap.size W0 w1) := HBB.out.trans (b1.mono HBB.out.size)
  have HR1 : Hid (w1.heap[w.heap.size + 1]? = some (.cells #[.int .i64 0, .int .i64 0, .slice none 0 0, .slice none 0 0, .slice none 0 0] 28)) := (b1.block _ (lt_of_some HRB.out)).trans HRB.out
  have HD1 : Hid (w1.heap[w.heap.size]? = some (.cells #[.int .i64 x.f0, .int .i64 x.f1, .slice p2 x.f2.length c2, .slice p3 x.f3.length c3, .slice p4 x.f4.length c4] 28)) := (b1.block _ (lt_of_some HDB.out)).trans HDB.out
  clear hok b1
  obtain ⟨e0, e1, e2, e3, e4⟩ := HBX.out w1 HC1.out
  go_wp2_with fail
  refine (named_c x p2 p3 p4 c2 c3 c4 s w1 HE.out HBN.out (HRD.out w1 HC1.out) hsz).mono ?_
  rintro e w2 ⟨rfl, b2⟩
  have HC2 : Hid (Below W0.heap.size W0 w2) := HC1.out.trans (b2.mono HC1.out.size)
  have HR2 : Hid (w2.heap[w.heap.size + 1]? = some (.cells #[.int .i64 0, .int .i64 0, .slice none 0 0, .slice none 0 0, .slice none 0 0] 28)) := (b2.block _ (lt_of_some HR1.out)).trans HR1.out
  have HD2 : Hid (w2.heap[w.heap.size]? = some (.cells #[.int .i64 x.f0, .int .i64 x.f1, .slice p2 x.f2.length c2, .slice p3 x.f3.length c3, .slice p4 x.f4.length c4] 28)) := (b2.block _ (lt_of_some HD1.out)).trans HD1.out
  clear b2 e0 e1 e2 e3 e4
  obtain ⟨e0, e1, e2, e3, e4⟩ := HBX.out w2 HC2.out
  go_wp2_with fail
  refine (copy_c x p2 p3 p4 c2 c3 c4 w2 HLN.out (HRD.out w2 HC2.out)).mono ?_
  rintro e w3 ⟨g2, g3, g4, d2, d3, d4, rfl, ho, b3⟩
  have HO3 : Hid (OwDisk w3 w2.heap.size x (.slice g2 x.f2.length d2) (.slice g3 x.f3.length d3) (.slice g4 x.f4.length d4)) := ho
  have HC3 : Hid (Below w.heap.size w w3) := (HDN.out _ HC2.out).trans (b3.mono (HDN.out _ HC2.out).size)
  have HR3 : Hid (w3.heap[w.heap.size + 1]? = some (.cells #[.int .i64 0, .int .i64 0, .slice none 0 0, .slice none 0 0, .slice none 0 0] 28)) := (b3.block _ (lt_of_some HR2.out)).trans HR2.out
  have HD3 : Hid (w3.heap[w.heap.size]? = some (.cells #[.int .i64 x.f0, .int .i64 x.f1, .slice p2 x.f2.length c2, .slice p3 x.f3.length c3, .slice p4 x.f4.length c4] 28)) := (b3.block _ (lt_of_some HD2.out)).trans HD2.out
  have HL2 : Hid (w.heap.size + 1 < w2.heap.size) := lt_of_some HR2.out
  clear b3 ho e0 e1 e2 e3 e4
  obtain ⟨⟨y0, y1, y2, y3, y4⟩, yf⟩ := disk_cell HD3.out
  have yf0 := yf 0
  have yf1 := yf 1
  have yf2 := yf 2
  have yf3 := yf 3
  have yf4 := yf 4
  clear yf
  go_upto_region 5 with fail
  refine wp_genD (fun W => Hid (W.heap[w.heap.size]? = some (.cells #[.int .i64 x.f0, .int .i64 x.f1, .slice g2 x.f2.length d2, .slice g3 x.f3.length d3, .slice g4 x.f4.length d4] 28)) ∧ Hid (W.heap[w.heap.size + 1]? = some (.cells #[.int .i64 0, .int .i64 0, .slice none 0 0, .slice none 0 0, .slice none 0 0] 28)) ∧ Hid (OwDisk W w2.heap.size x (.slice g2 x.f2.length d2) (.slice g3 x.f3.length d3) (.slice g4 x.f4.length d4)) ∧ Hid (Below w.heap.size w W)) ⟨?_, ?_, ?_, ?_⟩ ?_
  · exact disk_all HD3.out
  · show _ = _
    rw [heap_set_ne _ _ (by show w.heap.size + 1 ≠ w.heap.size; omega), heap_set_ne _ _ (by show w.heap.size + 1 ≠ w.heap.size; omega), heap_set_ne _ _ (by show w.heap.size + 1 ≠ w.heap.size; omega), heap_set_ne _ _ (by show w.heap.size + 1 ≠ w.heap.size; omega), heap_set_ne _ _ (by show w.heap.size + 1 ≠ w.heap.size; omega)]
    exact HR3.out
  · have h2 := HL2.out
    have hs : ∀ {e : TypeId} {size n base : Nat} {v : Value} {xs : List Value} {W : World}, W.ownsRow base e size v n xs → w.heap.size < base → ∀ u (o : Nat), (W.setCell ⟨w.heap.size, o, none⟩ u).ownsRow base e size v n xs := fun h hl u o => own_set_lt h u hl
    exact ⟨hs (hs (hs (hs (hs HO3.out.1 (by omega) _ 0) (by omega) _ 1) (by omega) _ 2) (by omega) _ 3) (by omega) _ 4, hs (hs (hs (hs (hs HO3.out.2.1 (by omega) _ 0) (by omega) _ 1) (by omega) _ 2) (by omega) _ 3) (by omega) _ 4, hs (hs (hs (hs (hs HO3.out.2.2 (by omega) _ 0) (by omega) _ 1) (by omega) _ 2) (by omega) _ 3) (by omega) _ 4⟩
  · exact ((((HC3.out.setCell (Nat.le_refl _) _).setCell (Nat.le_refl _) _).setCell (Nat.le_refl _) _).setCell (Nat.le_refl _) _).setCell (Nat.le_refl _) _
  rintro W4 ⟨HD4, HR4, HO4, HBF⟩
  clear y0 y1 y2 y3 y4 yf0 yf1 yf2 yf3 yf4 HO3 HC3 HR3 HD3 HC2 HR2 HD2 HC1 HR1 HD1
  obtain ⟨⟨y0, y1, y2, y3, y4⟩, _⟩ := disk_cell HD4.out
  by_cases hc : nmd x s = 0
  case neg =>
    have hcb : (nmd x s == 0) = false := by simpa using hc
    have HF : Hid (syF x s = (x, nmd x s)) := syF_not hc
    obtain ⟨⟨z0, z1, z2, z3, z4⟩, zf⟩ := disk_cell HR4.out
    have zf0 := zf 0
    have zf1 := zf 1
    have zf2 := zf 2
    have zf3 := zf 3
    have zf4 := zf 4
    have HQ2 : Hid _ := HO4.out.1
    have HQ3 : Hid _ := HO4.out.2.1
    have HQ4 : Hid _ := HO4.out.2.2
    have h2 := HL2.out
    clear zf hc
    go_wp2
    refine bodyPost_ret (v := .tuple #[.agg #[.int .i64 x.f0, .int .i64 x.f1, .slice g2 x.f2.length d2, .slice g3 x.f3.length d3, .slice g4 x.f4.length d4], .int .i64 (nmd x s)]) (by simp [results, Tryz.results11, go_sem, z0, z1, z2, z3, z4]) rfl ⟨x, (nmd x s), _, _, _, rfl, ?_, ?_, .inl ⟨HE.out, by rw [HF.out]; exact ⟨rfl, rfl⟩⟩⟩
    · have hs : ∀ {e : TypeId} {size n base : Nat} {v : Value} {xs : List Value} {W : World}, W.ownsRow base e size v n xs → w.heap.size + 1 < base → ∀ u (o : Nat), (W.setCell ⟨w.heap.size + 1, o, none⟩ u).ownsRow base e size v n xs := fun h hl u o => own_set_lt h u hl
      refine ⟨?_, ?_, ?_⟩
      · exact own_low (hs (hs (hs (hs (hs HQ2.out (by omega) _ 0) (by omega) _ 1) (by omega) _ 2) (by omega) _ 3) (by omega) _ 4) (by omega)
      · exact own_low (hs (hs (hs (hs (hs HQ3.out (by omega) _ 0) (by omega) _ 1) (by omega) _ 2) (by omega) _ 3) (by omega) _ 4) (by omega)
      · exact own_low (hs (hs (hs (hs (hs HQ4.out (by omega) _ 0) (by omega) _ 1) (by omega) _ 2) (by omega) _ 3) (by omega) _ 4) (by omega)
    · exact ((((HBF.out.setCell (Nat.le_succ _) _).setCell (Nat.le_succ _) _).setCell (Nat.le_succ _) _).setCell (Nat.le_succ _) _).setCell (Nat.le_succ _) _
  have hcb : (nmd x s == 0) = true := by simpa using hc
  obtain ⟨hpos, HF0⟩ := syF_yes hc
  rw [hc]
  rw [hc] at hcb
  obtain ⟨k, hk⟩ : ∃ k : Nat, fnd x s = k := ⟨(fnd x s).toNat, by omega⟩
  have hkl : k < x.f2.length := by
    have h1 := (idx_range (fun y : S_Inode => decide (y.f0 = idOf (nms x.f3 x.f4) s)) x.f2).2
    unfold fnd at hk
    split at hk <;> omega
  have HF : Hid _ := HF0 k hkl hk
  clear HF0 hpos hc
  have HHK : Hid (fnd x s = k) := hk
  clear hk
  go_wp2_with fail
  refine (find_c x g2 g3 g4 d2 d3 d4 s W4 HLN.out (okX_sum HE.out) HBN.out.sm (by unfold maxLen; omega) HO4.out.rd).mono ?_
  rintro e W5 ⟨rfl, b5⟩
  rw [HHK.out]
  have HD5 : Hid (W5.heap[w.heap.size]? = some (.cells #[.int .i64 x.f0, .int .i64 x.f1, .slice g2 x.f2.length d2, .slice g3 x.f3.length d3, .slice g4 x.f4.length d4] 28)) := (b5.block _ (lt_of_some HD4.out)).trans HD4.out
  have HR5 : Hid (W5.heap[w.heap.size + 1]? = some (.cells #[.int .i64 0, .int .i64 0, .slice none 0 0, .slice none 0 0, .slice none 0 0] 28)) := (b5.block _ (lt_of_some HR4.out)).trans HR4.out
  have HO5 : Hid (OwDisk W5 w2.heap.size x (.slice g2 x.f2.length d2) (.slice g3 x.f3.length d3) (.slice g4 x.f4.length d4)) := HO4.out.keep b5 (Nat.le_refl _)
  have HB5 : Hid (Below w.heap.size w W5) := HBF.out.trans (b5.mono HBF.out.size)
  obtain ⟨gb, hgv⟩ : ∃ gb, g2 = some ⟨gb, 0, none⟩ := by
    obtain ⟨_, ⟨h1, h2⟩ | ⟨gb, cap, cur, h1, _⟩⟩ := HO5.out.1
    · omega
    · simp only [Value.slice.injEq, true_and] at h1
      exact ⟨gb, h1.1⟩
  subst hgv
  obtain ⟨b', off', cap', hv', _, hcc⟩ := inode_cells (RowR.own HO5.out.1) (by omega)
  simp only [Value.slice.injEq, Option.some.injEq, Addr.mk.injEq, true_and] at hv'
  obtain ⟨⟨hv1, hv2, _⟩, hv3⟩ := hv'
  subst hv1
  subst hv2
  obtain ⟨_, c1, c2x⟩ := hcc k hkl
  have c1' : W5.cell? ⟨gb, k * 3 + 1, none⟩ = some (.string x.f2[k].f1) := by rw [Nat.zero_add] at c1; exact c1
  have c2' : W5.cell? ⟨gb, k * 3 + 2, none⟩ = some (.int .i64 x.f2[k].f2) := by rw [Nat.zero_add] at c2x; exact c2x
  have uf : W5.frozen? ⟨gb, k * 3 + 2, none⟩ = false := own_unfrozen HO5.out.1 _
  have hkI : (k : Int) < x.f2.length := by omega
  have hlI : (x.f2.length : Int) ≤ 1048576 := by have := HLN.out.1; omega
  have hgl : w.heap.size + 1 < gb := by have h1 := own_ge HO5.out.1 gb rfl; have h2 := HL2.out; omega
  clear y0 y1 y2 y3 y4 b5 hcc c1 c2x hv3
  obtain ⟨⟨y0, y1, y2, y3, y4⟩, _⟩ := disk_cell HD5.out
  go_upto_region 7 with fail
  refine wp_region_L [⟨12, fun W => W.cell? ⟨w.heap.size, 2, none⟩ = some (.slice (some ⟨gb, 0, none⟩) x.f2.length d2)⟩, ⟨12, fun W => W.cell? ⟨w.heap.size, 2, none⟩ = some (.slice (some ⟨gb, 0, none⟩) x.f2.length d2)⟩, ⟨12, fun W => W.cell? ⟨gb, k * 3 + 1, none⟩ = some (.string x.f2[k].f1)⟩] (by kernel_rfl) (fun f hf => by
      simp only [List.mem_cons, List.not_mem_nil, or_false] at hf
      rcases hf with rfl | rfl | rfl
      · exact y2
      · exact y2
      · exact c1'
      ) ?_
  refine At.take 0 (some 22) (.pointer (some ⟨w.heap.size, 2, none⟩)) rfl rfl (by kernel_rfl) (by kernel_rfl) (by kernel_rfl) (by kernel_rfl) (fun _ _ _ h => h) (yl_pure (by kernel_rfl) (fun _ => by kernel_rfl)) ?_
  refine At.take 1 (some 23) (.slice (some ⟨gb, 0, none⟩) x.f2.length d2) rfl rfl (by kernel_rfl) (by kernel_rfl) (by kernel_rfl) (by kernel_rfl) (fun _ _ _ h => h) (yl_load 12 ⟨w.heap.size, 2, none⟩ (.slice (some ⟨gb, 0, none⟩) x.f2.length d2) (List.mem_cons_self) [10, 11, 12] (by kernel_rfl) rfl (by kernel_rfl) (fun _ => by kernel_rfl)) ?_
  refine At.take 2 (some 24) (.int .i64 (k : Int)) rfl rfl (by kernel_rfl) (by kernel_rfl) (by kernel_rfl) (by kernel_rfl) (fun _ _ _ h => h) (yl_pure (by kernel_rfl) (fun _ => by kernel_rfl)) ?_
  refine At.take 3 (some 25) (.pointer (some ⟨w.heap.size, 2, none⟩)) rfl rfl (by kernel_rfl) (by kernel_rfl) (by kernel_rfl) (by kernel_rfl) (fun _ _ _ h => h) (yl_pure (by kernel_rfl) (fun _ => by kernel_rfl)) ?_
  refine At.take 4 (some 26) (.slice (some ⟨gb, 0, none⟩) x.f2.length d2) rfl rfl (by kernel_rfl) (by kernel_rfl) (by kernel_rfl) (by kernel_rfl) (fun _ _ _ h => h) (yl_load 12 ⟨w.heap.size, 2, none⟩ (.slice (some ⟨gb, 0, none⟩) x.f2.length d2) (List.mem_cons_of_mem _ (List.mem_cons_self)) [6, 7, 8, 9, 10, 11, 12] (by kernel_rfl) rfl (by kernel_rfl) (fun _ => by kernel_rfl)) ?_
  refine At.take 5 (some 27) (.int .i64 (k : Int)) rfl rfl (by kernel_rfl) (by kernel_rfl) (by kernel_rfl) (by kernel_rfl) (fun _ _ _ h => h) (yl_pure (by kernel_rfl) (fun _ => by kernel_rfl)) ?_
  refine At.take 6 (some 28) (.pointer (some ⟨gb, k * 3, none⟩)) rfl rfl (by kernel_rfl) (by kernel_rfl) (by kernel_rfl) (by kernel_rfl) (fun _ _ _ h => h) (yl_pure (by kernel_rfl) (fun w => by go_simp)) ?_
  refine At.take 7 (some 29) (.pointer (some ⟨gb, k * 3 + 1, none⟩)) rfl rfl (by kernel_rfl) (by kernel_rfl) (by kernel_rfl) (by kernel_rfl) (fun _ _ _ h => h) (yl_pure (by kernel_rfl) (fun _ => by kernel_rfl)) ?_
  refine At.take 8 (some 30) (.string x.f2[k].f1) rfl rfl (by kernel_rfl) (by kernel_rfl) (by kernel_rfl) (by kernel_rfl) (fun _ _ _ h => h) (yl_load 12 ⟨gb, k * 3 + 1, none⟩ (.string x.f2[k].f1) (List.mem_cons_of_mem _ (List.mem_cons_of_mem _ (List.mem_cons_self))) [9, 10, 11, 12] (by kernel_rfl) rfl (by kernel_rfl) (fun _ => by kernel_rfl)) ?_
  refine At.take 9 (some 31) (.int .i64 x.f2[k].f1.size) rfl rfl (by kernel_rfl) (by kernel_rfl) (by kernel_rfl) (by kernel_rfl) (fun _ _ _ h => h) (yl_pure (by kernel_rfl) (fun _ => by kernel_rfl)) ?_
  refine At.take 10 (some 32) (.pointer (some ⟨gb, k * 3, none⟩)) rfl rfl (by kernel_rfl) (by kernel_rfl) (by kernel_rfl) (by kernel_rfl) (fun _ _ _ h => h) (yl_pure (by kernel_rfl) (fun w => by go_simp)) ?_
  refine At.take 11 (some 33) (.pointer (some ⟨gb, k * 3 + 2, none⟩)) rfl rfl (by kernel_rfl) (by kernel_rfl) (by kernel_rfl) (by kernel_rfl) (fun _ _ _ h => h) (yl_pure (by kernel_rfl) (fun _ => by kernel_rfl)) ?_
  refine At.step 12 none rfl rfl (by kernel_rfl) (by kernel_rfl) (fun u W => u = undef ∧ W = W5.drew.setCell ⟨gb, k * 3 + 2, none⟩ (.int .i64 x.f2[k].f1.size)) (gives_store (p := ⟨gb, k * 3 + 2, none⟩) (x := .int .i64 x.f2[k].f1.size) (y := .int .i64 x.f2[k].f2) (fun _ => by kernel_rfl) (by rfl) (show W5.drew.cell? _ = some _ from c2') (show W5.drew.frozen? _ = false from uf)) ?_
  rintro u WE ⟨rfl, hWE⟩
  refine ⟨held_cons (.inl (by kernel_rfl)) (held_cons (.inl (by kernel_rfl)) (held_cons (.inl (by kernel_rfl)) (held_nil))), ?_⟩
  refine At.done (by kernel_rfl) ?_
  have HBF : Hid (Below w.heap.size w WE) := by rw [hWE]; exact (HB5.out.drew).setCell (by show w.heap.size ≤ gb; omega) _
  have HDE : Hid (WE.heap[w.heap.size]? = some (.cells #[.int .i64 x.f0, .int .i64 x.f1, .slice (some ⟨gb, 0, none⟩) x.f2.length d2, .slice g3 x.f3.length d3, .slice g4 x.f4.length d4] 28)) := by rw [hWE]; exact (heap_set_ne _ _ (by show w.heap.size ≠ gb; omega)).trans HD5.out
  have HRE : Hid (WE.heap[w.heap.size + 1]? = some (.cells #[.int .i64 0, .int .i64 0, .slice none 0 0, .slice none 0 0, .slice none 0 0] 28)) := by rw [hWE]; exact (heap_set_ne _ _ (by show w.heap.size + 1 ≠ gb; omega)).trans HR5.out
  have HQ2 : Hid (WE.ownsRow w2.heap.size 47 3 (.slice (some ⟨gb, 0, none⟩) x.f2.length d2) x.f2.length (rInode (x.f2.set k ⟨x.f2[k].f0, x.f2[k].f1, x.f2[k].f1.size⟩))) := by
    rw [hWE, ← rInode_set _ x.f2 k hkl]
    exact own_set_in (w := W5.drew) HO5.out.1
  have HQ3 : Hid (WE.ownsRow w2.heap.size 49 2 (.slice g3 x.f3.length d3) x.f3.length (rLink x.f3)) := by rw [hWE]; exact own_set_blk (w := W5.drew) HO5.out.2.1 (own_ne HO5.out.2.1 HO5.out.1 (by decide))
  have HQ4 : Hid (WE.ownsRow w2.heap.size 51 4 (.slice g4 x.f4.length d4) x.f4.length (rMove x.f4)) := by rw [hWE]; exact own_set_blk (w := W5.drew) HO5.out.2.2 (own_ne HO5.out.2.2 HO5.out.1 (by decide))
  obtain ⟨⟨u0, u1, u2, u3, u4⟩, _⟩ := disk_cell HDE.out
  obtain ⟨⟨z0, z1, z2, z3, z4⟩, zf⟩ := disk_cell HRE.out
  have zf0 := zf 0
  have zf1 := zf 1
  have zf2 := zf 2
  have zf3 := zf 3
  have zf4 := zf 4
  have h2 := HL2.out
  clear zf hWE y0 y1 y2 y3 y4 c1' c2' uf HD5 HR5 HO5 HB5 HD4 HR4 HO4
  simp only [Act.put, List.setIfInBounds_toArray, List.set_cons_zero, List.set_cons_succ]
  go_wp2
  refine bodyPost_ret (v := .tuple #[.agg #[.int .i64 x.f0, .int .i64 x.f1, .slice (some ⟨gb, 0, none⟩) x.f2.length d2, .slice g3 x.f3.length d3, .slice g4 x.f4.length d4], .int .i64 0]) (by simp [results, Tryz.results11, go_sem, z0, z1, z2, z3, z4]) rfl ⟨⟨x.f0, x.f1, x.f2.set k ⟨x.f2[k].f0, x.f2[k].f1, x.f2[k].f1.size⟩, x.f3, x.f4⟩, 0, _, _, _, rfl, ?_, ?_, .inl ⟨HE.out, by rw [HF.out]; exact ⟨rfl, rfl⟩⟩⟩
  · have hs : ∀ {e : TypeId} {size n base : Nat} {v : Value} {xs : List Value} {W : World}, W.ownsRow base e size v n xs → w.heap.size + 1 < base → ∀ u (o : Nat), (W.setCell ⟨w.heap.size + 1, o, none⟩ u).ownsRow base e size v n xs := fun h hl u o => own_set_lt h u hl
    refine ⟨?_, ?_, ?_⟩
    · simp only [List.length_set]
      exact own_low (hs (hs (hs (hs (hs HQ2.out (by omega) _ 0) (by omega) _ 1) (by omega) _ 2) (by omega) _ 3) (by omega) _ 4) (by omega)
    · exact own_low (hs (hs (hs (hs (hs HQ3.out (by omega) _ 0) (by omega) _ 1) (by omega) _ 2) (by omega) _ 3) (by omega) _ 4) (by omega)
    · exact own_low (hs (hs (hs (hs (hs HQ4.out (by omega) _ 0) (by omega) _ 1) (by omega) _ 2) (by omega) _ 3) (by omega) _ 4) (by omega)
  · exact ((((HBF.out.setCell (Nat.le_succ _) _).setCell (Nat.le_succ _) _).setCell (Nat.le_succ _) _).setCell (Nat.le_succ _) _).setCell (Nat.le_succ _) _

end Go.Proofs.YtmknplpcpmkhiaaGreat
