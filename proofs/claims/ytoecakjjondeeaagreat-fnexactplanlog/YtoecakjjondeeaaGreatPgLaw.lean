/- The exact law of PlanLog, walked. -/
import Derived.Test.YtoecakjjondeeaaGreatJX
import Derived.Test.YtoecakjjondeeaaGreatDlBase
import Derived.Test.YtoecakjjondeeaaGreatHaStep
namespace Go.Proofs.YtoecakjjondeeaaGreat
open Go.RowKit
set_option linter.unusedVariables false
set_option linter.unusedSimpArgs false

theorem bel_undrewL {B : Nat} {w w' : World} (h : Below B w.drew w') : Below B w w' := ⟨h.os, h.tape, h.output, h.size, h.block⟩
theorem hideL {p : Prop} (h : p) : Hid p := h
theorem lastL (w : World) (o o2 : Obj) : ((w.alloc o).alloc o2).heap[w.heap.size + 1]? = some o2 := by
  have h := alloc_at (w.alloc o) o2
  simpa using h
theorem own_block1L {w : World} {base : Nat} {x : S_Wal} {v : Value} (h : OwWal w base x v) : ∀ u ∈ [v], ∀ k, u.ownBlock = some k → base ≤ k ∧ k < w.heap.size := by
  intro u hu k hk
  rw [List.mem_singleton.1 hu] at hk
  exact World.ownsRow.lt h k hk
theorem own_blockD {w : World} {base : Nat} {x : S_Disk} {a b c : Value} (h : OwDisk w base x a b c) : ∀ u ∈ [a, b, c], ∀ k, u.ownBlock = some k → base ≤ k ∧ k < w.heap.size := by
  intro u hu k hk
  simp only [List.mem_cons, List.not_mem_nil, or_false] at hu
  rcases hu with rfl | rfl | rfl
  · exact World.ownsRow.lt h.1 k hk
  · exact World.ownsRow.lt h.2.1 k hk
  · exact World.ownsRow.lt h.2.2 k hk
theorem sz_leL {n : Nat} {l : Int} (h : ¬ szF n l < 0) : (n : Int) ≤ l := by
  unfold szF at h
  split at h <;> omega
theorem ln_walL {x : S_Wal} (h : zWal x ≤ 1048576) : LnWal x 1048576 := by
  unfold zWal at h
  show x.f4.length ≤ 1048576
  omega
theorem toWalL_c (y : S_Wal) (u4 : Value) (w : World) (hn : LnWal y 1048576) (h : RdWal w y u4) :
    Calls Tryz.prog 23 #[.agg #[.int .i64 y.f0, .int .i64 y.f1, .int .i64 y.f2, .int .i64 y.f3, u4]] w fun e w' => ∃ p c, e = .returned (.agg #[.int .i64 y.f0, .int .i64 y.f1, .int .i64 y.f2, .int .i64 y.f3, .slice p y.f4.length c]) ∧ OwWal w' w.heap.size y (.slice p y.f4.length c) ∧ Below w.heap.size w w' :=
  (toWal_c y u4 w hn h).mono fun e w' ⟨v4, he, ho, hb⟩ => by
    obtain ⟨p, c, hv, _⟩ := own_slice ho
    subst hv
    exact ⟨p, c, he, ho, hb⟩
theorem toDiskS_c (x : S_Disk) (v2 v3 v4 : Value) (w : World) (hn : LnDisk x 1048576) (h : RdDisk w x v2 v3 v4) :
    Calls Tryz.prog 9 #[.agg #[.int .i64 x.f0, .int .i64 x.f1, v2, v3, v4]] w fun e w' => ∃ (pa2 : Option Addr) (ca2 : Nat) (pa3 : Option Addr) (ca3 : Nat) (pa4 : Option Addr) (ca4 : Nat), e = .returned (.agg #[.int .i64 x.f0, .int .i64 x.f1, .slice pa2 x.f2.length ca2, .slice pa3 x.f3.length ca3, .slice pa4 x.f4.length ca4]) ∧ OwDisk w' w.heap.size x (.slice pa2 x.f2.length ca2) (.slice pa3 x.f3.length ca3) (.slice pa4 x.f4.length ca4) ∧ Below w.heap.size w w' :=
  (toDisk_c x v2 v3 v4 w hn h).mono fun e w' ⟨a2, a3, a4, he, ho, hb⟩ => by
    obtain ⟨q2, k2, hv2, _⟩ := own_slice ho.1
    obtain ⟨q3, k3, hv3, _⟩ := own_slice ho.2.1
    obtain ⟨q4, k4, hv4, _⟩ := own_slice ho.2.2
    subst hv2
    subst hv3
    subst hv4
    exact ⟨q2, k2, q3, k3, q4, k4, he, ho, hb⟩

theorem plg_both (x : S_Disk) (y : S_Wal) (hb : Bnd x) (hn : LnWal y 1048576) (hs : ∀ e ∈ y.f4, sEntry e) : ∃ (L : List S_Step), L.length ≤ 1048576 ∧
    (∀ (W : World) (B : Nat) (p2 p3 p4 py : Option Addr) (c2 c3 c4 cy : Nat), OwDisk W B x (.slice p2 x.f2.length c2) (.slice p3 x.f3.length c3) (.slice p4 x.f4.length c4) → RdWal W y (.slice py y.f4.length cy) → Calls Tryz.prog 22 #[.agg #[.int .i64 x.f0, .int .i64 x.f1, .slice p2 x.f2.length c2, .slice p3 x.f3.length c3, .slice p4 x.f4.length c4], .agg #[.int .i64 y.f0, .int .i64 y.f1, .int .i64 y.f2, .int .i64 y.f3, .slice py y.f4.length cy]] W fun e w' => ∃ v, e = .returned v ∧ w'.ownsRow W.heap.size 39 4 v L.length (rStep L) ∧ Below W.heap.size W w') ∧
    (∀ (W : World) (B : Nat) (p2 p3 p4 py : Option Addr) (c2 c3 c4 cy : Nat), OwDisk W B x (.slice p2 x.f2.length c2) (.slice p3 x.f3.length c3) (.slice p4 x.f4.length c4) → RdWal W y (.slice py y.f4.length cy) → Calls Tryz.prog 24 #[.agg #[.int .i64 x.f0, .int .i64 x.f1, .slice p2 x.f2.length c2, .slice p3 x.f3.length c3, .slice p4 x.f4.length c4], .agg #[.int .i64 y.f0, .int .i64 y.f1, .int .i64 y.f2, .int .i64 y.f3, .slice py y.f4.length cy]] W fun e w' => ∃ v, e = .returned v ∧ w'.ownsRow W.heap.size 39 4 v L.length (rStep L) ∧ Below W.heap.size W w') := by
  by_cases hok : okX x ∧ okW y
  · refine ⟨anL (thB x (logB ++ newB)) logB (walT y), by have := anL_len (thB x (logB ++ newB)) logB (walT y); omega, ?_, ?_⟩
    · exact fun W B p2 p3 p4 py c2 c3 c4 cy ho hy => by
        obtain ⟨_, _, h3, hl3, _⟩ := own_slice ho.2.1
        obtain ⟨_, _, h4, hl4, hn4⟩ := own_slice ho.2.2
        simp only [Value.slice.injEq, true_and] at h3 h4
        obtain ⟨rfl, rfl⟩ := h3
        obtain ⟨rfl, rfl⟩ := h4
        exact specPlg_c x y _ hb hn hs (fun _ _ => rfl) (fun h => absurd hok h) W p2 p3 p4 py c2 c3 c4 cy (OwDisk.rd ho) hl3 hl4 hn4 hy
    · exact fun W B p2 p3 p4 py c2 c3 c4 cy ho hy => by
        obtain ⟨_, _, h3, hl3, _⟩ := own_slice ho.2.1
        obtain ⟨_, _, h4, hl4, hn4⟩ := own_slice ho.2.2
        simp only [Value.slice.injEq, true_and] at h3 h4
        obtain ⟨rfl, rfl⟩ := h3
        obtain ⟨rfl, rfl⟩ := h4
        exact implPlg_c x y _ hb hn hs (fun _ _ => rfl) (fun h => absurd hok h) W p2 p3 p4 py c2 c3 c4 cy (OwDisk.rd ho) hl3 hl4 hn4 hy
  · refine ⟨[], Nat.zero_le _, ?_, ?_⟩
    · exact fun W B p2 p3 p4 py c2 c3 c4 cy ho hy => by
        obtain ⟨_, _, h3, hl3, _⟩ := own_slice ho.2.1
        obtain ⟨_, _, h4, hl4, hn4⟩ := own_slice ho.2.2
        simp only [Value.slice.injEq, true_and] at h3 h4
        obtain ⟨rfl, rfl⟩ := h3
        obtain ⟨rfl, rfl⟩ := h4
        exact specPlg_c x y _ hb hn hs (fun h1 h2 => absurd ⟨h1, h2⟩ hok) (fun _ => rfl) W p2 p3 p4 py c2 c3 c4 cy (OwDisk.rd ho) hl3 hl4 hn4 hy
    · exact fun W B p2 p3 p4 py c2 c3 c4 cy ho hy => by
        obtain ⟨_, _, h3, hl3, _⟩ := own_slice ho.2.1
        obtain ⟨_, _, h4, hl4, hn4⟩ := own_slice ho.2.2
        simp only [Value.slice.injEq, true_and] at h3 h4
        obtain ⟨rfl, rfl⟩ := h3
        obtain ⟨rfl, rfl⟩ := h4
        exact implPlg_c x y _ hb hn hs (fun h1 h2 => absurd ⟨h1, h2⟩ hok) (fun _ => rfl) W p2 p3 p4 py c2 c3 c4 cy (OwDisk.rd ho) hl3 hl4 hn4 hy


set_option maxRecDepth 20000 in
set_option maxHeartbeats 8000000 in
theorem planlog_law (x : S_Disk) (v2 v3 v4 : Value) (y : S_Wal) (u4 : Value) (w : World) (hsx : SmDisk x) (hgx : gDisk x) (hsy : SmWal y) (hgy : gWal y) (hx : RdDisk w x v2 v3 v4) (hy : RdWal w y u4) :
    Calls Tryz.prog 5 #[.agg #[.int .i64 x.f0, .int .i64 x.f1, v2, v3, v4], .agg #[.int .i64 y.f0, .int .i64 y.f1, .int .i64 y.f2, .int .i64 y.f3, u4]] w fun e w' => e = .returned (.bool true) ∧ Below w.heap.size w w' := by
  obtain ⟨W0, hW0⟩ : ∃ W, W = (w.alloc (.cells #[.int .i64 x.f0, .int .i64 x.f1, v2, v3, v4] 26)).alloc (.cells #[.int .i64 y.f0, .int .i64 y.f1, .int .i64 y.f2, .int .i64 y.f3, u4] 55) := ⟨_, rfl⟩
  have HW0 : Hid ((w.alloc (.cells #[.int .i64 x.f0, .int .i64 x.f1, v2, v3, v4] 26)).alloc (.cells #[.int .i64 y.f0, .int .i64 y.f1, .int .i64 y.f2, .int .i64 y.f3, u4] 55) = W0) := hW0.symm
  have HS0 : Hid (W0.heap.size = w.heap.size + 2) := by show _ = _; rw [hW0]; simp
  have HB0 : Hid (Below w.heap.size w W0) := by rw [hW0]; exact (((Below.refl _ _).alloc (Nat.le_refl _) _).alloc (by simp) _)
  have HKA : W0.heap[w.heap.size]? = some (.cells #[.int .i64 x.f0, .int .i64 x.f1, v2, v3, v4] 26) := by rw [hW0]; exact (Below.heap_alloc _ _ _ (by simp)).trans (alloc_at w _)
  have HKB : W0.heap[w.heap.size + 1]? = some (.cells #[.int .i64 y.f0, .int .i64 y.f1, .int .i64 y.f2, .int .i64 y.f3, u4] 55) := by rw [hW0]; exact lastL w _ _
  have HBA : Hid (∀ W', Below W0.heap.size W0 W' → W'.heap[w.heap.size]? = some (.cells #[.int .i64 x.f0, .int .i64 x.f1, v2, v3, v4] 26)) := fun W' hb => (hb.block _ (by rw [HS0.out]; omega)).trans HKA
  have HBB : Hid (∀ W', Below W0.heap.size W0 W' → W'.heap[w.heap.size + 1]? = some (.cells #[.int .i64 y.f0, .int .i64 y.f1, .int .i64 y.f2, .int .i64 y.f3, u4] 55)) := fun W' hb => (hb.block _ (by rw [HS0.out]; omega)).trans HKB
  have HRX : Hid (∀ W', Below W0.heap.size W0 W' → RdDisk W' x v2 v3 v4) := fun W' hb => RdDisk.keep (RdDisk.keep hx HB0.out (Nat.le_refl _)) hb (Nat.le_refl _)
  have HRY : Hid (∀ W', Below W0.heap.size W0 W' → RdWal W' y u4) := fun W' hb => RdWal.keep (RdWal.keep hy HB0.out (Nat.le_refl _)) hb (Nat.le_refl _)
  have HDN : Hid (∀ W', Below W0.heap.size W0 W' → Below w.heap.size w W') := fun W' hb => HB0.out.trans (hb.mono (by rw [HS0.out]; omega))
  have HSX : Hid (SmDisk x) := hsx
  have HGX : Hid (gDisk x) := hgx
  have HSY : Hid (SmWal y) := hsy
  have HC0 : Hid (Below W0.heap.size W0 W0) := Below.refl _ _
  clear hW0 hx hy hsx hsy hgx hgy HKA HKB
  go_enter Tryz.func5, Tryz.ntmps5
  go_wp2_with fail
  rw [HW0.out]
  refine (szDisk_c x 1048576 v2 v3 v4 W0 (by decide) (by decide) HSX.out (HRX.out _ HC0.out)).mono ?_
  rintro e w1 ⟨rfl, b1⟩
  have HC1 : Hid (Below W0.heap.size W0 w1) := HC0.out.trans (b1.mono HC0.out.size)
  clear b1
  generalize hz : szF (zDisk x) 1048576 = z
  have HZd : Hid (szF (zDisk x) 1048576 = z) := hz
  clear hz
  by_cases hneg : z < 0
  · go_wp2
    go_ret
    exact ⟨rfl, HDN.out _ HC1.out⟩
  have hz1 : z ≤ 1048576 := by rw [← HZd.out]; exact szF_le _ _ (by decide)
  have hsmall : zDisk x ≤ 1048576 := sz_small (by rw [HZd.out]; exact hneg)
  have HLX : Hid (LnDisk x 1048576) := ln_disk hsmall
  have HBN : Hid (Bnd x) := bnd_disk hsmall HSX.out HGX.out
  clear hsmall
  obtain ⟨e0, e1, e2, e3, e4⟩ := box5 (HBB.out _ HC1.out)
  go_wp2_with fail
  refine (szWal_c y z u4 w1 (by omega) hz1 HSY.out (HRY.out _ HC1.out)).mono ?_
  rintro e w2 ⟨rfl, b2⟩
  have HC2 : Hid (Below W0.heap.size W0 w2) := HC1.out.trans (b2.mono HC1.out.size)
  clear e0 e1 e2 e3 e4
  clear b2
  generalize hz2 : szF (zWal y) z = z2
  have HZ2 : Hid (szF (zWal y) z = z2) := hz2
  clear hz2
  by_cases hneg2 : z2 < 0
  · go_wp2
    go_ret
    exact ⟨rfl, HDN.out _ HC2.out⟩
  have HLY : Hid (LnWal y 1048576) := ln_walL (by have := sz_leL (by rw [HZ2.out]; exact hneg2); omega)
  obtain ⟨L, hL, hS, hI⟩ := plg_both x y HBN.out HLY.out HSY.out.2
  have HLL : Hid (L.length ≤ 1048576) := hL
  have CS := hideL hS
  have CI := hideL hI
  clear hL hS hI hz1
  go_upto_region 8 with fail
  refine wp_region_L [⟨1, fun W => ∀ j u, ([.int .i64 x.f0, .int .i64 x.f1, v2, v3, v4] : List Value)[j]? = some u → W.cell? ((⟨w.heap.size, 0, none⟩ : Addr).add j) = some u⟩, ⟨3, fun W => ∀ j u, ([.int .i64 y.f0, .int .i64 y.f1, .int .i64 y.f2, .int .i64 y.f3, u4] : List Value)[j]? = some u → W.cell? ((⟨w.heap.size + 1, 0, none⟩ : Addr).add j) = some u⟩] (by kernel_rfl) (fun f hf => by
      simp only [List.mem_cons, List.not_mem_nil, or_false] at hf
      rcases hf with rfl | rfl
      · exact cells5R rfl (HBA.out _ HC2.out.drew)
      · exact cells5R rfl (HBB.out _ HC2.out.drew)) ?_
  refine At.take 0 (some 24) (.agg #[.int .i64 x.f0, .int .i64 x.f1, v2, v3, v4]) rfl rfl (by kernel_rfl) (by kernel_rfl) (by kernel_rfl) (by kernel_rfl) (fun _ _ _ h => h) (yl_loads 1 ⟨w.heap.size, 0, none⟩ [.int .i64 x.f0, .int .i64 x.f1, v2, v3, v4] (List.mem_cons_self) [1] (by kernel_rfl) rfl (by kernel_rfl) (fun _ => by kernel_rfl)) ?_
  refine At.take 2 (some 26) (.agg #[.int .i64 y.f0, .int .i64 y.f1, .int .i64 y.f2, .int .i64 y.f3, u4]) rfl rfl (by kernel_rfl) (by kernel_rfl) (by kernel_rfl) (by kernel_rfl) (fun _ _ _ h => h) (yl_loads 3 ⟨w.heap.size + 1, 0, none⟩ [.int .i64 y.f0, .int .i64 y.f1, .int .i64 y.f2, .int .i64 y.f3, u4] (List.mem_cons_of_mem _ (List.mem_cons_self)) [3] (by kernel_rfl) rfl (by kernel_rfl) (fun _ => by kernel_rfl)) ?_
  refine At.step 1 (some 25) rfl rfl (by kernel_rfl) (by kernel_rfl) (fun u W => ∃ (pa2 : Option Addr) (ca2 : Nat) (pa3 : Option Addr) (ca3 : Nat) (pa4 : Option Addr) (ca4 : Nat), u = .agg #[.int .i64 x.f0, .int .i64 x.f1, .slice pa2 x.f2.length ca2, .slice pa3 x.f3.length ca3, .slice pa4 x.f4.length ca4] ∧ OwDisk W w2.drew.heap.size x (.slice pa2 x.f2.length ca2) (.slice pa3 x.f3.length ca3) (.slice pa4 x.f4.length ca4) ∧ Below w2.drew.heap.size w2.drew W) (gives_call (by kernel_rfl) ((toDiskS_c x v2 v3 v4 w2.drew HLX.out (HRX.out _ (HC2.out.drew))).mono fun e w' ⟨pa2, ca2, pa3, ca3, pa4, ca4, he, ho, hb⟩ => ⟨_, he, pa2, ca2, pa3, ca3, pa4, ca4, rfl, ho, hb⟩)) ?_
  rintro u X1 ⟨pa2, ca2, pa3, ca3, pa4, ca4, rfl, hox, b1⟩
  have HX1 : Hid (Below W0.heap.size W0 X1) := (HC2.out.drew).trans (b1.mono (HC2.out.drew).size)
  refine ⟨held_cons (.inl (by kernel_rfl)) (held_cons (.inr (cells5R rfl (HBB.out _ HX1.out))) (held_nil)), ?_⟩
  refine At.step 3 (some 27) rfl rfl (by kernel_rfl) (by kernel_rfl) (fun u W => ∃ p c, u = .agg #[.int .i64 y.f0, .int .i64 y.f1, .int .i64 y.f2, .int .i64 y.f3, .slice p y.f4.length c] ∧ OwWal W X1.heap.size y (.slice p y.f4.length c) ∧ Below X1.heap.size X1 W) (gives_call (by kernel_rfl) ((toWalL_c y u4 X1 HLY.out (HRY.out _ (HX1.out))).mono fun e w' ⟨p, c, he, ho, hb⟩ => ⟨_, he, p, c, rfl, ho, hb⟩)) ?_
  rintro u X2 ⟨pb, cb, rfl, hoy, b2⟩
  replace hox := OwDisk.keep hox b2 (Nat.le_refl _)
  replace hoy := OwWal.rd hoy
  have HX2 : Hid (Below w2.heap.size w2 X2) := bel_undrewL (b1.trans (b2.mono b1.size))
  refine ⟨held_cons (.inl (by kernel_rfl)) (held_cons (.inl (by kernel_rfl)) (held_nil)), ?_⟩
  refine At.step 4 (some 28) rfl rfl (by kernel_rfl) (by kernel_rfl) (fun u W => ∃ v, u = v ∧ W.ownsRow X2.heap.size 39 4 v L.length (rStep L) ∧ Below X2.heap.size X2 W) (gives_call (by kernel_rfl) ((CS.out X2 _ pa2 pa3 pa4 pb ca2 ca3 ca4 cb hox hoy).mono fun e w' ⟨v, he, ho, hb⟩ => ⟨_, he, v, rfl, ho, hb⟩)) ?_
  rintro vN X3 ⟨_, rfl, ho3, b3⟩
  have HX3 : Hid (Below w2.heap.size w2 X3) := HX2.out.trans (b3.mono HX2.out.size)
  clear hox hoy b1 b2 b3 HX1 HX2
  refine ⟨held_cons (.inl (by kernel_rfl)) (held_cons (.inl (by kernel_rfl)) (held_nil)), ?_⟩
  refine At.take 5 (some 6) (vN) rfl rfl (by kernel_rfl) (by kernel_rfl) (by kernel_rfl) (by kernel_rfl) (fun _ _ _ h => h) (yl_pure (by kernel_rfl) (fun _ => by kernel_rfl)) ?_
  refine At.done (by kernel_rfl) ?_
  simp only [Act.put, List.setIfInBounds_toArray, List.set_cons_zero, List.set_cons_succ]
  have HC3 : Hid (Below W0.heap.size W0 X3) := HC2.out.trans (HX3.out.mono HC2.out.size)
  have HS6 : Hid (∀ W', Below X3.heap.size X3 W' → RowR W' vN L.length 4 (rStep L)) := fun W' hb => RowR.keep (RowR.own ho3) hb (Nat.le_refl _)
  have HV3 : Hid (Below X3.heap.size X3 X3) := Below.refl _ _
  clear ho3 HX3
  obtain ⟨d0, d1, d2, d3, d4⟩ := box5 (HBA.out _ HC3.out)
  go_wp2_with fail
  refine (toDiskS_c x v2 v3 v4 X3 HLX.out (HRX.out _ HC3.out)).mono ?_
  rintro e w4 ⟨p82, c82, p83, c83, p84, c84, rfl, how, b4⟩
  have HXo4 : Hid (OwDisk w4 X3.heap.size x (.slice p82 x.f2.length c82) (.slice p83 x.f3.length c83) (.slice p84 x.f4.length c84)) := how
  have HC4 : Hid (Below W0.heap.size W0 w4) := HC3.out.trans (b4.mono HC3.out.size)
  have HV4 : Hid (Below X3.heap.size X3 w4) := HV3.out.trans (b4.mono HV3.out.size)
  clear d0 d1 d2 d3 d4
  clear b4 how
  obtain ⟨e0, e1, e2, e3, e4⟩ := box5 (HBB.out _ HC4.out)
  obtain ⟨W4, hW⟩ : ∃ W, W = w4.alloc (.cells #[.int .i64 x.f0, .int .i64 x.f1, .slice p82 x.f2.length c82, .slice p83 x.f3.length c83, .slice p84 x.f4.length c84] 35) := ⟨_, rfl⟩
  have HW4 : Hid (w4.alloc (.cells #[.int .i64 x.f0, .int .i64 x.f1, .slice p82 x.f2.length c82, .slice p83 x.f3.length c83, .slice p84 x.f4.length c84] 35) = W4) := hW.symm
  have HP40 : Hid (W4.heap[w4.heap.size]? = some (.cells #[.int .i64 x.f0, .int .i64 x.f1, .slice p82 x.f2.length c82, .slice p83 x.f3.length c83, .slice p84 x.f4.length c84] 35)) := by rw [hW]; exact alloc_at _ _
  have b40 : Below w4.heap.size w4 W4 := by rw [hW]; exact (Below.refl _ _).alloc (Nat.le_refl _) _
  have HC40 : Hid (Below W0.heap.size W0 W4) := HC4.out.trans (b40.mono HC4.out.size)
  have HV40 : Hid (Below X3.heap.size X3 W4) := HV4.out.trans (b40.mono HV4.out.size)
  have HXo40 : Hid (OwDisk W4 X3.heap.size x (.slice p82 x.f2.length c82) (.slice p83 x.f3.length c83) (.slice p84 x.f4.length c84)) := OwDisk.keep HXo4.out b40 (Nat.le_refl _)
  have lx : w.heap.size + 1 < w4.heap.size := by have := HC4.out.size; have := HS0.out; omega
  have nx : w.heap.size + 1 ≠ w4.heap.size := by omega
  clear hW b40
  go_wp2_with fail
  rw [HW4.out]
  refine (toWalL_c y u4 W4 HLY.out (HRY.out _ HC40.out)).mono ?_
  rintro e w5 ⟨p9, c9, rfl, how, b5⟩
  have HYo5 : Hid (OwWal w5 W4.heap.size y (.slice p9 y.f4.length c9)) := how
  have HC5 : Hid (Below W0.heap.size W0 w5) := HC40.out.trans (b5.mono HC40.out.size)
  have HV5 : Hid (Below X3.heap.size X3 w5) := HV40.out.trans (b5.mono HV40.out.size)
  have HXo5 : Hid (OwDisk w5 X3.heap.size x (.slice p82 x.f2.length c82) (.slice p83 x.f3.length c83) (.slice p84 x.f4.length c84)) := OwDisk.keep HXo40.out b5 (Nat.le_refl _)
  have HP5 : Hid (w5.heap[w4.heap.size]? = some (.cells #[.int .i64 x.f0, .int .i64 x.f1, .slice p82 x.f2.length c82, .slice p83 x.f3.length c83, .slice p84 x.f4.length c84] 35)) := (b5.block _ (lt_of_some HP40.out)).trans HP40.out
  clear e0 e1 e2 e3 e4
  have HZ45 : Hid (W4.heap.size ≤ w5.heap.size) := b5.size
  clear b5 how lx nx
  obtain ⟨g0, g1, g2, g3, g4⟩ := box5 HP5.out
  obtain ⟨W5, hW⟩ : ∃ W, W = w5.alloc (.cells #[.int .i64 y.f0, .int .i64 y.f1, .int .i64 y.f2, .int .i64 y.f3, .slice p9 y.f4.length c9] 60) := ⟨_, rfl⟩
  have HW5 : Hid (w5.alloc (.cells #[.int .i64 y.f0, .int .i64 y.f1, .int .i64 y.f2, .int .i64 y.f3, .slice p9 y.f4.length c9] 60) = W5) := hW.symm
  have HQ50 : Hid (W5.heap[w5.heap.size]? = some (.cells #[.int .i64 y.f0, .int .i64 y.f1, .int .i64 y.f2, .int .i64 y.f3, .slice p9 y.f4.length c9] 60)) := by rw [hW]; exact alloc_at _ _
  have b50 : Below w5.heap.size w5 W5 := by rw [hW]; exact (Below.refl _ _).alloc (Nat.le_refl _) _
  have HC50 : Hid (Below W0.heap.size W0 W5) := HC5.out.trans (b50.mono HC5.out.size)
  have HV50 : Hid (Below X3.heap.size X3 W5) := HV5.out.trans (b50.mono HV5.out.size)
  have HXo50 : Hid (OwDisk W5 X3.heap.size x (.slice p82 x.f2.length c82) (.slice p83 x.f3.length c83) (.slice p84 x.f4.length c84)) := OwDisk.keep HXo5.out b50 (Nat.le_refl _)
  have HYo50 : Hid (OwWal W5 W4.heap.size y (.slice p9 y.f4.length c9)) := OwWal.keep HYo5.out b50 (Nat.le_refl _)
  have HP50 : Hid (W5.heap[w4.heap.size]? = some (.cells #[.int .i64 x.f0, .int .i64 x.f1, .slice p82 x.f2.length c82, .slice p83 x.f3.length c83, .slice p84 x.f4.length c84] 35)) := (b50.block _ (lt_of_some HP5.out)).trans HP5.out
  have HZ450 : Hid (W4.heap.size ≤ W5.heap.size) := Nat.le_trans HZ45.out b50.size
  have lx : w4.heap.size < w5.heap.size := lt_of_some HP5.out
  have nx : w4.heap.size ≠ w5.heap.size := by omega
  have HLX4 : Hid (w4.heap.size < w5.heap.size) := lx
  clear hW b50
  go_wp2_with fail
  rw [HW5.out]
  refine (CI.out W5 _ p82 p83 p84 p9 c82 c83 c84 c9 HXo50.out (OwWal.rd HYo50.out)).mono ?_
  rintro e w8 ⟨v10, rfl, hg, b8⟩
  have HG8 : Hid (w8.ownsRow W5.heap.size 39 4 v10 L.length (rStep L)) := hg
  have HZ8 : Hid (W5.heap.size ≤ w8.heap.size) := b8.size
  have HC8 : Hid (Below W0.heap.size W0 w8) := HC50.out.trans (b8.mono HC50.out.size)
  have HV8 : Hid (Below X3.heap.size X3 w8) := HV50.out.trans (b8.mono HV50.out.size)
  have HXo8 : Hid (OwDisk w8 X3.heap.size x (.slice p82 x.f2.length c82) (.slice p83 x.f3.length c83) (.slice p84 x.f4.length c84)) := OwDisk.keep HXo50.out b8 (Nat.le_refl _)
  have HYo8 : Hid (OwWal w8 W4.heap.size y (.slice p9 y.f4.length c9)) := OwWal.keep HYo50.out b8 (Nat.le_refl _)
  have HP8 : Hid (w8.heap[w4.heap.size]? = some (.cells #[.int .i64 x.f0, .int .i64 x.f1, .slice p82 x.f2.length c82, .slice p83 x.f3.length c83, .slice p84 x.f4.length c84] 35)) := (b8.block _ (lt_of_some HP50.out)).trans HP50.out
  have HQ8 : Hid (w8.heap[w5.heap.size]? = some (.cells #[.int .i64 y.f0, .int .i64 y.f1, .int .i64 y.f2, .int .i64 y.f3, .slice p9 y.f4.length c9] 60)) := (b8.block _ (lt_of_some HQ50.out)).trans HQ50.out
  clear g0 g1 g2 g3 g4
  clear b8 hg lx nx
  go_wp2_with fail
  refine (eqStepS_c v10 vN L w8 HLL.out (RowR.own HG8.out) (HS6.out _ HV8.out)).mono ?_
  rintro e w9 ⟨rfl, b9⟩
  have HC9 : Hid (Below W0.heap.size W0 w9) := HC8.out.trans (b9.mono HC8.out.size)
  have HV9 : Hid (Below X3.heap.size X3 w9) := HV8.out.trans (b9.mono HV8.out.size)
  have HP9 : Hid (w9.heap[w4.heap.size]? = some (.cells #[.int .i64 x.f0, .int .i64 x.f1, .slice p82 x.f2.length c82, .slice p83 x.f3.length c83, .slice p84 x.f4.length c84] 35)) := (b9.block _ (lt_of_some HP8.out)).trans HP8.out
  have HQ9 : Hid (w9.heap[w5.heap.size]? = some (.cells #[.int .i64 y.f0, .int .i64 y.f1, .int .i64 y.f2, .int .i64 y.f3, .slice p9 y.f4.length c9] 60)) := (b9.block _ (lt_of_some HQ8.out)).trans HQ8.out
  have HXo9 : Hid (OwDisk w9 X3.heap.size x (.slice p82 x.f2.length c82) (.slice p83 x.f3.length c83) (.slice p84 x.f4.length c84)) := OwDisk.keep HXo8.out b9 (Nat.le_refl _)
  have HYo9 : Hid (OwWal w9 W4.heap.size y (.slice p9 y.f4.length c9)) := OwWal.keep HYo8.out b9 (Nat.le_refl _)
  have HG9 : Hid (w9.ownsRow W5.heap.size 39 4 v10 L.length (rStep L)) := own_bel HG8.out b9 (Nat.le_refl _)
  have HZ9 : Hid (W5.heap.size ≤ w9.heap.size) := Nat.le_trans HZ8.out b9.size
  clear b9
  go_upto_region 14 with fail
  refine wp_region_L [⟨3, fun W => ∀ j u, ([.int .i64 x.f0, .int .i64 x.f1, .slice p82 x.f2.length c82, .slice p83 x.f3.length c83, .slice p84 x.f4.length c84] : List Value)[j]? = some u → W.cell? ((⟨w4.heap.size, 0, none⟩ : Addr).add j) = some u⟩, ⟨2, fun W => ∀ j u, ([.int .i64 x.f0, .int .i64 x.f1, v2, v3, v4] : List Value)[j]? = some u → W.cell? ((⟨w.heap.size, 0, none⟩ : Addr).add j) = some u⟩] (by kernel_rfl) (fun f hf => by
      simp only [List.mem_cons, List.not_mem_nil, or_false] at hf
      rcases hf with rfl | rfl
      · exact cells5R rfl HP9.out
      · exact cells5R rfl (HBA.out _ HC9.out.drew)) ?_
  refine At.take 0 (some 40) (.agg #[.int .i64 x.f0, .int .i64 x.f1, .slice p82 x.f2.length c82, .slice p83 x.f3.length c83, .slice p84 x.f4.length c84]) rfl rfl (by kernel_rfl) (by kernel_rfl) (by kernel_rfl) (by kernel_rfl) (fun _ _ _ h => h) (yl_loads 3 ⟨w4.heap.size, 0, none⟩ [.int .i64 x.f0, .int .i64 x.f1, .slice p82 x.f2.length c82, .slice p83 x.f3.length c83, .slice p84 x.f4.length c84] (List.mem_cons_self) [3] (by kernel_rfl) rfl (by kernel_rfl) (fun _ => by kernel_rfl)) ?_
  refine At.take 1 (some 41) (.agg #[.int .i64 x.f0, .int .i64 x.f1, v2, v3, v4]) rfl rfl (by kernel_rfl) (by kernel_rfl) (by kernel_rfl) (by kernel_rfl) (fun _ _ _ h => h) (yl_loads 2 ⟨w.heap.size, 0, none⟩ [.int .i64 x.f0, .int .i64 x.f1, v2, v3, v4] (List.mem_cons_of_mem _ (List.mem_cons_self)) [2] (by kernel_rfl) rfl (by kernel_rfl) (fun _ => by kernel_rfl)) ?_
  refine At.step 2 (some 42) rfl rfl (by kernel_rfl) (by kernel_rfl) (fun u W => ∃ (pa2 : Option Addr) (ca2 : Nat) (pa3 : Option Addr) (ca3 : Nat) (pa4 : Option Addr) (ca4 : Nat), u = .agg #[.int .i64 x.f0, .int .i64 x.f1, .slice pa2 x.f2.length ca2, .slice pa3 x.f3.length ca3, .slice pa4 x.f4.length ca4] ∧ OwDisk W w9.drew.heap.size x (.slice pa2 x.f2.length ca2) (.slice pa3 x.f3.length ca3) (.slice pa4 x.f4.length ca4) ∧ Below w9.drew.heap.size w9.drew W) (gives_call (by kernel_rfl) ((toDiskS_c x v2 v3 v4 w9.drew HLX.out (HRX.out _ (HC9.out.drew))).mono fun e w' ⟨pa2, ca2, pa3, ca3, pa4, ca4, he, ho, hb⟩ => ⟨_, he, pa2, ca2, pa3, ca3, pa4, ca4, rfl, ho, hb⟩)) ?_
  rintro u Z1 ⟨pa2, ca2, pa3, ca3, pa4, ca4, rfl, ho, b1⟩
  replace b1 := bel_undrewL b1
  have hbx := hideL ((b1.block _ (lt_of_some HP9.out)).trans HP9.out)
  refine ⟨held_cons (.inr (cells5R rfl hbx.out)) (held_cons (.inl (by kernel_rfl)) (held_nil)), ?_⟩
  refine At.step 3 (some 43) rfl rfl (by kernel_rfl) (by kernel_rfl) (fun u W => u = .bool true ∧ Below Z1.heap.size Z1 W) (gives_call (by kernel_rfl) ((eqDisk_c x (.slice p82 x.f2.length c82) (.slice p83 x.f3.length c83) (.slice p84 x.f4.length c84) (.slice pa2 x.f2.length ca2) (.slice pa3 x.f3.length ca3) (.slice pa4 x.f4.length ca4) Z1 HLX.out (OwDisk.rd (OwDisk.keep HXo9.out b1 (Nat.le_refl _))) (OwDisk.rd ho)).mono fun e w' ⟨he, hb⟩ => ⟨_, he, rfl, hb⟩)) ?_
  rintro u w10 ⟨rfl, b2⟩
  have b3 : Below w9.heap.size w9 w10 := b1.trans (b2.mono b1.size)
  refine ⟨held_cons (.inl (by kernel_rfl)) (held_cons (.inl (by kernel_rfl)) (held_nil)), ?_⟩
  refine At.take 4 (some 44) (.bool false) rfl rfl (by kernel_rfl) (by kernel_rfl) (by kernel_rfl) (by kernel_rfl) (fun _ _ _ h => h) (yl_pure (by kernel_rfl) (fun _ => by kernel_rfl)) ?_
  refine At.done (by kernel_rfl) ?_
  simp only [Act.put, List.setIfInBounds_toArray, List.set_cons_zero, List.set_cons_succ]
  have HC10 : Hid (Below W0.heap.size W0 w10) := HC9.out.trans (b3.mono HC9.out.size)
  have HV10 : Hid (Below X3.heap.size X3 w10) := HV9.out.trans (b3.mono HV9.out.size)
  have HP10 : Hid (w10.heap[w4.heap.size]? = some (.cells #[.int .i64 x.f0, .int .i64 x.f1, .slice p82 x.f2.length c82, .slice p83 x.f3.length c83, .slice p84 x.f4.length c84] 35)) := (b3.block _ (lt_of_some HP9.out)).trans HP9.out
  have HQ10 : Hid (w10.heap[w5.heap.size]? = some (.cells #[.int .i64 y.f0, .int .i64 y.f1, .int .i64 y.f2, .int .i64 y.f3, .slice p9 y.f4.length c9] 60)) := (b3.block _ (lt_of_some HQ9.out)).trans HQ9.out
  have HXo10 : Hid (OwDisk w10 X3.heap.size x (.slice p82 x.f2.length c82) (.slice p83 x.f3.length c83) (.slice p84 x.f4.length c84)) := OwDisk.keep HXo9.out b3 (Nat.le_refl _)
  have HYo10 : Hid (OwWal w10 W4.heap.size y (.slice p9 y.f4.length c9)) := OwWal.keep HYo9.out b3 (Nat.le_refl _)
  have HG10 : Hid (w10.ownsRow W5.heap.size 39 4 v10 L.length (rStep L)) := own_bel HG9.out b3 (Nat.le_refl _)
  have HZ10 : Hid (W5.heap.size ≤ w10.heap.size) := Nat.le_trans HZ9.out b3.size
  clear ho b1 b2 b3 hbx
  go_upto_region 16 with fail
  refine wp_region_L [⟨3, fun W => ∀ j u, ([.int .i64 y.f0, .int .i64 y.f1, .int .i64 y.f2, .int .i64 y.f3, .slice p9 y.f4.length c9] : List Value)[j]? = some u → W.cell? ((⟨w5.heap.size, 0, none⟩ : Addr).add j) = some u⟩, ⟨2, fun W => ∀ j u, ([.int .i64 y.f0, .int .i64 y.f1, .int .i64 y.f2, .int .i64 y.f3, u4] : List Value)[j]? = some u → W.cell? ((⟨w.heap.size + 1, 0, none⟩ : Addr).add j) = some u⟩] (by kernel_rfl) (fun f hf => by
      simp only [List.mem_cons, List.not_mem_nil, or_false] at hf
      rcases hf with rfl | rfl
      · exact cells5R rfl HQ10.out
      · exact cells5R rfl (HBB.out _ HC10.out.drew)) ?_
  refine At.take 0 (some 45) (.agg #[.int .i64 y.f0, .int .i64 y.f1, .int .i64 y.f2, .int .i64 y.f3, .slice p9 y.f4.length c9]) rfl rfl (by kernel_rfl) (by kernel_rfl) (by kernel_rfl) (by kernel_rfl) (fun _ _ _ h => h) (yl_loads 3 ⟨w5.heap.size, 0, none⟩ [.int .i64 y.f0, .int .i64 y.f1, .int .i64 y.f2, .int .i64 y.f3, .slice p9 y.f4.length c9] (List.mem_cons_self) [3] (by kernel_rfl) rfl (by kernel_rfl) (fun _ => by kernel_rfl)) ?_
  refine At.take 1 (some 46) (.agg #[.int .i64 y.f0, .int .i64 y.f1, .int .i64 y.f2, .int .i64 y.f3, u4]) rfl rfl (by kernel_rfl) (by kernel_rfl) (by kernel_rfl) (by kernel_rfl) (fun _ _ _ h => h) (yl_loads 2 ⟨w.heap.size + 1, 0, none⟩ [.int .i64 y.f0, .int .i64 y.f1, .int .i64 y.f2, .int .i64 y.f3, u4] (List.mem_cons_of_mem _ (List.mem_cons_self)) [2] (by kernel_rfl) rfl (by kernel_rfl) (fun _ => by kernel_rfl)) ?_
  refine At.step 2 (some 47) rfl rfl (by kernel_rfl) (by kernel_rfl) (fun u W => ∃ p c, u = .agg #[.int .i64 y.f0, .int .i64 y.f1, .int .i64 y.f2, .int .i64 y.f3, .slice p y.f4.length c] ∧ OwWal W w10.drew.heap.size y (.slice p y.f4.length c) ∧ Below w10.drew.heap.size w10.drew W) (gives_call (by kernel_rfl) ((toWalL_c y u4 w10.drew HLY.out (HRY.out _ (HC10.out.drew))).mono fun e w' ⟨p, c, he, ho, hb⟩ => ⟨_, he, p, c, rfl, ho, hb⟩)) ?_
  rintro u Z1 ⟨p, c, rfl, ho, b1⟩
  replace b1 := bel_undrewL b1
  have hbx := hideL ((b1.block _ (lt_of_some HQ10.out)).trans HQ10.out)
  refine ⟨held_cons (.inr (cells5R rfl hbx.out)) (held_cons (.inl (by kernel_rfl)) (held_nil)), ?_⟩
  refine At.step 3 (some 48) rfl rfl (by kernel_rfl) (by kernel_rfl) (fun u W => u = .bool true ∧ Below Z1.heap.size Z1 W) (gives_call (by kernel_rfl) ((eqWal_c y (.slice p9 y.f4.length c9) (.slice p y.f4.length c) Z1 HLY.out (OwWal.rd (OwWal.keep HYo10.out b1 (Nat.le_refl _))) (OwWal.rd ho)).mono fun e w' ⟨he, hb⟩ => ⟨_, he, rfl, hb⟩)) ?_
  rintro u w11 ⟨rfl, b2⟩
  have b3 : Below w10.heap.size w10 w11 := b1.trans (b2.mono b1.size)
  refine ⟨held_cons (.inl (by kernel_rfl)) (held_cons (.inl (by kernel_rfl)) (held_nil)), ?_⟩
  refine At.take 4 (some 49) (.bool false) rfl rfl (by kernel_rfl) (by kernel_rfl) (by kernel_rfl) (by kernel_rfl) (fun _ _ _ h => h) (yl_pure (by kernel_rfl) (fun _ => by kernel_rfl)) ?_
  refine At.done (by kernel_rfl) ?_
  simp only [Act.put, List.setIfInBounds_toArray, List.set_cons_zero, List.set_cons_succ]
  have HC11 : Hid (Below W0.heap.size W0 w11) := HC10.out.trans (b3.mono HC10.out.size)
  have HV11 : Hid (Below X3.heap.size X3 w11) := HV10.out.trans (b3.mono HV10.out.size)
  have HP11 : Hid (w11.heap[w4.heap.size]? = some (.cells #[.int .i64 x.f0, .int .i64 x.f1, .slice p82 x.f2.length c82, .slice p83 x.f3.length c83, .slice p84 x.f4.length c84] 35)) := (b3.block _ (lt_of_some HP10.out)).trans HP10.out
  have HQ11 : Hid (w11.heap[w5.heap.size]? = some (.cells #[.int .i64 y.f0, .int .i64 y.f1, .int .i64 y.f2, .int .i64 y.f3, .slice p9 y.f4.length c9] 60)) := (b3.block _ (lt_of_some HQ10.out)).trans HQ10.out
  have HXo11 : Hid (OwDisk w11 X3.heap.size x (.slice p82 x.f2.length c82) (.slice p83 x.f3.length c83) (.slice p84 x.f4.length c84)) := OwDisk.keep HXo10.out b3 (Nat.le_refl _)
  have HYo11 : Hid (OwWal w11 W4.heap.size y (.slice p9 y.f4.length c9)) := OwWal.keep HYo10.out b3 (Nat.le_refl _)
  have HG11 : Hid (w11.ownsRow W5.heap.size 39 4 v10 L.length (rStep L)) := own_bel HG10.out b3 (Nat.le_refl _)
  have HZ11 : Hid (W5.heap.size ≤ w11.heap.size) := Nat.le_trans HZ10.out b3.size
  clear ho b1 b2 b3 hbx
  obtain ⟨g0, g1, g2, g3, g4⟩ := box5 HP11.out
  have hblk := hideL (own_blockD HXo11.out)
  go_wp2_with fail
  refine (markDisk_c x 1 (.slice p82 x.f2.length c82) (.slice p83 x.f3.length c83) (.slice p84 x.f4.length c84) X3.heap.size w11 HLX.out (by decide) (by decide) HV11.out.size HXo11.out).mono ?_
  rintro e w12 ⟨rfl, _, hbut⟩
  have hbk := own_blockD HXo50.out
  have HC12 : Hid (Below W0.heap.size W0 w12) := HC11.out.trans (hbut.below (fun u hu k hk => Nat.le_trans HC3.out.size (hbk u hu k hk).1) HC11.out.size)
  have HV12 : Hid (Below X3.heap.size X3 w12) := HV11.out.trans (hbut.below (fun u hu k hk => (hbk u hu k hk).1) HV11.out.size)
  have hb4 := own_blockD HXo4.out
  have HQ12 : Hid (w12.heap[w5.heap.size]? = some (.cells #[.int .i64 y.f0, .int .i64 y.f1, .int .i64 y.f2, .int .i64 y.f3, .slice p9 y.f4.length c9] 60)) := (hbut.block _ (lt_of_some HQ11.out) (fun u hu e => by have h1 := (hb4 u hu _ e).2; have := HLX4.out; omega)).trans HQ11.out
  have HZ12 : Hid (W5.heap.size ≤ w12.heap.size) := Nat.le_trans HZ11.out hbut.size
  have HYo12 : Hid (OwWal w12 W4.heap.size y (.slice p9 y.f4.length c9)) := hbut.own HYo11.out (fun u hu k hk => by have h1 := (hb4 u hu _ hk).2; have := lt_of_some HP40.out; omega)
  have HG12 : Hid (w12.ownsRow W5.heap.size 39 4 v10 L.length (rStep L)) := hbut.own HG11.out (fun u hu k hk => (hbk u hu k hk).2)
  have hK0 : 1 + ((x.f2.length * 3 : Nat) : Int) + ((x.f3.length * 2 : Nat) : Int) + ((x.f4.length * 4 : Nat) : Int) ≤ 9437185 := by have h : LnDisk x 1048576 := HLX.out; obtain ⟨l2, l3, l4⟩ := h; omega
  have hK1 : (0 : Int) < 1 + ((x.f2.length * 3 : Nat) : Int) + ((x.f3.length * 2 : Nat) : Int) + ((x.f4.length * 4 : Nat) : Int) := by omega
  generalize 1 + ((x.f2.length * 3 : Nat) : Int) + ((x.f3.length * 2 : Nat) : Int) + ((x.f4.length * 4 : Nat) : Int) = K at hK0 hK1 ⊢
  clear hbut hbk hb4 hblk
  clear g0 g1 g2 g3 g4
  obtain ⟨h0, h1, h2, h3, h4⟩ := box5 HQ12.out
  go_wp2_with fail
  refine (markWal_c y K (.slice p9 y.f4.length c9) W4.heap.size w12 HLY.out hK1 (by omega) (Nat.le_trans HZ450.out HZ12.out) HYo12.out).mono ?_
  rintro e w13 ⟨rfl, _, hbut⟩
  have hbk := own_block1L HYo50.out
  have HC13 : Hid (Below W0.heap.size W0 w13) := HC12.out.trans (hbut.below (fun u hu k hk => Nat.le_trans HC40.out.size (hbk u hu k hk).1) HC12.out.size)
  have HV13 : Hid (Below X3.heap.size X3 w13) := HV12.out.trans (hbut.below (fun u hu k hk => Nat.le_trans HV40.out.size (hbk u hu k hk).1) HV12.out.size)
  have HG13 : Hid (w13.ownsRow W5.heap.size 39 4 v10 L.length (rStep L)) := hbut.own HG12.out (fun u hu k hk => (hbk u hu k hk).2)
  have HZ13 : Hid (W5.heap.size ≤ w13.heap.size) := Nat.le_trans HZ12.out hbut.size
  have hK2 : ¬ K + ((y.f4.length * 2 : Nat) : Int) < 0 := by omega
  generalize K + ((y.f4.length * 2 : Nat) : Int) = K2 at hK2 ⊢
  clear hbut hbk hK0 hK1
  clear h0 h1 h2 h3 h4
  go_wp2_with fail
  refine (eqStepS_c v10 vN L w13 HLL.out (RowR.own HG13.out) (HS6.out _ HV13.out)).mono ?_
  rintro e w14 ⟨rfl, b14⟩
  have HC14 : Hid (Below W0.heap.size W0 w14) := HC13.out.trans (b14.mono HC13.out.size)
  have HV14 : Hid (Below X3.heap.size X3 w14) := HV13.out.trans (b14.mono HV13.out.size)
  have HG14 : Hid (w14.ownsRow W5.heap.size 39 4 v10 L.length (rStep L)) := own_bel HG13.out b14 (Nat.le_refl _)
  have HZ14 : Hid (W5.heap.size ≤ w14.heap.size) := Nat.le_trans HZ13.out b14.size
  clear b14
  go_wp2_with fail
  refine (markStepS_c v10 L 1 W5.heap.size w14 HLL.out (by decide) (by decide) HZ14.out HG14.out).mono ?_
  rintro e w15 ⟨rfl, hm, hbut⟩
  have HM15 : Hid (w15.ownsRow W5.heap.size 39 4 v10 L.length (mSteps 1 L.length)) := hm
  have b15 := hbut.below HG14.out HZ14.out
  have HC15 : Hid (Below W0.heap.size W0 w15) := HC14.out.trans (b15.mono HC50.out.size)
  have HV15 : Hid (Below X3.heap.size X3 w15) := HV14.out.trans (b15.mono HV50.out.size)
  obtain ⟨Kc, hKc⟩ : ∃ Kc : Int, 1 + ((L.length * 4 : Nat) : Int) = Kc := ⟨_, rfl⟩
  have hkc' : ¬ Kc < 0 := by omega
  have HKc : Hid (1 + ((L.length * 4 : Nat) : Int) = Kc) := hKc
  rw [hKc]
  clear hm hbut b15 hKc
  go_wp2_with fail
  refine (heldStepS_c v10 L.length 1 w15 HLL.out (by decide) (by decide) (RowR.own HM15.out)).mono ?_
  rintro e w16 ⟨rfl, b16⟩
  rw [HKc.out]
  have HC16 : Hid (Below W0.heap.size W0 w16) := HC15.out.trans (b16.mono HC15.out.size)
  have HV16 : Hid (Below X3.heap.size X3 w16) := HV15.out.trans (b16.mono HV15.out.size)
  have HM16 : Hid (w16.ownsRow W5.heap.size 39 4 v10 L.length (mSteps 1 L.length)) := own_bel HM15.out b16 (Nat.le_refl _)
  clear b16
  go_upto_region 31 with fail
  obtain ⟨vS, hvS⟩ : ∃ v, v = vN := ⟨_, rfl⟩
  rw [← hvS] at HS6 ⊢
  obtain ⟨X0, hX0⟩ : ∃ W, W = X3 := ⟨_, rfl⟩
  rw [← hX0] at HS6 HV16
  clear hvS hX0
  refine wp_region_L [⟨1, fun W => ∀ j u, ([.int .i64 x.f0, .int .i64 x.f1, v2, v3, v4] : List Value)[j]? = some u → W.cell? ((⟨w.heap.size, 0, none⟩ : Addr).add j) = some u⟩, ⟨3, fun W => ∀ j u, ([.int .i64 y.f0, .int .i64 y.f1, .int .i64 y.f2, .int .i64 y.f3, u4] : List Value)[j]? = some u → W.cell? ((⟨w.heap.size + 1, 0, none⟩ : Addr).add j) = some u⟩] (by kernel_rfl) (fun f hf => by
      simp only [List.mem_cons, List.not_mem_nil, or_false] at hf
      rcases hf with rfl | rfl
      · exact cells5R rfl (HBA.out _ HC16.out.drew)
      · exact cells5R rfl (HBB.out _ HC16.out.drew)) ?_
  refine At.take 0 (some 75) (.agg #[.int .i64 x.f0, .int .i64 x.f1, v2, v3, v4]) rfl rfl (by kernel_rfl) (by kernel_rfl) (by kernel_rfl) (by kernel_rfl) (fun _ _ _ h => h) (yl_loads 1 ⟨w.heap.size, 0, none⟩ [.int .i64 x.f0, .int .i64 x.f1, v2, v3, v4] (List.mem_cons_self) [1] (by kernel_rfl) rfl (by kernel_rfl) (fun _ => by kernel_rfl)) ?_
  refine At.take 2 (some 77) (.agg #[.int .i64 y.f0, .int .i64 y.f1, .int .i64 y.f2, .int .i64 y.f3, u4]) rfl rfl (by kernel_rfl) (by kernel_rfl) (by kernel_rfl) (by kernel_rfl) (fun _ _ _ h => h) (yl_loads 3 ⟨w.heap.size + 1, 0, none⟩ [.int .i64 y.f0, .int .i64 y.f1, .int .i64 y.f2, .int .i64 y.f3, u4] (List.mem_cons_of_mem _ (List.mem_cons_self)) [3] (by kernel_rfl) rfl (by kernel_rfl) (fun _ => by kernel_rfl)) ?_
  refine At.step 1 (some 76) rfl rfl (by kernel_rfl) (by kernel_rfl) (fun u W => ∃ (pa2 : Option Addr) (ca2 : Nat) (pa3 : Option Addr) (ca3 : Nat) (pa4 : Option Addr) (ca4 : Nat), u = .agg #[.int .i64 x.f0, .int .i64 x.f1, .slice pa2 x.f2.length ca2, .slice pa3 x.f3.length ca3, .slice pa4 x.f4.length ca4] ∧ OwDisk W w16.drew.heap.size x (.slice pa2 x.f2.length ca2) (.slice pa3 x.f3.length ca3) (.slice pa4 x.f4.length ca4) ∧ Below w16.drew.heap.size w16.drew W) (gives_call (by kernel_rfl) ((toDiskS_c x v2 v3 v4 w16.drew HLX.out (HRX.out _ (HC16.out.drew))).mono fun e w' ⟨pa2, ca2, pa3, ca3, pa4, ca4, he, ho, hb⟩ => ⟨_, he, pa2, ca2, pa3, ca3, pa4, ca4, rfl, ho, hb⟩)) ?_
  rintro u X1 ⟨pa2, ca2, pa3, ca3, pa4, ca4, rfl, hox, b1⟩
  have HX1 : Hid (Below W0.heap.size W0 X1) := (HC16.out.drew).trans (b1.mono (HC16.out.drew).size)
  refine ⟨held_cons (.inl (by kernel_rfl)) (held_cons (.inr (cells5R rfl (HBB.out _ HX1.out))) (held_nil)), ?_⟩
  refine At.step 3 (some 78) rfl rfl (by kernel_rfl) (by kernel_rfl) (fun u W => ∃ p c, u = .agg #[.int .i64 y.f0, .int .i64 y.f1, .int .i64 y.f2, .int .i64 y.f3, .slice p y.f4.length c] ∧ OwWal W X1.heap.size y (.slice p y.f4.length c) ∧ Below X1.heap.size X1 W) (gives_call (by kernel_rfl) ((toWalL_c y u4 X1 HLY.out (HRY.out _ (HX1.out))).mono fun e w' ⟨p, c, he, ho, hb⟩ => ⟨_, he, p, c, rfl, ho, hb⟩)) ?_
  rintro u X2 ⟨pb, cb, rfl, hoy, b2⟩
  replace hox := OwDisk.keep hox b2 (Nat.le_refl _)
  replace hoy := OwWal.rd hoy
  have HX2 : Hid (Below w16.heap.size w16 X2) := bel_undrewL (b1.trans (b2.mono b1.size))
  refine ⟨held_cons (.inl (by kernel_rfl)) (held_cons (.inl (by kernel_rfl)) (held_nil)), ?_⟩
  refine At.step 4 (some 79) rfl rfl (by kernel_rfl) (by kernel_rfl) (fun u W => ∃ v, u = v ∧ W.ownsRow X2.heap.size 39 4 v L.length (rStep L) ∧ Below X2.heap.size X2 W) (gives_call (by kernel_rfl) ((CI.out X2 _ pa2 pa3 pa4 pb ca2 ca3 ca4 cb hox hoy).mono fun e w' ⟨v, he, ho, hb⟩ => ⟨_, he, v, rfl, ho, hb⟩)) ?_
  rintro vN X3 ⟨_, rfl, ho3, b3⟩
  have HX3 : Hid (Below w16.heap.size w16 X3) := HX2.out.trans (b3.mono HX2.out.size)
  clear hox hoy b1 b2 b3 HX1 HX2
  refine ⟨held_cons (.inl (by kernel_rfl)) (held_cons (.inl (by kernel_rfl)) (held_nil)), ?_⟩
  refine At.take 5 (some 13) (vN) rfl rfl (by kernel_rfl) (by kernel_rfl) (by kernel_rfl) (by kernel_rfl) (fun _ _ _ h => h) (yl_pure (by kernel_rfl) (fun _ => by kernel_rfl)) ?_
  refine At.done (by kernel_rfl) ?_
  simp only [Act.put, List.setIfInBounds_toArray, List.set_cons_zero, List.set_cons_succ]
  have HNr : Hid (RowR X3 vN L.length 4 (rStep L)) := RowR.own ho3
  have HC17 : Hid (Below W0.heap.size W0 X3) := HC16.out.trans (HX3.out.mono HC16.out.size)
  have HM17 : Hid (X3.ownsRow W5.heap.size 39 4 v10 L.length (mSteps 1 L.length)) := own_bel HM16.out HX3.out (Nat.le_refl _)
  have HV17 : Hid (Below X0.heap.size X0 X3) := HV16.out.trans (HX3.out.mono HV16.out.size)
  clear ho3
  go_wp2_with fail
  refine (eqStepS_c vN vS L X3 HLL.out HNr.out (HS6.out _ HV17.out)).mono ?_
  rintro e w18 ⟨rfl, b18⟩
  have HC18 : Hid (Below W0.heap.size W0 w18) := HC17.out.trans (b18.mono HC17.out.size)
  have HM18 : Hid (w18.ownsRow W5.heap.size 39 4 v10 L.length (mSteps 1 L.length)) := own_bel HM17.out b18 (Nat.le_refl _)
  clear b18
  go_wp2_with fail
  refine (heldStepS_c v10 L.length 1 w18 HLL.out (by decide) (by decide) (RowR.own HM18.out)).mono ?_
  rintro e w19 ⟨rfl, b19⟩
  rw [HKc.out]
  have HC19 : Hid (Below W0.heap.size W0 w19) := HC18.out.trans (b19.mono HC18.out.size)
  clear b19
  go_wp2
  go_ret
  exact ⟨rfl, HDN.out _ HC19.out⟩

end Go.Proofs.YtoecakjjondeeaaGreat
