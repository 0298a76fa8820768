/- The exact law of WalStep, walked. -/
import Derived.Test.YtengfkakiohfaaaWyImplS
import Derived.Test.YtengfkakiohfaaaWcLaw
import Derived.Test.YtengfkakiohfaaaHaOpR
import Derived.Test.YtengfkakiohfaaaHaOpW
import Derived.Test.YtengfkakiohfaaaRgMade
import Derived.Test.YtengfkakiohfaaaHaRec
namespace Go.Proofs.Ytengfkakiohfaaa
open Go.RowKit
set_option linter.unusedVariables false
set_option linter.unusedSimpArgs false

theorem wsF_len (x : S_Wal) (r : S_Rec) (h : x.f4.length ≤ 1048576) : (wsF x r).f4.length ≤ 1048576 := by
  by_cases hok : okW x
  · have hl := (okW_len hok).1
    by_cases hf : okR r ∧ fitsR x r
    · rw [(ws_yes hok hf).1]
      unfold stepF
      split
      · show x.f4.length ≤ _; omega
      · split
        · show (x.f4 ++ [_]).length ≤ _; rw [List.length_append]; show x.f4.length + 1 ≤ _; omega
        · show (x.f4.take _).length ≤ _; rw [List.length_take]; omega
    · rw [(ws_no hok hf).1]; exact h
  · rw [(ws_bad hok).1]; exact Nat.zero_le _

theorem cells5Y {w : World} {b : Nat} {c0 c1 c2 c3 c4 : Value} {T : TypeId} {b' : Nat} (e : b = b') (h : w.heap[b]? = some (.cells #[c0, c1, c2, c3, c4] T)) : ∀ j u, [c0, c1, c2, c3, c4][j]? = some u → w.cell? ((⟨b', 0, none⟩ : Addr).add j) = some u := by
  subst e
  exact cellsS h (Below.refl _ _)

theorem gives_storesY {P : Program} {o : Oper} {ρ : Operand → Value} {w : World} {b : Nat} {cs : List Value} {old : Array Value} {t : TypeId} (hv : ∀ w, (execOp ρ o).run P w = ((storeCells ⟨b, 0, none⟩ cs 0) >>= fun _ => pure Next.skip : Sem Next).run P w) (h1 : ∀ v ∈ cs, v.oneCell' = true) (hb : w.heap[b]? = some (.cells old t)) (hl : old.size = cs.length) :
    gives P o ρ w fun u W => u = undef ∧ W = w.setCells b 0 cs :=
  gives_unit _ hv (run_storeCells_cells b 0 cs 0 w (fun j hj => by simp [World.cell?, hb]; omega) (fun j hj => by simp [World.frozen?, hb]) h1)

theorem store5_ownY {w : World} {b base n : Nat} {v : Value} {xs : List Value} {cs : Array Value} (a0 a1 a2 a3 a4 : Value) (h : w.ownsRow base 68 2 v n xs) (hx : w.heap[b]? = some (.cells cs 26)) : ((((((w.setCell ⟨b, 0, none⟩ (a0)).setCell ⟨b, 1, none⟩ (a1)).setCell ⟨b, 2, none⟩ (a2)).setCell ⟨b, 3, none⟩ (a3)).setCell ⟨b, 4, none⟩ (a4))).ownsRow base 68 2 v n xs :=
  have hn := own_ne h hx
  own_setS (own_setS (own_setS (own_setS (own_setS h _ hn) _ hn) _ hn) _ hn) _ hn

set_option maxRecDepth 20000 in
set_option maxHeartbeats 8000000 in
theorem walstep_law (x : S_Wal) (v4 : Value) (r : S_Rec) (w : World) (hsx : SmWal x) (hgx : gWal x) (hsr : sRec r) (hgr : gRec r) (hx : RdWal w x v4) :
    Calls Try.prog 4 #[.agg #[.int .i64 x.f0, .int .i64 x.f1, .int .i64 x.f2, .int .i64 x.f3, v4], .agg #[.int .i64 r.f0, .int .i64 r.f1, .int .i64 r.f2, .int .i64 r.f3, .string r.f4]] w fun e w' => e = .returned (.bool true) ∧ Below w.heap.size w w' := by
  obtain ⟨W0, hW0⟩ : ∃ W, W = (w.alloc (.cells #[.int .i64 x.f0, .int .i64 x.f1, .int .i64 x.f2, .int .i64 x.f3, v4] 42)).alloc (.cells #[.int .i64 r.f0, .int .i64 r.f1, .int .i64 r.f2, .int .i64 r.f3, .string r.f4] 43) := ⟨_, rfl⟩
  have HW0 : Hid ((w.alloc (.cells #[.int .i64 x.f0, .int .i64 x.f1, .int .i64 x.f2, .int .i64 x.f3, v4] 42)).alloc (.cells #[.int .i64 r.f0, .int .i64 r.f1, .int .i64 r.f2, .int .i64 r.f3, .string r.f4] 43) = W0) := hW0.symm
  have HS0 : Hid (W0.heap.size = w.heap.size + 2) := by show _ = _; rw [hW0]; simp
  have HB0 : Hid (Below w.heap.size w W0) := by rw [hW0]; exact ((Below.refl _ _).alloc (Nat.le_refl _) _).alloc (by simp) _
  have HBA : Hid (∀ W', Below W0.heap.size W0 W' → W'.heap[w.heap.size]? = some (.cells #[.int .i64 x.f0, .int .i64 x.f1, .int .i64 x.f2, .int .i64 x.f3, v4] 42)) := fun W' hb => by
    rw [hb.block _ (by rw [HS0.out]; omega), hW0, Below.heap_alloc _ _ _ (by simp)]
    exact alloc_last _ _
  have HBR : Hid (∀ W', Below W0.heap.size W0 W' → W'.heap[w.heap.size + 1]? = some (.cells #[.int .i64 r.f0, .int .i64 r.f1, .int .i64 r.f2, .int .i64 r.f3, .string r.f4] 43)) := fun W' hb => by
    rw [hb.block _ (by rw [HS0.out]; omega), hW0]
    have := alloc_last (w.alloc (.cells #[.int .i64 x.f0, .int .i64 x.f1, .int .i64 x.f2, .int .i64 x.f3, v4] 42)) (.cells #[.int .i64 r.f0, .int .i64 r.f1, .int .i64 r.f2, .int .i64 r.f3, .string r.f4] 43)
    rw [World.size_alloc] at this
    exact this
  have HR0 : Hid (RdWal W0 x v4) := RdWal.keep hx HB0.out (Nat.le_refl _)
  have HRX : Hid (∀ W', Below W0.heap.size W0 W' → RdWal W' x v4) := fun W' hb => RdWal.keep HR0.out hb (Nat.le_refl _)
  have HDN : Hid (∀ W', Below W0.heap.size W0 W' → Below w.heap.size w W') := fun W' hb => HB0.out.trans (hb.mono (by rw [HS0.out]; omega))
  have HSX : Hid (SmWal x) := hsx
  have HSR : Hid (sRec r) := hsr
  have HC0 : Hid (Below W0.heap.size W0 W0) := Below.refl _ _
  clear hW0 hx hsx hsr hgx hgr
  obtain ⟨d0, d1, d2, d3, d4⟩ := box5 (HBA.out _ HC0.out)
  go_enter Try.func4, Try.ntmps4
  go_wp2_with fail
  rw [HW0.out]
  refine (szWal_c x 1048576 v4 W0 (by decide) (by decide) HSX.out (HRX.out _ HC0.out)).mono ?_
  rintro e w1 ⟨rfl, b1⟩
  have HC1 : Hid (Below W0.heap.size W0 w1) := HC0.out.trans (b1.mono HC0.out.size)
  clear b1 d0 d1 d2 d3 d4
  generalize hz : szF (zWal x) 1048576 = z
  have HZ : Hid (szF (zWal x) 1048576 = z) := hz
  clear hz
  by_cases hneg : z < 0
  · go_wp2
    go_ret
    exact ⟨rfl, HDN.out _ HC1.out⟩
  have hz1 : z ≤ 1048576 := by rw [← HZ.out]; exact szF_le _ _ (by decide)
  have HLX : Hid (LnWal x 1048576) := ln_walC (by have := sz_leC (by rw [HZ.out]; exact hneg); omega)
  obtain ⟨e0, e1, e2, e3, e4⟩ := box5 (HBR.out _ HC1.out)
  go_wp2_with fail
  refine (szRec_c r z w1 (by omega) hz1 HSR.out).mono ?_
  rintro e w2 ⟨rfl, b2⟩
  have HC2 : Hid (Below W0.heap.size W0 w2) := HC1.out.trans (b2.mono HC1.out.size)
  clear b2 e0 e1 e2 e3 e4
  generalize hz2 : szF (zRec r) z = z2
  have HZ2 : Hid (szF (zRec r) z = z2) := hz2
  clear hz2
  by_cases hneg2 : z2 < 0
  · go_wp2
    go_ret
    exact ⟨rfl, HDN.out _ HC2.out⟩
  have HZR : Hid (r.f4.size ≤ 1048576) := by have h := sz_leC (by rw [HZ2.out]; exact hneg2); unfold zRec at h; show _ ≤ _; omega
  obtain ⟨y, hy⟩ : ∃ y, wsF x r = y := ⟨_, rfl⟩
  obtain ⟨G, hG⟩ : ∃ G, wsB x r = G := ⟨_, rfl⟩
  have HLY : Hid (LnWal y 1048576) := by rw [← hy]; have := wsF_len x r HLX.out; exact this
  have CS : Hid (∀ p c W, RdWal W x (.slice p x.f4.length c) → Calls Try.prog 15 #[.agg #[.int .i64 x.f0, .int .i64 x.f1, .int .i64 x.f2, .int .i64 x.f3, .slice p x.f4.length c], .agg #[.int .i64 r.f0, .int .i64 r.f1, .int .i64 r.f2, .int .i64 r.f3, .string r.f4]] W fun e w' => ∃ q c, e = .returned (.tuple #[.agg #[.int .i64 y.f0, .int .i64 y.f1, .int .i64 y.f2, .int .i64 y.f3, .slice q y.f4.length c], .bool G]) ∧ OwWal w' W.heap.size y (.slice q y.f4.length c) ∧ Below W.heap.size W w') := fun p c W h => by
    have := specWalStep_c x r p c W HLX.out HSX.out.2 HSR.out h
    unfold WsR at this
    rw [hy, hG] at this
    exact this
  have CI : Hid (∀ p c W, RdWal W x (.slice p x.f4.length c) → Calls Try.prog 9 #[.agg #[.int .i64 x.f0, .int .i64 x.f1, .int .i64 x.f2, .int .i64 x.f3, .slice p x.f4.length c], .agg #[.int .i64 r.f0, .int .i64 r.f1, .int .i64 r.f2, .int .i64 r.f3, .string r.f4]] W fun e w' => ∃ q c, e = .returned (.tuple #[.agg #[.int .i64 y.f0, .int .i64 y.f1, .int .i64 y.f2, .int .i64 y.f3, .slice q y.f4.length c], .bool G]) ∧ OwWal w' W.heap.size y (.slice q y.f4.length c) ∧ Below W.heap.size W w') := fun p c W h => by
    have := implWalStep_c x r p c W HLX.out HSX.out.2 HSR.out HZR.out h
    unfold WsR at this
    rw [hy, hG] at this
    exact this
  have hgg : (G != G) = false := by cases G <;> rfl
  clear hneg hy hG hz1 HZ HZ2
  go_upto_region 8 with fail
  go_cut [6, 7] from 26 to 33 (fun sA sB w3 => ∃ (bx : Nat) (q : Option Addr) (c : Nat), sA = .pointer (some ⟨bx, 0, none⟩) ∧ sB = .bool G ∧ Hid (w2.heap.size ≤ bx) ∧ Hid (w3.heap[bx]? = some (.cells #[.int .i64 y.f0, .int .i64 y.f1, .int .i64 y.f2, .int .i64 y.f3, .slice q y.f4.length c] 26)) ∧ Hid (OwWal w3 w2.heap.size y (.slice q y.f4.length c)) ∧ Hid (Below w2.heap.size w2 w3))
  case first =>
    refine wp_region_L [⟨1, fun W => ∀ j u, ([.int .i64 x.f0, .int .i64 x.f1, .int .i64 x.f2, .int .i64 x.f3, v4] : List Value)[j]? = some u → W.cell? ((⟨w.heap.size, 0, none⟩ : Addr).add j) = some u⟩, ⟨3, fun W => ∀ j u, ([.int .i64 r.f0, .int .i64 r.f1, .int .i64 r.f2, .int .i64 r.f3, .string r.f4] : List Value)[j]? = some u → W.cell? ((⟨w.heap.size + 1, 0, none⟩ : Addr).add j) = some u⟩] (by kernel_rfl) (fun f hf => by
        simp only [List.mem_cons, List.not_mem_nil, or_false] at hf
        rcases hf with rfl | rfl
        · exact cells5Y rfl (HBA.out _ HC2.out.drew)
        · exact cells5Y rfl (HBR.out _ HC2.out.drew)
        ) ?_
    refine At.take 0 (some 27) (.agg #[.int .i64 x.f0, .int .i64 x.f1, .int .i64 x.f2, .int .i64 x.f3, v4]) rfl rfl (by kernel_rfl) (by kernel_rfl) (by kernel_rfl) (by kernel_rfl) (fun _ _ _ h => h) (yl_loads 1 ⟨w.heap.size, 0, none⟩ [.int .i64 x.f0, .int .i64 x.f1, .int .i64 x.f2, .int .i64 x.f3, v4] (List.mem_cons_self) [1] (by kernel_rfl) rfl (by kernel_rfl) (fun _ => by kernel_rfl)) ?_
    refine At.take 2 (some 29) (.agg #[.int .i64 r.f0, .int .i64 r.f1, .int .i64 r.f2, .int .i64 r.f3, .string r.f4]) rfl rfl (by kernel_rfl) (by kernel_rfl) (by kernel_rfl) (by kernel_rfl) (fun _ _ _ h => h) (yl_loads 3 ⟨w.heap.size + 1, 0, none⟩ [.int .i64 r.f0, .int .i64 r.f1, .int .i64 r.f2, .int .i64 r.f3, .string r.f4] (List.mem_cons_of_mem _ (List.mem_cons_self)) [3] (by kernel_rfl) rfl (by kernel_rfl) (fun _ => by kernel_rfl)) ?_
    refine At.two 1 8 (some 28) (some 6) rfl rfl rfl rfl (by kernel_rfl) (by kernel_rfl) (by kernel_rfl) (fun u W => ∃ p c, u = .agg #[.int .i64 x.f0, .int .i64 x.f1, .int .i64 x.f2, .int .i64 x.f3, .slice p x.f4.length c] ∧ OwWal W w2.drew.heap.size x (.slice p x.f4.length c) ∧ Below w2.drew.heap.size w2.drew W) (fun u W => u = .pointer (some ⟨w2.drew.heap.size, 0, none⟩) ∧ W = w2.drew.alloc (.cells #[.int .i64 0, .int .i64 0, .int .i64 0, .int .i64 0, .slice none 0 0] 26)) (gives_call (by kernel_rfl) ((toWalS_c x v4 w2.drew HLX.out (HRX.out _ HC2.out.drew)).mono fun e w' ⟨p, c, he, ho, hb⟩ => ⟨_, he, p, c, rfl, ho, hb⟩)) (gives_run (by kernel_rfl)) ?_ ?_
    · rintro u X1 ⟨pa, ca, rfl, hoa, bX1⟩
      have HCX1 : Hid (Below W0.heap.size W0 X1) := (HC2.out.drew).trans (bX1.mono (HC2.out.drew).size)
      have HDX1 : Hid (Below w2.heap.size w2 X1) := ((Below.refl w2.heap.size w2).drew).trans (bX1.mono ((Below.refl w2.heap.size w2).drew).size)
      have HAX1 : Hid (RdWal X1 x (.slice pa x.f4.length ca)) := OwWal.rd hoa
      refine ⟨held_cons (.inl (by kernel_rfl)) (held_cons (.inr (cells5Y rfl (HBR.out _ HCX1.out))) (held_nil)), ?_⟩
      refine At.two 3 8 (some 30) (some 6) rfl rfl rfl rfl (by kernel_rfl) (by kernel_rfl) (by kernel_rfl) (fun u W => u = .agg #[.int .i64 r.f0, .int .i64 r.f1, .int .i64 r.f2, .int .i64 r.f3, .string r.f4] ∧ Below X1.heap.size X1 W) (fun u W => u = .pointer (some ⟨X1.heap.size, 0, none⟩) ∧ W = X1.alloc (.cells #[.int .i64 0, .int .i64 0, .int .i64 0, .int .i64 0, .slice none 0 0] 26)) (gives_call (by kernel_rfl) ((toRec_c r X1).mono fun e w' ⟨he, hb⟩ => ⟨_, he, rfl, hb⟩)) (gives_run (by kernel_rfl)) ?_ ?_
      · rintro u X2 ⟨rfl, bX2⟩
        have HCX2 : Hid (Below W0.heap.size W0 X2) := (HCX1.out).trans (bX2.mono (HCX1.out).size)
        have HDX2 : Hid (Below w2.heap.size w2 X2) := (HDX1.out).trans (bX2.mono (HDX1.out).size)
        have HAX2 : Hid (RdWal X2 x (.slice pa x.f4.length ca)) := RdWal.keep HAX1.out bX2 (Nat.le_refl _)
        refine ⟨held_cons (.inl (by kernel_rfl)) (held_cons (.inl (by kernel_rfl)) (held_nil)), ?_⟩
        refine At.two 4 8 (some 31) (some 6) rfl rfl rfl rfl (by kernel_rfl) (by kernel_rfl) (by kernel_rfl) (fun u W => ∃ q c, u = .tuple #[.agg #[.int .i64 y.f0, .int .i64 y.f1, .int .i64 y.f2, .int .i64 y.f3, .slice q y.f4.length c], .bool G] ∧ OwWal W X2.heap.size y (.slice q y.f4.length c) ∧ Below X2.heap.size X2 W) (fun u W => u = .pointer (some ⟨X2.heap.size, 0, none⟩) ∧ W = X2.alloc (.cells #[.int .i64 0, .int .i64 0, .int .i64 0, .int .i64 0, .slice none 0 0] 26)) (gives_call (by kernel_rfl) ((CS.out _ _ X2 (HAX2.out)).mono fun e w' ⟨q, c, he, ho, hb⟩ => ⟨_, he, q, c, rfl, ho, hb⟩)) (gives_run (by kernel_rfl)) ?_ ?_
        · rintro u X3 ⟨q, c, rfl, hoq, bX3⟩
          have HCX3 : Hid (Below W0.heap.size W0 X3) := (HCX2.out).trans (bX3.mono (HCX2.out).size)
          have HDX3 : Hid (Below w2.heap.size w2 X3) := (HDX2.out).trans (bX3.mono (HDX2.out).size)
          have HAX3 : Hid (RdWal X3 x (.slice pa x.f4.length ca)) := RdWal.keep HAX2.out bX3 (Nat.le_refl _)
          have HQX3 : Hid (OwWal X3 w2.heap.size y (.slice q y.f4.length c)) := own_low hoq (HDX2.out).size
          refine ⟨held_cons (.inl (by kernel_rfl)) (held_cons (.inl (by kernel_rfl)) (held_nil)), ?_⟩
          refine At.take 5 (some 26) (.tuple #[.agg #[.int .i64 y.f0, .int .i64 y.f1, .int .i64 y.f2, .int .i64 y.f3, .slice q y.f4.length c], .bool G]) rfl rfl (by kernel_rfl) (by kernel_rfl) (by kernel_rfl) (by kernel_rfl) (fun _ _ _ h => h) (yl_pure (by kernel_rfl) (fun _ => by kernel_rfl)) ?_
          refine At.take 6 (some 32) (.agg #[.int .i64 y.f0, .int .i64 y.f1, .int .i64 y.f2, .int .i64 y.f3, .slice q y.f4.length c]) rfl rfl (by kernel_rfl) (by kernel_rfl) (by kernel_rfl) (by kernel_rfl) (fun _ _ _ h => h) (yl_pure (by kernel_rfl) (fun _ => by kernel_rfl)) ?_
          refine At.take 7 (some 33) (.bool G) rfl rfl (by kernel_rfl) (by kernel_rfl) (by kernel_rfl) (by kernel_rfl) (fun _ _ _ h => h) (yl_pure (by kernel_rfl) (fun _ => by kernel_rfl)) ?_
          refine At.step 8 (some 6) rfl rfl (by kernel_rfl) (by kernel_rfl) (fun u W => u = .pointer (some ⟨X3.heap.size, 0, none⟩) ∧ W = X3.alloc (.cells #[.int .i64 0, .int .i64 0, .int .i64 0, .int .i64 0, .slice none 0 0] 26)) (gives_run (by kernel_rfl)) ?_
          rintro u X4 ⟨rfl, hXX4⟩
          have bX4 : Below X3.heap.size X3 X4 := by rw [hXX4]; exact (Below.refl _ _).alloc (Nat.le_refl _) _
          have HCX4 : Hid (Below W0.heap.size W0 X4) := (HCX3.out).trans (bX4.mono (HCX3.out).size)
          have HDX4 : Hid (Below w2.heap.size w2 X4) := (HDX3.out).trans (bX4.mono (HDX3.out).size)
          have HAX4 : Hid (RdWal X4 x (.slice pa x.f4.length ca)) := RdWal.keep HAX3.out bX4 (Nat.le_refl _)
          have HQX4 : Hid (OwWal X4 w2.heap.size y (.slice q y.f4.length c)) := OwWal.keep HQX3.out bX4 (Nat.le_refl _)
          have HZX4 : Hid (X4.heap[X3.heap.size]? = some (.cells #[.int .i64 0, .int .i64 0, .int .i64 0, .int .i64 0, .slice none 0 0] 26)) := by rw [hXX4]; exact alloc_last _ _
          have HBX : Hid (w2.heap.size ≤ X3.heap.size) := (HDX3.out).size
          refine ⟨held_cons (.inl (by kernel_rfl)) (held_cons (.inl (by kernel_rfl)) (held_nil)), ?_⟩
          refine At.step 9 none rfl rfl (by kernel_rfl) (by kernel_rfl) (fun u W => u = undef ∧ W = X4.setCells (X3.heap.size) 0 [.int .i64 y.f0, .int .i64 y.f1, .int .i64 y.f2, .int .i64 y.f3, .slice q y.f4.length c]) (gives_storesY (b := X3.heap.size) (cs := [.int .i64 y.f0, .int .i64 y.f1, .int .i64 y.f2, .int .i64 y.f3, .slice q y.f4.length c]) (fun _ => by kernel_rfl) (by intro v hv; simp only [List.mem_cons, List.not_mem_nil, or_false] at hv; rcases hv with rfl | rfl | rfl | rfl | rfl <;> rfl) HZX4.out rfl) ?_
          rintro u XE ⟨rfl, hXE⟩
          refine ⟨held_cons (.inl (by kernel_rfl)) (held_cons (.inl (by kernel_rfl)) (held_nil)), ?_⟩
          have HE1 : Hid (XE.heap[X3.heap.size]? = some (.cells #[.int .i64 y.f0, .int .i64 y.f1, .int .i64 y.f2, .int .i64 y.f3, .slice q y.f4.length c] 26)) := by rw [hXE]; exact store5 (.int .i64 y.f0) (.int .i64 y.f1) (.int .i64 y.f2) (.int .i64 y.f3) (.slice q y.f4.length c) HZX4.out
          have HE2 : Hid (OwWal XE w2.heap.size y (.slice q y.f4.length c)) := by rw [hXE]; exact store5_ownY (.int .i64 y.f0) (.int .i64 y.f1) (.int .i64 y.f2) (.int .i64 y.f3) (.slice q y.f4.length c) HQX4.out HZX4.out
          have HE3 : Hid (Below w2.heap.size w2 XE) := by rw [hXE]; exact store5_bel (.int .i64 y.f0) (.int .i64 y.f1) (.int .i64 y.f2) (.int .i64 y.f3) (.slice q y.f4.length c) HDX4.out HBX.out
          refine At.take 10 (some 7) (.bool G) rfl rfl (by kernel_rfl) (by kernel_rfl) (by kernel_rfl) (by kernel_rfl) (fun _ _ _ h => h) (yl_pure (by kernel_rfl) (fun _ => by kernel_rfl)) ?_
          refine At.done (by kernel_rfl) ?_
          simp only [Act.put, List.setIfInBounds_toArray, List.set_cons_zero, List.set_cons_succ]
          go_wp2_with fail
          go_meet
          exact ⟨_, q, c, rfl, rfl, HBX, HE1, HE2, HE3⟩
        · rintro u X5 ⟨rfl, hXX5⟩
          have bX5 : Below X2.heap.size X2 X5 := by rw [hXX5]; exact (Below.refl _ _).alloc (Nat.le_refl _) _
          have HCX5 : Hid (Below W0.heap.size W0 X5) := (HCX2.out).trans (bX5.mono (HCX2.out).size)
          have HDX5 : Hid (Below w2.heap.size w2 X5) := (HDX2.out).trans (bX5.mono (HDX2.out).size)
          have HAX5 : Hid (RdWal X5 x (.slice pa x.f4.length ca)) := RdWal.keep HAX2.out bX5 (Nat.le_refl _)
          have HZX5 : Hid (X5.heap[X2.heap.size]? = some (.cells #[.int .i64 0, .int .i64 0, .int .i64 0, .int .i64 0, .slice none 0 0] 26)) := by rw [hXX5]; exact alloc_last _ _
          have HBX : Hid (w2.heap.size ≤ X2.heap.size) := (HDX2.out).size
          refine ⟨held_cons (.inl (by kernel_rfl)) (held_cons (.inl (by kernel_rfl)) (held_nil)), ?_⟩
          refine At.step 4 (some 31) rfl rfl (by kernel_rfl) (by kernel_rfl) (fun u W => ∃ q c, u = .tuple #[.agg #[.int .i64 y.f0, .int .i64 y.f1, .int .i64 y.f2, .int .i64 y.f3, .slice q y.f4.length c], .bool G] ∧ OwWal W X5.heap.size y (.slice q y.f4.length c) ∧ Below X5.heap.size X5 W) (gives_call (by kernel_rfl) ((CS.out _ _ X5 (HAX5.out)).mono fun e w' ⟨q, c, he, ho, hb⟩ => ⟨_, he, q, c, rfl, ho, hb⟩)) ?_
          rintro u X6 ⟨q, c, rfl, hoq, bX6⟩
          have HCX6 : Hid (Below W0.heap.size W0 X6) := (HCX5.out).trans (bX6.mono (HCX5.out).size)
          have HDX6 : Hid (Below w2.heap.size w2 X6) := (HDX5.out).trans (bX6.mono (HDX5.out).size)
          have HAX6 : Hid (RdWal X6 x (.slice pa x.f4.length ca)) := RdWal.keep HAX5.out bX6 (Nat.le_refl _)
          have HZX6 : Hid (X6.heap[X2.heap.size]? = some (.cells #[.int .i64 0, .int .i64 0, .int .i64 0, .int .i64 0, .slice none 0 0] 26)) := (bX6.block _ (lt_of_some HZX5.out)).trans HZX5.out
          have HQX6 : Hid (OwWal X6 w2.heap.size y (.slice q y.f4.length c)) := own_low hoq (HDX5.out).size
          refine ⟨held_cons (.inl (by kernel_rfl)) (held_cons (.inl (by kernel_rfl)) (held_nil)), ?_⟩
          refine At.take 5 (some 26) (.tuple #[.agg #[.int .i64 y.f0, .int .i64 y.f1, .int .i64 y.f2, .int .i64 y.f3, .slice q y.f4.length c], .bool G]) rfl rfl (by kernel_rfl) (by kernel_rfl) (by kernel_rfl) (by kernel_rfl) (fun _ _ _ h => h) (yl_pure (by kernel_rfl) (fun _ => by kernel_rfl)) ?_
          refine At.take 6 (some 32) (.agg #[.int .i64 y.f0, .int .i64 y.f1, .int .i64 y.f2, .int .i64 y.f3, .slice q y.f4.length c]) rfl rfl (by kernel_rfl) (by kernel_rfl) (by kernel_rfl) (by kernel_rfl) (fun _ _ _ h => h) (yl_pure (by kernel_rfl) (fun _ => by kernel_rfl)) ?_
          refine At.take 7 (some 33) (.bool G) rfl rfl (by kernel_rfl) (by kernel_rfl) (by kernel_rfl) (by kernel_rfl) (fun _ _ _ h => h) (yl_pure (by kernel_rfl) (fun _ => by kernel_rfl)) ?_
          refine At.step 9 none rfl rfl (by kernel_rfl) (by kernel_rfl) (fun u W => u = undef ∧ W = X6.setCells (X2.heap.size) 0 [.int .i64 y.f0, .int .i64 y.f1, .int .i64 y.f2, .int .i64 y.f3, .slice q y.f4.length c]) (gives_storesY (b := X2.heap.size) (cs := [.int .i64 y.f0, .int .i64 y.f1, .int .i64 y.f2, .int .i64 y.f3, .slice q y.f4.length c]) (fun _ => by kernel_rfl) (by intro v hv; simp only [List.mem_cons, List.not_mem_nil, or_false] at hv; rcases hv with rfl | rfl | rfl | rfl | rfl <;> rfl) HZX6.out rfl) ?_
          rintro u XE ⟨rfl, hXE⟩
          refine ⟨held_cons (.inl (by kernel_rfl)) (held_cons (.inl (by kernel_rfl)) (held_nil)), ?_⟩
          have HE1 : Hid (XE.heap[X2.heap.size]? = some (.cells #[.int .i64 y.f0, .int .i64 y.f1, .int .i64 y.f2, .int .i64 y.f3, .slice q y.f4.length c] 26)) := by rw [hXE]; exact store5 (.int .i64 y.f0) (.int .i64 y.f1) (.int .i64 y.f2) (.int .i64 y.f3) (.slice q y.f4.length c) HZX6.out
          have HE2 : Hid (OwWal XE w2.heap.size y (.slice q y.f4.length c)) := by rw [hXE]; exact store5_ownY (.int .i64 y.f0) (.int .i64 y.f1) (.int .i64 y.f2) (.int .i64 y.f3) (.slice q y.f4.length c) HQX6.out HZX6.out
          have HE3 : Hid (Below w2.heap.size w2 XE) := by rw [hXE]; exact store5_bel (.int .i64 y.f0) (.int .i64 y.f1) (.int .i64 y.f2) (.int .i64 y.f3) (.slice q y.f4.length c) HDX6.out HBX.out
          refine At.take 10 (some 7) (.bool G) rfl rfl (by kernel_rfl) (by kernel_rfl) (by kernel_rfl) (by kernel_rfl) (fun _ _ _ h => h) (yl_pure (by kernel_rfl) (fun _ => by kernel_rfl)) ?_
          refine At.done (by kernel_rfl) ?_
          simp only [Act.put, List.setIfInBounds_toArray, List.set_cons_zero, List.set_cons_succ]
          go_wp2_with fail
          go_meet
          exact ⟨_, q, c, rfl, rfl, HBX, HE1, HE2, HE3⟩
      · rintro u X7 ⟨rfl, hXX7⟩
        have bX7 : Below X1.heap.size X1 X7 := by rw [hXX7]; exact (Below.refl _ _).alloc (Nat.le_refl _) _
        have HCX7 : Hid (Below W0.heap.size W0 X7) := (HCX1.out).trans (bX7.mono (HCX1.out).size)
        have HDX7 : Hid (Below w2.heap.size w2 X7) := (HDX1.out).trans (bX7.mono (HDX1.out).size)
        have HAX7 : Hid (RdWal X7 x (.slice pa x.f4.length ca)) := RdWal.keep HAX1.out bX7 (Nat.le_refl _)
        have HZX7 : Hid (X7.heap[X1.heap.size]? = some (.cells #[.int .i64 0, .int .i64 0, .int .i64 0, .int .i64 0, .slice none 0 0] 26)) := by rw [hXX7]; exact alloc_last _ _
        have HBX : Hid (w2.heap.size ≤ X1.heap.size) := (HDX1.out).size
        refine ⟨held_cons (.inl (by kernel_rfl)) (held_cons (.inr (cells5Y rfl (HBR.out _ HCX7.out))) (held_nil)), ?_⟩
        refine At.step 3 (some 30) rfl rfl (by kernel_rfl) (by kernel_rfl) (fun u W => u = .agg #[.int .i64 r.f0, .int .i64 r.f1, .int .i64 r.f2, .int .i64 r.f3, .string r.f4] ∧ Below X7.heap.size X7 W) (gives_call (by kernel_rfl) ((toRec_c r X7).mono fun e w' ⟨he, hb⟩ => ⟨_, he, rfl, hb⟩)) ?_
        rintro u X8 ⟨rfl, bX8⟩
        have HCX8 : Hid (Below W0.heap.size W0 X8) := (HCX7.out).trans (bX8.mono (HCX7.out).size)
        have HDX8 : Hid (Below w2.heap.size w2 X8) := (HDX7.out).trans (bX8.mono (HDX7.out).size)
        have HAX8 : Hid (RdWal X8 x (.slice pa x.f4.length ca)) := RdWal.keep HAX7.out bX8 (Nat.le_refl _)
        have HZX8 : Hid (X8.heap[X1.heap.size]? = some (.cells #[.int .i64 0, .int .i64 0, .int .i64 0, .int .i64 0, .slice none 0 0] 26)) := (bX8.block _ (lt_of_some HZX7.out)).trans HZX7.out
        refine ⟨held_cons (.inl (by kernel_rfl)) (held_cons (.inl (by kernel_rfl)) (held_nil)), ?_⟩
        refine At.step 4 (some 31) rfl rfl (by kernel_rfl) (by kernel_rfl) (fun u W => ∃ q c, u = .tuple #[.agg #[.int .i64 y.f0, .int .i64 y.f1, .int .i64 y.f2, .int .i64 y.f3, .slice q y.f4.length c], .bool G] ∧ OwWal W X8.heap.size y (.slice q y.f4.length c) ∧ Below X8.heap.size X8 W) (gives_call (by kernel_rfl) ((CS.out _ _ X8 (HAX8.out)).mono fun e w' ⟨q, c, he, ho, hb⟩ => ⟨_, he, q, c, rfl, ho, hb⟩)) ?_
        rintro u X9 ⟨q, c, rfl, hoq, bX9⟩
        have HCX9 : Hid (Below W0.heap.size W0 X9) := (HCX8.out).trans (bX9.mono (HCX8.out).size)
        have HDX9 : Hid (Below w2.heap.size w2 X9) := (HDX8.out).trans (bX9.mono (HDX8.out).size)
        have HAX9 : Hid (RdWal X9 x (.slice pa x.f4.length ca)) := RdWal.keep HAX8.out bX9 (Nat.le_refl _)
        have HZX9 : Hid (X9.heap[X1.heap.size]? = some (.cells #[.int .i64 0, .int .i64 0, .int .i64 0, .int .i64 0, .slice none 0 0] 26)) := (bX9.block _ (lt_of_some HZX8.out)).trans HZX8.out
        have HQX9 : Hid (OwWal X9 w2.heap.size y (.slice q y.f4.length c)) := own_low hoq (HDX8.out).size
        refine ⟨held_cons (.inl (by kernel_rfl)) (held_cons (.inl (by kernel_rfl)) (held_nil)), ?_⟩
        refine At.take 5 (some 26) (.tuple #[.agg #[.int .i64 y.f0, .int .i64 y.f1, .int .i64 y.f2, .int .i64 y.f3, .slice q y.f4.length c], .bool G]) rfl rfl (by kernel_rfl) (by kernel_rfl) (by kernel_rfl) (by kernel_rfl) (fun _ _ _ h => h) (yl_pure (by kernel_rfl) (fun _ => by kernel_rfl)) ?_
        refine At.take 6 (some 32) (.agg #[.int .i64 y.f0, .int .i64 y.f1, .int .i64 y.f2, .int .i64 y.f3, .slice q y.f4.length c]) rfl rfl (by kernel_rfl) (by kernel_rfl) (by kernel_rfl) (by kernel_rfl) (fun _ _ _ h => h) (yl_pure (by kernel_rfl) (fun _ => by kernel_rfl)) ?_
        refine At.take 7 (some 33) (.bool G) rfl rfl (by kernel_rfl) (by kernel_rfl) (by kernel_rfl) (by kernel_rfl) (fun _ _ _ h => h) (yl_pure (by kernel_rfl) (fun _ => by kernel_rfl)) ?_
        refine At.step 9 none rfl rfl (by kernel_rfl) (by kernel_rfl) (fun u W => u = undef ∧ W = X9.setCells (X1.heap.size) 0 [.int .i64 y.f0, .int .i64 y.f1, .int .i64 y.f2, .int .i64 y.f3, .slice q y.f4.length c]) (gives_storesY (b := X1.heap.size) (cs := [.int .i64 y.f0, .int .i64 y.f1, .int .i64 y.f2, .int .i64 y.f3, .slice q y.f4.length c]) (fun _ => by kernel_rfl) (by intro v hv; simp only [List.mem_cons, List.not_mem_nil, or_false] at hv; rcases hv with rfl | rfl | rfl | rfl | rfl <;> rfl) HZX9.out rfl) ?_
        rintro u XE ⟨rfl, hXE⟩
        refine ⟨held_cons (.inl (by kernel_rfl)) (held_cons (.inl (by kernel_rfl)) (held_nil)), ?_⟩
        have HE1 : Hid (XE.heap[X1.heap.size]? = some (.cells #[.int .i64 y.f0, .int .i64 y.f1, .int .i64 y.f2, .int .i64 y.f3, .slice q y.f4.length c] 26)) := by rw [hXE]; exact store5 (.int .i64 y.f0) (.int .i64 y.f1) (.int .i64 y.f2) (.int .i64 y.f3) (.slice q y.f4.length c) HZX9.out
        have HE2 : Hid (OwWal XE w2.heap.size y (.slice q y.f4.length c)) := by rw [hXE]; exact store5_ownY (.int .i64 y.f0) (.int .i64 y.f1) (.int .i64 y.f2) (.int .i64 y.f3) (.slice q y.f4.length c) HQX9.out HZX9.out
        have HE3 : Hid (Below w2.heap.size w2 XE) := by rw [hXE]; exact store5_bel (.int .i64 y.f0) (.int .i64 y.f1) (.int .i64 y.f2) (.int .i64 y.f3) (.slice q y.f4.length c) HDX9.out HBX.out
        refine At.take 10 (some 7) (.bool G) rfl rfl (by kernel_rfl) (by kernel_rfl) (by kernel_rfl) (by kernel_rfl) (fun _ _ _ h => h) (yl_pure (by kernel_rfl) (fun _ => by kernel_rfl)) ?_
        refine At.done (by kernel_rfl) ?_
        simp only [Act.put, List.setIfInBounds_toArray, List.set_cons_zero, List.set_cons_succ]
        go_wp2_with fail
        go_meet
        exact ⟨_, q, c, rfl, rfl, HBX, HE1, HE2, HE3⟩
    · rintro u X10 ⟨rfl, hXX10⟩
      have bX10 : Below w2.drew.heap.size w2.drew X10 := by rw [hXX10]; exact (Below.refl _ _).alloc (Nat.le_refl _) _
      have HCX10 : Hid (Below W0.heap.size W0 X10) := (HC2.out.drew).trans (bX10.mono (HC2.out.drew).size)
      have HDX10 : Hid (Below w2.heap.size w2 X10) := ((Below.refl w2.heap.size w2).drew).trans (bX10.mono ((Below.refl w2.heap.size w2).drew).size)
      have HZX10 : Hid (X10.heap[w2.drew.heap.size]? = some (.cells #[.int .i64 0, .int .i64 0, .int .i64 0, .int .i64 0, .slice none 0 0] 26)) := by rw [hXX10]; exact alloc_last _ _
      have HBX : Hid (w2.heap.size ≤ w2.drew.heap.size) := ((Below.refl w2.heap.size w2).drew).size
      refine ⟨held_cons (.inr (cells5Y rfl (HBA.out _ HCX10.out))) (held_cons (.inr (cells5Y rfl (HBR.out _ HCX10.out))) (held_nil)), ?_⟩
      refine At.step 1 (some 28) rfl rfl (by kernel_rfl) (by kernel_rfl) (fun u W => ∃ p c, u = .agg #[.int .i64 x.f0, .int .i64 x.f1, .int .i64 x.f2, .int .i64 x.f3, .slice p x.f4.length c] ∧ OwWal W X10.heap.size x (.slice p x.f4.length c) ∧ Below X10.heap.size X10 W) (gives_call (by kernel_rfl) ((toWalS_c x v4 X10 HLX.out (HRX.out _ HCX10.out)).mono fun e w' ⟨p, c, he, ho, hb⟩ => ⟨_, he, p, c, rfl, ho, hb⟩)) ?_
      rintro u X11 ⟨pa, ca, rfl, hoa, bX11⟩
      have HCX11 : Hid (Below W0.heap.size W0 X11) := (HCX10.out).trans (bX11.mono (HCX10.out).size)
      have HDX11 : Hid (Below w2.heap.size w2 X11) := (HDX10.out).trans (bX11.mono (HDX10.out).size)
      have HZX11 : Hid (X11.heap[w2.drew.heap.size]? = some (.cells #[.int .i64 0, .int .i64 0, .int .i64 0, .int .i64 0, .slice none 0 0] 26)) := (bX11.block _ (lt_of_some HZX10.out)).trans HZX10.out
      have HAX11 : Hid (RdWal X11 x (.slice pa x.f4.length ca)) := OwWal.rd hoa
      refine ⟨held_cons (.inl (by kernel_rfl)) (held_cons (.inr (cells5Y rfl (HBR.out _ HCX11.out))) (held_nil)), ?_⟩
      refine At.step 3 (some 30) rfl rfl (by kernel_rfl) (by kernel_rfl) (fun u W => u = .agg #[.int .i64 r.f0, .int .i64 r.f1, .int .i64 r.f2, .int .i64 r.f3, .string r.f4] ∧ Below X11.heap.size X11 W) (gives_call (by kernel_rfl) ((toRec_c r X11).mono fun e w' ⟨he, hb⟩ => ⟨_, he, rfl, hb⟩)) ?_
      rintro u X12 ⟨rfl, bX12⟩
      have HCX12 : Hid (Below W0.heap.size W0 X12) := (HCX11.out).trans (bX12.mono (HCX11.out).size)
      have HDX12 : Hid (Below w2.heap.size w2 X12) := (HDX11.out).trans (bX12.mono (HDX11.out).size)
      have HAX12 : Hid (RdWal X12 x (.slice pa x.f4.length ca)) := RdWal.keep HAX11.out bX12 (Nat.le_refl _)
      have HZX12 : Hid (X12.heap[w2.drew.heap.size]? = some (.cells #[.int .i64 0, .int .i64 0, .int .i64 0, .int .i64 0, .slice none 0 0] 26)) := (bX12.block _ (lt_of_some HZX11.out)).trans HZX11.out
      refine ⟨held_cons (.inl (by kernel_rfl)) (held_cons (.inl (by kernel_rfl)) (held_nil)), ?_⟩
      refine At.step 4 (some 31) rfl rfl (by kernel_rfl) (by kernel_rfl) (fun u W => ∃ q c, u = .tuple #[.agg #[.int .i64 y.f0, .int .i64 y.f1, .int .i64 y.f2, .int .i64 y.f3, .slice q y.f4.length c], .bool G] ∧ OwWal W X12.heap.size y (.slice q y.f4.length c) ∧ Below X12.heap.size X12 W) (gives_call (by kernel_rfl) ((CS.out _ _ X12 (HAX12.out)).mono fun e w' ⟨q, c, he, ho, hb⟩ => ⟨_, he, q, c, rfl, ho, hb⟩)) ?_
      rintro u X13 ⟨q, c, rfl, hoq, bX13⟩
      have HCX13 : Hid (Below W0.heap.size W0 X13) := (HCX12.out).trans (bX13.mono (HCX12.out).size)
      have HDX13 : Hid (Below w2.heap.size w2 X13) := (HDX12.out).trans (bX13.mono (HDX12.out).size)
      have HAX13 : Hid (RdWal X13 x (.slice pa x.f4.length ca)) := RdWal.keep HAX12.out bX13 (Nat.le_refl _)
      have HZX13 : Hid (X13.heap[w2.drew.heap.size]? = some (.cells #[.int .i64 0, .int .i64 0, .int .i64 0, .int .i64 0, .slice none 0 0] 26)) := (bX13.block _ (lt_of_some HZX12.out)).trans HZX12.out
      have HQX13 : Hid (OwWal X13 w2.heap.size y (.slice q y.f4.length c)) := own_low hoq (HDX12.out).size
      refine ⟨held_cons (.inl (by kernel_rfl)) (held_cons (.inl (by kernel_rfl)) (held_nil)), ?_⟩
      refine At.take 5 (some 26) (.tuple #[.agg #[.int .i64 y.f0, .int .i64 y.f1, .int .i64 y.f2, .int .i64 y.f3, .slice q y.f4.length c], .bool G]) rfl rfl (by kernel_rfl) (by kernel_rfl) (by kernel_rfl) (by kernel_rfl) (fun _ _ _ h => h) (yl_pure (by kernel_rfl) (fun _ => by kernel_rfl)) ?_
      refine At.take 6 (some 32) (.agg #[.int .i64 y.f0, .int .i64 y.f1, .int .i64 y.f2, .int .i64 y.f3, .slice q y.f4.length c]) rfl rfl (by kernel_rfl) (by kernel_rfl) (by kernel_rfl) (by kernel_rfl) (fun _ _ _ h => h) (yl_pure (by kernel_rfl) (fun _ => by kernel_rfl)) ?_
      refine At.take 7 (some 33) (.bool G) rfl rfl (by kernel_rfl) (by kernel_rfl) (by kernel_rfl) (by kernel_rfl) (fun _ _ _ h => h) (yl_pure (by kernel_rfl) (fun _ => by kernel_rfl)) ?_
      refine At.step 9 none rfl rfl (by kernel_rfl) (by kernel_rfl) (fun u W => u = undef ∧ W = X13.setCells (w2.drew.heap.size) 0 [.int .i64 y.f0, .int .i64 y.f1, .int .i64 y.f2, .int .i64 y.f3, .slice q y.f4.length c]) (gives_storesY (b := w2.drew.heap.size) (cs := [.int .i64 y.f0, .int .i64 y.f1, .int .i64 y.f2, .int .i64 y.f3, .slice q y.f4.length c]) (fun _ => by kernel_rfl) (by intro v hv; simp only [List.mem_cons, List.not_mem_nil, or_false] at hv; rcases hv with rfl | rfl | rfl | rfl | rfl <;> rfl) HZX13.out rfl) ?_
      rintro u XE ⟨rfl, hXE⟩
      refine ⟨held_cons (.inl (by kernel_rfl)) (held_cons (.inl (by kernel_rfl)) (held_nil)), ?_⟩
      have HE1 : Hid (XE.heap[w2.drew.heap.size]? = some (.cells #[.int .i64 y.f0, .int .i64 y.f1, .int .i64 y.f2, .int .i64 y.f3, .slice q y.f4.length c] 26)) := by rw [hXE]; exact store5 (.int .i64 y.f0) (.int .i64 y.f1) (.int .i64 y.f2) (.int .i64 y.f3) (.slice q y.f4.length c) HZX13.out
      have HE2 : Hid (OwWal XE w2.heap.size y (.slice q y.f4.length c)) := by rw [hXE]; exact store5_ownY (.int .i64 y.f0) (.int .i64 y.f1) (.int .i64 y.f2) (.int .i64 y.f3) (.slice q y.f4.length c) HQX13.out HZX13.out
      have HE3 : Hid (Below w2.heap.size w2 XE) := by rw [hXE]; exact store5_bel (.int .i64 y.f0) (.int .i64 y.f1) (.int .i64 y.f2) (.int .i64 y.f3) (.slice q y.f4.length c) HDX13.out HBX.out
      refine At.take 10 (some 7) (.bool G) rfl rfl (by kernel_rfl) (by kernel_rfl) (by kernel_rfl) (by kernel_rfl) (fun _ _ _ h => h) (yl_pure (by kernel_rfl) (fun _ => by kernel_rfl)) ?_
      refine At.done (by kernel_rfl) ?_
      simp only [Act.put, List.setIfInBounds_toArray, List.set_cons_zero, List.set_cons_succ]
      go_wp2_with fail
      go_meet
      exact ⟨_, q, c, rfl, rfl, HBX, HE1, HE2, HE3⟩
  case rest =>
    generalize wc = w3 at hcut ⊢
    obtain ⟨bS, qS, cS, rfl, rfl, _, HS3, HOS3, HB23⟩ := hcut
    have HC3 : Hid (Below W0.heap.size W0 w3) := HC2.out.trans (HB23.out.mono HC2.out.size)
    clear hneg2
    obtain ⟨d0, d1, d2, d3, d4⟩ := box5 (HBA.out _ HC3.out)
    go_wp2_with fail
    refine (toWalS_c x v4 w3 HLX.out (HRX.out _ HC3.out)).mono ?_
    rintro e w4 ⟨p8, c8, rfl, how, b4⟩
    obtain ⟨WX, hWX⟩ : ∃ W, W = w4.alloc (.cells #[.int .i64 x.f0, .int .i64 x.f1, .int .i64 x.f2, .int .i64 x.f3, .slice p8 x.f4.length c8] 26) := ⟨_, rfl⟩
    have HWX : Hid (w4.alloc (.cells #[.int .i64 x.f0, .int .i64 x.f1, .int .i64 x.f2, .int .i64 x.f3, .slice p8 x.f4.length c8] 26) = WX) := hWX.symm
    have HXX : Hid (WX.heap[w4.heap.size]? = some (.cells #[.int .i64 x.f0, .int .i64 x.f1, .int .i64 x.f2, .int .i64 x.f3, .slice p8 x.f4.length c8] 26)) := by rw [hWX]; exact alloc_last _ _
    have HVX : Hid (Below w3.heap.size w3 WX) := by rw [hWX]; exact b4.alloc b4.size _
    have HOXX : Hid (OwWal WX w3.heap.size x (.slice p8 x.f4.length c8)) := by rw [hWX]; exact (show w4.ownsRow _ _ _ _ _ _ from how).alloc _
    have HC5 : Hid (Below W0.heap.size W0 WX) := HC3.out.trans (HVX.out.mono HC3.out.size)
    have HNX : Hid (∀ k, (Value.slice p8 x.f4.length c8).ownBlock = some k → w3.heap.size ≤ k ∧ k < WX.heap.size) := fun k hk => HOXX.out.lt k hk
    clear hWX how b4 d0 d1 d2 d3 d4
    go_upto_region 10 with fail
    rw [HWX.out]
    go_cut [9, 10] from 36 to 42 (fun sA sB w5 => ∃ (bx : Nat) (q : Option Addr) (c : Nat), sA = .pointer (some ⟨bx, 0, none⟩) ∧ sB = .bool G ∧ Hid (WX.heap.size ≤ bx) ∧ Hid (w5.heap[bx]? = some (.cells #[.int .i64 y.f0, .int .i64 y.f1, .int .i64 y.f2, .int .i64 y.f3, .slice q y.f4.length c] 26)) ∧ Hid (OwWal w5 WX.heap.size y (.slice q y.f4.length c)) ∧ Hid (Below WX.heap.size WX w5))
    case first =>
      refine wp_region_L [⟨2, fun W => ∀ j u, ([.int .i64 r.f0, .int .i64 r.f1, .int .i64 r.f2, .int .i64 r.f3, .string r.f4] : List Value)[j]? = some u → W.cell? ((⟨w.heap.size + 1, 0, none⟩ : Addr).add j) = some u⟩, ⟨3, fun W => ∀ j u, ([.int .i64 x.f0, .int .i64 x.f1, .int .i64 x.f2, .int .i64 x.f3, .slice p8 x.f4.length c8] : List Value)[j]? = some u → W.cell? ((⟨w4.heap.size, 0, none⟩ : Addr).add j) = some u⟩] (by kernel_rfl) (fun f hf => by
          simp only [List.mem_cons, List.not_mem_nil, or_false] at hf
          rcases hf with rfl | rfl
          · exact cells5Y rfl (HBR.out _ HC5.out.drew)
          · exact cells5Y rfl (((Below.refl WX.heap.size WX).drew.block _ (lt_of_some HXX.out)).trans HXX.out)
          ) ?_
      refine At.take 1 (some 38) (.agg #[.int .i64 r.f0, .int .i64 r.f1, .int .i64 r.f2, .int .i64 r.f3, .string r.f4]) rfl rfl (by kernel_rfl) (by kernel_rfl) (by kernel_rfl) (by kernel_rfl) (fun _ _ _ h => h) (yl_loads 2 ⟨w.heap.size + 1, 0, none⟩ [.int .i64 r.f0, .int .i64 r.f1, .int .i64 r.f2, .int .i64 r.f3, .string r.f4] (List.mem_cons_self) [2] (by kernel_rfl) rfl (by kernel_rfl) (fun _ => by kernel_rfl)) ?_
      refine At.take 0 (some 37) (.agg #[.int .i64 x.f0, .int .i64 x.f1, .int .i64 x.f2, .int .i64 x.f3, .slice p8 x.f4.length c8]) rfl rfl (by kernel_rfl) (by kernel_rfl) (by kernel_rfl) (by kernel_rfl) (fun _ _ _ h => h) (yl_loads 3 ⟨w4.heap.size, 0, none⟩ [.int .i64 x.f0, .int .i64 x.f1, .int .i64 x.f2, .int .i64 x.f3, .slice p8 x.f4.length c8] (List.mem_cons_of_mem _ (List.mem_cons_self)) [3] (by kernel_rfl) rfl (by kernel_rfl) (fun _ => by kernel_rfl)) ?_
      refine At.two 2 7 (some 39) (some 9) rfl rfl rfl rfl (by kernel_rfl) (by kernel_rfl) (by kernel_rfl) (fun u W => u = .agg #[.int .i64 r.f0, .int .i64 r.f1, .int .i64 r.f2, .int .i64 r.f3, .string r.f4] ∧ Below WX.drew.heap.size WX.drew W) (fun u W => u = .pointer (some ⟨WX.drew.heap.size, 0, none⟩) ∧ W = WX.drew.alloc (.cells #[.int .i64 0, .int .i64 0, .int .i64 0, .int .i64 0, .slice none 0 0] 26)) (gives_call (by kernel_rfl) ((toRec_c r WX.drew).mono fun e w' ⟨he, hb⟩ => ⟨_, he, rfl, hb⟩)) (gives_run (by kernel_rfl)) ?_ ?_
      · rintro u X1 ⟨rfl, bX1⟩
        have HCX1 : Hid (Below W0.heap.size W0 X1) := (HC5.out.drew).trans (bX1.mono (HC5.out.drew).size)
        have HDX1 : Hid (Below WX.heap.size WX X1) := ((Below.refl WX.heap.size WX).drew).trans (bX1.mono ((Below.refl WX.heap.size WX).drew).size)
        refine ⟨held_cons (.inl (by kernel_rfl)) (held_cons (.inr (cells5Y rfl ((HDX1.out.block _ (lt_of_some HXX.out)).trans HXX.out))) (held_nil)), ?_⟩
        refine At.two 3 7 (some 40) (some 9) rfl rfl rfl rfl (by kernel_rfl) (by kernel_rfl) (by kernel_rfl) (fun u W => ∃ q c, u = .tuple #[.agg #[.int .i64 y.f0, .int .i64 y.f1, .int .i64 y.f2, .int .i64 y.f3, .slice q y.f4.length c], .bool G] ∧ OwWal W X1.heap.size y (.slice q y.f4.length c) ∧ Below X1.heap.size X1 W) (fun u W => u = .pointer (some ⟨X1.heap.size, 0, none⟩) ∧ W = X1.alloc (.cells #[.int .i64 0, .int .i64 0, .int .i64 0, .int .i64 0, .slice none 0 0] 26)) (gives_call (by kernel_rfl) ((CI.out _ _ X1 (RdWal.keep (OwWal.rd HOXX.out) (HDX1.out) (Nat.le_refl _))).mono fun e w' ⟨q, c, he, ho, hb⟩ => ⟨_, he, q, c, rfl, ho, hb⟩)) (gives_run (by kernel_rfl)) ?_ ?_
        · rintro u X2 ⟨q, c, rfl, hoq, bX2⟩
          have HCX2 : Hid (Below W0.heap.size W0 X2) := (HCX1.out).trans (bX2.mono (HCX1.out).size)
          have HDX2 : Hid (Below WX.heap.size WX X2) := (HDX1.out).trans (bX2.mono (HDX1.out).size)
          have HQX2 : Hid (OwWal X2 WX.heap.size y (.slice q y.f4.length c)) := own_low hoq (HDX1.out).size
          refine ⟨held_cons (.inl (by kernel_rfl)) (held_cons (.inl (by kernel_rfl)) (held_nil)), ?_⟩
          refine At.take 4 (some 36) (.tuple #[.agg #[.int .i64 y.f0, .int .i64 y.f1, .int .i64 y.f2, .int .i64 y.f3, .slice q y.f4.length c], .bool G]) rfl rfl (by kernel_rfl) (by kernel_rfl) (by kernel_rfl) (by kernel_rfl) (fun _ _ _ h => h) (yl_pure (by kernel_rfl) (fun _ => by kernel_rfl)) ?_
          refine At.take 5 (some 41) (.agg #[.int .i64 y.f0, .int .i64 y.f1, .int .i64 y.f2, .int .i64 y.f3, .slice q y.f4.length c]) rfl rfl (by kernel_rfl) (by kernel_rfl) (by kernel_rfl) (by kernel_rfl) (fun _ _ _ h => h) (yl_pure (by kernel_rfl) (fun _ => by kernel_rfl)) ?_
          refine At.take 6 (some 42) (.bool G) rfl rfl (by kernel_rfl) (by kernel_rfl) (by kernel_rfl) (by kernel_rfl) (fun _ _ _ h => h) (yl_pure (by kernel_rfl) (fun _ => by kernel_rfl)) ?_
          refine At.step 7 (some 9) rfl rfl (by kernel_rfl) (by kernel_rfl) (fun u W => u = .pointer (some ⟨X2.heap.size, 0, none⟩) ∧ W = X2.alloc (.cells #[.int .i64 0, .int .i64 0, .int .i64 0, .int .i64 0, .slice none 0 0] 26)) (gives_run (by kernel_rfl)) ?_
          rintro u X3 ⟨rfl, hXX3⟩
          have bX3 : Below X2.heap.size X2 X3 := by rw [hXX3]; exact (Below.refl _ _).alloc (Nat.le_refl _) _
          have HCX3 : Hid (Below W0.heap.size W0 X3) := (HCX2.out).trans (bX3.mono (HCX2.out).size)
          have HDX3 : Hid (Below WX.heap.size WX X3) := (HDX2.out).trans (bX3.mono (HDX2.out).size)
          have HQX3 : Hid (OwWal X3 WX.heap.size y (.slice q y.f4.length c)) := OwWal.keep HQX2.out bX3 (Nat.le_refl _)
          have HZX3 : Hid (X3.heap[X2.heap.size]? = some (.cells #[.int .i64 0, .int .i64 0, .int .i64 0, .int .i64 0, .slice none 0 0] 26)) := by rw [hXX3]; exact alloc_last _ _
          have HBX : Hid (WX.heap.size ≤ X2.heap.size) := (HDX2.out).size
          refine ⟨held_cons (.inl (by kernel_rfl)) (held_cons (.inl (by kernel_rfl)) (held_nil)), ?_⟩
          refine At.step 8 none rfl rfl (by kernel_rfl) (by kernel_rfl) (fun u W => u = undef ∧ W = X3.setCells (X2.heap.size) 0 [.int .i64 y.f0, .int .i64 y.f1, .int .i64 y.f2, .int .i64 y.f3, .slice q y.f4.length c]) (gives_storesY (b := X2.heap.size) (cs := [.int .i64 y.f0, .int .i64 y.f1, .int .i64 y.f2, .int .i64 y.f3, .slice q y.f4.length c]) (fun _ => by kernel_rfl) (by intro v hv; simp only [List.mem_cons, List.not_mem_nil, or_false] at hv; rcases hv with rfl | rfl | rfl | rfl | rfl <;> rfl) HZX3.out rfl) ?_
          rintro u XE ⟨rfl, hXE⟩
          refine ⟨held_cons (.inl (by kernel_rfl)) (held_cons (.inl (by kernel_rfl)) (held_nil)), ?_⟩
          have HE1 : Hid (XE.heap[X2.heap.size]? = some (.cells #[.int .i64 y.f0, .int .i64 y.f1, .int .i64 y.f2, .int .i64 y.f3, .slice q y.f4.length c] 26)) := by rw [hXE]; exact store5 (.int .i64 y.f0) (.int .i64 y.f1) (.int .i64 y.f2) (.int .i64 y.f3) (.slice q y.f4.length c) HZX3.out
          have HE2 : Hid (OwWal XE WX.heap.size y (.slice q y.f4.length c)) := by rw [hXE]; exact store5_ownY (.int .i64 y.f0) (.int .i64 y.f1) (.int .i64 y.f2) (.int .i64 y.f3) (.slice q y.f4.length c) HQX3.out HZX3.out
          have HE3 : Hid (Below WX.heap.size WX XE) := by rw [hXE]; exact store5_bel (.int .i64 y.f0) (.int .i64 y.f1) (.int .i64 y.f2) (.int .i64 y.f3) (.slice q y.f4.length c) HDX3.out HBX.out
          refine At.take 9 (some 10) (.bool G) rfl rfl (by kernel_rfl) (by kernel_rfl) (by kernel_rfl) (by kernel_rfl) (fun _ _ _ h => h) (yl_pure (by kernel_rfl) (fun _ => by kernel_rfl)) ?_
          refine At.done (by kernel_rfl) ?_
          simp only [Act.put, List.setIfInBounds_toArray, List.set_cons_zero, List.set_cons_succ]
          go_wp2_with fail
          go_meet
          exact ⟨_, q, c, rfl, rfl, HBX, HE1, HE2, HE3⟩
        · rintro u X4 ⟨rfl, hXX4⟩
          have bX4 : Below X1.heap.size X1 X4 := by rw [hXX4]; exact (Below.refl _ _).alloc (Nat.le_refl _) _
          have HCX4 : Hid (Below W0.heap.size W0 X4) := (HCX1.out).trans (bX4.mono (HCX1.out).size)
          have HDX4 : Hid (Below WX.heap.size WX X4) := (HDX1.out).trans (bX4.mono (HDX1.out).size)
          have HZX4 : Hid (X4.heap[X1.heap.size]? = some (.cells #[.int .i64 0, .int .i64 0, .int .i64 0, .int .i64 0, .slice none 0 0] 26)) := by rw [hXX4]; exact alloc_last _ _
          have HBX : Hid (WX.heap.size ≤ X1.heap.size) := (HDX1.out).size
          refine ⟨held_cons (.inl (by kernel_rfl)) (held_cons (.inr (cells5Y rfl ((HDX4.out.block _ (lt_of_some HXX.out)).trans HXX.out))) (held_nil)), ?_⟩
          refine At.step 3 (some 40) rfl rfl (by kernel_rfl) (by kernel_rfl) (fun u W => ∃ q c, u = .tuple #[.agg #[.int .i64 y.f0, .int .i64 y.f1, .int .i64 y.f2, .int .i64 y.f3, .slice q y.f4.length c], .bool G] ∧ OwWal W X4.heap.size y (.slice q y.f4.length c) ∧ Below X4.heap.size X4 W) (gives_call (by kernel_rfl) ((CI.out _ _ X4 (RdWal.keep (OwWal.rd HOXX.out) (HDX4.out) (Nat.le_refl _))).mono fun e w' ⟨q, c, he, ho, hb⟩ => ⟨_, he, q, c, rfl, ho, hb⟩)) ?_
          rintro u X5 ⟨q, c, rfl, hoq, bX5⟩
          have HCX5 : Hid (Below W0.heap.size W0 X5) := (HCX4.out).trans (bX5.mono (HCX4.out).size)
          have HDX5 : Hid (Below WX.heap.size WX X5) := (HDX4.out).trans (bX5.mono (HDX4.out).size)
          have HZX5 : Hid (X5.heap[X1.heap.size]? = some (.cells #[.int .i64 0, .int .i64 0, .int .i64 0, .int .i64 0, .slice none 0 0] 26)) := (bX5.block _ (lt_of_some HZX4.out)).trans HZX4.out
          have HQX5 : Hid (OwWal X5 WX.heap.size y (.slice q y.f4.length c)) := own_low hoq (HDX4.out).size
          refine ⟨held_cons (.inl (by kernel_rfl)) (held_cons (.inl (by kernel_rfl)) (held_nil)), ?_⟩
          refine At.take 4 (some 36) (.tuple #[.agg #[.int .i64 y.f0, .int .i64 y.f1, .int .i64 y.f2, .int .i64 y.f3, .slice q y.f4.length c], .bool G]) rfl rfl (by kernel_rfl) (by kernel_rfl) (by kernel_rfl) (by kernel_rfl) (fun _ _ _ h => h) (yl_pure (by kernel_rfl) (fun _ => by kernel_rfl)) ?_
          refine At.take 5 (some 41) (.agg #[.int .i64 y.f0, .int .i64 y.f1, .int .i64 y.f2, .int .i64 y.f3, .slice q y.f4.length c]) rfl rfl (by kernel_rfl) (by kernel_rfl) (by kernel_rfl) (by kernel_rfl) (fun _ _ _ h => h) (yl_pure (by kernel_rfl) (fun _ => by kernel_rfl)) ?_
          refine At.take 6 (some 42) (.bool G) rfl rfl (by kernel_rfl) (by kernel_rfl) (by kernel_rfl) (by kernel_rfl) (fun _ _ _ h => h) (yl_pure (by kernel_rfl) (fun _ => by kernel_rfl)) ?_
          refine At.step 8 none rfl rfl (by kernel_rfl) (by kernel_rfl) (fun u W => u = undef ∧ W = X5.setCells (X1.heap.size) 0 [.int .i64 y.f0, .int .i64 y.f1, .int .i64 y.f2, .int .i64 y.f3, .slice q y.f4.length c]) (gives_storesY (b := X1.heap.size) (cs := [.int .i64 y.f0, .int .i64 y.f1, .int .i64 y.f2, .int .i64 y.f3, .slice q y.f4.length c]) (fun _ => by kernel_rfl) (by intro v hv; simp only [List.mem_cons, List.not_mem_nil, or_false] at hv; rcases hv with rfl | rfl | rfl | rfl | rfl <;> rfl) HZX5.out rfl) ?_
          rintro u XE ⟨rfl, hXE⟩
          refine ⟨held_cons (.inl (by kernel_rfl)) (held_cons (.inl (by kernel_rfl)) (held_nil)), ?_⟩
          have HE1 : Hid (XE.heap[X1.heap.size]? = some (.cells #[.int .i64 y.f0, .int .i64 y.f1, .int .i64 y.f2, .int .i64 y.f3, .slice q y.f4.length c] 26)) := by rw [hXE]; exact store5 (.int .i64 y.f0) (.int .i64 y.f1) (.int .i64 y.f2) (.int .i64 y.f3) (.slice q y.f4.length c) HZX5.out
          have HE2 : Hid (OwWal XE WX.heap.size y (.slice q y.f4.length c)) := by rw [hXE]; exact store5_ownY (.int .i64 y.f0) (.int .i64 y.f1) (.int .i64 y.f2) (.int .i64 y.f3) (.slice q y.f4.length c) HQX5.out HZX5.out
          have HE3 : Hid (Below WX.heap.size WX XE) := by rw [hXE]; exact store5_bel (.int .i64 y.f0) (.int .i64 y.f1) (.int .i64 y.f2) (.int .i64 y.f3) (.slice q y.f4.length c) HDX5.out HBX.out
          refine At.take 9 (some 10) (.bool G) rfl rfl (by kernel_rfl) (by kernel_rfl) (by kernel_rfl) (by kernel_rfl) (fun _ _ _ h => h) (yl_pure (by kernel_rfl) (fun _ => by kernel_rfl)) ?_
          refine At.done (by kernel_rfl) ?_
          simp only [Act.put, List.setIfInBounds_toArray, List.set_cons_zero, List.set_cons_succ]
          go_wp2_with fail
          go_meet
          exact ⟨_, q, c, rfl, rfl, HBX, HE1, HE2, HE3⟩
      · rintro u X6 ⟨rfl, hXX6⟩
        have bX6 : Below WX.drew.heap.size WX.drew X6 := by rw [hXX6]; exact (Below.refl _ _).alloc (Nat.le_refl _) _
        have HCX6 : Hid (Below W0.heap.size W0 X6) := (HC5.out.drew).trans (bX6.mono (HC5.out.drew).size)
        have HDX6 : Hid (Below WX.heap.size WX X6) := ((Below.refl WX.heap.size WX).drew).trans (bX6.mono ((Below.refl WX.heap.size WX).drew).size)
        have HZX6 : Hid (X6.heap[WX.drew.heap.size]? = some (.cells #[.int .i64 0, .int .i64 0, .int .i64 0, .int .i64 0, .slice none 0 0] 26)) := by rw [hXX6]; exact alloc_last _ _
        have HBX : Hid (WX.heap.size ≤ WX.drew.heap.size) := ((Below.refl WX.heap.size WX).drew).size
        refine ⟨held_cons (.inr (cells5Y rfl (HBR.out _ HCX6.out))) (held_cons (.inr (cells5Y rfl ((HDX6.out.block _ (lt_of_some HXX.out)).trans HXX.out))) (held_nil)), ?_⟩
        refine At.step 2 (some 39) rfl rfl (by kernel_rfl) (by kernel_rfl) (fun u W => u = .agg #[.int .i64 r.f0, .int .i64 r.f1, .int .i64 r.f2, .int .i64 r.f3, .string r.f4] ∧ Below X6.heap.size X6 W) (gives_call (by kernel_rfl) ((toRec_c r X6).mono fun e w' ⟨he, hb⟩ => ⟨_, he, rfl, hb⟩)) ?_
        rintro u X7 ⟨rfl, bX7⟩
        have HCX7 : Hid (Below W0.heap.size W0 X7) := (HCX6.out).trans (bX7.mono (HCX6.out).size)
        have HDX7 : Hid (Below WX.heap.size WX X7) := (HDX6.out).trans (bX7.mono (HDX6.out).size)
        have HZX7 : Hid (X7.heap[WX.drew.heap.size]? = some (.cells #[.int .i64 0, .int .i64 0, .int .i64 0, .int .i64 0, .slice none 0 0] 26)) := (bX7.block _ (lt_of_some HZX6.out)).trans HZX6.out
        refine ⟨held_cons (.inl (by kernel_rfl)) (held_cons (.inr (cells5Y rfl ((HDX7.out.block _ (lt_of_some HXX.out)).trans HXX.out))) (held_nil)), ?_⟩
        refine At.step 3 (some 40) rfl rfl (by kernel_rfl) (by kernel_rfl) (fun u W => ∃ q c, u = .tuple #[.agg #[.int .i64 y.f0, .int .i64 y.f1, .int .i64 y.f2, .int .i64 y.f3, .slice q y.f4.length c], .bool G] ∧ OwWal W X7.heap.size y (.slice q y.f4.length c) ∧ Below X7.heap.size X7 W) (gives_call (by kernel_rfl) ((CI.out _ _ X7 (RdWal.keep (OwWal.rd HOXX.out) (HDX7.out) (Nat.le_refl _))).mono fun e w' ⟨q, c, he, ho, hb⟩ => ⟨_, he, q, c, rfl, ho, hb⟩)) ?_
        rintro u X8 ⟨q, c, rfl, hoq, bX8⟩
        have HCX8 : Hid (Below W0.heap.size W0 X8) := (HCX7.out).trans (bX8.mono (HCX7.out).size)
        have HDX8 : Hid (Below WX.heap.size WX X8) := (HDX7.out).trans (bX8.mono (HDX7.out).size)
        have HZX8 : Hid (X8.heap[WX.drew.heap.size]? = some (.cells #[.int .i64 0, .int .i64 0, .int .i64 0, .int .i64 0, .slice none 0 0] 26)) := (bX8.block _ (lt_of_some HZX7.out)).trans HZX7.out
        have HQX8 : Hid (OwWal X8 WX.heap.size y (.slice q y.f4.length c)) := own_low hoq (HDX7.out).size
        refine ⟨held_cons (.inl (by kernel_rfl)) (held_cons (.inl (by kernel_rfl)) (held_nil)), ?_⟩
        refine At.take 4 (some 36) (.tuple #[.agg #[.int .i64 y.f0, .int .i64 y.f1, .int .i64 y.f2, .int .i64 y.f3, .slice q y.f4.length c], .bool G]) rfl rfl (by kernel_rfl) (by kernel_rfl) (by kernel_rfl) (by kernel_rfl) (fun _ _ _ h => h) (yl_pure (by kernel_rfl) (fun _ => by kernel_rfl)) ?_
        refine At.take 5 (some 41) (.agg #[.int .i64 y.f0, .int .i64 y.f1, .int .i64 y.f2, .int .i64 y.f3, .slice q y.f4.length c]) rfl rfl (by kernel_rfl) (by kernel_rfl) (by kernel_rfl) (by kernel_rfl) (fun _ _ _ h => h) (yl_pure (by kernel_rfl) (fun _ => by kernel_rfl)) ?_
        refine At.take 6 (some 42) (.bool G) rfl rfl (by kernel_rfl) (by kernel_rfl) (by kernel_rfl) (by kernel_rfl) (fun _ _ _ h => h) (yl_pure (by kernel_rfl) (fun _ => by kernel_rfl)) ?_
        refine At.step 8 none rfl rfl (by kernel_rfl) (by kernel_rfl) (fun u W => u = undef ∧ W = X8.setCells (WX.drew.heap.size) 0 [.int .i64 y.f0, .int .i64 y.f1, .int .i64 y.f2, .int .i64 y.f3, .slice q y.f4.length c]) (gives_storesY (b := WX.drew.heap.size) (cs := [.int .i64 y.f0, .int .i64 y.f1, .int .i64 y.f2, .int .i64 y.f3, .slice q y.f4.length c]) (fun _ => by kernel_rfl) (by intro v hv; simp only [List.mem_cons, List.not_mem_nil, or_false] at hv; rcases hv with rfl | rfl | rfl | rfl | rfl <;> rfl) HZX8.out rfl) ?_
        rintro u XE ⟨rfl, hXE⟩
        refine ⟨held_cons (.inl (by kernel_rfl)) (held_cons (.inl (by kernel_rfl)) (held_nil)), ?_⟩
        have HE1 : Hid (XE.heap[WX.drew.heap.size]? = some (.cells #[.int .i64 y.f0, .int .i64 y.f1, .int .i64 y.f2, .int .i64 y.f3, .slice q y.f4.length c] 26)) := by rw [hXE]; exact store5 (.int .i64 y.f0) (.int .i64 y.f1) (.int .i64 y.f2) (.int .i64 y.f3) (.slice q y.f4.length c) HZX8.out
        have HE2 : Hid (OwWal XE WX.heap.size y (.slice q y.f4.length c)) := by rw [hXE]; exact store5_ownY (.int .i64 y.f0) (.int .i64 y.f1) (.int .i64 y.f2) (.int .i64 y.f3) (.slice q y.f4.length c) HQX8.out HZX8.out
        have HE3 : Hid (Below WX.heap.size WX XE) := by rw [hXE]; exact store5_bel (.int .i64 y.f0) (.int .i64 y.f1) (.int .i64 y.f2) (.int .i64 y.f3) (.slice q y.f4.length c) HDX8.out HBX.out
        refine At.take 9 (some 10) (.bool G) rfl rfl (by kernel_rfl) (by kernel_rfl) (by kernel_rfl) (by kernel_rfl) (fun _ _ _ h => h) (yl_pure (by kernel_rfl) (fun _ => by kernel_rfl)) ?_
        refine At.done (by kernel_rfl) ?_
        simp only [Act.put, List.setIfInBounds_toArray, List.set_cons_zero, List.set_cons_succ]
        go_wp2_with fail
        go_meet
        exact ⟨_, q, c, rfl, rfl, HBX, HE1, HE2, HE3⟩
    case rest =>
      generalize wc = w5 at hcut ⊢
      obtain ⟨bG, qG, cG, rfl, rfl, HGB, HG5, HOG5, HBG⟩ := hcut
      have HV5 : Hid (Below w3.heap.size w3 w5) := HVX.out.trans (HBG.out.mono HVX.out.size)
      have HSZ5 : Hid (WX.heap.size ≤ w5.heap.size) := HBG.out.size
      have HX5 : Hid (w5.heap[w4.heap.size]? = some (.cells #[.int .i64 x.f0, .int .i64 x.f1, .int .i64 x.f2, .int .i64 x.f3, .slice p8 x.f4.length c8] 26)) := (HBG.out.block _ (lt_of_some HXX.out)).trans HXX.out
      have HOX5 : Hid (OwWal w5 w3.heap.size x (.slice p8 x.f4.length c8)) := OwWal.keep HOXX.out HBG.out (Nat.le_refl _)
      obtain ⟨g0, g1, g2, g3, g4⟩ := box5 HG5.out
      obtain ⟨s0, s1, s2, s3, s4⟩ := box5 ((HV5.out.block _ (lt_of_some HS3.out)).trans HS3.out)
      go_wp2_with fail
      refine (eqWal_c y (.slice qG y.f4.length cG) (.slice qS y.f4.length cS) w5 HLY.out (OwWal.rd HOG5.out) (RdWal.keep (OwWal.rd HOS3.out) HV5.out (Nat.le_refl _))).mono ?_
      rintro e w6 ⟨rfl, b⟩
      have HV6 : Hid (Below w3.heap.size w3 w6) := HV5.out.trans (b.mono HV5.out.size)
      have HX6 : Hid (w6.heap[w4.heap.size]? = some (.cells #[.int .i64 x.f0, .int .i64 x.f1, .int .i64 x.f2, .int .i64 x.f3, .slice p8 x.f4.length c8] 26)) := (b.block _ (lt_of_some HX5.out)).trans HX5.out
      have HOX6 : Hid (OwWal w6 w3.heap.size x (.slice p8 x.f4.length c8)) := OwWal.keep HOX5.out b (Nat.le_refl _)
      have HG6 : Hid (w6.heap[bG]? = some (.cells #[.int .i64 y.f0, .int .i64 y.f1, .int .i64 y.f2, .int .i64 y.f3, .slice qG y.f4.length cG] 26)) := (b.block _ (lt_of_some HG5.out)).trans HG5.out
      have HOG6 : Hid (OwWal w6 WX.heap.size y (.slice qG y.f4.length cG)) := OwWal.keep HOG5.out b (Nat.le_refl _)
      clear b
      clear g0 g1 g2 g3 g4 s0 s1 s2 s3 s4
      go_upto_region 13 with fail
      refine wp_region_L [⟨3, fun W => ∀ j u, ([.int .i64 x.f0, .int .i64 x.f1, .int .i64 x.f2, .int .i64 x.f3, .slice p8 x.f4.length c8] : List Value)[j]? = some u → W.cell? ((⟨w4.heap.size, 0, none⟩ : Addr).add j) = some u⟩, ⟨2, fun W => ∀ j u, ([.int .i64 x.f0, .int .i64 x.f1, .int .i64 x.f2, .int .i64 x.f3, v4] : List Value)[j]? = some u → W.cell? ((⟨w.heap.size, 0, none⟩ : Addr).add j) = some u⟩] (by kernel_rfl) (fun f hf => by
          simp only [List.mem_cons, List.not_mem_nil, or_false] at hf
          rcases hf with rfl | rfl
          · exact cells5Y (w := w6.drew) rfl HX6.out
          · exact cells5Y (w := w6.drew) rfl (HBA.out _ (Below.drew (HC3.out.trans (HV6.out.mono HC3.out.size))))) ?_
      refine At.take 0 (some 52) (.agg #[.int .i64 x.f0, .int .i64 x.f1, .int .i64 x.f2, .int .i64 x.f3, .slice p8 x.f4.length c8]) rfl rfl (by kernel_rfl) (by kernel_rfl) (by kernel_rfl) (by kernel_rfl) (fun _ _ _ h => h) (yl_loads 3 ⟨w4.heap.size, 0, none⟩ [.int .i64 x.f0, .int .i64 x.f1, .int .i64 x.f2, .int .i64 x.f3, .slice p8 x.f4.length c8] (List.mem_cons_self) [3] (by kernel_rfl) rfl (by kernel_rfl) (fun _ => by kernel_rfl)) ?_
      refine At.take 1 (some 53) (.agg #[.int .i64 x.f0, .int .i64 x.f1, .int .i64 x.f2, .int .i64 x.f3, v4]) rfl rfl (by kernel_rfl) (by kernel_rfl) (by kernel_rfl) (by kernel_rfl) (fun _ _ _ h => h) (yl_loads 2 ⟨w.heap.size, 0, none⟩ [.int .i64 x.f0, .int .i64 x.f1, .int .i64 x.f2, .int .i64 x.f3, v4] (List.mem_cons_of_mem _ (List.mem_cons_self)) [2] (by kernel_rfl) rfl (by kernel_rfl) (fun _ => by kernel_rfl)) ?_
      refine At.step 2 (some 54) rfl rfl (by kernel_rfl) (by kernel_rfl) (fun u W => ∃ p c, u = .agg #[.int .i64 x.f0, .int .i64 x.f1, .int .i64 x.f2, .int .i64 x.f3, .slice p x.f4.length c] ∧ OwWal W w6.drew.heap.size x (.slice p x.f4.length c) ∧ Below w6.drew.heap.size w6.drew W) (gives_call (by kernel_rfl) ((toWalS_c x v4 w6.drew HLX.out (HRX.out _ (Below.drew (HC3.out.trans (HV6.out.mono HC3.out.size))))).mono fun e w' ⟨p, c, he, ho, hb⟩ => ⟨_, he, p, c, rfl, ho, hb⟩)) ?_
      rintro u Z1 ⟨p, c, rfl, ho, b1⟩
      replace b1 := bel_undrewC b1
      have hbx : Hid (Z1.heap[w4.heap.size]? = some (.cells #[.int .i64 x.f0, .int .i64 x.f1, .int .i64 x.f2, .int .i64 x.f3, .slice p8 x.f4.length c8] 26)) := (b1.block _ (lt_of_some HX6.out)).trans HX6.out
      refine ⟨held_cons (.inr (cells5Y rfl hbx.out)) (held_cons (.inl (by kernel_rfl)) (held_nil)), ?_⟩
      refine At.step 3 (some 55) rfl rfl (by kernel_rfl) (by kernel_rfl) (fun u W => u = .bool true ∧ Below Z1.heap.size Z1 W) (gives_call (by kernel_rfl) ((eqWal_c x (.slice p8 x.f4.length c8) (.slice p x.f4.length c) Z1 HLX.out (OwWal.rd (OwWal.keep HOX6.out b1 (Nat.le_refl _))) (OwWal.rd ho)).mono fun e w' ⟨he, hb⟩ => ⟨_, he, rfl, hb⟩)) ?_
      rintro u w7 ⟨rfl, b2⟩
      have b3 : Below w6.heap.size w6 w7 := b1.trans (b2.mono b1.size)
      refine ⟨held_cons (.inl (by kernel_rfl)) (held_cons (.inl (by kernel_rfl)) (held_nil)), ?_⟩
      refine At.take 4 (some 56) (.bool false) rfl rfl (by kernel_rfl) (by kernel_rfl) (by kernel_rfl) (by kernel_rfl) (fun _ _ _ h => h) (yl_pure (by kernel_rfl) (fun _ => by kernel_rfl)) ?_
      refine At.done (by kernel_rfl) ?_
      simp only [Act.put, List.setIfInBounds_toArray, List.set_cons_zero, List.set_cons_succ]
      have HV7 : Hid (Below w3.heap.size w3 w7) := HV6.out.trans (b3.mono HV6.out.size)
      have HX7 : Hid (w7.heap[w4.heap.size]? = some (.cells #[.int .i64 x.f0, .int .i64 x.f1, .int .i64 x.f2, .int .i64 x.f3, .slice p8 x.f4.length c8] 26)) := (b3.block _ (lt_of_some HX6.out)).trans HX6.out
      have HOX7 : Hid (OwWal w7 w3.heap.size x (.slice p8 x.f4.length c8)) := OwWal.keep HOX6.out b3 (Nat.le_refl _)
      have HG7 : Hid (w7.heap[bG]? = some (.cells #[.int .i64 y.f0, .int .i64 y.f1, .int .i64 y.f2, .int .i64 y.f3, .slice qG y.f4.length cG] 26)) := (b3.block _ (lt_of_some HG6.out)).trans HG6.out
      have HOG7 : Hid (OwWal w7 WX.heap.size y (.slice qG y.f4.length cG)) := OwWal.keep HOG6.out b3 (Nat.le_refl _)
      clear ho b1 b2 b3 hbx
      obtain ⟨d0, d1, d2, d3, d4⟩ := box5 HX7.out
      go_wp2_with fail
      refine (markWal_c x 1 (.slice p8 x.f4.length c8) w3.heap.size w7 HLX.out (by decide) (by decide) HV7.out.size HOX7.out).mono ?_
      rintro e w8 ⟨rfl, _, hbut⟩
      have HB8 : Hid (Below w3.heap.size w7 w8) := hbut.below (fun u hu k hk => by rw [List.mem_singleton.1 hu] at hk; exact (HNX.out k hk).1) HV7.out.size
      have HV8 : Hid (Below w3.heap.size w3 w8) := HV7.out.trans HB8.out
      have HG8 : Hid (w8.heap[bG]? = some (.cells #[.int .i64 y.f0, .int .i64 y.f1, .int .i64 y.f2, .int .i64 y.f3, .slice qG y.f4.length cG] 26)) := (hbut.block _ (lt_of_some HG7.out) (fun u hu hk => by rw [List.mem_singleton.1 hu] at hk; have := (HNX.out _ hk).2; have := HGB.out; omega)).trans HG7.out
      have HOG8 : Hid (OwWal w8 WX.heap.size y (.slice qG y.f4.length cG)) := hbut.own HOG7.out (fun u hu k hk => by rw [List.mem_singleton.1 hu] at hk; exact (HNX.out k hk).2)
      obtain ⟨K, hK⟩ : ∃ K : Int, 1 + ((x.f4.length * 2 : Nat) : Int) = K := ⟨_, rfl⟩
      have HKK : Hid (1 + ((x.f4.length * 2 : Nat) : Int) = K) := hK
      have hK0 : ¬ K < 0 := by omega
      rw [HKK.out]
      clear hbut hK
      clear d0 d1 d2 d3 d4
      obtain ⟨g0, g1, g2, g3, g4⟩ := box5 HG8.out
      obtain ⟨s0, s1, s2, s3, s4⟩ := box5 ((HV8.out.block _ (lt_of_some HS3.out)).trans HS3.out)
      go_wp2_with fail
      refine (eqWal_c y (.slice qG y.f4.length cG) (.slice qS y.f4.length cS) w8 HLY.out (OwWal.rd HOG8.out) (RdWal.keep (OwWal.rd HOS3.out) HV8.out (Nat.le_refl _))).mono ?_
      rintro e w9 ⟨rfl, b⟩
      have HV9 : Hid (Below w3.heap.size w3 w9) := HV8.out.trans (b.mono HV8.out.size)
      have HG9 : Hid (w9.heap[bG]? = some (.cells #[.int .i64 y.f0, .int .i64 y.f1, .int .i64 y.f2, .int .i64 y.f3, .slice qG y.f4.length cG] 26)) := (b.block _ (lt_of_some HG8.out)).trans HG8.out
      have HOG9 : Hid (OwWal w9 WX.heap.size y (.slice qG y.f4.length cG)) := OwWal.keep HOG8.out b (Nat.le_refl _)
      clear b
      clear g0 g1 g2 g3 g4 s0 s1 s2 s3 s4
      obtain ⟨g0, g1, g2, g3, g4⟩ := box5 HG9.out
      go_wp2_with fail
      refine (markWal_c y 1 (.slice qG y.f4.length cG) WX.heap.size w9 HLY.out (by decide) (by decide) (by have h1 := HOG9.out.2; have := lt_of_some HG9.out; have := HGB.out; omega) HOG9.out).mono ?_
      rintro e w10 ⟨rfl, hmo, hbut⟩
      have HM10 : Hid (MoWal w10 WX.heap.size y 1 (.slice qG y.f4.length cG)) := hmo
      have HG10 : Hid (w10.heap[bG]? = some (.cells #[.int .i64 y.f0, .int .i64 y.f1, .int .i64 y.f2, .int .i64 y.f3, .slice qG y.f4.length cG] 26)) := (hbut.block _ (lt_of_some HG9.out) (fun u hu hk => by rw [List.mem_singleton.1 hu] at hk; exact own_ne HOG9.out HG9.out _ hk rfl)).trans HG9.out
      have HV10 : Hid (Below w3.heap.size w3 w10) := HV9.out.trans (hbut.below (fun u hu k hk => by rw [List.mem_singleton.1 hu] at hk; exact Nat.le_trans HVX.out.size (HOG9.out.lt k hk).1) HV9.out.size)
      obtain ⟨K2, hK2⟩ : ∃ K2 : Int, 1 + ((y.f4.length * 2 : Nat) : Int) = K2 := ⟨_, rfl⟩
      have HKK2 : Hid (1 + ((y.f4.length * 2 : Nat) : Int) = K2) := hK2
      have hK20 : ¬ K2 < 0 := by omega
      rw [HKK2.out]
      clear hmo hbut hK2
      clear g0 g1 g2 g3 g4
      obtain ⟨g0, g1, g2, g3, g4⟩ := box5 HG10.out
      go_wp2_with fail
      refine (heldWal_c y 1 (.slice qG y.f4.length cG) w10 HLY.out (by decide) (by decide) (MoWal.rd HM10.out)).mono ?_
      rintro e w11 ⟨rfl, b⟩
      rw [HKK2.out]
      have HV11 : Hid (Below w3.heap.size w3 w11) := HV10.out.trans (b.mono HV10.out.size)
      have HG11 : Hid (w11.heap[bG]? = some (.cells #[.int .i64 y.f0, .int .i64 y.f1, .int .i64 y.f2, .int .i64 y.f3, .slice qG y.f4.length cG] 26)) := (b.block _ (lt_of_some HG10.out)).trans HG10.out
      have HM11 : Hid (MoWal w11 WX.heap.size y 1 (.slice qG y.f4.length cG)) := MoWal.keep HM10.out b (Nat.le_refl _)
      have HC11 : Hid (Below W0.heap.size W0 w11) := (HC3.out.trans (HV11.out.mono HC3.out.size))
      clear b
      clear g0 g1 g2 g3 g4
      go_upto_region 27 with fail
      go_cut [14, 15] from 84 to 91 (fun sA sB w12 => ∃ (bx : Nat) (q : Option Addr) (c : Nat), sA = .pointer (some ⟨bx, 0, none⟩) ∧ sB = .bool G ∧ Hid (w11.heap.size ≤ bx) ∧ Hid (w12.heap[bx]? = some (.cells #[.int .i64 y.f0, .int .i64 y.f1, .int .i64 y.f2, .int .i64 y.f3, .slice q y.f4.length c] 26)) ∧ Hid (OwWal w12 w11.heap.size y (.slice q y.f4.length c)) ∧ Hid (Below w11.heap.size w11 w12))
      case first =>
        refine wp_region_L [⟨1, fun W => ∀ j u, ([.int .i64 x.f0, .int .i64 x.f1, .int .i64 x.f2, .int .i64 x.f3, v4] : List Value)[j]? = some u → W.cell? ((⟨w.heap.size, 0, none⟩ : Addr).add j) = some u⟩, ⟨3, fun W => ∀ j u, ([.int .i64 r.f0, .int .i64 r.f1, .int .i64 r.f2, .int .i64 r.f3, .string r.f4] : List Value)[j]? = some u → W.cell? ((⟨w.heap.size + 1, 0, none⟩ : Addr).add j) = some u⟩] (by kernel_rfl) (fun f hf => by
            simp only [List.mem_cons, List.not_mem_nil, or_false] at hf
            rcases hf with rfl | rfl
            · exact cells5Y rfl (HBA.out _ HC11.out.drew)
            · exact cells5Y rfl (HBR.out _ HC11.out.drew)
            ) ?_
        refine At.take 0 (some 85) (.agg #[.int .i64 x.f0, .int .i64 x.f1, .int .i64 x.f2, .int .i64 x.f3, v4]) rfl rfl (by kernel_rfl) (by kernel_rfl) (by kernel_rfl) (by kernel_rfl) (fun _ _ _ h => h) (yl_loads 1 ⟨w.heap.size, 0, none⟩ [.int .i64 x.f0, .int .i64 x.f1, .int .i64 x.f2, .int .i64 x.f3, v4] (List.mem_cons_self) [1] (by kernel_rfl) rfl (by kernel_rfl) (fun _ => by kernel_rfl)) ?_
        refine At.take 2 (some 87) (.agg #[.int .i64 r.f0, .int .i64 r.f1, .int .i64 r.f2, .int .i64 r.f3, .string r.f4]) rfl rfl (by kernel_rfl) (by kernel_rfl) (by kernel_rfl) (by kernel_rfl) (fun _ _ _ h => h) (yl_loads 3 ⟨w.heap.size + 1, 0, none⟩ [.int .i64 r.f0, .int .i64 r.f1, .int .i64 r.f2, .int .i64 r.f3, .string r.f4] (List.mem_cons_of_mem _ (List.mem_cons_self)) [3] (by kernel_rfl) rfl (by kernel_rfl) (fun _ => by kernel_rfl)) ?_
        refine At.two 1 8 (some 86) (some 14) rfl rfl rfl rfl (by kernel_rfl) (by kernel_rfl) (by kernel_rfl) (fun u W => ∃ p c, u = .agg #[.int .i64 x.f0, .int .i64 x.f1, .int .i64 x.f2, .int .i64 x.f3, .slice p x.f4.length c] ∧ OwWal W w11.drew.heap.size x (.slice p x.f4.length c) ∧ Below w11.drew.heap.size w11.drew W) (fun u W => u = .pointer (some ⟨w11.drew.heap.size, 0, none⟩) ∧ W = w11.drew.alloc (.cells #[.int .i64 0, .int .i64 0, .int .i64 0, .int .i64 0, .slice none 0 0] 26)) (gives_call (by kernel_rfl) ((toWalS_c x v4 w11.drew HLX.out (HRX.out _ HC11.out.drew)).mono fun e w' ⟨p, c, he, ho, hb⟩ => ⟨_, he, p, c, rfl, ho, hb⟩)) (gives_run (by kernel_rfl)) ?_ ?_
        · rintro u X1 ⟨pa, ca, rfl, hoa, bX1⟩
          have HCX1 : Hid (Below W0.heap.size W0 X1) := (HC11.out.drew).trans (bX1.mono (HC11.out.drew).size)
          have HDX1 : Hid (Below w11.heap.size w11 X1) := ((Below.refl w11.heap.size w11).drew).trans (bX1.mono ((Below.refl w11.heap.size w11).drew).size)
          have HAX1 : Hid (RdWal X1 x (.slice pa x.f4.length ca)) := OwWal.rd hoa
          refine ⟨held_cons (.inl (by kernel_rfl)) (held_cons (.inr (cells5Y rfl (HBR.out _ HCX1.out))) (held_nil)), ?_⟩
          refine At.two 3 8 (some 88) (some 14) rfl rfl rfl rfl (by kernel_rfl) (by kernel_rfl) (by kernel_rfl) (fun u W => u = .agg #[.int .i64 r.f0, .int .i64 r.f1, .int .i64 r.f2, .int .i64 r.f3, .string r.f4] ∧ Below X1.heap.size X1 W) (fun u W => u = .pointer (some ⟨X1.heap.size, 0, none⟩) ∧ W = X1.alloc (.cells #[.int .i64 0, .int .i64 0, .int .i64 0, .int .i64 0, .slice none 0 0] 26)) (gives_call (by kernel_rfl) ((toRec_c r X1).mono fun e w' ⟨he, hb⟩ => ⟨_, he, rfl, hb⟩)) (gives_run (by kernel_rfl)) ?_ ?_
          · rintro u X2 ⟨rfl, bX2⟩
            have HCX2 : Hid (Below W0.heap.size W0 X2) := (HCX1.out).trans (bX2.mono (HCX1.out).size)
            have HDX2 : Hid (Below w11.heap.size w11 X2) := (HDX1.out).trans (bX2.mono (HDX1.out).size)
            have HAX2 : Hid (RdWal X2 x (.slice pa x.f4.length ca)) := RdWal.keep HAX1.out bX2 (Nat.le_refl _)
            refine ⟨held_cons (.inl (by kernel_rfl)) (held_cons (.inl (by kernel_rfl)) (held_nil)), ?_⟩
            refine At.two 4 8 (some 89) (some 14) rfl rfl rfl rfl (by kernel_rfl) (by kernel_rfl) (by kernel_rfl) (fun u W => ∃ q c, u = .tuple #[.agg #[.int .i64 y.f0, .int .i64 y.f1, .int .i64 y.f2, .int .i64 y.f3, .slice q y.f4.length c], .bool G] ∧ OwWal W X2.heap.size y (.slice q y.f4.length c) ∧ Below X2.heap.size X2 W) (fun u W => u = .pointer (some ⟨X2.heap.size, 0, none⟩) ∧ W = X2.alloc (.cells #[.int .i64 0, .int .i64 0, .int .i64 0, .int .i64 0, .slice none 0 0] 26)) (gives_call (by kernel_rfl) ((CI.out _ _ X2 (HAX2.out)).mono fun e w' ⟨q, c, he, ho, hb⟩ => ⟨_, he, q, c, rfl, ho, hb⟩)) (gives_run (by kernel_rfl)) ?_ ?_
            · rintro u X3 ⟨q, c, rfl, hoq, bX3⟩
              have HCX3 : Hid (Below W0.heap.size W0 X3) := (HCX2.out).trans (bX3.mono (HCX2.out).size)
              have HDX3 : Hid (Below w11.heap.size w11 X3) := (HDX2.out).trans (bX3.mono (HDX2.out).size)
              have HAX3 : Hid (RdWal X3 x (.slice pa x.f4.length ca)) := RdWal.keep HAX2.out bX3 (Nat.le_refl _)
              have HQX3 : Hid (OwWal X3 w11.heap.size y (.slice q y.f4.length c)) := own_low hoq (HDX2.out).size
              refine ⟨held_cons (.inl (by kernel_rfl)) (held_cons (.inl (by kernel_rfl)) (held_nil)), ?_⟩
              refine At.take 5 (some 84) (.tuple #[.agg #[.int .i64 y.f0, .int .i64 y.f1, .int .i64 y.f2, .int .i64 y.f3, .slice q y.f4.length c], .bool G]) rfl rfl (by kernel_rfl) (by kernel_rfl) (by kernel_rfl) (by kernel_rfl) (fun _ _ _ h => h) (yl_pure (by kernel_rfl) (fun _ => by kernel_rfl)) ?_
              refine At.take 6 (some 90) (.agg #[.int .i64 y.f0, .int .i64 y.f1, .int .i64 y.f2, .int .i64 y.f3, .slice q y.f4.length c]) rfl rfl (by kernel_rfl) (by kernel_rfl) (by kernel_rfl) (by kernel_rfl) (fun _ _ _ h => h) (yl_pure (by kernel_rfl) (fun _ => by kernel_rfl)) ?_
              refine At.take 7 (some 91) (.bool G) rfl rfl (by kernel_rfl) (by kernel_rfl) (by kernel_rfl) (by kernel_rfl) (fun _ _ _ h => h) (yl_pure (by kernel_rfl) (fun _ => by kernel_rfl)) ?_
              refine At.step 8 (some 14) rfl rfl (by kernel_rfl) (by kernel_rfl) (fun u W => u = .pointer (some ⟨X3.heap.size, 0, none⟩) ∧ W = X3.alloc (.cells #[.int .i64 0, .int .i64 0, .int .i64 0, .int .i64 0, .slice none 0 0] 26)) (gives_run (by kernel_rfl)) ?_
              rintro u X4 ⟨rfl, hXX4⟩
              have bX4 : Below X3.heap.size X3 X4 := by rw [hXX4]; exact (Below.refl _ _).alloc (Nat.le_refl _) _
              have HCX4 : Hid (Below W0.heap.size W0 X4) := (HCX3.out).trans (bX4.mono (HCX3.out).size)
              have HDX4 : Hid (Below w11.heap.size w11 X4) := (HDX3.out).trans (bX4.mono (HDX3.out).size)
              have HAX4 : Hid (RdWal X4 x (.slice pa x.f4.length ca)) := RdWal.keep HAX3.out bX4 (Nat.le_refl _)
              have HQX4 : Hid (OwWal X4 w11.heap.size y (.slice q y.f4.length c)) := OwWal.keep HQX3.out bX4 (Nat.le_refl _)
              have HZX4 : Hid (X4.heap[X3.heap.size]? = some (.cells #[.int .i64 0, .int .i64 0, .int .i64 0, .int .i64 0, .slice none 0 0] 26)) := by rw [hXX4]; exact alloc_last _ _
              have HBX : Hid (w11.heap.size ≤ X3.heap.size) := (HDX3.out).size
              refine ⟨held_cons (.inl (by kernel_rfl)) (held_cons (.inl (by kernel_rfl)) (held_nil)), ?_⟩
              refine At.step 9 none rfl rfl (by kernel_rfl) (by kernel_rfl) (fun u W => u = undef ∧ W = X4.setCells (X3.heap.size) 0 [.int .i64 y.f0, .int .i64 y.f1, .int .i64 y.f2, .int .i64 y.f3, .slice q y.f4.length c]) (gives_storesY (b := X3.heap.size) (cs := [.int .i64 y.f0, .int .i64 y.f1, .int .i64 y.f2, .int .i64 y.f3, .slice q y.f4.length c]) (fun _ => by kernel_rfl) (by intro v hv; simp only [List.mem_cons, List.not_mem_nil, or_false] at hv; rcases hv with rfl | rfl | rfl | rfl | rfl <;> rfl) HZX4.out rfl) ?_
              rintro u XE ⟨rfl, hXE⟩
              refine ⟨held_cons (.inl (by kernel_rfl)) (held_cons (.inl (by kernel_rfl)) (held_nil)), ?_⟩
              have HE1 : Hid (XE.heap[X3.heap.size]? = some (.cells #[.int .i64 y.f0, .int .i64 y.f1, .int .i64 y.f2, .int .i64 y.f3, .slice q y.f4.length c] 26)) := by rw [hXE]; exact store5 (.int .i64 y.f0) (.int .i64 y.f1) (.int .i64 y.f2) (.int .i64 y.f3) (.slice q y.f4.length c) HZX4.out
              have HE2 : Hid (OwWal XE w11.heap.size y (.slice q y.f4.length c)) := by rw [hXE]; exact store5_ownY (.int .i64 y.f0) (.int .i64 y.f1) (.int .i64 y.f2) (.int .i64 y.f3) (.slice q y.f4.length c) HQX4.out HZX4.out
              have HE3 : Hid (Below w11.heap.size w11 XE) := by rw [hXE]; exact store5_bel (.int .i64 y.f0) (.int .i64 y.f1) (.int .i64 y.f2) (.int .i64 y.f3) (.slice q y.f4.length c) HDX4.out HBX.out
              refine At.take 10 (some 15) (.bool G) rfl rfl (by kernel_rfl) (by kernel_rfl) (by kernel_rfl) (by kernel_rfl) (fun _ _ _ h => h) (yl_pure (by kernel_rfl) (fun _ => by kernel_rfl)) ?_
              refine At.done (by kernel_rfl) ?_
              simp only [Act.put, List.setIfInBounds_toArray, List.set_cons_zero, List.set_cons_succ]
              go_wp2_with fail
              go_meet
              exact ⟨_, q, c, rfl, rfl, HBX, HE1, HE2, HE3⟩
            · rintro u X5 ⟨rfl, hXX5⟩
              have bX5 : Below X2.heap.size X2 X5 := by rw [hXX5]; exact (Below.refl _ _).alloc (Nat.le_refl _) _
              have HCX5 : Hid (Below W0.heap.size W0 X5) := (HCX2.out).trans (bX5.mono (HCX2.out).size)
              have HDX5 : Hid (Below w11.heap.size w11 X5) := (HDX2.out).trans (bX5.mono (HDX2.out).size)
              have HAX5 : Hid (RdWal X5 x (.slice pa x.f4.length ca)) := RdWal.keep HAX2.out bX5 (Nat.le_refl _)
              have HZX5 : Hid (X5.heap[X2.heap.size]? = some (.cells #[.int .i64 0, .int .i64 0, .int .i64 0, .int .i64 0, .slice none 0 0] 26)) := by rw [hXX5]; exact alloc_last _ _
              have HBX : Hid (w11.heap.size ≤ X2.heap.size) := (HDX2.out).size
              refine ⟨held_cons (.inl (by kernel_rfl)) (held_cons (.inl (by kernel_rfl)) (held_nil)), ?_⟩
              refine At.step 4 (some 89) rfl rfl (by kernel_rfl) (by kernel_rfl) (fun u W => ∃ q c, u = .tuple #[.agg #[.int .i64 y.f0, .int .i64 y.f1, .int .i64 y.f2, .int .i64 y.f3, .slice q y.f4.length c], .bool G] ∧ OwWal W X5.heap.size y (.slice q y.f4.length c) ∧ Below X5.heap.size X5 W) (gives_call (by kernel_rfl) ((CI.out _ _ X5 (HAX5.out)).mono fun e w' ⟨q, c, he, ho, hb⟩ => ⟨_, he, q, c, rfl, ho, hb⟩)) ?_
              rintro u X6 ⟨q, c, rfl, hoq, bX6⟩
              have HCX6 : Hid (Below W0.heap.size W0 X6) := (HCX5.out).trans (bX6.mono (HCX5.out).size)
              have HDX6 : Hid (Below w11.heap.size w11 X6) := (HDX5.out).trans (bX6.mono (HDX5.out).size)
              have HAX6 : Hid (RdWal X6 x (.slice pa x.f4.length ca)) := RdWal.keep HAX5.out bX6 (Nat.le_refl _)
              have HZX6 : Hid (X6.heap[X2.heap.size]? = some (.cells #[.int .i64 0, .int .i64 0, .int .i64 0, .int .i64 0, .slice none 0 0] 26)) := (bX6.block _ (lt_of_some HZX5.out)).trans HZX5.out
              have HQX6 : Hid (OwWal X6 w11.heap.size y (.slice q y.f4.length c)) := own_low hoq (HDX5.out).size
              refine ⟨held_cons (.inl (by kernel_rfl)) (held_cons (.inl (by kernel_rfl)) (held_nil)), ?_⟩
              refine At.take 5 (some 84) (.tuple #[.agg #[.int .i64 y.f0, .int .i64 y.f1, .int .i64 y.f2, .int .i64 y.f3, .slice q y.f4.length c], .bool G]) rfl rfl (by kernel_rfl) (by kernel_rfl) (by kernel_rfl) (by kernel_rfl) (fun _ _ _ h => h) (yl_pure (by kernel_rfl) (fun _ => by kernel_rfl)) ?_
              refine At.take 6 (some 90) (.agg #[.int .i64 y.f0, .int .i64 y.f1, .int .i64 y.f2, .int .i64 y.f3, .slice q y.f4.length c]) rfl rfl (by kernel_rfl) (by kernel_rfl) (by kernel_rfl) (by kernel_rfl) (fun _ _ _ h => h) (yl_pure (by kernel_rfl) (fun _ => by kernel_rfl)) ?_
              refine At.take 7 (some 91) (.bool G) rfl rfl (by kernel_rfl) (by kernel_rfl) (by kernel_rfl) (by kernel_rfl) (fun _ _ _ h => h) (yl_pure (by kernel_rfl) (fun _ => by kernel_rfl)) ?_
              refine At.step 9 none rfl rfl (by kernel_rfl) (by kernel_rfl) (fun u W => u = undef ∧ W = X6.setCells (X2.heap.size) 0 [.int .i64 y.f0, .int .i64 y.f1, .int .i64 y.f2, .int .i64 y.f3, .slice q y.f4.length c]) (gives_storesY (b := X2.heap.size) (cs := [.int .i64 y.f0, .int .i64 y.f1, .int .i64 y.f2, .int .i64 y.f3, .slice q y.f4.length c]) (fun _ => by kernel_rfl) (by intro v hv; simp only [List.mem_cons, List.not_mem_nil, or_false] at hv; rcases hv with rfl | rfl | rfl | rfl | rfl <;> rfl) HZX6.out rfl) ?_
              rintro u XE ⟨rfl, hXE⟩
              refine ⟨held_cons (.inl (by kernel_rfl)) (held_cons (.inl (by kernel_rfl)) (held_nil)), ?_⟩
              have HE1 : Hid (XE.heap[X2.heap.size]? = some (.cells #[.int .i64 y.f0, .int .i64 y.f1, .int .i64 y.f2, .int .i64 y.f3, .slice q y.f4.length c] 26)) := by rw [hXE]; exact store5 (.int .i64 y.f0) (.int .i64 y.f1) (.int .i64 y.f2) (.int .i64 y.f3) (.slice q y.f4.length c) HZX6.out
              have HE2 : Hid (OwWal XE w11.heap.size y (.slice q y.f4.length c)) := by rw [hXE]; exact store5_ownY (.int .i64 y.f0) (.int .i64 y.f1) (.int .i64 y.f2) (.int .i64 y.f3) (.slice q y.f4.length c) HQX6.out HZX6.out
              have HE3 : Hid (Below w11.heap.size w11 XE) := by rw [hXE]; exact store5_bel (.int .i64 y.f0) (.int .i64 y.f1) (.int .i64 y.f2) (.int .i64 y.f3) (.slice q y.f4.length c) HDX6.out HBX.out
              refine At.take 10 (some 15) (.bool G) rfl rfl (by kernel_rfl) (by kernel_rfl) (by kernel_rfl) (by kernel_rfl) (fun _ _ _ h => h) (yl_pure (by kernel_rfl) (fun _ => by kernel_rfl)) ?_
              refine At.done (by kernel_rfl) ?_
              simp only [Act.put, List.setIfInBounds_toArray, List.set_cons_zero, List.set_cons_succ]
              go_wp2_with fail
              go_meet
              exact ⟨_, q, c, rfl, rfl, HBX, HE1, HE2, HE3⟩
          · rintro u X7 ⟨rfl, hXX7⟩
            have bX7 : Below X1.heap.size X1 X7 := by rw [hXX7]; exact (Below.refl _ _).alloc (Nat.le_refl _) _
            have HCX7 : Hid (Below W0.heap.size W0 X7) := (HCX1.out).trans (bX7.mono (HCX1.out).size)
            have HDX7 : Hid (Below w11.heap.size w11 X7) := (HDX1.out).trans (bX7.mono (HDX1.out).size)
            have HAX7 : Hid (RdWal X7 x (.slice pa x.f4.length ca)) := RdWal.keep HAX1.out bX7 (Nat.le_refl _)
            have HZX7 : Hid (X7.heap[X1.heap.size]? = some (.cells #[.int .i64 0, .int .i64 0, .int .i64 0, .int .i64 0, .slice none 0 0] 26)) := by rw [hXX7]; exact alloc_last _ _
            have HBX : Hid (w11.heap.size ≤ X1.heap.size) := (HDX1.out).size
            refine ⟨held_cons (.inl (by kernel_rfl)) (held_cons (.inr (cells5Y rfl (HBR.out _ HCX7.out))) (held_nil)), ?_⟩
            refine At.step 3 (some 88) rfl rfl (by kernel_rfl) (by kernel_rfl) (fun u W => u = .agg #[.int .i64 r.f0, .int .i64 r.f1, .int .i64 r.f2, .int .i64 r.f3, .string r.f4] ∧ Below X7.heap.size X7 W) (gives_call (by kernel_rfl) ((toRec_c r X7).mono fun e w' ⟨he, hb⟩ => ⟨_, he, rfl, hb⟩)) ?_
            rintro u X8 ⟨rfl, bX8⟩
            have HCX8 : Hid (Below W0.heap.size W0 X8) := (HCX7.out).trans (bX8.mono (HCX7.out).size)
            have HDX8 : Hid (Below w11.heap.size w11 X8) := (HDX7.out).trans (bX8.mono (HDX7.out).size)
            have HAX8 : Hid (RdWal X8 x (.slice pa x.f4.length ca)) := RdWal.keep HAX7.out bX8 (Nat.le_refl _)
            have HZX8 : Hid (X8.heap[X1.heap.size]? = some (.cells #[.int .i64 0, .int .i64 0, .int .i64 0, .int .i64 0, .slice none 0 0] 26)) := (bX8.block _ (lt_of_some HZX7.out)).trans HZX7.out
            refine ⟨held_cons (.inl (by kernel_rfl)) (held_cons (.inl (by kernel_rfl)) (held_nil)), ?_⟩
            refine At.step 4 (some 89) rfl rfl (by kernel_rfl) (by kernel_rfl) (fun u W => ∃ q c, u = .tuple #[.agg #[.int .i64 y.f0, .int .i64 y.f1, .int .i64 y.f2, .int .i64 y.f3, .slice q y.f4.length c], .bool G] ∧ OwWal W X8.heap.size y (.slice q y.f4.length c) ∧ Below X8.heap.size X8 W) (gives_call (by kernel_rfl) ((CI.out _ _ X8 (HAX8.out)).mono fun e w' ⟨q, c, he, ho, hb⟩ => ⟨_, he, q, c, rfl, ho, hb⟩)) ?_
            rintro u X9 ⟨q, c, rfl, hoq, bX9⟩
            have HCX9 : Hid (Below W0.heap.size W0 X9) := (HCX8.out).trans (bX9.mono (HCX8.out).size)
            have HDX9 : Hid (Below w11.heap.size w11 X9) := (HDX8.out).trans (bX9.mono (HDX8.out).size)
            have HAX9 : Hid (RdWal X9 x (.slice pa x.f4.length ca)) := RdWal.keep HAX8.out bX9 (Nat.le_refl _)
            have HZX9 : Hid (X9.heap[X1.heap.size]? = some (.cells #[.int .i64 0, .int .i64 0, .int .i64 0, .int .i64 0, .slice none 0 0] 26)) := (bX9.block _ (lt_of_some HZX8.out)).trans HZX8.out
            have HQX9 : Hid (OwWal X9 w11.heap.size y (.slice q y.f4.length c)) := own_low hoq (HDX8.out).size
            refine ⟨held_cons (.inl (by kernel_rfl)) (held_cons (.inl (by kernel_rfl)) (held_nil)), ?_⟩
            refine At.take 5 (some 84) (.tuple #[.agg #[.int .i64 y.f0, .int .i64 y.f1, .int .i64 y.f2, .int .i64 y.f3, .slice q y.f4.length c], .bool G]) rfl rfl (by kernel_rfl) (by kernel_rfl) (by kernel_rfl) (by kernel_rfl) (fun _ _ _ h => h) (yl_pure (by kernel_rfl) (fun _ => by kernel_rfl)) ?_
            refine At.take 6 (some 90) (.agg #[.int .i64 y.f0, .int .i64 y.f1, .int .i64 y.f2, .int .i64 y.f3, .slice q y.f4.length c]) rfl rfl (by kernel_rfl) (by kernel_rfl) (by kernel_rfl) (by kernel_rfl) (fun _ _ _ h => h) (yl_pure (by kernel_rfl) (fun _ => by kernel_rfl)) ?_
            refine At.take 7 (some 91) (.bool G) rfl rfl (by kernel_rfl) (by kernel_rfl) (by kernel_rfl) (by kernel_rfl) (fun _ _ _ h => h) (yl_pure (by kernel_rfl) (fun _ => by kernel_rfl)) ?_
            refine At.step 9 none rfl rfl (by kernel_rfl) (by kernel_rfl) (fun u W => u = undef ∧ W = X9.setCells (X1.heap.size) 0 [.int .i64 y.f0, .int .i64 y.f1, .int .i64 y.f2, .int .i64 y.f3, .slice q y.f4.length c]) (gives_storesY (b := X1.heap.size) (cs := [.int .i64 y.f0, .int .i64 y.f1, .int .i64 y.f2, .int .i64 y.f3, .slice q y.f4.length c]) (fun _ => by kernel_rfl) (by intro v hv; simp only [List.mem_cons, List.not_mem_nil, or_false] at hv; rcases hv with rfl | rfl | rfl | rfl | rfl <;> rfl) HZX9.out rfl) ?_
            rintro u XE ⟨rfl, hXE⟩
            refine ⟨held_cons (.inl (by kernel_rfl)) (held_cons (.inl (by kernel_rfl)) (held_nil)), ?_⟩
            have HE1 : Hid (XE.heap[X1.heap.size]? = some (.cells #[.int .i64 y.f0, .int .i64 y.f1, .int .i64 y.f2, .int .i64 y.f3, .slice q y.f4.length c] 26)) := by rw [hXE]; exact store5 (.int .i64 y.f0) (.int .i64 y.f1) (.int .i64 y.f2) (.int .i64 y.f3) (.slice q y.f4.length c) HZX9.out
            have HE2 : Hid (OwWal XE w11.heap.size y (.slice q y.f4.length c)) := by rw [hXE]; exact store5_ownY (.int .i64 y.f0) (.int .i64 y.f1) (.int .i64 y.f2) (.int .i64 y.f3) (.slice q y.f4.length c) HQX9.out HZX9.out
            have HE3 : Hid (Below w11.heap.size w11 XE) := by rw [hXE]; exact store5_bel (.int .i64 y.f0) (.int .i64 y.f1) (.int .i64 y.f2) (.int .i64 y.f3) (.slice q y.f4.length c) HDX9.out HBX.out
            refine At.take 10 (some 15) (.bool G) rfl rfl (by kernel_rfl) (by kernel_rfl) (by kernel_rfl) (by kernel_rfl) (fun _ _ _ h => h) (yl_pure (by kernel_rfl) (fun _ => by kernel_rfl)) ?_
            refine At.done (by kernel_rfl) ?_
            simp only [Act.put, List.setIfInBounds_toArray, List.set_cons_zero, List.set_cons_succ]
            go_wp2_with fail
            go_meet
            exact ⟨_, q, c, rfl, rfl, HBX, HE1, HE2, HE3⟩
        · rintro u X10 ⟨rfl, hXX10⟩
          have bX10 : Below w11.drew.heap.size w11.drew X10 := by rw [hXX10]; exact (Below.refl _ _).alloc (Nat.le_refl _) _
          have HCX10 : Hid (Below W0.heap.size W0 X10) := (HC11.out.drew).trans (bX10.mono (HC11.out.drew).size)
          have HDX10 : Hid (Below w11.heap.size w11 X10) := ((Below.refl w11.heap.size w11).drew).trans (bX10.mono ((Below.refl w11.heap.size w11).drew).size)
          have HZX10 : Hid (X10.heap[w11.drew.heap.size]? = some (.cells #[.int .i64 0, .int .i64 0, .int .i64 0, .int .i64 0, .slice none 0 0] 26)) := by rw [hXX10]; exact alloc_last _ _
          have HBX : Hid (w11.heap.size ≤ w11.drew.heap.size) := ((Below.refl w11.heap.size w11).drew).size
          refine ⟨held_cons (.inr (cells5Y rfl (HBA.out _ HCX10.out))) (held_cons (.inr (cells5Y rfl (HBR.out _ HCX10.out))) (held_nil)), ?_⟩
          refine At.step 1 (some 86) rfl rfl (by kernel_rfl) (by kernel_rfl) (fun u W => ∃ p c, u = .agg #[.int .i64 x.f0, .int .i64 x.f1, .int .i64 x.f2, .int .i64 x.f3, .slice p x.f4.length c] ∧ OwWal W X10.heap.size x (.slice p x.f4.length c) ∧ Below X10.heap.size X10 W) (gives_call (by kernel_rfl) ((toWalS_c x v4 X10 HLX.out (HRX.out _ HCX10.out)).mono fun e w' ⟨p, c, he, ho, hb⟩ => ⟨_, he, p, c, rfl, ho, hb⟩)) ?_
          rintro u X11 ⟨pa, ca, rfl, hoa, bX11⟩
          have HCX11 : Hid (Below W0.heap.size W0 X11) := (HCX10.out).trans (bX11.mono (HCX10.out).size)
          have HDX11 : Hid (Below w11.heap.size w11 X11) := (HDX10.out).trans (bX11.mono (HDX10.out).size)
          have HZX11 : Hid (X11.heap[w11.drew.heap.size]? = some (.cells #[.int .i64 0, .int .i64 0, .int .i64 0, .int .i64 0, .slice none 0 0] 26)) := (bX11.block _ (lt_of_some HZX10.out)).trans HZX10.out
          have HAX11 : Hid (RdWal X11 x (.slice pa x.f4.length ca)) := OwWal.rd hoa
          refine ⟨held_cons (.inl (by kernel_rfl)) (held_cons (.inr (cells5Y rfl (HBR.out _ HCX11.out))) (held_nil)), ?_⟩
          refine At.step 3 (some 88) rfl rfl (by kernel_rfl) (by kernel_rfl) (fun u W => u = .agg #[.int .i64 r.f0, .int .i64 r.f1, .int .i64 r.f2, .int .i64 r.f3, .string r.f4] ∧ Below X11.heap.size X11 W) (gives_call (by kernel_rfl) ((toRec_c r X11).mono fun e w' ⟨he, hb⟩ => ⟨_, he, rfl, hb⟩)) ?_
          rintro u X12 ⟨rfl, bX12⟩
          have HCX12 : Hid (Below W0.heap.size W0 X12) := (HCX11.out).trans (bX12.mono (HCX11.out).size)
          have HDX12 : Hid (Below w11.heap.size w11 X12) := (HDX11.out).trans (bX12.mono (HDX11.out).size)
          have HAX12 : Hid (RdWal X12 x (.slice pa x.f4.length ca)) := RdWal.keep HAX11.out bX12 (Nat.le_refl _)
          have HZX12 : Hid (X12.heap[w11.drew.heap.size]? = some (.cells #[.int .i64 0, .int .i64 0, .int .i64 0, .int .i64 0, .slice none 0 0] 26)) := (bX12.block _ (lt_of_some HZX11.out)).trans HZX11.out
          refine ⟨held_cons (.inl (by kernel_rfl)) (held_cons (.inl (by kernel_rfl)) (held_nil)), ?_⟩
          refine At.step 4 (some 89) rfl rfl (by kernel_rfl) (by kernel_rfl) (fun u W => ∃ q c, u = .tuple #[.agg #[.int .i64 y.f0, .int .i64 y.f1, .int .i64 y.f2, .int .i64 y.f3, .slice q y.f4.length c], .bool G] ∧ OwWal W X12.heap.size y (.slice q y.f4.length c) ∧ Below X12.heap.size X12 W) (gives_call (by kernel_rfl) ((CI.out _ _ X12 (HAX12.out)).mono fun e w' ⟨q, c, he, ho, hb⟩ => ⟨_, he, q, c, rfl, ho, hb⟩)) ?_
          rintro u X13 ⟨q, c, rfl, hoq, bX13⟩
          have HCX13 : Hid (Below W0.heap.size W0 X13) := (HCX12.out).trans (bX13.mono (HCX12.out).size)
          have HDX13 : Hid (Below w11.heap.size w11 X13) := (HDX12.out).trans (bX13.mono (HDX12.out).size)
          have HAX13 : Hid (RdWal X13 x (.slice pa x.f4.length ca)) := RdWal.keep HAX12.out bX13 (Nat.le_refl _)
          have HZX13 : Hid (X13.heap[w11.drew.heap.size]? = some (.cells #[.int .i64 0, .int .i64 0, .int .i64 0, .int .i64 0, .slice none 0 0] 26)) := (bX13.block _ (lt_of_some HZX12.out)).trans HZX12.out
          have HQX13 : Hid (OwWal X13 w11.heap.size y (.slice q y.f4.length c)) := own_low hoq (HDX12.out).size
          refine ⟨held_cons (.inl (by kernel_rfl)) (held_cons (.inl (by kernel_rfl)) (held_nil)), ?_⟩
          refine At.take 5 (some 84) (.tuple #[.agg #[.int .i64 y.f0, .int .i64 y.f1, .int .i64 y.f2, .int .i64 y.f3, .slice q y.f4.length c], .bool G]) rfl rfl (by kernel_rfl) (by kernel_rfl) (by kernel_rfl) (by kernel_rfl) (fun _ _ _ h => h) (yl_pure (by kernel_rfl) (fun _ => by kernel_rfl)) ?_
          refine At.take 6 (some 90) (.agg #[.int .i64 y.f0, .int .i64 y.f1, .int .i64 y.f2, .int .i64 y.f3, .slice q y.f4.length c]) rfl rfl (by kernel_rfl) (by kernel_rfl) (by kernel_rfl) (by kernel_rfl) (fun _ _ _ h => h) (yl_pure (by kernel_rfl) (fun _ => by kernel_rfl)) ?_
          refine At.take 7 (some 91) (.bool G) rfl rfl (by kernel_rfl) (by kernel_rfl) (by kernel_rfl) (by kernel_rfl) (fun _ _ _ h => h) (yl_pure (by kernel_rfl) (fun _ => by kernel_rfl)) ?_
          refine At.step 9 none rfl rfl (by kernel_rfl) (by kernel_rfl) (fun u W => u = undef ∧ W = X13.setCells (w11.drew.heap.size) 0 [.int .i64 y.f0, .int .i64 y.f1, .int .i64 y.f2, .int .i64 y.f3, .slice q y.f4.length c]) (gives_storesY (b := w11.drew.heap.size) (cs := [.int .i64 y.f0, .int .i64 y.f1, .int .i64 y.f2, .int .i64 y.f3, .slice q y.f4.length c]) (fun _ => by kernel_rfl) (by intro v hv; simp only [List.mem_cons, List.not_mem_nil, or_false] at hv; rcases hv with rfl | rfl | rfl | rfl | rfl <;> rfl) HZX13.out rfl) ?_
          rintro u XE ⟨rfl, hXE⟩
          refine ⟨held_cons (.inl (by kernel_rfl)) (held_cons (.inl (by kernel_rfl)) (held_nil)), ?_⟩
          have HE1 : Hid (XE.heap[w11.drew.heap.size]? = some (.cells #[.int .i64 y.f0, .int .i64 y.f1, .int .i64 y.f2, .int .i64 y.f3, .slice q y.f4.length c] 26)) := by rw [hXE]; exact store5 (.int .i64 y.f0) (.int .i64 y.f1) (.int .i64 y.f2) (.int .i64 y.f3) (.slice q y.f4.length c) HZX13.out
          have HE2 : Hid (OwWal XE w11.heap.size y (.slice q y.f4.length c)) := by rw [hXE]; exact store5_ownY (.int .i64 y.f0) (.int .i64 y.f1) (.int .i64 y.f2) (.int .i64 y.f3) (.slice q y.f4.length c) HQX13.out HZX13.out
          have HE3 : Hid (Below w11.heap.size w11 XE) := by rw [hXE]; exact store5_bel (.int .i64 y.f0) (.int .i64 y.f1) (.int .i64 y.f2) (.int .i64 y.f3) (.slice q y.f4.length c) HDX13.out HBX.out
          refine At.take 10 (some 15) (.bool G) rfl rfl (by kernel_rfl) (by kernel_rfl) (by kernel_rfl) (by kernel_rfl) (fun _ _ _ h => h) (yl_pure (by kernel_rfl) (fun _ => by kernel_rfl)) ?_
          refine At.done (by kernel_rfl) ?_
          simp only [Act.put, List.setIfInBounds_toArray, List.set_cons_zero, List.set_cons_succ]
          go_wp2_with fail
          go_meet
          exact ⟨_, q, c, rfl, rfl, HBX, HE1, HE2, HE3⟩
      case rest =>
        generalize wc = w12 at hcut ⊢
        obtain ⟨bH, qH, cH, rfl, rfl, _, HH12, HOH12, HB12⟩ := hcut
        have HV12 : Hid (Below w3.heap.size w3 w12) := HV11.out.trans (HB12.out.mono HV11.out.size)
        have HG12 : Hid (w12.heap[bG]? = some (.cells #[.int .i64 y.f0, .int .i64 y.f1, .int .i64 y.f2, .int .i64 y.f3, .slice qG y.f4.length cG] 26)) := (HB12.out.block _ (lt_of_some HG11.out)).trans HG11.out
        have HM12 : Hid (MoWal w12 WX.heap.size y 1 (.slice qG y.f4.length cG)) := MoWal.keep HM11.out HB12.out (Nat.le_refl _)
        obtain ⟨g0, g1, g2, g3, g4⟩ := box5 HH12.out
        obtain ⟨s0, s1, s2, s3, s4⟩ := box5 ((HV12.out.block _ (lt_of_some HS3.out)).trans HS3.out)
        go_wp2_with fail
        refine (eqWal_c y (.slice qH y.f4.length cH) (.slice qS y.f4.length cS) w12 HLY.out (OwWal.rd HOH12.out) (RdWal.keep (OwWal.rd HOS3.out) HV12.out (Nat.le_refl _))).mono ?_
        rintro e w13 ⟨rfl, b⟩
        have HV13 : Hid (Below w3.heap.size w3 w13) := HV12.out.trans (b.mono HV12.out.size)
        have HG13 : Hid (w13.heap[bG]? = some (.cells #[.int .i64 y.f0, .int .i64 y.f1, .int .i64 y.f2, .int .i64 y.f3, .slice qG y.f4.length cG] 26)) := (b.block _ (lt_of_some HG12.out)).trans HG12.out
        have HM13 : Hid (MoWal w13 WX.heap.size y 1 (.slice qG y.f4.length cG)) := MoWal.keep HM12.out b (Nat.le_refl _)
        clear b
        clear g0 g1 g2 g3 g4 s0 s1 s2 s3 s4
        obtain ⟨g0, g1, g2, g3, g4⟩ := box5 HG13.out
        go_wp2_with fail
        refine (heldWal_c y 1 (.slice qG y.f4.length cG) w13 HLY.out (by decide) (by decide) (MoWal.rd HM13.out)).mono ?_
        rintro e w14 ⟨rfl, b⟩
        rw [HKK2.out]
        have HV14 : Hid (Below w3.heap.size w3 w14) := HV13.out.trans (b.mono HV13.out.size)
        clear b
        clear g0 g1 g2 g3 g4
        go_wp2
        go_ret
        exact ⟨rfl, HDN.out _ (HC3.out.trans (HV14.out.mono HC3.out.size))⟩

end Go.Proofs.Ytengfkakiohfaaa
