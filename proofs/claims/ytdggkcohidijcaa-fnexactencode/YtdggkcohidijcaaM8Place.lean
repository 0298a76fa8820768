/- What merges next, of the specification. -/
import Derived.Test.YtdggkcohidijcaaM8Math
import Derived.Test.YtdggkcohidijcaaT8Ends
import Derived.Test.YtdggkcohidijcaaRgTold
namespace Go.Proofs.Ytdggkcohidijcaa
open Go.RowKit
set_option linter.unusedVariables false
set_option linter.unusedSimpArgs false

set_option maxRecDepth 20000 in
set_option maxHeartbeats 4000000 in
theorem l8Place_c (L : List S_Pair) (p : Option Addr) (cap : Nat) (ts : List Int) (q : Option Addr) (cq : Nat) (w : World) (hn : L.length ≤ 1048576) (hm : ts.length ≤ 1048576) (hr : RowR w (.slice p L.length cap) L.length 2 (rPair L)) (ht : IR w (.slice q ts.length cq) ts) :
    Calls Try.prog 78 #[.agg #[.slice p L.length cap], .slice q ts.length cq] w fun e w' => e = .returned (.tuple #[.int .i64 (pl1 (placeF L ts)), .int .i64 (pl2 (placeF L ts))]) ∧ Below w.heap.size w w' := by
  have hn' : (L.length : Int) ≤ 1048576 := by omega
  have hm' : (ts.length : Int) ≤ 1048576 := by omega
  have HN : Hid (L.length ≤ 1048576) := hn
  have HM : Hid (ts.length ≤ 1048576) := hm
  have HR : Hid (RowR w (.slice p L.length cap) L.length 2 (rPair L)) := hr
  have HT : Hid (IR w (.slice q ts.length cq) ts) := ht
  obtain ⟨W0, hW0⟩ : ∃ W, W = w.alloc (.cells #[.slice p L.length cap] 26) := ⟨_, rfl⟩
  have HW0 : Hid (w.alloc (.cells #[.slice p L.length cap] 26) = W0) := hW0.symm
  have HZ0 : Hid (W0.heap.size = w.heap.size + 1) := by show _ = _; rw [hW0]; simp
  have HB0 : Hid (Below w.heap.size w W0) := by rw [hW0]; exact (Below.refl _ _).alloc (Nat.le_refl _) _
  have HX : Hid (∀ W', Below W0.heap.size W0 W' → W'.cell? ⟨w.heap.size, 0, none⟩ = some (.slice p L.length cap)) := fun W' hW => by
    have hk : W'.heap[w.heap.size]? = some (.cells #[.slice p L.length cap] 26) := by rw [hW.block _ (by rw [HZ0.out]; exact Nat.lt_succ_self _), hW0]; exact alloc_last _ _
    exact box1 hk
  have d := HX.out W0 (Below.refl _ _)
  have HR0 : Hid (RowR W0 (.slice p L.length cap) L.length 2 (rPair L)) := RowR.keep HR.out HB0.out (Nat.le_refl _)
  have HT0 : Hid (IR W0 (.slice q ts.length cq) ts) := IR.keep HT.out HB0.out (Nat.le_refl _)
  have HDN : Hid (∀ W', Below W0.heap.size W0 W' → Below w.heap.size w W') := fun W' hbel => HB0.out.trans (hbel.mono (by rw [HZ0.out]; exact Nat.le_succ _))
  clear hr ht hW0 hn hm
  go_enter Try.func78, Try.ntmps78
  go_wp2_with fail
  rw [HW0.out]
  go_loopw [6] (fun rv wr => ∃ r : Nat, r ≤ L.length ∧ rv = .int .i64 (r : Int) ∧ Hid (Below W0.heap.size W0 wr) ∧ Hid (∀ r', r' < r → ∀ i', matB L ts r' i' = false)) (fun rv _ => L.length - (intOf rv).toNat)
  case atStart => exact ⟨0, Nat.zero_le _, rfl, Below.refl _ _, fun r' h => absurd h (by omega)⟩
  case round =>
    obtain ⟨r, hr, rfl, HBo, HNo⟩ := hrel
    have d := HX.out wr HBo.out
    by_cases hlt : r < L.length
    rotate_left
    · have hke : r = L.length := by omega
      have HF : Hid (placeF L ts = none) := place_none (fun r' i' => by
        rcases Nat.lt_or_ge r' r with h | h
        · exact HNo.out r' h i'
        · rcases hq : matB L ts r' i' with _ | _
          · rfl
          · have := (matB_lt hq).1; omega)
      have hlt' : ¬ (r : Int) < L.length := by omega
      clear hke
      go_wp2
      go_ret2
      exact ⟨by rw [HF.out]; rfl, HDN.out _ HBo.out⟩
    have hlt' : (r : Int) < L.length := by omega
    have HRL : Hid (r < L.length) := hlt
    go_wp2_with fail
    clear d
    go_loopw [7] (fun iv wr => ∃ i : Nat, i ≤ ts.length ∧ iv = .int .i64 (i : Int) ∧ i < 1048577 ∧ Hid (Below W0.heap.size W0 wr) ∧ Hid (∀ i', i' < i → matB L ts r i' = false)) (fun iv _ => ts.length - (intOf iv).toNat)
    case atStart => exact ⟨0, Nat.zero_le _, rfl, by omega, HBo, fun i' h => absurd h (by omega)⟩
    case round =>
      obtain ⟨i, hi, rfl, him, HBr, HNi⟩ := hrel
      have d := HX.out wr HBr.out
      obtain ⟨k, hk⟩ : ∃ k, i + 1 = k := ⟨_, rfl⟩
      have HKK : Hid (i + 1 = k) := hk
      have ek : IntKind.i64.wrap ((i : Int) + 1) = (k : Int) := by rw [IntWalk.i64_in _ (by omega)]; omega
      by_cases hkt : k < ts.length
      rotate_left
      · have HN2 : Hid (∀ r', r' < r + 1 → ∀ i', matB L ts r' i' = false) := fun r' h i' => by
          rcases Nat.lt_or_ge r' r with h1 | h1
          · exact HNo.out r' h1 i'
          · have h2 : r' = r := by omega
            subst h2
            rcases hq : matB L ts r' i' with _ | _
            · rfl
            · have h3 := (matB_lt hq).2
              rw [HNi.out i' (by omega)] at hq
              cases hq
        have hkt' : ¬ (k : Int) < ts.length := by omega
        clear hk
        go_wp2
        go_roundw
        case rel => exact ⟨r + 1, by omega, by go_num, HBr, HN2⟩
        case measure => simp [intOf]; omega
      have hkt' : (k : Int) < ts.length := by omega
      have hit' : (i : Int) < ts.length := by omega
      have HIT : Hid (i < ts.length ∧ k < ts.length) := ⟨by omega, hkt⟩
      have HKK2 : Hid (k ≤ ts.length) := Nat.le_of_lt hkt
      obtain ⟨tb, tf, rfl, htb, htc⟩ := HT0.out.cells (by omega)
      obtain ⟨pb, po, cap', hv, hpb, hpc⟩ := HR0.out.some (by omega) (by decide)
      simp only [Value.slice.injEq, true_and] at hv
      obtain ⟨rfl, rfl⟩ := hv
      have hti : i < ts.length := by omega
      have ca : wr.cell? ⟨tb, tf + i, none⟩ = some (.int .i64 ts[i]) := by rw [HBr.out.cell (by exact htb)]; exact htc i hti
      have cb : wr.cell? ⟨tb, tf + k, none⟩ = some (.int .i64 ts[k]) := by rw [HBr.out.cell (by exact htb)]; exact htc k hkt
      have c : ∀ q, q < 2 → wr.cell? ⟨pb, po + (r * 2 + q), none⟩ = (cPair L[r])[q]? := fun q hq => by
        rw [HBr.out.cell (by exact hpb), hpc (r * 2 + q) (by omega)]
        exact flat_at cPair 2 cPair_len L r q hlt hq
      have p0 : wr.cell? ⟨pb, po + r * 2, none⟩ = some (.int .i64 (L[r]).f0) := by have := c 0 (by decide); rw [← Nat.add_assoc] at this; exact this
      have p1 : wr.cell? ⟨pb, po + r * 2 + 1, none⟩ = some (.int .i64 (L[r]).f1) := by have := c 1 (by decide); rw [← Nat.add_assoc] at this; exact this
      have HMB : Hid (matB L ts r i = (ts[i] == L[r].f0 && ts[k] == L[r].f1)) := by
        have e1 : ts[i + 1]? = some ts[k] := by rw [HKK.out]; exact List.getElem?_eq_getElem hkt
        show _ = _
        unfold matB
        rw [List.getElem?_eq_getElem hlt, List.getElem?_eq_getElem hti, e1]
        rfl
      clear c htc hpc hk
      generalize ts[i] = A at ca HMB
      generalize ts[k] = B at cb HMB
      generalize L[r] = P at p0 p1 HMB
      by_cases g1' : A = P.f0
      rotate_left
      · have g1 : (A == P.f0) = false := by simp [g1']
        have g2 : (B == P.f1) = (B == P.f1) := rfl
        have HN2 : Hid (∀ i', i' < k → matB L ts r i' = false) := fun i' h => by
          rcases Nat.lt_or_ge i' i with h1 | h1
          · exact HNi.out i' h1
          · have h2 : i' = i := by have := HKK.out; omega
            rw [h2, HMB.out, g1]; rfl
        clear g1'
        go_upto_region 7 with fail
        refine wp_region_told (fun W => Below wr.heap.size wr W) (by kernel_rfl) (by kernel_rfl) ((Below.refl wr.heap.size wr).drew) ?_
        refine told_pure (some 22) (.slice (some ⟨tb, tf, none⟩) ts.length cq) rfl (by kernel_rfl) (fun _ => by kernel_rfl) ?_
        refine told_pure (some 23) (.int .i64 (i : Int)) rfl (by kernel_rfl) (fun _ => by kernel_rfl) ?_
        refine told_pure (some 24) (.pointer (some ⟨tb, tf + i, none⟩)) rfl (by kernel_rfl) (fun w => by go_simp) ?_
        refine told_load (some 25) ⟨tb, tf + i, none⟩ (.int .i64 A) rfl (by kernel_rfl) (fun _ => by kernel_rfl) (fun _ hS => atB hS ca) ?_
        refine told_pure (some 26) (.pointer (some ⟨w.heap.size, 0, none⟩)) rfl (by kernel_rfl) (fun _ => by kernel_rfl) ?_
        refine told_load (some 27) ⟨w.heap.size, 0, none⟩ (.slice (some ⟨pb, po, none⟩) L.length cap) rfl (by kernel_rfl) (fun _ => by kernel_rfl) (fun _ hS => atB hS d) ?_
        refine told_pure (some 28) (.int .i64 (r : Int)) rfl (by kernel_rfl) (fun _ => by kernel_rfl) ?_
        refine told_pure (some 29) (.pointer (some ⟨pb, po + r * 2, none⟩)) rfl (by kernel_rfl) (fun w => by go_simp) ?_
        refine told_pure (some 30) (.pointer (some ⟨pb, po + r * 2, none⟩)) rfl (by kernel_rfl) (fun _ => by kernel_rfl) ?_
        refine told_load (some 31) ⟨pb, po + r * 2, none⟩ (.int .i64 P.f0) rfl (by kernel_rfl) (fun _ => by kernel_rfl) (fun _ hS => atB hS p0) ?_
        refine told_is (some 32) (.bool (A == P.f0)) (.bool false) (by rw [g1]) rfl (by kernel_rfl) (fun _ => by kernel_rfl) ?_
        refine told_pure (some 33) (.bool false) rfl (by kernel_rfl) (fun _ => by kernel_rfl) ?_
        refine told_skip (some 34) rfl (by kernel_rfl) ?_
        refine told_skip (some 35) rfl (by kernel_rfl) ?_
        refine told_skip (some 36) rfl (by kernel_rfl) ?_
        refine told_skip (some 37) rfl (by kernel_rfl) ?_
        refine told_skip (some 38) rfl (by kernel_rfl) ?_
        refine told_skip (some 39) rfl (by kernel_rfl) ?_
        refine told_skip (some 40) rfl (by kernel_rfl) ?_
        refine told_skip (some 41) rfl (by kernel_rfl) ?_
        refine told_skip (some 42) rfl (by kernel_rfl) ?_
        refine told_skip (some 43) rfl (by kernel_rfl) ?_
        refine told_skip (some 44) rfl (by kernel_rfl) ?_
        refine told_skip (some 45) rfl (by kernel_rfl) ?_
        refine told_pure (some 46) (.bool false) rfl (by kernel_rfl) (fun _ => by kernel_rfl) ?_
        refine told_nil ?_
        intro W2 hS2
        simp only [Act.put, List.setIfInBounds_toArray, List.set_cons_zero, List.set_cons_succ]
        have HBW2 : Hid (Below W0.heap.size W0 W2) := HBr.out.trans (hS2.mono HBr.out.size)
        clear hS2 ca cb p0 p1
        go_wp2
        go_roundw
        case rel => exact ⟨k, HKK2.out, by go_num, by have := HKK.out; omega, HBW2, HN2⟩
        case measure => have := HKK.out; simp [intOf]; omega
      have g1 : (A == P.f0) = true := by simp [g1']
      clear g1'
      by_cases g2' : B = P.f1
      · have g2 : (B == P.f1) = true := by simp [g2']
        have HF : Hid (placeF L ts = some (i, r)) := place_some ⟨by rw [HMB.out, g1, g2]; rfl, HNo.out, HNi.out⟩
        clear g2'
        go_upto_region 7 with fail
        refine wp_region_told (fun W => Below wr.heap.size wr W) (by kernel_rfl) (by kernel_rfl) ((Below.refl wr.heap.size wr).drew) ?_
        refine told_pure (some 22) (.slice (some ⟨tb, tf, none⟩) ts.length cq) rfl (by kernel_rfl) (fun _ => by kernel_rfl) ?_
        refine told_pure (some 23) (.int .i64 (i : Int)) rfl (by kernel_rfl) (fun _ => by kernel_rfl) ?_
        refine told_pure (some 24) (.pointer (some ⟨tb, tf + i, none⟩)) rfl (by kernel_rfl) (fun w => by go_simp) ?_
        refine told_load (some 25) ⟨tb, tf + i, none⟩ (.int .i64 A) rfl (by kernel_rfl) (fun _ => by kernel_rfl) (fun _ hS => atB hS ca) ?_
        refine told_pure (some 26) (.pointer (some ⟨w.heap.size, 0, none⟩)) rfl (by kernel_rfl) (fun _ => by kernel_rfl) ?_
        refine told_load (some 27) ⟨w.heap.size, 0, none⟩ (.slice (some ⟨pb, po, none⟩) L.length cap) rfl (by kernel_rfl) (fun _ => by kernel_rfl) (fun _ hS => atB hS d) ?_
        refine told_pure (some 28) (.int .i64 (r : Int)) rfl (by kernel_rfl) (fun _ => by kernel_rfl) ?_
        refine told_pure (some 29) (.pointer (some ⟨pb, po + r * 2, none⟩)) rfl (by kernel_rfl) (fun w => by go_simp) ?_
        refine told_pure (some 30) (.pointer (some ⟨pb, po + r * 2, none⟩)) rfl (by kernel_rfl) (fun _ => by kernel_rfl) ?_
        refine told_load (some 31) ⟨pb, po + r * 2, none⟩ (.int .i64 P.f0) rfl (by kernel_rfl) (fun _ => by kernel_rfl) (fun _ hS => atB hS p0) ?_
        refine told_is (some 32) (.bool (A == P.f0)) (.bool true) (by rw [g1]) rfl (by kernel_rfl) (fun _ => by kernel_rfl) ?_
        refine told_pure (some 33) (.bool true) rfl (by kernel_rfl) (fun _ => by kernel_rfl) ?_
        refine told_pure (some 34) (.slice (some ⟨tb, tf, none⟩) ts.length cq) rfl (by kernel_rfl) (fun _ => by kernel_rfl) ?_
        refine told_pure (some 35) (.int .i64 (i : Int)) rfl (by kernel_rfl) (fun _ => by kernel_rfl) ?_
        refine told_is (some 36) (.int .i64 (IntKind.i64.wrap ((i : Int) + 1))) (.int .i64 (k : Int)) (by rw [ek]) rfl (by kernel_rfl) (fun _ => by kernel_rfl) ?_
        refine told_pure (some 37) (.pointer (some ⟨tb, tf + k, none⟩)) rfl (by kernel_rfl) (fun w => by go_simp) ?_
        refine told_load (some 38) ⟨tb, tf + k, none⟩ (.int .i64 B) rfl (by kernel_rfl) (fun _ => by kernel_rfl) (fun _ hS => atB hS cb) ?_
        refine told_pure (some 39) (.pointer (some ⟨w.heap.size, 0, none⟩)) rfl (by kernel_rfl) (fun _ => by kernel_rfl) ?_
        refine told_load (some 40) ⟨w.heap.size, 0, none⟩ (.slice (some ⟨pb, po, none⟩) L.length cap) rfl (by kernel_rfl) (fun _ => by kernel_rfl) (fun _ hS => atB hS d) ?_
        refine told_pure (some 41) (.int .i64 (r : Int)) rfl (by kernel_rfl) (fun _ => by kernel_rfl) ?_
        refine told_pure (some 42) (.pointer (some ⟨pb, po + r * 2, none⟩)) rfl (by kernel_rfl) (fun w => by go_simp) ?_
        refine told_pure (some 43) (.pointer (some ⟨pb, po + r * 2 + 1, none⟩)) rfl (by kernel_rfl) (fun _ => by kernel_rfl) ?_
        refine told_load (some 44) ⟨pb, po + r * 2 + 1, none⟩ (.int .i64 P.f1) rfl (by kernel_rfl) (fun _ => by kernel_rfl) (fun _ hS => atB hS p1) ?_
        refine told_is (some 45) (.bool (B == P.f1)) (.bool true) (by rw [g2]) rfl (by kernel_rfl) (fun _ => by kernel_rfl) ?_
        refine told_pure (some 46) (.bool true) rfl (by kernel_rfl) (fun _ => by kernel_rfl) ?_
        refine told_nil ?_
        intro W2 hS2
        simp only [Act.put, List.setIfInBounds_toArray, List.set_cons_zero, List.set_cons_succ]
        have HBW2 : Hid (Below W0.heap.size W0 W2) := HBr.out.trans (hS2.mono HBr.out.size)
        clear hS2 ca cb p0 p1
        go_wp2
        go_ret2
        exact ⟨by rw [HF.out]; rfl, HDN.out _ HBW2.out⟩
      · have g2 : (B == P.f1) = false := by simp [g2']
        have HN2 : Hid (∀ i', i' < k → matB L ts r i' = false) := fun i' h => by
          rcases Nat.lt_or_ge i' i with h1 | h1
          · exact HNi.out i' h1
          · have h2 : i' = i := by have := HKK.out; omega
            rw [h2, HMB.out, g2, Bool.and_false]
        clear g2'
        go_upto_region 7 with fail
        refine wp_region_told (fun W => Below wr.heap.size wr W) (by kernel_rfl) (by kernel_rfl) ((Below.refl wr.heap.size wr).drew) ?_
        refine told_pure (some 22) (.slice (some ⟨tb, tf, none⟩) ts.length cq) rfl (by kernel_rfl) (fun _ => by kernel_rfl) ?_
        refine told_pure (some 23) (.int .i64 (i : Int)) rfl (by kernel_rfl) (fun _ => by kernel_rfl) ?_
        refine told_pure (some 24) (.pointer (some ⟨tb, tf + i, none⟩)) rfl (by kernel_rfl) (fun w => by go_simp) ?_
        refine told_load (some 25) ⟨tb, tf + i, none⟩ (.int .i64 A) rfl (by kernel_rfl) (fun _ => by kernel_rfl) (fun _ hS => atB hS ca) ?_
        refine told_pure (some 26) (.pointer (some ⟨w.heap.size, 0, none⟩)) rfl (by kernel_rfl) (fun _ => by kernel_rfl) ?_
        refine told_load (some 27) ⟨w.heap.size, 0, none⟩ (.slice (some ⟨pb, po, none⟩) L.length cap) rfl (by kernel_rfl) (fun _ => by kernel_rfl) (fun _ hS => atB hS d) ?_
        refine told_pure (some 28) (.int .i64 (r : Int)) rfl (by kernel_rfl) (fun _ => by kernel_rfl) ?_
        refine told_pure (some 29) (.pointer (some ⟨pb, po + r * 2, none⟩)) rfl (by kernel_rfl) (fun w => by go_simp) ?_
        refine told_pure (some 30) (.pointer (some ⟨pb, po + r * 2, none⟩)) rfl (by kernel_rfl) (fun _ => by kernel_rfl) ?_
        refine told_load (some 31) ⟨pb, po + r * 2, none⟩ (.int .i64 P.f0) rfl (by kernel_rfl) (fun _ => by kernel_rfl) (fun _ hS => atB hS p0) ?_
        refine told_is (some 32) (.bool (A == P.f0)) (.bool true) (by rw [g1]) rfl (by kernel_rfl) (fun _ => by kernel_rfl) ?_
        refine told_pure (some 33) (.bool true) rfl (by kernel_rfl) (fun _ => by kernel_rfl) ?_
        refine told_pure (some 34) (.slice (some ⟨tb, tf, none⟩) ts.length cq) rfl (by kernel_rfl) (fun _ => by kernel_rfl) ?_
        refine told_pure (some 35) (.int .i64 (i : Int)) rfl (by kernel_rfl) (fun _ => by kernel_rfl) ?_
        refine told_is (some 36) (.int .i64 (IntKind.i64.wrap ((i : Int) + 1))) (.int .i64 (k : Int)) (by rw [ek]) rfl (by kernel_rfl) (fun _ => by kernel_rfl) ?_
        refine told_pure (some 37) (.pointer (some ⟨tb, tf + k, none⟩)) rfl (by kernel_rfl) (fun w => by go_simp) ?_
        refine told_load (some 38) ⟨tb, tf + k, none⟩ (.int .i64 B) rfl (by kernel_rfl) (fun _ => by kernel_rfl) (fun _ hS => atB hS cb) ?_
        refine told_pure (some 39) (.pointer (some ⟨w.heap.size, 0, none⟩)) rfl (by kernel_rfl) (fun _ => by kernel_rfl) ?_
        refine told_load (some 40) ⟨w.heap.size, 0, none⟩ (.slice (some ⟨pb, po, none⟩) L.length cap) rfl (by kernel_rfl) (fun _ => by kernel_rfl) (fun _ hS => atB hS d) ?_
        refine told_pure (some 41) (.int .i64 (r : Int)) rfl (by kernel_rfl) (fun _ => by kernel_rfl) ?_
        refine told_pure (some 42) (.pointer (some ⟨pb, po + r * 2, none⟩)) rfl (by kernel_rfl) (fun w => by go_simp) ?_
        refine told_pure (some 43) (.pointer (some ⟨pb, po + r * 2 + 1, none⟩)) rfl (by kernel_rfl) (fun _ => by kernel_rfl) ?_
        refine told_load (some 44) ⟨pb, po + r * 2 + 1, none⟩ (.int .i64 P.f1) rfl (by kernel_rfl) (fun _ => by kernel_rfl) (fun _ hS => atB hS p1) ?_
        refine told_is (some 45) (.bool (B == P.f1)) (.bool false) (by rw [g2]) rfl (by kernel_rfl) (fun _ => by kernel_rfl) ?_
        refine told_pure (some 46) (.bool false) rfl (by kernel_rfl) (fun _ => by kernel_rfl) ?_
        refine told_nil ?_
        intro W2 hS2
        simp only [Act.put, List.setIfInBounds_toArray, List.set_cons_zero, List.set_cons_succ]
        have HBW2 : Hid (Below W0.heap.size W0 W2) := HBr.out.trans (hS2.mono HBr.out.size)
        clear hS2 ca cb p0 p1
        go_wp2
        go_roundw
        case rel => exact ⟨k, HKK2.out, by go_num, by have := HKK.out; omega, HBW2, HN2⟩
        case measure => have := HKK.out; simp [intOf]; omega

end Go.Proofs.Ytdggkcohidijcaa
