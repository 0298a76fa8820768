/- Which method a record's step leads to. -/
import Derived.Test.YthlokfcejojdhaaDoorWrOf
import Derived.Test.YthlokfcejojdhaaDoorJWx
import Derived.Test.YthlokfcejojdhaaDoorWwImpl
namespace Go.Proofs.YthlokfcejojdhaaDoor
open Go.RowKit
set_option linter.unusedVariables false

theorem inv_hard (x p : Value) (w : World) : (invoke (.fn (.method "loop.example/g00358/impl.step") #[]) #[.iface 42 x, p]).run Tryd.prog w = .ok (.enter 105 #[x, p]) w := by kernel_rfl

theorem inv_entry (x p : Value) (w : World) : (invoke (.fn (.method "loop.example/g00358/impl.step") #[]) #[.iface 85 x, p]).run Tryd.prog w = .ok (.enter 107 #[x, p]) w := by kernel_rfl

theorem inv_cut (x p : Value) (w : World) : (invoke (.fn (.method "loop.example/g00358/impl.step") #[]) #[.iface 91 x, p]).run Tryd.prog w = .ok (.enter 109 #[x, p]) w := by kernel_rfl

theorem inv_base (x p : Value) (w : World) : (invoke (.fn (.method "loop.example/g00358/impl.step") #[]) #[.iface 40 x, p]).run Tryd.prog w = .ok (.enter 103 #[x, p]) w := by kernel_rfl

set_option maxRecDepth 20000 in
theorem step_base (t i : Int) (p : Addr) (w : World) : Calls Tryd.prog 103 #[.agg #[.int .i64 t, .int .i64 i], .pointer (some p)] w fun e w' => e = .returned (.bool false) ∧ Below w.heap.size w w' := by
  go_enter Tryd.func103, Tryd.ntmps103
  go_wp2
  go_ret
  exact ⟨rfl, by first | exact Below.refl _ _ | exact (Below.refl _ _).alloc (Nat.le_refl _) _⟩

end Go.Proofs.YthlokfcejojdhaaDoor

/- The step of an entry, by the program. -/
namespace Go.Proofs.YthlokfcejojdhaaDoor
open Go.RowKit
set_option linter.unusedVariables false
set_option linter.unusedSimpArgs false

theorem heap_grownN {w w1 : World} {k : Nat} {v : Value} {o o2 : Obj} (hg : (w.alloc o2).grownBy w1 v.ownBlock) (hne : ∀ j, v.ownBlock = some j → j ≠ k) (h : w.heap[k]? = some o) : w1.heap[k]? = some o := by
  have hlt := lt_of_some h
  rw [hg.block k (by rw [World.size_alloc]; omega) (fun e1 => hne k e1.symm rfl)]
  rw [← h]
  exact (((Below.refl w.heap.size w).alloc (Nat.le_refl _) o2).block k hlt)

theorem cell_allocY {w : World} {a : Addr} {u : Value} {o : Obj} (h : w.cell? a = some u) : (w.alloc o).cell? a = some u := (World.grownBy_alloc w o none).cell h (by simp)

set_option maxRecDepth 20000 in
set_option maxHeartbeats 4000000 in
theorem step_entry (x : S_Wal) (r : S_Rec) (p : Option Addr) (cap b base B : Nat) (w : World) (hk : r.f0 = 2) (hz : r.f4.size ≤ 1048576) (hr2 : 0 ≤ r.f2 ∧ r.f2 ≤ 1000000) (hL : x.f4.length ≤ 1048576 ∧ (0 ≤ x.f2 ∧ x.f2 ≤ 100000)) (hx : w.heap[b]? = some (.cells #[.int .i64 x.f0, .int .i64 x.f1, .int .i64 x.f2, .int .i64 x.f3, .slice p x.f4.length cap] 26)) (ho : w.ownsRow base 63 2 (.slice p x.f4.length cap) x.f4.length (rEntry x.f4)) (hB : B ≤ b ∧ B ≤ base) (hbw : base ≤ w.heap.size) :
    Calls Tryd.prog 107 #[.agg #[.int .i64 r.f2, .int .i64 r.f1, .string r.f4], .pointer (some ⟨b, 0, none⟩)] w (StR x r b base B w) := by
  obtain ⟨iR, hiR, hR0, hR1, hR2⟩ := info_parts infoEntry
  have HL : Hid (x.f4.length ≤ 1048576 ∧ (0 ≤ x.f2 ∧ x.f2 ≤ 100000)) := hL
  have HK : Hid (r.f0 = _) := hk
  have HRI : Hid (0 ≤ r.f2 ∧ r.f2 ≤ 1000000) := hr2
  have HZR : Hid (r.f4.size ≤ 1048576) := hz
  have HBB : Hid (b < w.heap.size ∧ base ≤ w.heap.size ∧ B ≤ b ∧ B ≤ base) := ⟨lt_of_some hx, hbw, hB.1, hB.2⟩
  have hbs := lt_of_some hx
  obtain ⟨W0, hW0⟩ : ∃ W, W = w.alloc (.cells #[.int .i64 r.f2, .int .i64 r.f1, .string r.f4] 85) := ⟨_, rfl⟩
  have HW0 : Hid (w.alloc (.cells #[.int .i64 r.f2, .int .i64 r.f1, .string r.f4] 85) = W0) := hW0.symm
  have HR0 : Hid (W0.heap[w.heap.size]? = some (.cells #[.int .i64 r.f2, .int .i64 r.f1, .string r.f4] 85)) := by rw [hW0]; exact alloc_last _ _
  have HX0 : Hid (W0.heap[b]? = some (.cells #[.int .i64 x.f0, .int .i64 x.f1, .int .i64 x.f2, .int .i64 x.f3, .slice p x.f4.length cap] 26)) := by rw [hW0, Below.heap_alloc _ _ _ (by omega)]; exact hx
  have HO0 : Hid (W0.ownsRow base 63 2 (.slice p x.f4.length cap) x.f4.length (rEntry x.f4)) := by rw [hW0]; exact ho.alloc _
  have HB0 : Hid (Below w.heap.size w W0) := by rw [hW0]; exact (Below.refl _ _).alloc (Nat.le_refl _) _
  have hnn : (0 : Int) ≤ x.f4.length := by omega
  have hll : (x.f4.length : Int) ≤ 1048576 := by omega
  obtain ⟨hx2a, hx2b⟩ := hL.2
  have hwl : IntKind.i64.wrap (x.f2 + (x.f4.length : Int)) = x.f2 + (x.f4.length : Int) := IntWalk.i64_in _ (by omega)
  have hwl1 : IntKind.i64.wrap (x.f2 + (x.f4.length : Int) + 1) = x.f2 + (x.f4.length : Int) + 1 := IntWalk.i64_in _ (by omega)
  have hw1 : IntKind.i64.wrap (x.f2 + 1) = x.f2 + 1 := IntWalk.i64_in _ (by omega)
  obtain ⟨d0, d1, d2, d3, d4⟩ := box5 HX0.out
  clear hx ho hB hbw hz hr2 hk hL hW0 hbs
  obtain ⟨e0, e1, e2⟩ := box3S HR0.out
  by_cases g0 : r.f2 = x.f2 + (x.f4.length : Int) + 1
  rotate_left
  · have HF : Hid (¬ fitsR x r) := fun h' => g0 (by have h := (fits_2 HK.out).1 h'; exact h.1)
    have t0 : (r.f2 != x.f2 + (x.f4.length : Int) + 1) = true := by simpa using g0
    clear g0
    go_enter Tryd.func107, Tryd.ntmps107
    go_upto_region 1 with fail
    rw [HW0.out]
    refine wp_region_told (fun W => Below W0.heap.size W0 W) (by kernel_rfl) (by kernel_rfl) ((Below.refl W0.heap.size W0).drew) ?_
    refine told_pure (some 5) (.pointer (some ⟨w.heap.size, 0, none⟩)) rfl (by kernel_rfl) (fun _ => by kernel_rfl) ?_
    refine told_load (some 6) ⟨w.heap.size, 0, none⟩ (.int .i64 r.f2) rfl (by kernel_rfl) (fun _ => by kernel_rfl) (fun _ hS => atB hS e0) ?_
    refine told_pure (some 7) (.pointer (some ⟨b, 0, none⟩)) rfl (by kernel_rfl) (fun _ => by kernel_rfl) ?_
    refine told_pure (some 8) (.pointer (some ⟨b, 0, none⟩)) rfl (by kernel_rfl) (fun _ => by kernel_rfl) ?_
    refine told_pure (some 9) (.pointer (some ⟨b, 2, none⟩)) rfl (by kernel_rfl) (fun _ => by kernel_rfl) ?_
    refine told_load (some 10) ⟨b, 2, none⟩ (.int .i64 x.f2) rfl (by kernel_rfl) (fun _ => by kernel_rfl) (fun _ hS => atB hS d2) ?_
    refine told_pure (some 11) (.pointer (some ⟨b, 0, none⟩)) rfl (by kernel_rfl) (fun _ => by kernel_rfl) ?_
    refine told_pure (some 12) (.pointer (some ⟨b, 0, none⟩)) rfl (by kernel_rfl) (fun _ => by kernel_rfl) ?_
    refine told_pure (some 13) (.pointer (some ⟨b, 4, none⟩)) rfl (by kernel_rfl) (fun _ => by kernel_rfl) ?_
    refine told_load (some 14) ⟨b, 4, none⟩ (.slice p x.f4.length cap) rfl (by kernel_rfl) (fun _ => by kernel_rfl) (fun _ hS => atB hS d4) ?_
    refine told_pure (some 15) (.int .i64 x.f4.length) rfl (by kernel_rfl) (fun _ => by kernel_rfl) ?_
    refine told_is (some 16) (.int .i64 (IntKind.i64.wrap (x.f2 + (x.f4.length : Int)))) (.int .i64 (x.f2 + (x.f4.length : Int))) (by rw [hwl]) rfl (by kernel_rfl) (fun _ => by kernel_rfl) ?_
    refine told_is (some 17) (.int .i64 (IntKind.i64.wrap (x.f2 + (x.f4.length : Int) + 1))) (.int .i64 (x.f2 + (x.f4.length : Int) + 1)) (by rw [hwl1]) rfl (by kernel_rfl) (fun _ => by kernel_rfl) ?_
    refine told_is (some 18) (.bool (r.f2 != x.f2 + (x.f4.length : Int) + 1)) (.bool true) (by rw [t0]) rfl (by kernel_rfl) (fun _ => by kernel_rfl) ?_
    refine told_pure (some 19) (.bool true) rfl (by kernel_rfl) (fun _ => by kernel_rfl) ?_
    refine told_skip (some 20) rfl (by kernel_rfl) ?_
    refine told_skip (some 21) rfl (by kernel_rfl) ?_
    refine told_skip (some 22) rfl (by kernel_rfl) ?_
    refine told_skip (some 23) rfl (by kernel_rfl) ?_
    refine told_skip (some 24) rfl (by kernel_rfl) ?_
    refine told_skip (some 25) rfl (by kernel_rfl) ?_
    refine told_pure (some 26) (.bool true) rfl (by kernel_rfl) (fun _ => by kernel_rfl) ?_
    refine told_nil ?_
    intro w1 hS
    simp only [Act.put, List.setIfInBounds_toArray, List.set_cons_zero, List.set_cons_succ]
    have HB1 : Hid (Below W0.heap.size W0 w1) := hS
    clear hS
    have HX9 : Hid (w1.heap[b]? = some (.cells #[.int .i64 x.f0, .int .i64 x.f1, .int .i64 x.f2, .int .i64 x.f3, .slice p x.f4.length cap] 26)) := (HB1.out.block _ (lt_of_some HX0.out)).trans HX0.out
    have HO9 : Hid (w1.ownsRow base 63 2 (.slice p x.f4.length cap) x.f4.length (rEntry x.f4)) := own_bel HO0.out HB1.out (Nat.le_refl _)
    have HB9 : Hid (Below B w w1) := (HB0.out.trans (HB1.out.mono HB0.out.size)).mono (by have := HBB.out; omega)
    go_wp2
    go_ret
    exact stR_no HF.out HX9.out HO9.out HB9.out
  have t0 : (r.f2 != x.f2 + (x.f4.length : Int) + 1) = false := by simpa using g0
  by_cases g1 : (x.f4.length : Int) ≥ 60
  · have HF : Hid (¬ fitsR x r) := fun h' => by have h := (fits_2 HK.out).1 h'; have := h.2.1; omega
    have t1 : decide ((x.f4.length : Int) ≥ 60) = true := decide_eq_true g1
    clear g0 g1
    go_enter Tryd.func107, Tryd.ntmps107
    go_upto_region 1 with fail
    rw [HW0.out]
    refine wp_region_told (fun W => Below W0.heap.size W0 W) (by kernel_rfl) (by kernel_rfl) ((Below.refl W0.heap.size W0).drew) ?_
    refine told_pure (some 5) (.pointer (some ⟨w.heap.size, 0, none⟩)) rfl (by kernel_rfl) (fun _ => by kernel_rfl) ?_
    refine told_load (some 6) ⟨w.heap.size, 0, none⟩ (.int .i64 r.f2) rfl (by kernel_rfl) (fun _ => by kernel_rfl) (fun _ hS => atB hS e0) ?_
    refine told_pure (some 7) (.pointer (some ⟨b, 0, none⟩)) rfl (by kernel_rfl) (fun _ => by kernel_rfl) ?_
    refine told_pure (some 8) (.pointer (some ⟨b, 0, none⟩)) rfl (by kernel_rfl) (fun _ => by kernel_rfl) ?_
    refine told_pure (some 9) (.pointer (some ⟨b, 2, none⟩)) rfl (by kernel_rfl) (fun _ => by kernel_rfl) ?_
    refine told_load (some 10) ⟨b, 2, none⟩ (.int .i64 x.f2) rfl (by kernel_rfl) (fun _ => by kernel_rfl) (fun _ hS => atB hS d2) ?_
    refine told_pure (some 11) (.pointer (some ⟨b, 0, none⟩)) rfl (by kernel_rfl) (fun _ => by kernel_rfl) ?_
    refine told_pure (some 12) (.pointer (some ⟨b, 0, none⟩)) rfl (by kernel_rfl) (fun _ => by kernel_rfl) ?_
    refine told_pure (some 13) (.pointer (some ⟨b, 4, none⟩)) rfl (by kernel_rfl) (fun _ => by kernel_rfl) ?_
    refine told_load (some 14) ⟨b, 4, none⟩ (.slice p x.f4.length cap) rfl (by kernel_rfl) (fun _ => by kernel_rfl) (fun _ hS => atB hS d4) ?_
    refine told_pure (some 15) (.int .i64 x.f4.length) rfl (by kernel_rfl) (fun _ => by kernel_rfl) ?_
    refine told_is (some 16) (.int .i64 (IntKind.i64.wrap (x.f2 + (x.f4.length : Int)))) (.int .i64 (x.f2 + (x.f4.length : Int))) (by rw [hwl]) rfl (by kernel_rfl) (fun _ => by kernel_rfl) ?_
    refine told_is (some 17) (.int .i64 (IntKind.i64.wrap (x.f2 + (x.f4.length : Int) + 1))) (.int .i64 (x.f2 + (x.f4.length : Int) + 1)) (by rw [hwl1]) rfl (by kernel_rfl) (fun _ => by kernel_rfl) ?_
    refine told_is (some 18) (.bool (r.f2 != x.f2 + (x.f4.length : Int) + 1)) (.bool false) (by rw [t0]) rfl (by kernel_rfl) (fun _ => by kernel_rfl) ?_
    refine told_pure (some 19) (.bool false) rfl (by kernel_rfl) (fun _ => by kernel_rfl) ?_
    refine told_pure (some 20) (.pointer (some ⟨b, 0, none⟩)) rfl (by kernel_rfl) (fun _ => by kernel_rfl) ?_
    refine told_pure (some 21) (.pointer (some ⟨b, 0, none⟩)) rfl (by kernel_rfl) (fun _ => by kernel_rfl) ?_
    refine told_pure (some 22) (.pointer (some ⟨b, 4, none⟩)) rfl (by kernel_rfl) (fun _ => by kernel_rfl) ?_
    refine told_load (some 23) ⟨b, 4, none⟩ (.slice p x.f4.length cap) rfl (by kernel_rfl) (fun _ => by kernel_rfl) (fun _ hS => atB hS d4) ?_
    refine told_pure (some 24) (.int .i64 x.f4.length) rfl (by kernel_rfl) (fun _ => by kernel_rfl) ?_
    refine told_is (some 25) (.bool (decide ((x.f4.length : Int) ≥ 60))) (.bool true) (by rw [t1]) rfl (by kernel_rfl) (fun _ => by kernel_rfl) ?_
    refine told_pure (some 26) (.bool true) rfl (by kernel_rfl) (fun _ => by kernel_rfl) ?_
    refine told_nil ?_
    intro w1 hS
    simp only [Act.put, List.setIfInBounds_toArray, List.set_cons_zero, List.set_cons_succ]
    have HB1 : Hid (Below W0.heap.size W0 w1) := hS
    clear hS
    have HX9 : Hid (w1.heap[b]? = some (.cells #[.int .i64 x.f0, .int .i64 x.f1, .int .i64 x.f2, .int .i64 x.f3, .slice p x.f4.length cap] 26)) := (HB1.out.block _ (lt_of_some HX0.out)).trans HX0.out
    have HO9 : Hid (w1.ownsRow base 63 2 (.slice p x.f4.length cap) x.f4.length (rEntry x.f4)) := own_bel HO0.out HB1.out (Nat.le_refl _)
    have HB9 : Hid (Below B w w1) := (HB0.out.trans (HB1.out.mono HB0.out.size)).mono (by have := HBB.out; omega)
    go_wp2
    go_ret
    exact stR_no HF.out HX9.out HO9.out HB9.out
  have t1 : decide ((x.f4.length : Int) ≥ 60) = false := decide_eq_false g1
  by_cases g2 : lastT x ≤ r.f1 ∧ r.f1 ≤ x.f0
  rotate_left
  · have HF : Hid (¬ fitsR x r) := fun h' => g2 (by have h := (fits_2 HK.out).1 h'; exact h.2.2)
    have HWN : Hid (¬ (lastT x ≤ r.f1 ∧ r.f1 ≤ x.f0)) := g2
    clear g0 g1 g2
    go_enter Tryd.func107, Tryd.ntmps107
    go_upto_region 1 with fail
    rw [HW0.out]
    refine wp_region_told (fun W => Below W0.heap.size W0 W) (by kernel_rfl) (by kernel_rfl) ((Below.refl W0.heap.size W0).drew) ?_
    refine told_pure (some 5) (.pointer (some ⟨w.heap.size, 0, none⟩)) rfl (by kernel_rfl) (fun _ => by kernel_rfl) ?_
    refine told_load (some 6) ⟨w.heap.size, 0, none⟩ (.int .i64 r.f2) rfl (by kernel_rfl) (fun _ => by kernel_rfl) (fun _ hS => atB hS e0) ?_
    refine told_pure (some 7) (.pointer (some ⟨b, 0, none⟩)) rfl (by kernel_rfl) (fun _ => by kernel_rfl) ?_
    refine told_pure (some 8) (.pointer (some ⟨b, 0, none⟩)) rfl (by kernel_rfl) (fun _ => by kernel_rfl) ?_
    refine told_pure (some 9) (.pointer (some ⟨b, 2, none⟩)) rfl (by kernel_rfl) (fun _ => by kernel_rfl) ?_
    refine told_load (some 10) ⟨b, 2, none⟩ (.int .i64 x.f2) rfl (by kernel_rfl) (fun _ => by kernel_rfl) (fun _ hS => atB hS d2) ?_
    refine told_pure (some 11) (.pointer (some ⟨b, 0, none⟩)) rfl (by kernel_rfl) (fun _ => by kernel_rfl) ?_
    refine told_pure (some 12) (.pointer (some ⟨b, 0, none⟩)) rfl (by kernel_rfl) (fun _ => by kernel_rfl) ?_
    refine told_pure (some 13) (.pointer (some ⟨b, 4, none⟩)) rfl (by kernel_rfl) (fun _ => by kernel_rfl) ?_
    refine told_load (some 14) ⟨b, 4, none⟩ (.slice p x.f4.length cap) rfl (by kernel_rfl) (fun _ => by kernel_rfl) (fun _ hS => atB hS d4) ?_
    refine told_pure (some 15) (.int .i64 x.f4.length) rfl (by kernel_rfl) (fun _ => by kernel_rfl) ?_
    refine told_is (some 16) (.int .i64 (IntKind.i64.wrap (x.f2 + (x.f4.length : Int)))) (.int .i64 (x.f2 + (x.f4.length : Int))) (by rw [hwl]) rfl (by kernel_rfl) (fun _ => by kernel_rfl) ?_
    refine told_is (some 17) (.int .i64 (IntKind.i64.wrap (x.f2 + (x.f4.length : Int) + 1))) (.int .i64 (x.f2 + (x.f4.length : Int) + 1)) (by rw [hwl1]) rfl (by kernel_rfl) (fun _ => by kernel_rfl) ?_
    refine told_is (some 18) (.bool (r.f2 != x.f2 + (x.f4.length : Int) + 1)) (.bool false) (by rw [t0]) rfl (by kernel_rfl) (fun _ => by kernel_rfl) ?_
    refine told_pure (some 19) (.bool false) rfl (by kernel_rfl) (fun _ => by kernel_rfl) ?_
    refine told_pure (some 20) (.pointer (some ⟨b, 0, none⟩)) rfl (by kernel_rfl) (fun _ => by kernel_rfl) ?_
    refine told_pure (some 21) (.pointer (some ⟨b, 0, none⟩)) rfl (by kernel_rfl) (fun _ => by kernel_rfl) ?_
    refine told_pure (some 22) (.pointer (some ⟨b, 4, none⟩)) rfl (by kernel_rfl) (fun _ => by kernel_rfl) ?_
    refine told_load (some 23) ⟨b, 4, none⟩ (.slice p x.f4.length cap) rfl (by kernel_rfl) (fun _ => by kernel_rfl) (fun _ hS => atB hS d4) ?_
    refine told_pure (some 24) (.int .i64 x.f4.length) rfl (by kernel_rfl) (fun _ => by kernel_rfl) ?_
    refine told_is (some 25) (.bool (decide ((x.f4.length : Int) ≥ 60))) (.bool false) (by rw [t1]) rfl (by kernel_rfl) (fun _ => by kernel_rfl) ?_
    refine told_pure (some 26) (.bool false) rfl (by kernel_rfl) (fun _ => by kernel_rfl) ?_
    refine told_nil ?_
    intro w1 hS
    simp only [Act.put, List.setIfInBounds_toArray, List.set_cons_zero, List.set_cons_succ]
    have HB1 : Hid (Below W0.heap.size W0 w1) := hS
    clear hS
    clear d0 d1 d2 d3 d4 e0 e1 e2
    have HX1 : Hid (w1.heap[b]? = some (.cells #[.int .i64 x.f0, .int .i64 x.f1, .int .i64 x.f2, .int .i64 x.f3, .slice p x.f4.length cap] 26)) := (HB1.out.block _ (lt_of_some HX0.out)).trans HX0.out
    have HR1 : Hid (w1.heap[w.heap.size]? = some (.cells #[.int .i64 r.f2, .int .i64 r.f1, .string r.f4] 85)) := (HB1.out.block _ (lt_of_some HR0.out)).trans HR0.out
    have HO1 : Hid (w1.ownsRow base 63 2 (.slice p x.f4.length cap) x.f4.length (rEntry x.f4)) := own_bel HO0.out HB1.out (Nat.le_refl _)
    have HBw1 : Hid (Below w.heap.size w w1) := HB0.out.trans (HB1.out.mono HB0.out.size)
    obtain ⟨d0, d1, d2, d3, d4⟩ := box5 HX1.out
    obtain ⟨e0, e1, e2⟩ := box3S HR1.out
    go_upto_region 3 with fail
    refine wp_region_told (fun W => Below w1.heap.size w1 W) (by kernel_rfl) (by kernel_rfl) ((Below.refl w1.heap.size w1).drew) ?_
    refine told_pure (some 27) (.pointer (some ⟨w.heap.size, 1, none⟩)) rfl (by kernel_rfl) (fun _ => by kernel_rfl) ?_
    refine told_pure (some 28) (.pointer (some ⟨w.heap.size, 1, none⟩)) rfl (by kernel_rfl) (fun _ => by kernel_rfl) ?_
    refine told_load (some 29) ⟨w.heap.size, 1, none⟩ (.int .i64 r.f1) rfl (by kernel_rfl) (fun _ => by kernel_rfl) (fun _ hS => atB hS e1) ?_
    refine told_pure (some 30) (.pointer (some ⟨b, 0, none⟩)) rfl (by kernel_rfl) (fun _ => by kernel_rfl) ?_
    refine told_call (some 31) (.int .i64 (lastT x)) 108 #[.pointer (some ⟨b, 0, none⟩)] rfl (by kernel_rfl) (fun _ => by kernel_rfl) (fun W hS => below_S (lastTerm_c x b p cap W HL.out.1 ((Below.block hS _ (lt_of_some HX1.out)).trans HX1.out) (RowR.own (own_bel HO1.out hS (Nat.le_refl _)))) hS) ?_
    refine told_pure (some 32) (.pointer (some ⟨b, 0, none⟩)) rfl (by kernel_rfl) (fun _ => by kernel_rfl) ?_
    refine told_pure (some 33) (.pointer (some ⟨b, 0, none⟩)) rfl (by kernel_rfl) (fun _ => by kernel_rfl) ?_
    refine told_pure (some 34) (.pointer (some ⟨b, 0, none⟩)) rfl (by kernel_rfl) (fun _ => by kernel_rfl) ?_
    refine told_load (some 35) ⟨b, 0, none⟩ (.int .i64 x.f0) rfl (by kernel_rfl) (fun _ => by kernel_rfl) (fun _ hS => atB hS d0) ?_
    refine told_call (some 36) (.bool false) 41 #[.int .i64 r.f1, .int .i64 (lastT x), .int .i64 x.f0] rfl (by kernel_rfl) (fun _ => by kernel_rfl) (fun W hS => below_S (winS_no r.f1 (lastT x) x.f0 W HWN.out) hS) ?_
    refine told_pure (some 37) (.bool true) rfl (by kernel_rfl) (fun _ => by kernel_rfl) ?_
    refine told_nil ?_
    intro w3 hS
    simp only [Act.put, List.setIfInBounds_toArray, List.set_cons_zero, List.set_cons_succ]
    have HB3 : Hid (Below W0.heap.size W0 w3) := HB1.out.trans (Below.mono hS HB1.out.size)
    clear hS d0 d1 d2 d3 d4 e0 e1 e2
    have HX9 : Hid (w3.heap[b]? = some (.cells #[.int .i64 x.f0, .int .i64 x.f1, .int .i64 x.f2, .int .i64 x.f3, .slice p x.f4.length cap] 26)) := (HB3.out.block _ (lt_of_some HX0.out)).trans HX0.out
    have HO9 : Hid (w3.ownsRow base 63 2 (.slice p x.f4.length cap) x.f4.length (rEntry x.f4)) := own_bel HO0.out HB3.out (Nat.le_refl _)
    have HB9 : Hid (Below B w w3) := (HB0.out.trans (HB3.out.mono HB0.out.size)).mono (by have := HBB.out; omega)
    go_wp2
    go_ret
    exact stR_no HF.out HX9.out HO9.out HB9.out
  have HF : Hid (fitsR x r) := (fits_2 HK.out).2 ⟨g0, by omega, g2.1, g2.2⟩
  have HWN : Hid (lastT x ≤ r.f1 ∧ r.f1 ≤ x.f0) := g2
  have HE : Hid (stepF x r = ⟨x.f0, x.f1, x.f2, x.f3, x.f4 ++ ([⟨r.f1, r.f4⟩] : List S_Entry)⟩) := step_2 HK.out
  clear g0 g1 g2
  go_enter Tryd.func107, Tryd.ntmps107
  go_upto_region 1 with fail
  rw [HW0.out]
  refine wp_region_told (fun W => Below W0.heap.size W0 W) (by kernel_rfl) (by kernel_rfl) ((Below.refl W0.heap.size W0).drew) ?_
  refine told_pure (some 5) (.pointer (some ⟨w.heap.size, 0, none⟩)) rfl (by kernel_rfl) (fun _ => by kernel_rfl) ?_
  refine told_load (some 6) ⟨w.heap.size, 0, none⟩ (.int .i64 r.f2) rfl (by kernel_rfl) (fun _ => by kernel_rfl) (fun _ hS => atB hS e0) ?_
  refine told_pure (some 7) (.pointer (some ⟨b, 0, none⟩)) rfl (by kernel_rfl) (fun _ => by kernel_rfl) ?_
  refine told_pure (some 8) (.pointer (some ⟨b, 0, none⟩)) rfl (by kernel_rfl) (fun _ => by kernel_rfl) ?_
  refine told_pure (some 9) (.pointer (some ⟨b, 2, none⟩)) rfl (by kernel_rfl) (fun _ => by kernel_rfl) ?_
  refine told_load (some 10) ⟨b, 2, none⟩ (.int .i64 x.f2) rfl (by kernel_rfl) (fun _ => by kernel_rfl) (fun _ hS => atB hS d2) ?_
  refine told_pure (some 11) (.pointer (some ⟨b, 0, none⟩)) rfl (by kernel_rfl) (fun _ => by kernel_rfl) ?_
  refine told_pure (some 12) (.pointer (some ⟨b, 0, none⟩)) rfl (by kernel_rfl) (fun _ => by kernel_rfl) ?_
  refine told_pure (some 13) (.pointer (some ⟨b, 4, none⟩)) rfl (by kernel_rfl) (fun _ => by kernel_rfl) ?_
  refine told_load (some 14) ⟨b, 4, none⟩ (.slice p x.f4.length cap) rfl (by kernel_rfl) (fun _ => by kernel_rfl) (fun _ hS => atB hS d4) ?_
  refine told_pure (some 15) (.int .i64 x.f4.length) rfl (by kernel_rfl) (fun _ => by kernel_rfl) ?_
  refine told_is (some 16) (.int .i64 (IntKind.i64.wrap (x.f2 + (x.f4.length : Int)))) (.int .i64 (x.f2 + (x.f4.length : Int))) (by rw [hwl]) rfl (by kernel_rfl) (fun _ => by kernel_rfl) ?_
  refine told_is (some 17) (.int .i64 (IntKind.i64.wrap (x.f2 + (x.f4.length : Int) + 1))) (.int .i64 (x.f2 + (x.f4.length : Int) + 1)) (by rw [hwl1]) rfl (by kernel_rfl) (fun _ => by kernel_rfl) ?_
  refine told_is (some 18) (.bool (r.f2 != x.f2 + (x.f4.length : Int) + 1)) (.bool false) (by rw [t0]) rfl (by kernel_rfl) (fun _ => by kernel_rfl) ?_
  refine told_pure (some 19) (.bool false) rfl (by kernel_rfl) (fun _ => by kernel_rfl) ?_
  refine told_pure (some 20) (.pointer (some ⟨b, 0, none⟩)) rfl (by kernel_rfl) (fun _ => by kernel_rfl) ?_
  refine told_pure (some 21) (.pointer (some ⟨b, 0, none⟩)) rfl (by kernel_rfl) (fun _ => by kernel_rfl) ?_
  refine told_pure (some 22) (.pointer (some ⟨b, 4, none⟩)) rfl (by kernel_rfl) (fun _ => by kernel_rfl) ?_
  refine told_load (some 23) ⟨b, 4, none⟩ (.slice p x.f4.length cap) rfl (by kernel_rfl) (fun _ => by kernel_rfl) (fun _ hS => atB hS d4) ?_
  refine told_pure (some 24) (.int .i64 x.f4.length) rfl (by kernel_rfl) (fun _ => by kernel_rfl) ?_
  refine told_is (some 25) (.bool (decide ((x.f4.length : Int) ≥ 60))) (.bool false) (by rw [t1]) rfl (by kernel_rfl) (fun _ => by kernel_rfl) ?_
  refine told_pure (some 26) (.bool false) rfl (by kernel_rfl) (fun _ => by kernel_rfl) ?_
  refine told_nil ?_
  intro w1 hS
  simp only [Act.put, List.setIfInBounds_toArray, List.set_cons_zero, List.set_cons_succ]
  have HB1 : Hid (Below W0.heap.size W0 w1) := hS
  clear hS
  clear d0 d1 d2 d3 d4 e0 e1 e2
  have HX1 : Hid (w1.heap[b]? = some (.cells #[.int .i64 x.f0, .int .i64 x.f1, .int .i64 x.f2, .int .i64 x.f3, .slice p x.f4.length cap] 26)) := (HB1.out.block _ (lt_of_some HX0.out)).trans HX0.out
  have HR1 : Hid (w1.heap[w.heap.size]? = some (.cells #[.int .i64 r.f2, .int .i64 r.f1, .string r.f4] 85)) := (HB1.out.block _ (lt_of_some HR0.out)).trans HR0.out
  have HO1 : Hid (w1.ownsRow base 63 2 (.slice p x.f4.length cap) x.f4.length (rEntry x.f4)) := own_bel HO0.out HB1.out (Nat.le_refl _)
  have HBw1 : Hid (Below w.heap.size w w1) := HB0.out.trans (HB1.out.mono HB0.out.size)
  obtain ⟨d0, d1, d2, d3, d4⟩ := box5 HX1.out
  obtain ⟨e0, e1, e2⟩ := box3S HR1.out
  go_upto_region 3 with fail
  refine wp_region_told (fun W => Below w1.heap.size w1 W) (by kernel_rfl) (by kernel_rfl) ((Below.refl w1.heap.size w1).drew) ?_
  refine told_pure (some 27) (.pointer (some ⟨w.heap.size, 1, none⟩)) rfl (by kernel_rfl) (fun _ => by kernel_rfl) ?_
  refine told_pure (some 28) (.pointer (some ⟨w.heap.size, 1, none⟩)) rfl (by kernel_rfl) (fun _ => by kernel_rfl) ?_
  refine told_load (some 29) ⟨w.heap.size, 1, none⟩ (.int .i64 r.f1) rfl (by kernel_rfl) (fun _ => by kernel_rfl) (fun _ hS => atB hS e1) ?_
  refine told_pure (some 30) (.pointer (some ⟨b, 0, none⟩)) rfl (by kernel_rfl) (fun _ => by kernel_rfl) ?_
  refine told_call (some 31) (.int .i64 (lastT x)) 108 #[.pointer (some ⟨b, 0, none⟩)] rfl (by kernel_rfl) (fun _ => by kernel_rfl) (fun W hS => below_S (lastTerm_c x b p cap W HL.out.1 ((Below.block hS _ (lt_of_some HX1.out)).trans HX1.out) (RowR.own (own_bel HO1.out hS (Nat.le_refl _)))) hS) ?_
  refine told_pure (some 32) (.pointer (some ⟨b, 0, none⟩)) rfl (by kernel_rfl) (fun _ => by kernel_rfl) ?_
  refine told_pure (some 33) (.pointer (some ⟨b, 0, none⟩)) rfl (by kernel_rfl) (fun _ => by kernel_rfl) ?_
  refine told_pure (some 34) (.pointer (some ⟨b, 0, none⟩)) rfl (by kernel_rfl) (fun _ => by kernel_rfl) ?_
  refine told_load (some 35) ⟨b, 0, none⟩ (.int .i64 x.f0) rfl (by kernel_rfl) (fun _ => by kernel_rfl) (fun _ hS => atB hS d0) ?_
  refine told_call (some 36) (.bool true) 41 #[.int .i64 r.f1, .int .i64 (lastT x), .int .i64 x.f0] rfl (by kernel_rfl) (fun _ => by kernel_rfl) (fun W hS => below_S (winS_yes r.f1 (lastT x) x.f0 W HWN.out.1 HWN.out.2) hS) ?_
  refine told_pure (some 37) (.bool false) rfl (by kernel_rfl) (fun _ => by kernel_rfl) ?_
  refine told_nil ?_
  intro w3 hS
  simp only [Act.put, List.setIfInBounds_toArray, List.set_cons_zero, List.set_cons_succ]
  have HB3 : Hid (Below W0.heap.size W0 w3) := HB1.out.trans (Below.mono hS HB1.out.size)
  clear hS d0 d1 d2 d3 d4 e0 e1 e2
  have HX3 : Hid (w3.heap[b]? = some (.cells #[.int .i64 x.f0, .int .i64 x.f1, .int .i64 x.f2, .int .i64 x.f3, .slice p x.f4.length cap] 26)) := (HB3.out.block _ (lt_of_some HX0.out)).trans HX0.out
  have HR3 : Hid (w3.heap[w.heap.size]? = some (.cells #[.int .i64 r.f2, .int .i64 r.f1, .string r.f4] 85)) := (HB3.out.block _ (lt_of_some HR0.out)).trans HR0.out
  have HO3 : Hid (w3.ownsRow base 63 2 (.slice p x.f4.length cap) x.f4.length (rEntry x.f4)) := own_bel HO0.out HB3.out (Nat.le_refl _)
  have HBw3 : Hid (Below w.heap.size w w3) := HB0.out.trans (HB3.out.mono HB0.out.size)
  go_upto_region 5 with fail
  have e1 : w3.drew.cell? ⟨w.heap.size, 1, none⟩ = some (.int .i64 r.f1) := (box3S HR3.out).2.1
  have e2 : w3.drew.cell? ⟨w.heap.size, 2, none⟩ = some (.string r.f4) := (box3S HR3.out).2.2
  have d4 : w3.drew.cell? ⟨b, 4, none⟩ = some (.slice p x.f4.length cap) := (box5 HX3.out).2.2.2.2
  refine wp_region_L [⟨14, fun W => W.cell? ⟨b, 4, none⟩ = some (.slice p x.f4.length cap)⟩, ⟨13, fun W => W.cell? ⟨w.heap.size, 1, none⟩ = some (.int .i64 r.f1)⟩, ⟨11, fun W => W.cell? ⟨w.heap.size, 2, none⟩ = some (.string r.f4)⟩] (by kernel_rfl) (fun f hf => by
      simp only [List.mem_cons, List.not_mem_nil, or_false] at hf
      rcases hf with rfl | rfl | rfl
      · exact d4
      · exact e1
      · exact e2
      ) ?_
  refine At.take 0 (some 38) (.pointer (some ⟨b, 0, none⟩)) rfl rfl (by kernel_rfl) (by kernel_rfl) (by kernel_rfl) (by kernel_rfl) (fun _ _ _ h => h) (yl_pure (by kernel_rfl) (fun _ => by kernel_rfl)) ?_
  refine At.take 1 (some 39) (.pointer (some ⟨b, 0, none⟩)) rfl rfl (by kernel_rfl) (by kernel_rfl) (by kernel_rfl) (by kernel_rfl) (fun _ _ _ h => h) (yl_pure (by kernel_rfl) (fun _ => by kernel_rfl)) ?_
  refine At.take 2 (some 40) (.pointer (some ⟨b, 0, none⟩)) rfl rfl (by kernel_rfl) (by kernel_rfl) (by kernel_rfl) (by kernel_rfl) (fun _ _ _ h => h) (yl_pure (by kernel_rfl) (fun _ => by kernel_rfl)) ?_
  refine At.take 3 (some 41) (.pointer (some ⟨b, 4, none⟩)) rfl rfl (by kernel_rfl) (by kernel_rfl) (by kernel_rfl) (by kernel_rfl) (fun _ _ _ h => h) (yl_pure (by kernel_rfl) (fun _ => by kernel_rfl)) ?_
  refine At.take 4 (some 42) (.slice p x.f4.length cap) rfl rfl (by kernel_rfl) (by kernel_rfl) (by kernel_rfl) (by kernel_rfl) (fun _ _ _ h => h) (yl_load 14 ⟨b, 4, none⟩ (.slice p x.f4.length cap) (List.mem_cons_self) [14] (by kernel_rfl) rfl (by kernel_rfl) (fun _ => by kernel_rfl)) ?_
  refine At.take 5 (some 43) (.pointer (some ⟨w.heap.size, 1, none⟩)) rfl rfl (by kernel_rfl) (by kernel_rfl) (by kernel_rfl) (by kernel_rfl) (fun _ _ _ h => h) (yl_pure (by kernel_rfl) (fun _ => by kernel_rfl)) ?_
  refine At.take 6 (some 44) (.pointer (some ⟨w.heap.size, 1, none⟩)) rfl rfl (by kernel_rfl) (by kernel_rfl) (by kernel_rfl) (by kernel_rfl) (fun _ _ _ h => h) (yl_pure (by kernel_rfl) (fun _ => by kernel_rfl)) ?_
  refine At.take 7 (some 45) (.int .i64 r.f1) rfl rfl (by kernel_rfl) (by kernel_rfl) (by kernel_rfl) (by kernel_rfl) (fun _ _ _ h => h) (yl_load 13 ⟨w.heap.size, 1, none⟩ (.int .i64 r.f1) (List.mem_cons_of_mem _ (List.mem_cons_self)) [12, 13] (by kernel_rfl) rfl (by kernel_rfl) (fun _ => by kernel_rfl)) ?_
  refine At.take 8 (some 46) (.pointer (some ⟨w.heap.size, 1, none⟩)) rfl rfl (by kernel_rfl) (by kernel_rfl) (by kernel_rfl) (by kernel_rfl) (fun _ _ _ h => h) (yl_pure (by kernel_rfl) (fun _ => by kernel_rfl)) ?_
  refine At.take 9 (some 47) (.pointer (some ⟨w.heap.size, 2, none⟩)) rfl rfl (by kernel_rfl) (by kernel_rfl) (by kernel_rfl) (by kernel_rfl) (fun _ _ _ h => h) (yl_pure (by kernel_rfl) (fun _ => by kernel_rfl)) ?_
  refine At.take 10 (some 48) (.string r.f4) rfl rfl (by kernel_rfl) (by kernel_rfl) (by kernel_rfl) (by kernel_rfl) (fun _ _ _ h => h) (yl_load 11 ⟨w.heap.size, 2, none⟩ (.string r.f4) (List.mem_cons_of_mem _ (List.mem_cons_of_mem _ (List.mem_cons_self))) [11] (by kernel_rfl) rfl (by kernel_rfl) (fun _ => by kernel_rfl)) ?_
  refine At.step 11 (some 49) rfl rfl (by kernel_rfl) (by kernel_rfl) (fun u W => u = .string r.f4 ∧ Below w3.drew.heap.size w3.drew W) (gives_call (by kernel_rfl) ((clone_c r.f4 w3.drew (by have := HZR.out; omega)).mono fun e w' ⟨he, hb⟩ => ⟨_, he, rfl, hb⟩)) ?_
  rintro u WA ⟨rfl, hbA⟩
  refine ⟨held_cons (.inr (atB hbA (by exact d4))) (held_cons (.inr (atB hbA (by exact e1))) (held_cons (.inl (by kernel_rfl)) (held_nil))), ?_⟩
  refine At.take 12 (some 50) (.agg #[.int .i64 r.f1, .string r.f4]) rfl rfl (by kernel_rfl) (by kernel_rfl) (by kernel_rfl) (by kernel_rfl) (fun _ _ _ h => h) (yl_pure (by kernel_rfl) (fun _ => by kernel_rfl)) ?_
  refine At.step 13 (some 51) rfl rfl (by kernel_rfl) (by kernel_rfl) (fun u W => u = .slice (some ⟨WA.heap.size, 0, none⟩) 1 1 ∧ W = WA.alloc (.cells #[.int .i64 r.f1, .string r.f4] 63)) (gives_run (by kernel_rfl)) ?_
  rintro u WB ⟨rfl, hWB⟩
  refine ⟨by rw [hWB]; exact held_cons (.inr (cell_allocY (atB hbA (by exact d4)))) (held_cons (.inl (by kernel_rfl)) (held_cons (.inl (by kernel_rfl)) (held_nil))), ?_⟩
  have HOA : Hid (WA.ownsRow base 63 2 (.slice p x.f4.length cap) x.f4.length (rEntry x.f4)) := own_bel (show w3.drew.ownsRow _ _ _ _ _ _ from HO3.out) hbA (Nat.le_refl _)
  have HBA : Hid (Below w.heap.size w WA) := (HBw3.out.drew).trans (hbA.mono HBw3.out.size)
  have HXA : Hid (WA.heap[b]? = some (.cells #[.int .i64 x.f0, .int .i64 x.f1, .int .i64 x.f2, .int .i64 x.f3, .slice p x.f4.length cap] 26)) := (hbA.block _ (lt_of_some HX3.out)).trans HX3.out
  have HOB : Hid (WB.ownsRow base 63 2 (.slice p x.f4.length cap) x.f4.length (rEntry x.f4)) := by rw [hWB]; exact HOA.out.alloc _
  have HBB2 : Hid (Below w.heap.size w WB) := by rw [hWB]; exact HBA.out.alloc HBA.out.size _
  obtain ⟨v', WC, hrunC, hownC, hgrowC, _⟩ := run_append_own (P := Tryd.prog) WB base 24 24 63 iR (.agg #[.int .i64 0, .string ⟨#[]⟩]) 2 24 Tryd.underlying24 hiR hR0 hR1 hR2 rfl (by decide) (.slice p x.f4.length cap) x.f4.length _ HOB.out ⟨WA.heap.size, 0, none⟩ 1 1 [.int .i64 r.f1, .string r.f4] rfl (by rw [hWB]; exact cell_two_newS WA _ _ _) (by intro u hu; simp at hu; rcases hu with rfl | rfl <;> rfl) (by have := HL.out.1; unfold maxLen; omega) (by have := HL.out.1; omega) (by have := HBB2.out.size; have := HBB.out; omega)
  obtain ⟨q3, c3, hv3⟩ := own_sliceS hownC
  subst hv3
  refine At.step 14 (some 52) rfl rfl (by kernel_rfl) (by kernel_rfl) (fun u W => u = .slice q3 (x.f4.length + 1) c3 ∧ W = WC) (gives_append (fun _ => by kernel_rfl) hrunC) ?_
  rintro u WC' ⟨rfl, hWC⟩
  subst hWC
  refine ⟨held_cons (.inl (by kernel_rfl)) (held_cons (.inl (by kernel_rfl)) (held_cons (.inl (by kernel_rfl)) (held_nil))), ?_⟩
  have HXC : Hid (WC'.heap[b]? = some (.cells #[.int .i64 x.f0, .int .i64 x.f1, .int .i64 x.f2, .int .i64 x.f3, .slice p x.f4.length cap] 26)) := heap_grownN (by rw [← hWB]; exact hgrowC) (own_ne HOA.out HXA.out) HXA.out
  have gC := (box5 HXC.out).2.2.2.2
  have gf := frz5 HXC.out
  refine At.take 15 (some 53) (.pointer (some ⟨b, 0, none⟩)) rfl rfl (by kernel_rfl) (by kernel_rfl) (by kernel_rfl) (by kernel_rfl) (fun _ _ _ h => h) (yl_pure (by kernel_rfl) (fun _ => by kernel_rfl)) ?_
  refine At.take 16 (some 54) (.pointer (some ⟨b, 4, none⟩)) rfl rfl (by kernel_rfl) (by kernel_rfl) (by kernel_rfl) (by kernel_rfl) (fun _ _ _ h => h) (yl_pure (by kernel_rfl) (fun _ => by kernel_rfl)) ?_
  refine At.step 17 none rfl rfl (by kernel_rfl) (by kernel_rfl) (fun u W => u = undef ∧ W = WC'.setCell ⟨b, 4, none⟩ (.slice q3 (x.f4.length + 1) c3)) (gives_store (p := ⟨b, 4, none⟩) (x := .slice q3 (x.f4.length + 1) c3) (y := .slice p x.f4.length cap) (fun _ => by kernel_rfl) (by rfl) gC (gf 4)) ?_
  rintro u WE ⟨rfl, hWE⟩
  refine ⟨held_cons (.inl (by kernel_rfl)) (held_cons (.inl (by kernel_rfl)) (held_cons (.inl (by kernel_rfl)) (held_nil))), ?_⟩
  refine At.done (by kernel_rfl) ?_
  simp only [Act.put, List.setIfInBounds_toArray, List.set_cons_zero, List.set_cons_succ]
  have HL7 : Hid ((x.f4 ++ ([⟨r.f1, r.f4⟩] : List S_Entry)).length = x.f4.length + 1) := by show _ = _; rw [List.length_append]; rfl
  have HXE : Hid (WE.heap[b]? = some (.cells #[.int .i64 x.f0, .int .i64 x.f1, .int .i64 x.f2, .int .i64 x.f3, .slice q3 (x.f4.length + 1) c3] 26)) := by rw [hWE]; exact heap_setCell_same WC' b 4 _ _ (.slice q3 (x.f4.length + 1) c3) HXC.out
  have HOE : Hid (WE.ownsRow base 63 2 (.slice q3 (x.f4.length + 1) c3) (x.f4.length + 1) (rEntry (x.f4 ++ ([⟨r.f1, r.f4⟩] : List S_Entry)))) := by rw [hWE, rEntry_one]; exact own_setS hownC _ (own_ne hownC HXC.out)
  have HBE : Hid (Below B w WE) := by rw [hWE]; exact ((HBB2.out.mono (by have := HBB.out; omega) : Below B w WB).grown hgrowC (by have := HBB.out; have := HBB2.out.size; omega) (fun k hk => by have := (HOB.out.lt k hk).1; have := HBB.out; omega)).setCell (by exact HBB.out.2.2.1) _
  clear hWE hWB hownC hgrowC hrunC hbA e1 e2 d4 gC gf HOB HBB2 HOA HBA HXA HXC
  go_wp2
  go_ret
  exact stR_yes (q := q3) (c := c3) (y := ⟨x.f0, x.f1, x.f2, x.f3, x.f4 ++ ([⟨r.f1, r.f4⟩] : List S_Entry)⟩) HF.out HE.out (by show WE.heap[b]? = some (Obj.cells #[.int .i64 x.f0, .int .i64 x.f1, .int .i64 x.f2, .int .i64 x.f3, .slice q3 (x.f4 ++ ([⟨r.f1, r.f4⟩] : List S_Entry)).length c3] _); rw [HL7.out]; exact HXE.out) (by show WE.ownsRow _ _ _ (.slice q3 (x.f4 ++ ([⟨r.f1, r.f4⟩] : List S_Entry)).length c3) (x.f4 ++ ([⟨r.f1, r.f4⟩] : List S_Entry)).length _; rw [HL7.out]; exact HOE.out) HBE.out

end Go.Proofs.YthlokfcejojdhaaDoor

/- WalStep of the program. -/
namespace Go.Proofs.YthlokfcejojdhaaDoor
open Go.RowKit
set_option linter.unusedVariables false
set_option linter.unusedSimpArgs false

theorem ofV_yes {r : S_Rec} (h : okR r) : ofV r = recV r := by
  unfold ofV
  first | exact if_pos h | simp [h]

theorem okR_idx {r : S_Rec} (h : okR r) : 0 ≤ r.f2 ∧ r.f2 ≤ 1000000 := by
  unfold okR at h
  omega

theorem recV_1 {r : S_Rec} (h : r.f0 = 1) : recV r = .iface 42 (.agg #[.int .i64 r.f1, .int .i64 r.f3]) := by unfold recV; rw [if_pos h]
theorem recV_2 {r : S_Rec} (h : r.f0 = 2) : recV r = .iface 85 (.agg #[.int .i64 r.f2, .int .i64 r.f1, .string r.f4]) := by unfold recV; rw [if_neg (by omega), if_pos h]
theorem recV_3 {r : S_Rec} (h : r.f0 = 3) : recV r = .iface 91 (.agg #[.int .i64 r.f2]) := by unfold recV; rw [if_neg (by omega), if_neg (by omega), if_pos h]
theorem recV_4 {r : S_Rec} (h : r.f0 = 4) : recV r = .iface 40 (.agg #[.int .i64 r.f1, .int .i64 r.f2]) := by unfold recV; rw [if_neg (by omega), if_neg (by omega), if_neg (by omega), if_pos h]

theorem ws_st {x : S_Wal} {r : S_Rec} (h : okW x) (h2 : okR r) : wsF x r = stG x r ∧ wsB x r = decide (fitsR x r) := by
  by_cases hf : fitsR x r
  · have := ws_yes h ⟨h2, hf⟩
    exact ⟨this.1.trans (if_pos hf).symm, this.2.trans (decide_eq_true hf).symm⟩
  · have := ws_no h (fun h' => hf h'.2)
    exact ⟨this.1.trans (if_neg hf).symm, this.2.trans (decide_eq_false hf).symm⟩

theorem step_none {x : S_Wal} {r : S_Rec} {b base B : Nat} {w w' : World} {e : Ending} {q : Option Addr} {c : Nat} (h : ¬ fitsR x r) (h1 : w.heap[b]? = some (.cells #[.int .i64 x.f0, .int .i64 x.f1, .int .i64 x.f2, .int .i64 x.f3, .slice q x.f4.length c] 26)) (h2 : w.ownsRow base 63 2 (.slice q x.f4.length c) x.f4.length (rEntry x.f4)) (hB : B ≤ w.heap.size) (he : e = .returned (.bool false)) (hb : Below w.heap.size w w') : StR x r b base B w e w' := by
  rw [he]
  exact stR_no h ((hb.block _ (lt_of_some h1)).trans h1) (own_bel h2 hb (Nat.le_refl _)) (hb.mono hB)

end Go.Proofs.YthlokfcejojdhaaDoor
