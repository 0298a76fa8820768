/- The program's records told, and taken, by contracts. -/
import Derived.Test.YthlokfcejojdhaaDoorWrWalk
import Derived.Test.YthlokfcejojdhaaDoorRgCut
namespace Go.Proofs.YthlokfcejojdhaaDoor
open Go.RowKit
set_option linter.unusedVariables false

theorem ta01 : ∀ (v : Value) (W : World), (Instr.typeAssert .nilIface 49 42 true).run Tryd.prog W = .ok (.tuple #[.agg #[.int .i64 0, .int .i64 0], .bool false]) W := fun v W => by kernel_rfl

theorem ta02 : ∀ (v : Value) (W : World), (Instr.typeAssert .nilIface 49 85 true).run Tryd.prog W = .ok (.tuple #[.agg #[.int .i64 0, .int .i64 0, .string ⟨#[]⟩], .bool false]) W := fun v W => by kernel_rfl

theorem ta03 : ∀ (v : Value) (W : World), (Instr.typeAssert .nilIface 49 91 true).run Tryd.prog W = .ok (.tuple #[.agg #[.int .i64 0], .bool false]) W := fun v W => by kernel_rfl

theorem ta04 : ∀ (v : Value) (W : World), (Instr.typeAssert .nilIface 49 40 true).run Tryd.prog W = .ok (.tuple #[.agg #[.int .i64 0, .int .i64 0], .bool false]) W := fun v W => by kernel_rfl

theorem ta11 : ∀ (v : Value) (W : World), (Instr.typeAssert (.iface 42 v) 49 42 true).run Tryd.prog W = .ok (.tuple #[v, .bool true]) W := fun v W => by kernel_rfl

theorem ta12 : ∀ (v : Value) (W : World), (Instr.typeAssert (.iface 42 v) 49 85 true).run Tryd.prog W = .ok (.tuple #[.agg #[.int .i64 0, .int .i64 0, .string ⟨#[]⟩], .bool false]) W := fun v W => by kernel_rfl

theorem ta13 : ∀ (v : Value) (W : World), (Instr.typeAssert (.iface 42 v) 49 91 true).run Tryd.prog W = .ok (.tuple #[.agg #[.int .i64 0], .bool false]) W := fun v W => by kernel_rfl

theorem ta14 : ∀ (v : Value) (W : World), (Instr.typeAssert (.iface 42 v) 49 40 true).run Tryd.prog W = .ok (.tuple #[.agg #[.int .i64 0, .int .i64 0], .bool false]) W := fun v W => by kernel_rfl

theorem ta21 : ∀ (v : Value) (W : World), (Instr.typeAssert (.iface 85 v) 49 42 true).run Tryd.prog W = .ok (.tuple #[.agg #[.int .i64 0, .int .i64 0], .bool false]) W := fun v W => by kernel_rfl

theorem ta22 : ∀ (v : Value) (W : World), (Instr.typeAssert (.iface 85 v) 49 85 true).run Tryd.prog W = .ok (.tuple #[v, .bool true]) W := fun v W => by kernel_rfl

theorem ta23 : ∀ (v : Value) (W : World), (Instr.typeAssert (.iface 85 v) 49 91 true).run Tryd.prog W = .ok (.tuple #[.agg #[.int .i64 0], .bool false]) W := fun v W => by kernel_rfl

theorem ta24 : ∀ (v : Value) (W : World), (Instr.typeAssert (.iface 85 v) 49 40 true).run Tryd.prog W = .ok (.tuple #[.agg #[.int .i64 0, .int .i64 0], .bool false]) W := fun v W => by kernel_rfl

theorem ta31 : ∀ (v : Value) (W : World), (Instr.typeAssert (.iface 91 v) 49 42 true).run Tryd.prog W = .ok (.tuple #[.agg #[.int .i64 0, .int .i64 0], .bool false]) W := fun v W => by kernel_rfl

theorem ta32 : ∀ (v : Value) (W : World), (Instr.typeAssert (.iface 91 v) 49 85 true).run Tryd.prog W = .ok (.tuple #[.agg #[.int .i64 0, .int .i64 0, .string ⟨#[]⟩], .bool false]) W := fun v W => by kernel_rfl

theorem ta33 : ∀ (v : Value) (W : World), (Instr.typeAssert (.iface 91 v) 49 91 true).run Tryd.prog W = .ok (.tuple #[v, .bool true]) W := fun v W => by kernel_rfl

theorem ta34 : ∀ (v : Value) (W : World), (Instr.typeAssert (.iface 91 v) 49 40 true).run Tryd.prog W = .ok (.tuple #[.agg #[.int .i64 0, .int .i64 0], .bool false]) W := fun v W => by kernel_rfl

theorem ta41 : ∀ (v : Value) (W : World), (Instr.typeAssert (.iface 40 v) 49 42 true).run Tryd.prog W = .ok (.tuple #[.agg #[.int .i64 0, .int .i64 0], .bool false]) W := fun v W => by kernel_rfl

theorem ta42 : ∀ (v : Value) (W : World), (Instr.typeAssert (.iface 40 v) 49 85 true).run Tryd.prog W = .ok (.tuple #[.agg #[.int .i64 0, .int .i64 0, .string ⟨#[]⟩], .bool false]) W := fun v W => by kernel_rfl

theorem ta43 : ∀ (v : Value) (W : World), (Instr.typeAssert (.iface 40 v) 49 91 true).run Tryd.prog W = .ok (.tuple #[.agg #[.int .i64 0], .bool false]) W := fun v W => by kernel_rfl

theorem ta44 : ∀ (v : Value) (W : World), (Instr.typeAssert (.iface 40 v) 49 40 true).run Tryd.prog W = .ok (.tuple #[v, .bool true]) W := fun v W => by kernel_rfl

theorem cutR_ok (x : S_Rec) {y : S_Rec} (h : cutR x = y) : (.agg #[.int .i64 (cutR x).f0, .int .i64 (cutR x).f1, .int .i64 (cutR x).f2, .int .i64 (cutR x).f3, .string (cutR x).f4] : Value) = .agg #[.int .i64 y.f0, .int .i64 y.f1, .int .i64 y.f2, .int .i64 y.f3, .string y.f4] := by rw [h]

set_option maxRecDepth 20000 in
set_option maxHeartbeats 1000000 in
theorem tellRec_c (x : S_Rec) (w : World) (hz : x.f4.size ≤ 1048576) : Calls Tryd.prog 23 #[recV x] w fun e w' => e = .returned (.agg #[.int .i64 (cutR x).f0, .int .i64 (cutR x).f1, .int .i64 (cutR x).f2, .int .i64 (cutR x).f3, .string (cutR x).f4]) ∧ Below w.heap.size w w' := by
  by_cases k1 : x.f0 = 1
  · have HV : recV x = .iface 42 (.agg #[.int .i64 x.f1, .int .i64 x.f3]) := by unfold recV;  rw [if_pos k1]
    have HC : Hid (cutR x = ⟨1, x.f1, 0, x.f3, ⟨#[]⟩⟩) := by show _ = _; unfold cutR;  rw [if_pos k1]
    rw [HV]
    clear HV k1
    have ra1 := ta11
    go_enter Tryd.func23, Tryd.ntmps23
    go_wp2
    refine bodyPost_ret (v := .agg #[.int .i64 1, .int .i64 x.f1, .int .i64 0, .int .i64 x.f3, .string ⟨#[]⟩]) (by simp [results, Tryd.results23, go_sem]) rfl ⟨by rw [HC.out], ?_⟩
    exact ((Below.refl _ _).alloc (Nat.le_refl _) _).alloc (by simp) _
  by_cases k2 : x.f0 = 2
  · have HV : recV x = .iface 85 (.agg #[.int .i64 x.f2, .int .i64 x.f1, .string x.f4]) := by unfold recV; rw [if_neg k1]; rw [if_pos k2]
    have HC : Hid (cutR x = ⟨2, x.f1, x.f2, 0, x.f4⟩) := by show _ = _; unfold cutR; rw [if_neg k1]; rw [if_pos k2]
    rw [HV]
    clear HV k1 k2
    have ra1 := ta21
    have ra2 := ta22
    go_enter Tryd.func23, Tryd.ntmps23
    go_upto_region 7 with fail
    refine wp_genW (fun W => Hid (W.heap[w.heap.size]? = some (.cells #[.int .i64 0, .int .i64 0, .int .i64 0, .int .i64 0, .string ⟨#[]⟩] 57)) ∧ Hid (W.heap[w.heap.size + 1]? = some (.cells #[.int .i64 x.f2, .int .i64 x.f1, .string x.f4] 85)) ∧ Hid (Below w.heap.size w W)) ⟨?_, ?_, ?_⟩ ?_
    · exact (Below.heap_alloc _ _ _ (by simp)).trans (alloc_last _ _)
    · have := alloc_last (w.alloc (.cells #[.int .i64 0, .int .i64 0, .int .i64 0, .int .i64 0, .string ⟨#[]⟩] 57)) (.cells #[.int .i64 x.f2, .int .i64 x.f1, .string x.f4] 85)
      rw [show (w.alloc (.cells #[.int .i64 0, .int .i64 0, .int .i64 0, .int .i64 0, .string ⟨#[]⟩] 57)).heap.size = w.heap.size + 1 by simp] at this
      exact this
    · exact ((Below.refl _ _).alloc (Nat.le_refl _) _).alloc (by simp) _
    rintro W1 ⟨HR1, HX1, HB1⟩
    have c0 : W1.cell? ⟨w.heap.size + 1, 0, none⟩ = some (.int .i64 x.f2) := by simp [World.cell?, HX1.out]
    have c1 : W1.cell? ⟨w.heap.size + 1, 1, none⟩ = some (.int .i64 x.f1) := by simp [World.cell?, HX1.out]
    have c2 : W1.cell? ⟨w.heap.size + 1, 2, none⟩ = some (.string x.f4) := by simp [World.cell?, HX1.out]
    refine wp_region_L [⟨10, fun W => W.cell? ⟨w.heap.size + 1, 1, none⟩ = some (.int .i64 x.f1)⟩, ⟨10, fun W => W.cell? ⟨w.heap.size + 1, 0, none⟩ = some (.int .i64 x.f2)⟩, ⟨8, fun W => W.cell? ⟨w.heap.size + 1, 2, none⟩ = some (.string x.f4)⟩] (by kernel_rfl) (fun f hf => by
        simp only [List.mem_cons, List.not_mem_nil, or_false] at hf
        rcases hf with rfl | rfl | rfl
        · exact c1
        · exact c0
        · exact c2
        ) ?_
    refine At.take 0 (some 19) (.pointer (some ⟨w.heap.size + 1, 1, none⟩)) rfl rfl (by kernel_rfl) (by kernel_rfl) (by kernel_rfl) (by kernel_rfl) (fun _ _ _ h => h) (yl_pure (by kernel_rfl) (fun _ => by kernel_rfl)) ?_
    refine At.take 1 (some 20) (.pointer (some ⟨w.heap.size + 1, 1, none⟩)) rfl rfl (by kernel_rfl) (by kernel_rfl) (by kernel_rfl) (by kernel_rfl) (fun _ _ _ h => h) (yl_pure (by kernel_rfl) (fun _ => by kernel_rfl)) ?_
    refine At.take 2 (some 21) (.int .i64 x.f1) rfl rfl (by kernel_rfl) (by kernel_rfl) (by kernel_rfl) (by kernel_rfl) (fun _ _ _ h => h) (yl_load 10 ⟨w.heap.size + 1, 1, none⟩ (.int .i64 x.f1) (List.mem_cons_self) [9, 10] (by kernel_rfl) rfl (by kernel_rfl) (fun _ => by kernel_rfl)) ?_
    refine At.take 3 (some 22) (.pointer (some ⟨w.heap.size + 1, 0, none⟩)) rfl rfl (by kernel_rfl) (by kernel_rfl) (by kernel_rfl) (by kernel_rfl) (fun _ _ _ h => h) (yl_pure (by kernel_rfl) (fun _ => by kernel_rfl)) ?_
    refine At.take 4 (some 23) (.int .i64 x.f2) rfl rfl (by kernel_rfl) (by kernel_rfl) (by kernel_rfl) (by kernel_rfl) (fun _ _ _ h => h) (yl_load 10 ⟨w.heap.size + 1, 0, none⟩ (.int .i64 x.f2) (List.mem_cons_of_mem _ (List.mem_cons_self)) [9, 10] (by kernel_rfl) rfl (by kernel_rfl) (fun _ => by kernel_rfl)) ?_
    refine At.take 5 (some 24) (.pointer (some ⟨w.heap.size + 1, 1, none⟩)) rfl rfl (by kernel_rfl) (by kernel_rfl) (by kernel_rfl) (by kernel_rfl) (fun _ _ _ h => h) (yl_pure (by kernel_rfl) (fun _ => by kernel_rfl)) ?_
    refine At.take 6 (some 25) (.pointer (some ⟨w.heap.size + 1, 2, none⟩)) rfl rfl (by kernel_rfl) (by kernel_rfl) (by kernel_rfl) (by kernel_rfl) (fun _ _ _ h => h) (yl_pure (by kernel_rfl) (fun _ => by kernel_rfl)) ?_
    refine At.take 7 (some 26) (.string x.f4) rfl rfl (by kernel_rfl) (by kernel_rfl) (by kernel_rfl) (by kernel_rfl) (fun _ _ _ h => h) (yl_load 8 ⟨w.heap.size + 1, 2, none⟩ (.string x.f4) (List.mem_cons_of_mem _ (List.mem_cons_of_mem _ (List.mem_cons_self))) [8] (by kernel_rfl) rfl (by kernel_rfl) (fun _ => by kernel_rfl)) ?_
    refine At.step 8 (some 27) rfl rfl (by kernel_rfl) (by kernel_rfl) (fun u W => u = .string x.f4 ∧ Below W1.drew.heap.size W1.drew W) (gives_call (by kernel_rfl) ((clone_c x.f4 W1.drew (by have := hz; omega)).mono fun e w' ⟨he, hb⟩ => ⟨_, he, rfl, hb⟩)) ?_
    rintro u W2 ⟨rfl, hb2⟩
    refine ⟨held_cons (.inr ((hb2.cell (by show w.heap.size + 1 < W1.drew.heap.size; exact lt_of_some HX1.out)).trans (c1))) (held_cons (.inr ((hb2.cell (by show w.heap.size + 1 < W1.drew.heap.size; exact lt_of_some HX1.out)).trans (c0))) (held_cons (.inl (by kernel_rfl)) (held_nil))), ?_⟩
    refine At.take 9 (some 28) (.agg #[.int .i64 2, .int .i64 x.f1, .int .i64 x.f2, .int .i64 0, .string x.f4]) rfl rfl (by kernel_rfl) (by kernel_rfl) (by kernel_rfl) (by kernel_rfl) (fun _ _ _ h => h) (yl_pure (by kernel_rfl) (fun _ => by kernel_rfl)) ?_
    have HTH : Hid (W2.there (w.heap.size) 0 5) := fun j hj => by
      have hR2 := (hb2.block (w.heap.size) (lt_of_some HR1.out)).trans HR1.out
      have : W2.heap[w.heap.size]? = some (.cells #[.int .i64 0, .int .i64 0, .int .i64 0, .int .i64 0, .string ⟨#[]⟩] 57) := hR2
      rcases j with _ | _ | _ | _ | _ | j <;> first | omega | simp [World.cell?, World.frozen?, this]
    refine At.step 10 none rfl rfl (by kernel_rfl) (by kernel_rfl) (fun u W => u = undef ∧ W = W2.setCells (w.heap.size) 0 [.int .i64 2, .int .i64 x.f1, .int .i64 x.f2, .int .i64 0, .string x.f4]) (gives_unit (Instr.storeAt 57 (.pointer (some ⟨w.heap.size, 0, none⟩)) (.agg #[.int .i64 2, .int .i64 x.f1, .int .i64 x.f2, .int .i64 0, .string x.f4])) (fun _ => by kernel_rfl) (run_storeAt_mid W2 (w.heap.size) 0 57 #[.int .i64 2, .int .i64 x.f1, .int .i64 x.f2, .int .i64 0, .string x.f4] HTH.out (by kernel_rfl) (by simp [Value.oneCell']))) ?_
    rintro u WE ⟨rfl, hWE⟩
    refine ⟨held_cons (.inl (by kernel_rfl)) (held_cons (.inl (by kernel_rfl)) (held_cons (.inl (by kernel_rfl)) (held_nil))), ?_⟩
    refine At.done (by kernel_rfl) ?_
    simp only [Act.put, List.setIfInBounds_toArray, List.set_cons_zero, List.set_cons_succ]
    have hr : WE.rangeAt (w.heap.size) 0 [.int .i64 2, .int .i64 x.f1, .int .i64 x.f2, .int .i64 0, .string x.f4] := by rw [hWE]; exact World.rangeAt_setCells_same W2 (w.heap.size) 0 _ HTH.out
    have HBE : Hid (Below w.heap.size w WE) := by
      rw [hWE]
      exact bel_setCells (Nat.le_refl _) _ _ _ ((HB1.out.drew).trans (hb2.mono HB1.out.size))
    have z0 : WE.cell? ⟨w.heap.size, 0, none⟩ = some (.int .i64 2) := by have := hr 0 _ rfl; rwa [Nat.zero_add] at this
    have z1 : WE.cell? ⟨w.heap.size, 1, none⟩ = some (.int .i64 x.f1) := by have := hr 1 _ rfl; rwa [Nat.zero_add] at this
    have z2 : WE.cell? ⟨w.heap.size, 2, none⟩ = some (.int .i64 x.f2) := by have := hr 2 _ rfl; rwa [Nat.zero_add] at this
    have z3 : WE.cell? ⟨w.heap.size, 3, none⟩ = some (.int .i64 0) := by have := hr 3 _ rfl; rwa [Nat.zero_add] at this
    have z4 : WE.cell? ⟨w.heap.size, 4, none⟩ = some (.string x.f4) := by have := hr 4 _ rfl; rwa [Nat.zero_add] at this
    clear hr hWE hb2 c0 c1 c2
    go_wp2
    exact bodyPost_ret (v := .agg #[.int .i64 2, .int .i64 x.f1, .int .i64 x.f2, .int .i64 0, .string x.f4]) (by simp [results, Tryd.results23, go_sem, z0, z1, z2, z3, z4]) rfl ⟨by rw [HC.out], HBE.out⟩
  by_cases k3 : x.f0 = 3
  · have HV : recV x = .iface 91 (.agg #[.int .i64 x.f2]) := by unfold recV; rw [if_neg k1]; rw [if_neg k2]; rw [if_pos k3]
    have HC : Hid (cutR x = ⟨3, 0, x.f2, 0, ⟨#[]⟩⟩) := by show _ = _; unfold cutR; rw [if_neg k1]; rw [if_neg k2]; rw [if_pos k3]
    rw [HV]
    clear HV k1 k2 k3
    have ra1 := ta31
    have ra2 := ta32
    have ra3 := ta33
    go_enter Tryd.func23, Tryd.ntmps23
    go_wp2
    refine bodyPost_ret (v := .agg #[.int .i64 3, .int .i64 0, .int .i64 x.f2, .int .i64 0, .string ⟨#[]⟩]) (by simp [results, Tryd.results23, go_sem]) rfl ⟨by rw [HC.out], ?_⟩
    exact ((Below.refl _ _).alloc (Nat.le_refl _) _).alloc (by simp) _
  by_cases k4 : x.f0 = 4
  · have HV : recV x = .iface 40 (.agg #[.int .i64 x.f1, .int .i64 x.f2]) := by unfold recV; rw [if_neg k1]; rw [if_neg k2]; rw [if_neg k3]; rw [if_pos k4]
    have HC : Hid (cutR x = ⟨4, x.f1, x.f2, 0, ⟨#[]⟩⟩) := by show _ = _; unfold cutR; rw [if_neg k1]; rw [if_neg k2]; rw [if_neg k3]; rw [if_pos k4]
    rw [HV]
    clear HV k1 k2 k3 k4
    have ra1 := ta41
    have ra2 := ta42
    have ra3 := ta43
    have ra4 := ta44
    go_enter Tryd.func23, Tryd.ntmps23
    go_wp2
    refine bodyPost_ret (v := .agg #[.int .i64 4, .int .i64 x.f1, .int .i64 x.f2, .int .i64 0, .string ⟨#[]⟩]) (by simp [results, Tryd.results23, go_sem]) rfl ⟨by rw [HC.out], ?_⟩
    exact ((Below.refl _ _).alloc (Nat.le_refl _) _).alloc (by simp) _
  have HV : recV x = .nilIface := by unfold recV; rw [if_neg k1, if_neg k2, if_neg k3, if_neg k4]
  have HC : Hid (cutR x = ⟨0, 0, 0, 0, ⟨#[]⟩⟩) := by show _ = _; unfold cutR; rw [if_neg k1, if_neg k2, if_neg k3, if_neg k4]
  rw [HV]
  clear HV k1 k2 k3 k4
  have ra1 := ta01 undef
  have ra2 := ta02 undef
  have ra3 := ta03 undef
  have ra4 := ta04 undef
  go_enter Tryd.func23, Tryd.ntmps23
  go_wp2
  exact bodyPost_ret (v := .agg #[.int .i64 0, .int .i64 0, .int .i64 0, .int .i64 0, .string ⟨#[]⟩]) (by simp [results, Tryd.results23, go_sem]) rfl ⟨by rw [HC.out], (Below.refl _ _).alloc (Nat.le_refl _) _⟩

end Go.Proofs.YthlokfcejojdhaaDoor
