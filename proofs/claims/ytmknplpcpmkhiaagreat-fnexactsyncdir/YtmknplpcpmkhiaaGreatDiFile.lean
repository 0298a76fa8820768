/- What has a name now, by contracts: the program's own, the specification's. -/
import Derived.Test.YtmknplpcpmkhiaaGreatDkOk
namespace Go.Proofs.YtmknplpcpmkhiaaGreat
open Go.RowKit Go.Maps
set_option linter.unusedVariables false

/-- The Id that a name leads to among links, 0 where there is none. -/
def idOf (L : List S_Link) (s : ByteArray) : Int := if at4 L s < 0 then 0 else (L[(at4 L s).toNat]?.map (·.f1)).getD 0

theorem at_encL0 (L : List S_Link) (nm : ByteArray) : (encL L).atKey (.string nm.data.toList) (.lit (.int .i64 0)) = .lit (.int .i64 (idOf L nm)) := by
  by_cases h : at4 L nm < 0
  · have h1 := has_encL L nm
    rw [decide_eq_true h] at h1
    rw [idOf, if_pos h]
    exact Maps.atKey_of_not_has h1 _
  · rw [idOf, if_neg h]
    exact at_encL L nm _ h

/-- Where a file lies. -/
def fptr (fs : List (S_Inode × Nat)) (i : Int) : Value := match fs.find? fun p => decide (p.1.f0 = i) with | some p => .pointer (some ⟨p.2, 0, none⟩) | none => .pointer none

set_option maxRecDepth 20000 in
set_option maxHeartbeats 1000000 in
theorem fileOf_c (B m : Nat) (room next : Int) (bf bd bn : Nat) (vm : Value) (fs : List (S_Inode × Nat)) (h : Int → Bool) (L : List S_Link) (s : ByteArray) (w : World) (hm : w.heap[m]? = some (mObj room next bf bd (.map (some bn)) vm)) (Fl : Fls B w bf fs h)
    (hn : w.ownsMap Tryz.prog 9 (plainElem Tryz.prog 3) bn L.length (encL L)) (hs : s.size ≤ maxLen) :
    Calls Tryz.prog 59 #[.pointer (some ⟨m, 0, none⟩), .string s] w fun e w' => e = .returned (.tuple #[fptr fs (idOf L s), .bool (hasF fs (idOf L s))]) ∧ w' = w.drew := by
  obtain ⟨_, _, cf, _, cn, _⟩ := mount_cell hm
  obtain ⟨c, hrun, hc, hcw⟩ := World.ownsMap.lookup_int (w := w.drew) (by exact hn) kStr Tryz.underlying95 Tryz.underlying3 (zeroInt _) (Go.WideMaps.keyOf_string_mk Tryz.underlying9 hs)
  rw [at_encL0] at hc
  obtain rfl : idOf L s = c := by simpa using hc
  clear hc
  obtain ⟨v, ps, hrun2, hv⟩ := World.ownsMap.look_ok (w := w.drew) (by exact Fl.own) kInt Tryz.underlying93 (zeroPtr w.drew) ptrElem_nil (keyOf_int_mk Tryz.underlying3 hcw)
  rw [has_encF] at hrun2
  rw [at_encF] at hv
  generalize idOf L s = i at hrun hcw hrun2 hv ⊢
  obtain rfl : v = fptr fs i := by
    unfold fptr
    split at hv
    · rename_i p hp
      rw [hp]
      exact ptrElem_blk hv
    · rename_i hp
      rw [hp]
      unfold ptrElem at hv
      split at hv <;> simp at hv
      rfl
  have hrun3 : (Instr.lookup 93 (.map (some bf)) (.int .i64 i) true).run Tryz.prog w.drew = .ok (.tuple #[fptr fs i, .bool (hasF fs i)]) w.drew := hrun2
  have c2 : w.drew.cell? ⟨m, 2, none⟩ = some (.map (some bf)) := cf
  have c4 : w.drew.cell? ⟨m, 4, none⟩ = some (.map (some bn)) := cn
  clear hv hcw hrun2 Fl hn hm
  generalize fptr fs i = V at *
  generalize hasF fs i = Bv at *
  go_enter Tryz.func59, Tryz.ntmps59
  go_upto_region 1 with fail
  refine wp_region_told (fun W => W = w.drew) (by kernel_rfl) (by kernel_rfl) rfl ?_
  refine told_pure (some 9) (.pointer (some ⟨m, 0, none⟩)) rfl (by kernel_rfl) (fun _ => by kernel_rfl) ?_
  refine told_pure (some 10) (.pointer (some ⟨m, 0, none⟩)) rfl (by kernel_rfl) (fun _ => by kernel_rfl) ?_
  refine told_pure (some 11) (.pointer (some ⟨m, 2, none⟩)) rfl (by kernel_rfl) (fun _ => by kernel_rfl) ?_
  refine told_load (some 12) ⟨m, 2, none⟩ (.map (some bf)) rfl (by kernel_rfl) (fun _ => by kernel_rfl) (fun _ hS => (by subst hS; exact c2)) ?_
  refine told_pure (some 13) (.pointer (some ⟨m, 0, none⟩)) rfl (by kernel_rfl) (fun _ => by kernel_rfl) ?_
  refine told_pure (some 14) (.pointer (some ⟨m, 0, none⟩)) rfl (by kernel_rfl) (fun _ => by kernel_rfl) ?_
  refine told_pure (some 15) (.pointer (some ⟨m, 4, none⟩)) rfl (by kernel_rfl) (fun _ => by kernel_rfl) ?_
  refine told_load (some 16) ⟨m, 4, none⟩ (.map (some bn)) rfl (by kernel_rfl) (fun _ => by kernel_rfl) (fun _ hS => (by subst hS; exact c4)) ?_
  refine told_pure (some 17) (.string s) rfl (by kernel_rfl) (fun _ => by kernel_rfl) ?_
  refine told_run (some 18) (.int .i64 i) (Instr.lookup 95 (.map (some bn)) (.string s) false) rfl (by kernel_rfl) (fun _ => by kernel_rfl) (fun W hS => by subst hS; exact hrun) ?_
  refine told_run (some 19) (.tuple #[V, .bool Bv]) (Instr.lookup 93 (.map (some bf)) (.int .i64 i) true) rfl (by kernel_rfl) (fun _ => by kernel_rfl) (fun W hS => by subst hS; exact hrun3) ?_
  refine told_pure (some 8) (.tuple #[V, .bool Bv]) rfl (by kernel_rfl) (fun _ => by kernel_rfl) ?_
  refine told_pure (some 20) (V) rfl (by kernel_rfl) (fun _ => by kernel_rfl) ?_
  refine told_pure (some 21) (.bool Bv) rfl (by kernel_rfl) (fun _ => by kernel_rfl) ?_
  refine told_pure (some 6) (V) rfl (by kernel_rfl) (fun _ => by kernel_rfl) ?_
  refine told_pure (some 7) (.bool Bv) rfl (by kernel_rfl) (fun _ => by kernel_rfl) ?_
  refine told_nil ?_
  intro w9 hS9
  subst hS9
  simp only [Act.put, List.setIfInBounds_toArray, List.set_cons_zero, List.set_cons_succ]
  go_wp2
  go_ret2
  exact ⟨rfl, rfl⟩

/-- The place of the inode that a name leads to, or -1. -/
def fnd (x : S_Disk) (s : ByteArray) : Int := if at4 (nms x.f3 x.f4) s < 0 then -1 else idx (fun y : S_Inode => decide (y.f0 = idOf (nms x.f3 x.f4) s)) x.f2

set_option maxRecDepth 20000 in
set_option maxHeartbeats 1000000 in
theorem find_c (x : S_Disk) (p2 p3 p4 : Option Addr) (c2 c3 c4 : Nat) (s : ByteArray) (w : World) (hn : LnDisk x 1048576) (hsum : x.f3.length + x.f4.length ≤ 1048576) (hs : ∀ y ∈ x.f4, sMove y) (hsz : s.size ≤ maxLen)
    (hr : RdDisk w x (.slice p2 x.f2.length c2) (.slice p3 x.f3.length c3) (.slice p4 x.f4.length c4)) :
    Calls Tryz.prog 39 #[.agg #[.int .i64 x.f0, .int .i64 x.f1, .slice p2 x.f2.length c2, .slice p3 x.f3.length c3, .slice p4 x.f4.length c4], .string s] w fun e w' => e = .returned (.int .i64 (fnd x s)) ∧ Below w.heap.size w w' := by
  obtain ⟨W0, hW0⟩ : ∃ W, W = w.alloc (.cells #[.int .i64 x.f0, .int .i64 x.f1, .slice p2 x.f2.length c2, .slice p3 x.f3.length c3, .slice p4 x.f4.length c4] 28) := ⟨_, rfl⟩
  have HW0 : Hid (w.alloc (.cells #[.int .i64 x.f0, .int .i64 x.f1, .slice p2 x.f2.length c2, .slice p3 x.f3.length c3, .slice p4 x.f4.length c4] 28) = W0) := hW0.symm
  have HS0 : Hid (W0.heap.size = w.heap.size + 1) := by show _ = _; rw [hW0]; simp
  have HB0 : Hid (Below w.heap.size w W0) := by rw [hW0]; exact (Below.refl _ _).alloc (Nat.le_refl _) _
  have HBX : Hid (∀ W', Below W0.heap.size W0 W' → W'.cell? ⟨w.heap.size, 0, none⟩ = some (.int .i64 x.f0) ∧ W'.cell? ⟨w.heap.size, 1, none⟩ = some (.int .i64 x.f1) ∧ W'.cell? ⟨w.heap.size, 2, none⟩ = some (.slice p2 x.f2.length c2) ∧ W'.cell? ⟨w.heap.size, 3, none⟩ = some (.slice p3 x.f3.length c3) ∧ W'.cell? ⟨w.heap.size, 4, none⟩ = some (.slice p4 x.f4.length c4)) := fun W' hbel => by
    have hk : W'.heap[w.heap.size]? = some (.cells #[.int .i64 x.f0, .int .i64 x.f1, .slice p2 x.f2.length c2, .slice p3 x.f3.length c3, .slice p4 x.f4.length c4] 28) := by rw [hbel.block _ (by rw [HS0.out]; exact Nat.lt_succ_self _), hW0]; exact alloc_at _ _
    exact (disk_cell hk).1
  have HRD : Hid (∀ W', Below W0.heap.size W0 W' → RdDisk W' x (.slice p2 x.f2.length c2) (.slice p3 x.f3.length c3) (.slice p4 x.f4.length c4)) := fun W' hbel => (hr.keep HB0.out (Nat.le_refl _)).keep hbel (Nat.le_refl _)
  have HDN : Hid (∀ W', Below W0.heap.size W0 W' → Below w.heap.size w W') := fun W' hbel => HB0.out.trans (hbel.mono (by rw [HS0.out]; exact Nat.le_succ _))
  have HLN : Hid (LnDisk x 1048576) := hn
  have HSU : Hid (x.f3.length + x.f4.length ≤ 1048576) := hsum
  have HSM : Hid (∀ y ∈ x.f4, sMove y) := hs
  have hl4 : (x.f4.length : Int) ≤ 1048576 := by have := hn.2.2; omega
  obtain ⟨L, hL⟩ : ∃ L, L = nms x.f3 x.f4 := ⟨_, rfl⟩
  have HL : Hid (nms x.f3 (x.f4.take (x.f4.length : Int).toNat) = L) := by show _ = _; rw [hL, Int.toNat_natCast, List.take_length]
  have HLL : Hid (L.length ≤ 1048576) := by show _ ≤ _; rw [hL]; have := nms_len x.f3 x.f4; omega
  have HF : Hid (fnd x s = if at4 L s < 0 then -1 else idx (fun y : S_Inode => decide (y.f0 = idOf L s)) x.f2) := by show _ = _; rw [hL]; rfl
  clear hW0 hr hn hsum hs hL
  have hm := hsz
  unfold maxLen at hm
  go_enter Tryz.func39, Tryz.ntmps39
  obtain ⟨e0, e1, e2, e3, e4⟩ := HBX.out W0 (Below.refl _ _)
  go_wp2_with fail
  rw [HW0.out]
  refine (names_c x _ _ _ (x.f4.length : Int) W0 HLN.out HSU.out HSM.out (HRD.out W0 (Below.refl _ _))).mono ?_
  rintro e w1 ⟨v, rfl, hv, b1⟩
  rw [HL.out] at hv
  have HV : Hid (RowR w1 v L.length 2 (rLink L)) := hv
  have HC1 : Hid (Below W0.heap.size W0 w1) := b1
  clear hv b1 e0 e1 e2 e3 e4
  go_wp2_with fail
  refine (at4_c v L s w1 HLL.out HV.out).mono ?_
  rintro e w2 ⟨rfl, hw2⟩
  replace hw2 := hw2.symm
  subst hw2
  rw [show idx (fun x : S_Link => decide (x.f0 = s)) L = at4 L s from rfl]
  obtain ⟨e0, e1, e2, e3, e4⟩ := HBX.out w1 HC1.out
  by_cases hneg : at4 L s < 0
  · have HE : Hid (fnd x s = -1) := by show _ = _; rw [HF.out, if_pos hneg]
    go_wp2
    go_ret
    exact ⟨by rw [HE.out]; rfl, HDN.out _ HC1.out⟩
  · obtain ⟨k, hk⟩ : ∃ k : Nat, at4 L s = k := ⟨(at4 L s).toNat, by omega⟩
    have hkl : k < L.length := by have := (idx_range (fun x : S_Link => decide (x.f0 = s)) L).2; have e : at4 L s = idx (fun x : S_Link => decide (x.f0 = s)) L := rfl; omega
    obtain ⟨b, off, cap, hvv, hbl, hcc⟩ := link_cells HV.out (by omega)
    subst hvv
    obtain ⟨_, d1⟩ := hcc k hkl
    obtain ⟨id, hid⟩ : ∃ id, L[k].f1 = id := ⟨_, rfl⟩
    rw [hid] at d1
    have HE : Hid (fnd x s = idx (fun y : S_Inode => decide (y.f0 = id)) x.f2) := by
      show _ = _
      rw [HF.out, if_neg hneg]
      have : idOf L s = id := by unfold idOf; rw [if_neg hneg, hk, Int.toNat_natCast, List.getElem?_eq_getElem hkl, ← hid]; rfl
      rw [this]
    rw [hk] at hneg ⊢
    have hk1 : (k : Int) < L.length := by omega
    have HIN : Hid (∀ W, Below w1.heap.size w1 W → Calls Tryz.prog 64 #[.agg #[.int .i64 x.f0, .int .i64 x.f1, .slice p2 x.f2.length c2, .slice p3 x.f3.length c3, .slice p4 x.f4.length c4], .int .i64 id] W fun e w' => e = .returned (.int .i64 (fnd x s)) ∧ Below w1.heap.size w1 w') := fun W hS => by
      rw [HE.out]
      exact below_S (inode_c x _ _ _ id W HLN.out ((HRD.out w1 HC1.out).keep hS (Nat.le_refl _))) hS
    have hl1 : (L.length : Int) ≤ 1048576 := by have := HLL.out; omega
    clear hcc hk hid hbl
    go_upto_region 5 with fail
    refine wp_region_told (fun W => Below w1.heap.size w1 W) (by kernel_rfl) (by kernel_rfl) ((Below.refl w1.heap.size w1).drew) ?_
    refine told_loads (some 17) ⟨w.heap.size, 0, none⟩ [.int .i64 x.f0, .int .i64 x.f1, .slice p2 x.f2.length c2, .slice p3 x.f3.length c3, .slice p4 x.f4.length c4] rfl (by kernel_rfl) (fun _ => by kernel_rfl) (fun _ hS => cells5 (atB hS e0) (atB hS e1) (atB hS e2) (atB hS e3) (atB hS e4)) ?_
    refine told_pure (some 18) (.slice (some ⟨b, off, none⟩) L.length cap) rfl (by kernel_rfl) (fun _ => by kernel_rfl) ?_
    refine told_pure (some 19) (.int .i64 (k : Int)) rfl (by kernel_rfl) (fun _ => by kernel_rfl) ?_
    refine told_pure (some 20) (.pointer (some ⟨b, off + k * 2, none⟩)) rfl (by kernel_rfl) (fun w => by go_simp) ?_
    refine told_pure (some 21) (.pointer (some ⟨b, off + k * 2 + 1, none⟩)) rfl (by kernel_rfl) (fun _ => by kernel_rfl) ?_
    refine told_load (some 22) ⟨b, off + k * 2 + 1, none⟩ (.int .i64 id) rfl (by kernel_rfl) (fun _ => by kernel_rfl) (fun _ hS => atB hS d1) ?_
    refine told_call (some 23) (.int .i64 (fnd x s)) 64 #[.agg #[.int .i64 x.f0, .int .i64 x.f1, .slice p2 x.f2.length c2, .slice p3 x.f3.length c3, .slice p4 x.f4.length c4], .int .i64 id] rfl (by kernel_rfl) (fun _ => by kernel_rfl) (fun W hS => HIN.out W hS) ?_
    refine told_pure (some 4) (.int .i64 (fnd x s)) rfl (by kernel_rfl) (fun _ => by kernel_rfl) ?_
    refine told_nil ?_
    intro w9 hS9
    have HC9 : Hid (Below W0.heap.size W0 w9) := HC1.out.trans (Below.mono hS9 HC1.out.size)
    simp only [Act.put, List.setIfInBounds_toArray, List.set_cons_zero, List.set_cons_succ]
    clear hS9
    go_wp2
    go_ret
    exact ⟨rfl, HDN.out _ HC9.out⟩

end Go.Proofs.YtmknplpcpmkhiaaGreat
