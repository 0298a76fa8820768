/- The specification's SyncDir by its contract. -/
import Derived.Test.YtmknplpcpmkhiaaGreatSeSpec
namespace Go.Proofs.YtmknplpcpmkhiaaGreat
open Go.RowKit Go.Maps
set_option linter.unusedVariables false

/-- What the specification's call answers: what can be read of it. -/
def SnR (x : S_Disk) (f : S_Disk × Int) (w : World) (e : Ending) (w' : World) : Prop :=
  ∃ (y : S_Disk) (code : Int) (p2 : Option Addr) (c2 : Nat) (p3 : Option Addr) (c3 : Nat) (p4 : Option Addr) (c4 : Nat), e = .returned (.tuple #[.agg #[.int .i64 y.f0, .int .i64 y.f1, .slice p2 y.f2.length c2, .slice p3 y.f3.length c3, .slice p4 y.f4.length c4], .int .i64 code]) ∧ RdDisk w' y (.slice p2 y.f2.length c2) (.slice p3 y.f3.length c3) (.slice p4 y.f4.length c4) ∧ Below w.heap.size w w' ∧ ((okX x ∧ y = f.1 ∧ code = f.2) ∨ (¬ okX x ∧ y = bare 0 0 ∧ code = 1))

theorem rowR_off {w w' : World} {k size n : Nat} {v : Value} {xs : List Value} (h : RowR w v n size xs) (hsz : w.heap.size ≤ w'.heap.size) (hfr : ∀ i, i < w.heap.size → i ≠ k → w'.heap[i]? = w.heap[i]?) (hne : 0 < n * size → ∃ j u, j < n * size ∧ xs[j]? = some u ∧ ∀ o, w.cell? ⟨k, o, none⟩ ≠ some u) : RowR w' v n size xs := by
  obtain ⟨h1, p, cap, hv, hc⟩ := h
  refine ⟨h1, p, cap, hv, fun j hj => ?_⟩
  obtain ⟨b, off, e, hlt, hcell⟩ := hc j hj
  have hbk : b ≠ k := by
    intro ek
    obtain ⟨j', u, hj', hx, hno⟩ := hne (by omega)
    obtain ⟨b', off', e', _, hcell'⟩ := hc j' hj'
    rw [e] at e'
    simp only [Option.some.injEq, Addr.mk.injEq, and_true] at e'
    obtain ⟨rfl, rfl⟩ := e'
    subst ek
    exact hno _ (hcell'.trans hx)
  refine ⟨b, off, e, by omega, ?_⟩
  rw [← hcell]
  simp only [World.cell?, hfr b hlt hbk]

theorem no_str {w : World} {k : Nat} (h : w.heap[k]? = some (.cells #[.int .i64 0, .int .i64 0, .slice none 0 0, .slice none 0 0, .slice none 0 0] 28)) (s : ByteArray) : ∀ o, w.cell? ⟨k, o, none⟩ ≠ some (.string s) := by
  intro o e
  simp only [World.cell?, h] at e
  rcases o with _ | _ | _ | _ | _ | o <;> simp at e

theorem row_inode {w w' : World} {k n : Nat} {v : Value} {I : List S_Inode} (h : RowR w v I.length 3 (rInode I)) (hk : w.heap[k]? = some (.cells #[.int .i64 0, .int .i64 0, .slice none 0 0, .slice none 0 0, .slice none 0 0] 28)) (hsz : w.heap.size ≤ w'.heap.size) (hfr : ∀ i, i < w.heap.size → i ≠ k → w'.heap[i]? = w.heap[i]?) : RowR w' v I.length 3 (rInode I) := by
  refine rowR_off h hsz hfr fun hn => ?_
  cases I with
  | nil => simp at hn
  | cons y ys => exact ⟨1, .string y.f1, by simp; omega, by simp [rInode, cInode], no_str hk _⟩

theorem row_link {w w' : World} {k n : Nat} {v : Value} {L : List S_Link} (h : RowR w v L.length 2 (rLink L)) (hk : w.heap[k]? = some (.cells #[.int .i64 0, .int .i64 0, .slice none 0 0, .slice none 0 0, .slice none 0 0] 28)) (hsz : w.heap.size ≤ w'.heap.size) (hfr : ∀ i, i < w.heap.size → i ≠ k → w'.heap[i]? = w.heap[i]?) : RowR w' v L.length 2 (rLink L) := by
  refine rowR_off h hsz hfr fun hn => ?_
  cases L with
  | nil => simp at hn
  | cons y ys => exact ⟨0, .string y.f0, by simp, by simp [rLink, cLink], no_str hk _⟩

set_option maxRecDepth 20000 in
set_option maxHeartbeats 4000000 in
theorem specSyncDir_c (x : S_Disk) (p2 p3 p4 : Option Addr) (c2 c3 c4 : Nat) (w : World) (hb : Bnd x) (hr : RdDisk w x (.slice p2 x.f2.length c2) (.slice p3 x.f3.length c3) (.slice p4 x.f4.length c4)) (hc3 : x.f3.length ≤ c3) (hc4 : x.f4.length ≤ c4)  :
    Calls Tryz.prog 12 #[.agg #[.int .i64 x.f0, .int .i64 x.f1, .slice p2 x.f2.length c2, .slice p3 x.f3.length c3, .slice p4 x.f4.length c4]] w (SnR x (sdF x) w) := by
  obtain ⟨W0, hW0⟩ : ∃ W, W = w.alloc (.cells #[.int .i64 x.f0, .int .i64 x.f1, .slice p2 x.f2.length c2, .slice p3 x.f3.length c3, .slice p4 x.f4.length c4] 28) := ⟨_, rfl⟩
  have HW0 : Hid (w.alloc (.cells #[.int .i64 x.f0, .int .i64 x.f1, .slice p2 x.f2.length c2, .slice p3 x.f3.length c3, .slice p4 x.f4.length c4] 28) = W0) := hW0.symm
  have HS0 : Hid (W0.heap.size = w.heap.size + 1) := by show _ = _; rw [hW0]; simp
  have HB0 : Hid (Below w.heap.size w W0) := by rw [hW0]; exact (Below.refl _ _).alloc (Nat.le_refl _) _
  have HBX : Hid (∀ W', Below W0.heap.size W0 W' → W'.cell? ⟨w.heap.size, 0, none⟩ = some (.int .i64 x.f0) ∧ W'.cell? ⟨w.heap.size, 1, none⟩ = some (.int .i64 x.f1) ∧ W'.cell? ⟨w.heap.size, 2, none⟩ = some (.slice p2 x.f2.length c2) ∧ W'.cell? ⟨w.heap.size, 3, none⟩ = some (.slice p3 x.f3.length c3) ∧ W'.cell? ⟨w.heap.size, 4, none⟩ = some (.slice p4 x.f4.length c4)) := fun W' hbel => by
    have hk : W'.heap[w.heap.size]? = some (.cells #[.int .i64 x.f0, .int .i64 x.f1, .slice p2 x.f2.length c2, .slice p3 x.f3.length c3, .slice p4 x.f4.length c4] 28) := by rw [hbel.block _ (by rw [HS0.out]; exact Nat.lt_succ_self _), hW0]; exact alloc_at _ _
    exact (disk_cell hk).1
  have HRD : Hid (∀ W', Below W0.heap.size W0 W' → RdDisk W' x (.slice p2 x.f2.length c2) (.slice p3 x.f3.length c3) (.slice p4 x.f4.length c4)) := fun W' hbel => (hr.keep HB0.out (Nat.le_refl _)).keep hbel (Nat.le_refl _)
  have HDN : Hid (∀ W', Below W0.heap.size W0 W' → Below w.heap.size w W') := fun W' hbel => HB0.out.trans (hbel.mono (by rw [HS0.out]; exact Nat.le_succ _))
  have HBN : Hid (Bnd x) := hb
  have HLN : Hid (LnDisk x 1048576) := ⟨hb.len.1, hb.dir, hb.len.2⟩
  clear hW0 hr hb
  have HCP : Hid (x.f3.length ≤ c3 ∧ x.f4.length ≤ c4) := ⟨hc3, hc4⟩
  clear hc3 hc4
  obtain ⟨WB, hWB⟩ : ∃ W, W = W0.alloc (.cells #[.int .i64 0, .int .i64 0, .slice none 0 0, .slice none 0 0, .slice none 0 0] 28) := ⟨_, rfl⟩
  have HWB : Hid (W0.alloc (.cells #[.int .i64 0, .int .i64 0, .slice none 0 0, .slice none 0 0, .slice none 0 0] 28) = WB) := hWB.symm
  have HBB : Hid (Below W0.heap.size W0 WB) := by rw [hWB]; exact (Below.refl _ _).alloc (Nat.le_refl _) _
  have HRB : Hid (WB.heap[w.heap.size + 1]? = some (.cells #[.int .i64 0, .int .i64 0, .slice none 0 0, .slice none 0 0, .slice none 0 0] 28)) := by rw [hWB, ← HS0.out]; exact alloc_at _ _
  have HDB : Hid (WB.heap[w.heap.size]? = some (.cells #[.int .i64 x.f0, .int .i64 x.f1, .slice p2 x.f2.length c2, .slice p3 x.f3.length c3, .slice p4 x.f4.length c4] 28)) := by
    rw [hWB, Below.heap_alloc _ _ _ (by rw [HS0.out]; exact Nat.lt_succ_self _), ← HW0.out]
    exact alloc_at _ _
  clear hWB
  obtain ⟨e0, e1, e2, e3, e4⟩ := HBX.out WB HBB.out
  go_enter Tryz.func12, Tryz.ntmps12
  go_wp2_with fail
  rw [HW0.out, HWB.out]
  refine (specOk_c x p2 p3 p4 c2 c3 c4 WB HBN.out (HRD.out WB HBB.out) HCP.out.1 HCP.out.2).mono ?_
  intro e w1 hdo
  clear e0 e1 e2 e3 e4
  obtain ⟨⟨hok, rfl⟩ | ⟨hno, rfl⟩, b1⟩ := hdo
  case inr =>
    have HE : Hid (¬ okX x) := hno
    have HC1 : Hid (Below W0.heap.size W0 w1) := HBB.out.trans (b1.mono HBB.out.size)
    have HR1 : Hid (w1.heap[w.heap.size + 1]? = some (.cells #[.int .i64 0, .int .i64 0, .slice none 0 0, .slice none 0 0, .slice none 0 0] 28)) := (b1.block _ (lt_of_some HRB.out)).trans HRB.out
    obtain ⟨⟨z0, z1, z2, z3, z4⟩, zf⟩ := disk_cell HR1.out
    have zf0 := zf 0
    have zf1 := zf 1
    have zf2 := zf 2
    have zf3 := zf 3
    have zf4 := zf 4
    clear hno b1 zf
    go_wp2
    refine bodyPost_ret (v := .tuple #[.agg #[.int .i64 0, .int .i64 0, .slice none 0 0, .slice none 0 0, .slice none 0 0], .int .i64 1]) (by simp [results, Tryz.results12, go_sem, z0, z1, z2, z3, z4]) rfl ⟨bare 0 0, 1, none, 0, none, 0, none, 0, rfl, rd_bare 0 0 _, ?_, .inr ⟨HE.out, rfl, rfl⟩⟩
    exact (((((HDN.out _ HC1.out).setCell (Nat.le_succ _) _).setCell (Nat.le_succ _) _).setCell (Nat.le_succ _) _).setCell (Nat.le_succ _) _).setCell (Nat.le_succ _) _
  have HE : Hid (okX x) := hok
  have HC1 : Hid (Below W0.heap.size W0 w1) := HBB.out.trans (b1.mono HBB.out.size)
  have HR1 : Hid (w1.heap[w.heap.size + 1]? = some (.cells #[.int .i64 0, .int .i64 0, .slice none 0 0, .slice none 0 0, .slice none 0 0] 28)) := (b1.block _ (lt_of_some HRB.out)).trans HRB.out
  have HD1 : Hid (w1.heap[w.heap.size]? = some (.cells #[.int .i64 x.f0, .int .i64 x.f1, .slice p2 x.f2.length c2, .slice p3 x.f3.length c3, .slice p4 x.f4.length c4] 28)) := (b1.block _ (lt_of_some HDB.out)).trans HDB.out
  clear hok b1
  obtain ⟨e0, e1, e2, e3, e4⟩ := HBX.out w1.drew HC1.out.drew
  obtain ⟨N, hN⟩ : ∃ N, nms x.f3 x.f4 = N := ⟨_, rfl⟩
  obtain ⟨V, hV⟩ : ∃ V, (x.f2.filter fun y => lnk N y.f0) = V := ⟨_, rfl⟩
  have HNN : Hid (nms x.f3 x.f4 = N) := hN
  have HVV : Hid ((x.f2.filter fun y => lnk N y.f0) = V) := hV
  clear hN hV
  go_upto_region 3 with fail
  refine wp_region_L [⟨8, fun W => ∀ j u, ([.int .i64 x.f0, .int .i64 x.f1, .slice p2 x.f2.length c2, .slice p3 x.f3.length c3, .slice p4 x.f4.length c4] : List Value)[j]? = some u → W.cell? ((⟨w.heap.size, 0, none⟩ : Addr).add j) = some u⟩, ⟨5, fun W => ∀ j u, ([.int .i64 x.f0, .int .i64 x.f1, .slice p2 x.f2.length c2, .slice p3 x.f3.length c3, .slice p4 x.f4.length c4] : List Value)[j]? = some u → W.cell? ((⟨w.heap.size, 0, none⟩ : Addr).add j) = some u⟩, ⟨5, fun W => W.cell? ⟨w.heap.size, 4, none⟩ = some (.slice p4 x.f4.length c4)⟩, ⟨8, fun W => W.cell? ⟨w.heap.size, 2, none⟩ = some (.slice p2 x.f2.length c2)⟩] (by kernel_rfl) (fun f hf => by
      simp only [List.mem_cons, List.not_mem_nil, or_false] at hf
      rcases hf with rfl | rfl | rfl | rfl
      · exact cells5 e0 e1 e2 e3 e4
      · exact cells5 e0 e1 e2 e3 e4
      · exact e4
      · exact e2
      ) ?_
  refine At.take 0 (some 8) (.agg #[.int .i64 x.f0, .int .i64 x.f1, .slice p2 x.f2.length c2, .slice p3 x.f3.length c3, .slice p4 x.f4.length c4]) rfl rfl (by kernel_rfl) (by kernel_rfl) (by kernel_rfl) (by kernel_rfl) (fun _ _ _ h => h) (yl_loads 8 ⟨w.heap.size, 0, none⟩ [.int .i64 x.f0, .int .i64 x.f1, .slice p2 x.f2.length c2, .slice p3 x.f3.length c3, .slice p4 x.f4.length c4] (List.mem_cons_self) [8] (by kernel_rfl) rfl (by kernel_rfl) (fun _ => by kernel_rfl)) ?_
  refine At.take 1 (some 9) (.agg #[.int .i64 x.f0, .int .i64 x.f1, .slice p2 x.f2.length c2, .slice p3 x.f3.length c3, .slice p4 x.f4.length c4]) rfl rfl (by kernel_rfl) (by kernel_rfl) (by kernel_rfl) (by kernel_rfl) (fun _ _ _ h => h) (yl_loads 5 ⟨w.heap.size, 0, none⟩ [.int .i64 x.f0, .int .i64 x.f1, .slice p2 x.f2.length c2, .slice p3 x.f3.length c3, .slice p4 x.f4.length c4] (List.mem_cons_of_mem _ (List.mem_cons_self)) [5] (by kernel_rfl) rfl (by kernel_rfl) (fun _ => by kernel_rfl)) ?_
  refine At.take 2 (some 10) (.pointer (some ⟨w.heap.size, 4, none⟩)) rfl rfl (by kernel_rfl) (by kernel_rfl) (by kernel_rfl) (by kernel_rfl) (fun _ _ _ h => h) (yl_pure (by kernel_rfl) (fun _ => by kernel_rfl)) ?_
  refine At.take 3 (some 11) (.slice p4 x.f4.length c4) rfl rfl (by kernel_rfl) (by kernel_rfl) (by kernel_rfl) (by kernel_rfl) (fun _ _ _ h => h) (yl_load 5 ⟨w.heap.size, 4, none⟩ (.slice p4 x.f4.length c4) (List.mem_cons_of_mem _ (List.mem_cons_of_mem _ (List.mem_cons_self))) [4, 5] (by kernel_rfl) rfl (by kernel_rfl) (fun _ => by kernel_rfl)) ?_
  refine At.take 4 (some 12) (.int .i64 (x.f4.length : Int)) rfl rfl (by kernel_rfl) (by kernel_rfl) (by kernel_rfl) (by kernel_rfl) (fun _ _ _ h => h) (yl_pure (by kernel_rfl) (fun _ => by kernel_rfl)) ?_
  refine At.take 6 (some 14) (.pointer (some ⟨w.heap.size, 2, none⟩)) rfl rfl (by kernel_rfl) (by kernel_rfl) (by kernel_rfl) (by kernel_rfl) (fun _ _ _ h => h) (yl_pure (by kernel_rfl) (fun _ => by kernel_rfl)) ?_
  refine At.take 7 (some 15) (.slice p2 x.f2.length c2) rfl rfl (by kernel_rfl) (by kernel_rfl) (by kernel_rfl) (by kernel_rfl) (fun _ _ _ h => h) (yl_load 8 ⟨w.heap.size, 2, none⟩ (.slice p2 x.f2.length c2) (List.mem_cons_of_mem _ (List.mem_cons_of_mem _ (List.mem_cons_of_mem _ (List.mem_cons_self)))) [8] (by kernel_rfl) rfl (by kernel_rfl) (fun _ => by kernel_rfl)) ?_
  refine At.step 5 (some 13) rfl rfl (by kernel_rfl) (by kernel_rfl) (fun u W => ∃ pl cl, u = .slice pl N.length cl ∧ RowR W (.slice pl N.length cl) N.length 2 (rLink N) ∧ Below w1.drew.heap.size w1.drew W) (gives_call (by kernel_rfl) ((names_c x (.slice p2 x.f2.length c2) (.slice p3 x.f3.length c3) (.slice p4 x.f4.length c4) (x.f4.length : Int) w1.drew HLN.out (okX_sumL HE.out) HBN.out.sm (HRD.out w1.drew HC1.out.drew)).mono fun e w' h => by obtain ⟨v', he, hrow, hb⟩ := h; rw [Int.toNat_natCast, List.take_length, HNN.out] at hrow; obtain ⟨_, pl, cl, hv, _⟩ := id hrow; subst hv; exact ⟨_, he, pl, cl, rfl, hrow, hb⟩)) ?_
  rintro u W2 ⟨pl, cl, rfl, hrow, b2⟩
  refine ⟨held_cons (.inr (fun j u h => atB b2 ((cells5 e0 e1 e2 e3 e4) j u h))) (held_cons (.inl (by kernel_rfl)) (held_cons (.inl (by kernel_rfl)) (held_cons (.inr (atB b2 (e2))) (held_nil)))), ?_⟩
  have HC2 : Hid (Below W0.heap.size W0 W2) := HC1.out.drew.trans (b2.mono HC1.out.size)
  have HR2 : Hid (W2.heap[w.heap.size + 1]? = some (.cells #[.int .i64 0, .int .i64 0, .slice none 0 0, .slice none 0 0, .slice none 0 0] 28)) := (b2.block _ (lt_of_some HR1.out)).trans HR1.out
  have HL2 : Hid (N.length ≤ 1048576) := by have := nms_short HE.out x.f4.length; rw [List.take_length, HNN.out] at this; show _ ≤ _; omega
  refine At.step 8 (some 16) rfl rfl (by kernel_rfl) (by kernel_rfl) (fun u W => ∃ q d, u = .agg #[.int .i64 x.f0, .int .i64 x.f1, .slice q V.length d, .slice pl N.length cl, .slice none 0 0] ∧ RowR W (.slice q V.length d) V.length 3 (rInode V) ∧ Below W2.heap.size W2 W) (gives_call (by kernel_rfl) ((settled_c x.f0 x.f1 (.slice p2 x.f2.length c2) (.slice p3 x.f3.length c3) (.slice p4 x.f4.length c4) p2 pl c2 cl x.f2 N W2 HLN.out.1 HL2.out (HRD.out W2 HC2.out).1 hrow).mono fun e w' h => by obtain ⟨q, d, he, hr, hb⟩ := h; rw [HVV.out] at he hr; exact ⟨_, he, q, d, rfl, hr, hb⟩)) ?_
  rintro u W4 ⟨q, d, rfl, hrow4, b4⟩
  refine ⟨held_cons (.inl (by kernel_rfl)) (held_cons (.inl (by kernel_rfl)) (held_cons (.inl (by kernel_rfl)) (held_cons (.inl (by kernel_rfl)) (held_nil)))), ?_⟩
  have HR4 : Hid (W4.heap[w.heap.size + 1]? = some (.cells #[.int .i64 0, .int .i64 0, .slice none 0 0, .slice none 0 0, .slice none 0 0] 28)) := (b4.block _ (lt_of_some HR2.out)).trans HR2.out
  have HQ2 : Hid (RowR W4 (.slice q V.length d) V.length 3 (rInode V)) := hrow4
  have HQ3 : Hid (RowR W4 (.slice pl N.length cl) N.length 2 (rLink N)) := hrow.keep b4 (Nat.le_refl _)
  have HBF : Hid (Below w.heap.size w W4) := HDN.out _ (HC2.out.trans (b4.mono HC2.out.size))
  refine At.step 9 none rfl rfl (by kernel_rfl) (by kernel_rfl) (fun u W => u = undef ∧ W = W4.setCells (w.heap.size + 1) 0 [.int .i64 x.f0, .int .i64 x.f1, .slice q V.length d, .slice pl N.length cl, .slice none 0 0]) (gives_storesD (b := w.heap.size + 1) (cs := [.int .i64 x.f0, .int .i64 x.f1, .slice q V.length d, .slice pl N.length cl, .slice none 0 0]) (fun _ => by kernel_rfl) (by intro v hv; simp only [List.mem_cons, List.not_mem_nil, or_false] at hv; rcases hv with rfl | rfl | rfl | rfl | rfl <;> rfl) HR4.out rfl) ?_
  rintro u WE ⟨rfl, hWE⟩
  refine ⟨held_cons (.inl (by kernel_rfl)) (held_cons (.inl (by kernel_rfl)) (held_cons (.inl (by kernel_rfl)) (held_cons (.inl (by kernel_rfl)) (held_nil)))), ?_⟩
  refine At.take 10 (some 3) (.int .i64 0) rfl rfl (by kernel_rfl) (by kernel_rfl) (by kernel_rfl) (by kernel_rfl) (fun _ _ _ h => h) (yl_pure (by kernel_rfl) (fun _ => by kernel_rfl)) ?_
  refine At.done (by kernel_rfl) ?_
  have HWE : Hid ((((((W4.setCell ⟨w.heap.size + 1, 0, none⟩ (.int .i64 x.f0)).setCell ⟨w.heap.size + 1, 1, none⟩ (.int .i64 x.f1)).setCell ⟨w.heap.size + 1, 2, none⟩ (.slice q V.length d)).setCell ⟨w.heap.size + 1, 3, none⟩ (.slice pl N.length cl)).setCell ⟨w.heap.size + 1, 4, none⟩ (.slice none 0 0)) = WE) := hWE.symm
  have HRE : Hid (WE.heap[w.heap.size + 1]? = some (.cells #[.int .i64 x.f0, .int .i64 x.f1, .slice q V.length d, .slice pl N.length cl, .slice none 0 0] 28)) := by rw [← HWE.out]; exact disk_all HR4.out
  have HSE : Hid (W4.heap.size ≤ WE.heap.size) := by show _ ≤ _; rw [← HWE.out]; simp [World.setCell, Array.size_modify]
  have HFE : Hid (∀ i, i < W4.heap.size → i ≠ w.heap.size + 1 → WE.heap[i]? = W4.heap[i]?) := fun i _ hi => by
    rw [← HWE.out, heap_set_ne _ _ (by show i ≠ w.heap.size + 1; exact hi), heap_set_ne _ _ (by show i ≠ w.heap.size + 1; exact hi), heap_set_ne _ _ (by show i ≠ w.heap.size + 1; exact hi), heap_set_ne _ _ (by show i ≠ w.heap.size + 1; exact hi), heap_set_ne _ _ (by show i ≠ w.heap.size + 1; exact hi)]
  obtain ⟨⟨z0, z1, z2, z3, z4⟩, _⟩ := disk_cell HRE.out
  simp only [Act.put, List.setIfInBounds_toArray, List.set_cons_zero, List.set_cons_succ]
  clear hWE e0 e1 e2 e3 e4 hrow hrow4 b2 b4
  go_wp2
  refine bodyPost_ret (v := .tuple #[.agg #[.int .i64 x.f0, .int .i64 x.f1, .slice q V.length d, .slice pl N.length cl, .slice none 0 0], .int .i64 0]) (by simp [results, Tryz.results12, go_sem, z0, z1, z2, z3, z4]) rfl ⟨⟨x.f0, x.f1, V, N, []⟩, 0, q, d, pl, cl, none, 0, rfl, ⟨row_inode (n := 0) HQ2.out HR4.out HSE.out HFE.out, row_link (n := 0) HQ3.out HR4.out HSE.out HFE.out, (rd_bare 0 0 WE).2.2⟩, ?_, .inl ⟨HE.out, by unfold sdF; rw [HNN.out, HVV.out], rfl⟩⟩
  rw [← HWE.out]
  exact ((((HBF.out.setCell (Nat.le_succ _) _).setCell (Nat.le_succ _) _).setCell (Nat.le_succ _) _).setCell (Nat.le_succ _) _).setCell (Nat.le_succ _) _

end Go.Proofs.YtmknplpcpmkhiaaGreat
