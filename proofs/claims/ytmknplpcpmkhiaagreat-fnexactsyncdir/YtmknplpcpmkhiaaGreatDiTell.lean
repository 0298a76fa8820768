/- The program's own telling of a disk, by its contract. -/
import Derived.Test.YtmknplpcpmkhiaaGreatDlBase
import Derived.Test.YtmknplpcpmkhiaaGreatSoKeys
import Derived.Test.YtmknplpcpmkhiaaGreatFrClone
import Derived.Test.YtmknplpcpmkhiaaGreatRgHeld
import Derived.Maps.AppendAt
namespace Go.Proofs.YtmknplpcpmkhiaaGreat
open Go.RowKit Go.Maps
set_option linter.unusedVariables false

theorem own_ge {w : World} {base : Nat} {e : TypeId} {size n : Nat} {v : Value} {xs : List Value} (h : w.ownsRow base e size v n xs) : ∀ k, v.ownBlock = some k → base ≤ k := by
  intro k hk
  obtain ⟨_, ⟨rfl, _⟩ | ⟨g, cap, cur, rfl, hg, hh, _⟩⟩ := h
  · cases hk
  · simp only [Value.ownBlock, Option.some.injEq] at hk
    subst hk
    exact hg

theorem cells_new (w : World) (cs : List Value) (t : TypeId) : ∀ j u, cs[j]? = some u → (w.alloc (.cells cs.toArray t)).cell? ((⟨w.heap.size, 0, none⟩ : Addr).add j) = some u := fun j u h => by
  rw [Addr.add_mid, Nat.zero_add, box_cell]
  simpa using h

theorem disk_set {w : World} {b : Nat} {a0 a1 a2 a3 a4 : Value} {t : TypeId} (h : w.heap[b]? = some (.cells #[a0, a1, a2, a3, a4] t)) : (∀ u, (w.setCell ⟨b, 2, none⟩ u).heap[b]? = some (.cells #[a0, a1, u, a3, a4] t)) ∧ (∀ u, (w.setCell ⟨b, 3, none⟩ u).heap[b]? = some (.cells #[a0, a1, a2, u, a4] t)) ∧ (∀ u, (w.setCell ⟨b, 4, none⟩ u).heap[b]? = some (.cells #[a0, a1, a2, a3, u] t)) := by
  simp [World.setCell, Array.getElem?_modify, h]

/-- What a map that holds links has under a name of theirs. -/
theorem own_fr {S : Nat → Prop} {a b : World} {base : Nat} {e : TypeId} {size n : Nat} {v : Value} {xs : List Value} (f : Fr S a b) (h : a.ownsRow base e size v n xs) (hS : ∀ k, base ≤ k → ¬ S k) : b.ownsRow base e size v n xs := by
  obtain ⟨h1, ⟨rfl, h2⟩ | ⟨g, cap, cur, rfl, hg, hh, r⟩⟩ := h
  · exact ⟨h1, .inl ⟨rfl, h2⟩⟩
  · exact ⟨h1, .inr ⟨g, cap, cur, rfl, hg, (f.block g (lt_of_some hh) (hS g hg)).trans hh, r⟩⟩

theorem own_below {w : World} {base : Nat} {e : TypeId} {size n : Nat} {v : Value} {xs : List Value} (h : w.ownsRow base e size v n xs) : ∀ k, v.ownBlock = some k → k < w.heap.size := by
  intro k hk
  obtain ⟨_, ⟨rfl, _⟩ | ⟨g, cap, cur, rfl, hg, hh, _⟩⟩ := h
  · cases hk
  · simp only [Value.ownBlock, Option.some.injEq] at hk
    subst hk
    exact lt_of_some hh

theorem heap_set_ne {w : World} (p : Addr) (u : Value) {k : Nat} (h : k ≠ p.block) : (w.setCell p u).heap[k]? = w.heap[k]? := by
  simp [World.setCell, Array.getElem?_modify, Ne.symm h]

theorem own_set_blk {w : World} {base : Nat} {e : TypeId} {size n : Nat} {v u : Value} {xs : List Value} {p : Addr} (h : w.ownsRow base e size v n xs) (hv : ∀ j, v.ownBlock = some j → j ≠ p.block) : (w.setCell p u).ownsRow base e size v n xs := by
  obtain ⟨h1, ⟨rfl, h2⟩ | ⟨g, cap, cur, rfl, hg, hh, r⟩⟩ := h
  · exact ⟨h1, .inl ⟨rfl, h2⟩⟩
  · exact ⟨h1, .inr ⟨g, cap, cur, rfl, hg, (heap_set_ne p u (hv g rfl)).trans hh, r⟩⟩

theorem box4 {w : World} {b : Nat} {a0 a1 a2 a3 : Value} {t : TypeId} (h : w.heap[b]? = some (.cells #[a0, a1, a2, a3] t)) : w.cell? ⟨b, 0, none⟩ = some a0 ∧ w.cell? ⟨b, 1, none⟩ = some a1 ∧ w.cell? ⟨b, 2, none⟩ = some a2 ∧ w.cell? ⟨b, 3, none⟩ = some a3 ∧ ∀ o, w.frozen? ⟨b, o, none⟩ = false := by
  simp [World.cell?, World.frozen?, h]

theorem box4_set {w : World} {b : Nat} {a0 a1 a2 a3 : Value} {t : TypeId} (h : w.heap[b]? = some (.cells #[a0, a1, a2, a3] t)) : (∀ u, (w.setCell ⟨b, 1, none⟩ u).heap[b]? = some (.cells #[a0, u, a2, a3] t)) ∧ (∀ u, (w.setCell ⟨b, 2, none⟩ u).heap[b]? = some (.cells #[a0, a1, u, a3] t)) := by
  simp [World.setCell, Array.getElem?_modify, h]

theorem at_link {L : List S_Link} (h : L.Pairwise (fun x y => lt4 x y = true)) (k : Nat) (hk : k < L.length) : (encL L).atKey (.string L[k].f0.data.toList) (.lit (.int .i64 0)) = .lit (.int .i64 L[k].f1) := by
  have hne : ∀ j (hj : j < L.length), j < k → L[j].f0 ≠ L[k].f0 := fun j hj hjk e => by
    have h1 := List.pairwise_iff_getElem.1 h j k hj hk hjk
    unfold lt4 at h1
    rw [e, ByteArray.toList_eq, bytesLess_eq, decide_eq_true_eq] at h1
    exact List.lt_irrefl _ h1
  have hi : at4 L L[k].f0 = k := idx_hit _ L k hk (fun j hj => by simpa using hne j (by omega) hj) (by simp)
  rw [at_encL L L[k].f0 _ (by omega), hi, Int.toNat_natCast, List.getElem?_eq_getElem hk]
  rfl

set_option maxRecDepth 20000 in
set_option maxHeartbeats 4000000 in
theorem tell_c (B m : Nat) (room next : Int) (bf bd : Nat) (vn : Value) (pm : Option Addr) (cm : Nat) (fs : List (S_Inode × Nat)) (h : Int → Bool) (D : List S_Link) (M : List S_Move) (w : World) (hm : w.heap[m]? = some (mObj room next bf bd vn (.slice pm M.length cm))) (Fl : Fls B w bf fs h)
    (hd : w.ownsMap Tryz.prog 9 (plainElem Tryz.prog 3) bd D.length (encL D)) (hM : RowR w (.slice pm M.length cm) M.length 4 (rMove M)) (hlF : fs.length ≤ 1000) (hlD : D.length ≤ 1000) (hlM : M.length ≤ 1000) (hsD : ∀ y ∈ D, y.f0.size ≤ 1048576) (hsM : ∀ y ∈ M, y.f1.size ≤ 1048576 ∧ y.f2.size ≤ 1048576) :
    Calls Tryz.prog 58 #[.pointer (some ⟨m, 0, none⟩)] w fun e w' => ∃ v2 v3 v4, e = .returned (.agg #[.int .i64 room, .int .i64 next, v2, v3, v4]) ∧ OwDisk w' w.heap.size ⟨room, next, fs.map (·.1), D, M⟩ v2 v3 v4 ∧ Below w.heap.size w w' := by
  obtain ⟨iI, hiI, hI0, hI1, hI2⟩ := info_parts infoInode
  obtain ⟨iL, hiL, hL0, hL1, hL2⟩ := info_parts infoLink
  obtain ⟨iM, hiM, hM0, hM1, hM2⟩ := info_parts infoMove
  have HM : Hid (w.heap[m]? = some (mObj room next bf bd vn (.slice pm M.length cm))) := hm
  have HFl : Hid (Fls B w bf fs h) := Fl
  have HD : Hid (w.ownsMap Tryz.prog 9 (plainElem Tryz.prog 3) bd D.length (encL D)) := hd
  have HRM : Hid (RowR w (.slice pm M.length cm) M.length 4 (rMove M)) := hM
  have HSD : Hid (∀ y ∈ D, y.f0.size ≤ 1048576) := hsD
  have HSM : Hid (∀ y ∈ M, y.f1.size ≤ 1048576 ∧ y.f2.size ≤ 1048576) := hsM
  obtain ⟨m0, m1, m2, m3, m4, m5⟩ := mount_cell hm
  have hml : m < w.heap.size := lt_of_some hm
  clear hm Fl hd hM hsD hsM
  go_enter Tryz.func58, Tryz.ntmps58
  go_upto_region 1 with fail
  refine wp_genD (fun W => W.cell? ⟨m, 0, none⟩ = some (.int .i64 room) ∧ W.cell? ⟨m, 1, none⟩ = some (.int .i64 next) ∧ Hid (Below w.heap.size w W) ∧ Hid (W.heap.size = w.heap.size + 1) ∧ Hid (W.heap[w.heap.size]? = some (.cells #[.int .i64 0, .int .i64 0, .slice none 0 0, .slice none 0 0, .slice none 0 0] 28))) ⟨cell_alloc m0, cell_alloc m1, (Below.refl _ _).alloc (Nat.le_refl _) _, by show _ = _; simp, alloc_at _ _⟩ ?_
  rintro W1 ⟨a0, a1, HB1, HZ1, HR1⟩
  have a0' : ∀ o, (W1.alloc o).cell? ⟨m, 0, none⟩ = some (.int .i64 room) := fun o => cell_alloc a0
  have a1' : ∀ o, (W1.alloc o).cell? ⟨m, 1, none⟩ = some (.int .i64 next) := fun o => cell_alloc a1
  have a2' : ∀ o, (W1.alloc o).cell? ⟨m, 2, none⟩ = some (.map (some bf)) := fun o => cell_alloc ((HB1.out.cell (p := ⟨m, 2, none⟩) hml).trans m2)
  clear m0 m1 m2 m3 m4 m5
  have hz1 : W1.heap.size = w.heap.size + 1 := HZ1.out
  go_region
  clear hz1
  go_wp2_with fail
  obtain ⟨WD, hWD⟩ : ∃ W, W = (W1.alloc (.cells #[.int .i64 room, .int .i64 next, .slice none 0 0, .slice none 0 0, .slice none 0 0] 28)).drew := ⟨_, rfl⟩
  rw [← hWD]
  have HBD : Hid (Below w.heap.size w WD) := by rw [hWD]; exact (HB1.out.alloc HB1.out.size _).drew
  have HGD : Hid (WD.heap[w.heap.size + 1]? = some (.cells #[.int .i64 room, .int .i64 next, .slice none 0 0, .slice none 0 0, .slice none 0 0] 28)) := by
    rw [hWD, ← HZ1.out]
    exact alloc_at W1 _
  have HRD : Hid (WD.heap[w.heap.size]? = some (.cells #[.int .i64 0, .int .i64 0, .slice none 0 0, .slice none 0 0, .slice none 0 0] 28)) := by
    rw [hWD]
    exact (Below.heap_alloc _ _ _ (lt_of_some HR1.out)).trans HR1.out
  have HKP : Hid (∀ W', Below w.heap.size w W' → Fls B W' bf fs h ∧ W'.ownsMap Tryz.prog 9 (plainElem Tryz.prog 3) bd D.length (encL D) ∧ RowR W' (.slice pm M.length cm) M.length 4 (rMove M) ∧ W'.heap[m]? = some (mObj room next bf bd vn (.slice pm M.length cm))) := fun W' hb => by
    have hf : Fr (fun _ => False) w W' := (Fr.refl _ _).bel hb
    exact ⟨HFl.out.keep hf (fun h => h) (fun _ _ h => h), hf.map HD.out (fun h => h), HRM.out.keep hb (Nat.le_refl _), hf.at HM.out (fun h => h)⟩
  clear hWD a0 a1 a0' a1' a2' HB1 HZ1 HR1 HFl HD HRM HM
  refine (keysI_c (some bf) WD).mono ?_
  rintro e w2 ⟨rfl, hw2⟩
  subst hw2
  go_wp2_with fail
  refine (sortedI_c bf fs.length fs ptrElem WD (HKP.out WD HBD.out).1.own (HKP.out WD HBD.out).1.ris (by omega)).mono ?_
  rintro e w3 ⟨vi, rfl, hrow, b3⟩
  have HRI : Hid (RowR w3 vi fs.length 1 (fs.map fun p => .int .i64 p.1.f0)) := RowR.own hrow
  have HRB : Hid (∀ k, vi.ownBlock = some k → w.heap.size + 1 < k) := fun k hk => by
    have h1 := (own_ge hrow k hk)
    have h2 := lt_of_some HGD.out
    omega
  have HB3 : Hid (Below w.heap.size w w3) := HBD.out.trans (b3.mono HBD.out.size)
  have HG3 : Hid (w3.heap[w.heap.size + 1]? = some (.cells #[.int .i64 room, .int .i64 next, .slice none 0 0, .slice none 0 0, .slice none 0 0] 28)) := (b3.block _ (lt_of_some HGD.out)).trans HGD.out
  have HR3 : Hid (w3.heap[w.heap.size]? = some (.cells #[.int .i64 0, .int .i64 0, .slice none 0 0, .slice none 0 0, .slice none 0 0] 28)) := (b3.block _ (lt_of_some HRD.out)).trans HRD.out
  have HL3 : Hid (w.heap.size + 1 < w3.heap.size) := lt_of_some HG3.out
  obtain ⟨pI, cI, hvi, _, _⟩ := own_slice hrow
  subst hvi
  clear hrow b3 HGD HRD HBD
  go_wp2
  go_loopw [27] (fun iv wr => ∃ (k : Nat) (v2 : Value), k ≤ fs.length ∧ iv = .int .i64 (k : Int) ∧ Hid (Fr (fun i => i = w.heap.size + 1) w3 wr) ∧ Hid (wr.heap[w.heap.size + 1]? = some (.cells #[.int .i64 room, .int .i64 next, v2, .slice none 0 0, .slice none 0 0] 28)) ∧ Hid (wr.ownsRow w3.heap.size 47 3 v2 k (rInode ((fs.map (·.1)).take k)))) (fun iv _ => fs.length - (intOf iv).toNat)
  case atStart => exact ⟨0, .slice none 0 0, Nat.zero_le _, rfl, Fr.refl _ _, HG3, ⟨rfl, .inl ⟨rfl, rfl⟩⟩⟩
  case round =>
    obtain ⟨k, v2, hk, rfl, HFk, HGk, HOk⟩ := hrel
    have HBk : Hid (Below w.heap.size w wr) := HB3.out.trans (HFk.out.below (fun i e => by omega) HB3.out.size)
    obtain ⟨_, _, m2, m3, _, m5⟩ := mount_cell (HKP.out wr HBk.out).2.2.2
    by_cases hlt : k < fs.length
    · have hlt' : (k : Int) < fs.length := by omega
      obtain ⟨bS, offS, capS, hvS, hbS, hcS⟩ := HRI.out.some (by omega) (by decide)
      simp only [Value.slice.injEq, true_and] at hvS
      obtain ⟨rfl, rfl⟩ := hvS
      have hS := hcS k (by omega)
      rw [List.getElem?_map, List.getElem?_eq_getElem hlt] at hS
      have d0 : wr.cell? ⟨bS, offS + k, none⟩ = some (.int .i64 fs[k].1.f0) := fr_cell HFk.out hS (by have := HRB.out bS rfl; show ¬ bS = w.heap.size + 1; omega)
      obtain ⟨X, bk, hX⟩ : ∃ X bk, fs[k] = (X, bk) := ⟨_, _, rfl⟩
      rw [hX] at d0
      have hmem : (X, bk) ∈ fs := by rw [← hX]; exact List.getElem_mem hlt
      have hFl := (HKP.out wr HBk.out).1
      obtain ⟨d1, d2, _⟩ := file_cell (hFl.blk _ hmem)
      obtain ⟨v, ps, hrun, hv⟩ := hFl.own.lookup kInt Tryz.underlying93 (zeroPtr wr) ptrElem_nil (keyOf_int_mk Tryz.underlying3 (hFl.wf _ hmem).1)
      rw [at_encF, find_of_mem hFl.ris hmem] at hv
      have hv' := ptrElem_blk hv
      subst hv'
      have HSX : Hid (X.f1.size ≤ 1048576) := (hFl.wf _ hmem).2.2
      have HT : Hid (rInode ((fs.map (·.1)).take (k + 1)) = rInode ((fs.map (·.1)).take k) ++ [.int .i64 X.f0, .string X.f1, .int .i64 X.f2]) := by
        show _ = _
        unfold rInode
        rw [flat_take _ _ k (by rw [List.length_map]; exact hlt), List.getElem_map, hX]
        rfl
      obtain ⟨⟨_, _, g2, _, _⟩, gf⟩ := disk_cell HGk.out
      clear hv hFl hcS hS hX hmem
      go_upto_region 6 with fail
      refine wp_region_L [⟨14, fun W => W.cell? ⟨w.heap.size + 1, 2, none⟩ = some (v2)⟩, ⟨7, fun W => W.cell? ⟨bk, 0, none⟩ = some (.string X.f1)⟩, ⟨13, fun W => W.cell? ⟨bk, 1, none⟩ = some (.int .i64 X.f2)⟩] (by kernel_rfl) (fun f hf => by
          simp only [List.mem_cons, List.not_mem_nil, or_false] at hf
          rcases hf with rfl | rfl | rfl
          · exact g2
          · exact d1
          · exact d2
          ) ?_
      refine At.take 0 (some 37) (.pointer (some ⟨w.heap.size + 1, 2, none⟩)) rfl rfl (by kernel_rfl) (by kernel_rfl) (by kernel_rfl) (by kernel_rfl) (fun _ _ _ h => h) (yl_pure (by kernel_rfl) (fun _ => by kernel_rfl)) ?_
      refine At.take 1 (some 38) (v2) rfl rfl (by kernel_rfl) (by kernel_rfl) (by kernel_rfl) (by kernel_rfl) (fun _ _ _ h => h) (yl_load 14 ⟨w.heap.size + 1, 2, none⟩ (v2) (List.mem_cons_self) [14] (by kernel_rfl) rfl (by kernel_rfl) (fun _ => by kernel_rfl)) ?_
      refine At.take 2 (some 39) (.int .i64 X.f0) rfl rfl (by kernel_rfl) (by kernel_rfl) (by kernel_rfl) (by kernel_rfl) (fun _ _ _ h => h) (yl_pure (by kernel_rfl) (fun _ => by kernel_rfl)) ?_
      refine At.take 3 (some 40) (.pointer (some ⟨bk, 0, none⟩)) rfl rfl (by kernel_rfl) (by kernel_rfl) (by kernel_rfl) (by kernel_rfl) (fun _ _ _ h => h) (yl_pure (by kernel_rfl) (fun _ => by kernel_rfl)) ?_
      refine At.take 4 (some 41) (.pointer (some ⟨bk, 0, none⟩)) rfl rfl (by kernel_rfl) (by kernel_rfl) (by kernel_rfl) (by kernel_rfl) (fun _ _ _ h => h) (yl_pure (by kernel_rfl) (fun _ => by kernel_rfl)) ?_
      refine At.take 5 (some 42) (.pointer (some ⟨bk, 0, none⟩)) rfl rfl (by kernel_rfl) (by kernel_rfl) (by kernel_rfl) (by kernel_rfl) (fun _ _ _ h => h) (yl_pure (by kernel_rfl) (fun _ => by kernel_rfl)) ?_
      refine At.take 6 (some 43) (.string X.f1) rfl rfl (by kernel_rfl) (by kernel_rfl) (by kernel_rfl) (by kernel_rfl) (fun _ _ _ h => h) (yl_load 7 ⟨bk, 0, none⟩ (.string X.f1) (List.mem_cons_of_mem _ (List.mem_cons_self)) [7] (by kernel_rfl) rfl (by kernel_rfl) (fun _ => by kernel_rfl)) ?_
      refine At.take 8 (some 45) (.pointer (some ⟨bk, 0, none⟩)) rfl rfl (by kernel_rfl) (by kernel_rfl) (by kernel_rfl) (by kernel_rfl) (fun _ _ _ h => h) (yl_pure (by kernel_rfl) (fun _ => by kernel_rfl)) ?_
      refine At.take 9 (some 46) (.pointer (some ⟨bk, 0, none⟩)) rfl rfl (by kernel_rfl) (by kernel_rfl) (by kernel_rfl) (by kernel_rfl) (fun _ _ _ h => h) (yl_pure (by kernel_rfl) (fun _ => by kernel_rfl)) ?_
      refine At.take 10 (some 47) (.pointer (some ⟨bk, 1, none⟩)) rfl rfl (by kernel_rfl) (by kernel_rfl) (by kernel_rfl) (by kernel_rfl) (fun _ _ _ h => h) (yl_pure (by kernel_rfl) (fun _ => by kernel_rfl)) ?_
      refine At.take 11 (some 48) (.int .i64 X.f2) rfl rfl (by kernel_rfl) (by kernel_rfl) (by kernel_rfl) (by kernel_rfl) (fun _ _ _ h => h) (yl_load 13 ⟨bk, 1, none⟩ (.int .i64 X.f2) (List.mem_cons_of_mem _ (List.mem_cons_of_mem _ (List.mem_cons_self))) [12, 13] (by kernel_rfl) rfl (by kernel_rfl) (fun _ => by kernel_rfl)) ?_
      refine At.step 7 (some 44) rfl rfl (by kernel_rfl) (by kernel_rfl) (fun u W => u = .string X.f1 ∧ Below wr.drew.heap.size wr.drew W) (gives_call (by kernel_rfl) ((clone_c X.f1 wr.drew (by have := HSX.out; omega)).mono fun e w' ⟨he, hb⟩ => ⟨_, he, rfl, hb⟩)) ?_
      rintro u WA ⟨rfl, hbA⟩
      refine ⟨held_cons (.inr (atB hbA g2)) (held_cons (.inl (by kernel_rfl)) (held_cons (.inr (atB hbA d2)) (held_nil))), ?_⟩
      refine At.take 12 (some 49) (.agg #[.int .i64 X.f0, .string X.f1, .int .i64 X.f2]) rfl rfl (by kernel_rfl) (by kernel_rfl) (by kernel_rfl) (by kernel_rfl) (fun _ _ _ h => h) (yl_pure (by kernel_rfl) (fun _ => by kernel_rfl)) ?_
      refine At.step 13 (some 50) rfl rfl (by kernel_rfl) (by kernel_rfl) (fun u W => u = .slice (some ⟨WA.heap.size, 0, none⟩) 1 1 ∧ W = WA.alloc (.cells #[.int .i64 X.f0, .string X.f1, .int .i64 X.f2] 47)) (gives_run (by kernel_rfl)) ?_
      rintro u WB ⟨rfl, hWB⟩
      refine ⟨by subst hWB; exact held_cons (.inr (cell_alloc (atB hbA g2))) (held_cons (.inl (by kernel_rfl)) (held_cons (.inl (by kernel_rfl)) (held_nil))), ?_⟩
      have HFB : Hid (Fr (fun i => i = w.heap.size + 1) w3 WB) := by rw [hWB]; exact ((HFk.out.drew).bel hbA).alloc _
      have HGB : Hid (WB.heap[w.heap.size + 1]? = some (.cells #[.int .i64 room, .int .i64 next, v2, .slice none 0 0, .slice none 0 0] 28)) := by rw [hWB]; exact (Below.heap_alloc _ _ _ (Nat.lt_of_lt_of_le (lt_of_some HGk.out) hbA.size)).trans ((hbA.block _ (lt_of_some HGk.out)).trans HGk.out)
      have HOB : Hid (WB.ownsRow w3.heap.size 47 3 v2 k (rInode ((fs.map (·.1)).take k))) := by rw [hWB]; exact (own_bel (w := wr.drew) (N := wr.drew.heap.size) HOk.out hbA (Nat.le_refl _)).alloc _
      obtain ⟨v', WC, hrunC, hownC, hgrowC, _, _⟩ := run_append_own_at (P := Tryz.prog) WB w3.heap.size 24 24 47 iI (.agg #[.int .i64 0, .string ⟨#[]⟩, .int .i64 0]) 3 32 Tryz.underlying24 hiI hI0 hI1 hI2 rfl (by decide) v2 k _ HOB.out ⟨WA.heap.size, 0, none⟩ 1 1 [.int .i64 X.f0, .string X.f1, .int .i64 X.f2] rfl (by rw [hWB]; exact cells_new WA _ _) (by intro u hu; simp at hu; rcases hu with rfl | rfl | rfl <;> rfl) (by unfold maxLen; omega) (by omega) HFB.out.size
      have hneC : ∀ j, v2.ownBlock = some j → w3.heap.size ≤ j := fun j hj => own_ge HOB.out j hj
      obtain ⟨pv, cv, hvv, _, _⟩ := own_slice hownC
      subst hvv
      refine At.step 14 (some 51) rfl rfl (by kernel_rfl) (by kernel_rfl) (fun u W => u = .slice pv (k + 1) cv ∧ W = WC) (gives_append (fun _ => by kernel_rfl) hrunC) ?_
      rintro u WC' ⟨rfl, hWC⟩
      subst hWC
      refine ⟨held_cons (.inl (by kernel_rfl)) (held_cons (.inl (by kernel_rfl)) (held_cons (.inl (by kernel_rfl)) (held_nil))), ?_⟩
      have HFC : Hid (Fr (fun i => i = w.heap.size + 1) w3 WC') := HFB.out.grown hgrowC (fun j hj => .inr (hneC j hj))
      have HGC : Hid (WC'.heap[w.heap.size + 1]? = some (.cells #[.int .i64 room, .int .i64 next, v2, .slice none 0 0, .slice none 0 0] 28)) := (hgrowC.block _ (lt_of_some HGB.out) (fun e => by have := hneC _ e.symm; have := HL3.out; omega)).trans HGB.out
      obtain ⟨⟨_, _, gC, _, _⟩, fC⟩ := disk_cell HGC.out
      refine At.take 15 (some 52) (.pointer (some ⟨w.heap.size + 1, 2, none⟩)) rfl rfl (by kernel_rfl) (by kernel_rfl) (by kernel_rfl) (by kernel_rfl) (fun _ _ _ h => h) (yl_pure (by kernel_rfl) (fun _ => by kernel_rfl)) ?_
      refine At.step 16 none rfl rfl (by kernel_rfl) (by kernel_rfl) (fun u W => u = undef ∧ W = WC'.setCell ⟨w.heap.size + 1, 2, none⟩ (.slice pv (k + 1) cv)) (gives_store (p := ⟨w.heap.size + 1, 2, none⟩) (x := .slice pv (k + 1) cv) (y := v2) (fun _ => by kernel_rfl) (by rfl) gC (fC 2)) ?_
      rintro u WE ⟨rfl, hWE⟩
      refine ⟨held_cons (.inl (by kernel_rfl)) (held_cons (.inl (by kernel_rfl)) (held_cons (.inl (by kernel_rfl)) (held_nil))), ?_⟩
      refine At.done (by kernel_rfl) ?_
      have HFE : Hid (Fr (fun i => i = w.heap.size + 1) w3 WE) := by rw [hWE]; exact HFC.out.setCell _ (.inl rfl)
      have HGE : Hid (WE.heap[w.heap.size + 1]? = some (.cells #[.int .i64 room, .int .i64 next, (.slice pv (k + 1) cv), .slice none 0 0, .slice none 0 0] 28)) := by rw [hWE]; exact (disk_set HGC.out).1 _
      have HOE : Hid (WE.ownsRow w3.heap.size 47 3 (.slice pv (k + 1) cv) (k + 1) (rInode ((fs.map (·.1)).take (k + 1)))) := by rw [hWE, HT.out]; exact own_set_lt hownC _ (by have := HL3.out; exact this)
      clear hWE HFC HGC gC fC hownC hgrowC hrunC HFB HGB HOB hWB hbA hneC d0 d1 d2 g2 gf hrun m2 m3 m5 HFk HGk HOk HBk HT HSX
      simp only [Act.put, List.setIfInBounds_toArray, List.set_cons_zero, List.set_cons_succ]
      go_wp2
      go_roundw
      case rel => exact ⟨k + 1, _, by omega, by go_num, HFE, HGE, HOE⟩
      case measure => simp [intOf]; omega
    · have hke : k = fs.length := by omega
      have HO2 : Hid (wr.ownsRow w3.heap.size 47 3 v2 fs.length (rInode (fs.map (·.1)))) := by
        have h1 := HOk.out
        rw [hke, List.take_of_length_le (by rw [List.length_map]; omega)] at h1
        exact h1
      clear HOk hlt HRI HRB
      go_wp2_with fail
      refine (keysS_c (some bd) wr).mono ?_
      rintro e w4 ⟨rfl, hw4⟩
      subst hw4
      clear m2 m3 m5
      go_wp2_with fail
      refine (sortedS_c bd D.length D _ wr (HKP.out wr HBk.out).2.1 (by omega)).mono ?_
      rintro e w5 ⟨vn', rfl, hrow, b5⟩
      have HRN : Hid (RowR w5 vn' D.length 1 (D.map fun x => .string x.f0)) := RowR.own hrow
      have HRB : Hid (∀ k, vn'.ownBlock = some k → w.heap.size + 1 < k) := fun k hk => by
        have h1 := (own_ge hrow k hk)
        have h2 := lt_of_some HGk.out
        omega
      have HB5 : Hid (Below w.heap.size w w5) := HBk.out.trans (b5.mono HBk.out.size)
      have HG5 : Hid (w5.heap[w.heap.size + 1]? = some (.cells #[.int .i64 room, .int .i64 next, v2, .slice none 0 0, .slice none 0 0] 28)) := (b5.block _ (lt_of_some HGk.out)).trans HGk.out
      have HR5 : Hid (w5.heap[w.heap.size]? = some (.cells #[.int .i64 0, .int .i64 0, .slice none 0 0, .slice none 0 0, .slice none 0 0] 28)) := (b5.block _ (by have h1 := HFk.out.size; have h2 := HL3.out; omega)).trans (HFk.out.at HR3.out (by show ¬ w.heap.size = w.heap.size + 1; omega))
      have HL5 : Hid (w.heap.size + 1 < w5.heap.size) := lt_of_some HG5.out
      have HI5 : Hid (w5.ownsRow w3.heap.size 47 3 v2 fs.length (rInode (fs.map (·.1)))) := own_bel HO2.out b5 (Nat.le_refl _)
      obtain ⟨pN, cN, hvn, _, _⟩ := own_slice hrow
      subst hvn
      clear hrow b5 HGk HFk HBk HO2 HR3 HG3 HB3 hke hk
      go_wp2
      go_loopw [61] (fun iv wr => ∃ (k : Nat) (v3 : Value), k ≤ D.length ∧ iv = .int .i64 (k : Int) ∧ Hid (Fr (fun i => i = w.heap.size + 1) w5 wr) ∧ Hid (wr.heap[w.heap.size + 1]? = some (.cells #[.int .i64 room, .int .i64 next, v2, v3, .slice none 0 0] 28)) ∧ Hid (wr.ownsRow w5.heap.size 49 2 v3 k (rLink (D.take k)))) (fun iv _ => D.length - (intOf iv).toNat)
      case atStart => exact ⟨0, .slice none 0 0, Nat.zero_le _, rfl, Fr.refl _ _, HG5, ⟨rfl, .inl ⟨rfl, rfl⟩⟩⟩
      case round =>
        obtain ⟨k, v3, hk, rfl, HFk, HGk, HOk⟩ := hrel
        have HBk : Hid (Below w.heap.size w wr) := HB5.out.trans (HFk.out.below (fun i e => by omega) HB5.out.size)
        obtain ⟨_, _, m2, m3, _, m5⟩ := mount_cell (HKP.out wr HBk.out).2.2.2
        by_cases hlt : k < D.length
        · have hlt' : (k : Int) < D.length := by omega
          obtain ⟨bS, offS, capS, hvS, hbS, hcS⟩ := HRN.out.some (by omega) (by decide)
          simp only [Value.slice.injEq, true_and] at hvS
          obtain ⟨rfl, rfl⟩ := hvS
          have hS := hcS k (by omega)
          rw [List.getElem?_map, List.getElem?_eq_getElem hlt] at hS
          have d0 : wr.cell? ⟨bS, offS + k, none⟩ = some (.string D[k].f0) := fr_cell HFk.out hS (by have := HRB.out bS rfl; show ¬ bS = w.heap.size + 1; omega)
          have hmem : D[k] ∈ D := List.getElem_mem hlt
          have HLK : Hid (∀ W', Below w.heap.size w W' → (Instr.lookup 95 (.map (some bd)) (.string D[k].f0) false).run Tryz.prog W' = .ok (.int .i64 D[k].f1) W') := fun W' hb => by
            have ho := (HKP.out W' hb).2.1
            obtain ⟨c, hr, hc, _⟩ := ho.lookup_int kStr Tryz.underlying95 Tryz.underlying3 (zeroInt _) (Go.WideMaps.keyOf_string_mk Tryz.underlying9 (Nat.le_trans (HSD.out _ hmem) (by unfold maxLen; omega)))
            rw [at_link (sorted_encL ho) k hlt] at hc
            simp only [DataW.lit.injEq, Lit.int.injEq, true_and] at hc
            rw [hc]
            exact hr
          have HSX : Hid (D[k].f0.size ≤ 1048576) := HSD.out _ hmem
          have HT : Hid (rLink (D.take (k + 1)) = rLink (D.take k) ++ [.string D[k].f0, .int .i64 D[k].f1]) := by
            show _ = _
            unfold rLink
            rw [flat_take _ _ k hlt]
            rfl
          obtain ⟨⟨_, _, _, g3, _⟩, gf⟩ := disk_cell HGk.out
          clear hcS hS hmem
          generalize D[k] = X at d0 HLK HSX HT
          go_upto_region 11 with fail
          refine wp_region_L [⟨12, fun W => W.cell? ⟨w.heap.size + 1, 3, none⟩ = some (v3)⟩, ⟨11, fun W => W.cell? ⟨m, 3, none⟩ = some (.map (some bd))⟩, ⟨11, fun W => Sem.run Tryz.prog (Instr.lookup 95 (.map (some bd)) (.string X.f0) false) W = .ok (.int .i64 X.f1) W⟩] (by kernel_rfl) (fun f hf => by
              simp only [List.mem_cons, List.not_mem_nil, or_false] at hf
              rcases hf with rfl | rfl | rfl
              · exact g3
              · exact m3
              · exact HLK.out _ HBk.out.drew
              ) ?_
          refine At.take 0 (some 65) (.pointer (some ⟨w.heap.size + 1, 3, none⟩)) rfl rfl (by kernel_rfl) (by kernel_rfl) (by kernel_rfl) (by kernel_rfl) (fun _ _ _ h => h) (yl_pure (by kernel_rfl) (fun _ => by kernel_rfl)) ?_
          refine At.take 1 (some 66) (v3) rfl rfl (by kernel_rfl) (by kernel_rfl) (by kernel_rfl) (by kernel_rfl) (fun _ _ _ h => h) (yl_load 12 ⟨w.heap.size + 1, 3, none⟩ (v3) (List.mem_cons_self) [12] (by kernel_rfl) rfl (by kernel_rfl) (fun _ => by kernel_rfl)) ?_
          refine At.take 2 (some 67) (.string X.f0) rfl rfl (by kernel_rfl) (by kernel_rfl) (by kernel_rfl) (by kernel_rfl) (fun _ _ _ h => h) (yl_pure (by kernel_rfl) (fun _ => by kernel_rfl)) ?_
          refine At.take 4 (some 69) (.pointer (some ⟨m, 0, none⟩)) rfl rfl (by kernel_rfl) (by kernel_rfl) (by kernel_rfl) (by kernel_rfl) (fun _ _ _ h => h) (yl_pure (by kernel_rfl) (fun _ => by kernel_rfl)) ?_
          refine At.take 5 (some 70) (.pointer (some ⟨m, 0, none⟩)) rfl rfl (by kernel_rfl) (by kernel_rfl) (by kernel_rfl) (by kernel_rfl) (fun _ _ _ h => h) (yl_pure (by kernel_rfl) (fun _ => by kernel_rfl)) ?_
          refine At.take 6 (some 71) (.pointer (some ⟨m, 3, none⟩)) rfl rfl (by kernel_rfl) (by kernel_rfl) (by kernel_rfl) (by kernel_rfl) (fun _ _ _ h => h) (yl_pure (by kernel_rfl) (fun _ => by kernel_rfl)) ?_
          refine At.take 7 (some 72) (.map (some bd)) rfl rfl (by kernel_rfl) (by kernel_rfl) (by kernel_rfl) (by kernel_rfl) (fun _ _ _ h => h) (yl_load 11 ⟨m, 3, none⟩ (.map (some bd)) (List.mem_cons_of_mem _ (List.mem_cons_self)) [9, 10, 11] (by kernel_rfl) rfl (by kernel_rfl) (fun _ => by kernel_rfl)) ?_
          refine At.take 8 (some 73) (.string X.f0) rfl rfl (by kernel_rfl) (by kernel_rfl) (by kernel_rfl) (by kernel_rfl) (fun _ _ _ h => h) (yl_pure (by kernel_rfl) (fun _ => by kernel_rfl)) ?_
          refine At.take 9 (some 74) (.int .i64 X.f1) rfl rfl (by kernel_rfl) (by kernel_rfl) (by kernel_rfl) (by kernel_rfl) (fun _ _ _ h => h) (yl_run 11 (Instr.lookup 95 (.map (some bd)) (.string X.f0) false) (.int .i64 X.f1) (List.mem_cons_of_mem _ (List.mem_cons_of_mem _ (List.mem_cons_self))) [10, 11] (by kernel_rfl) rfl (by kernel_rfl) (fun _ => by kernel_rfl)) ?_
          refine At.step 3 (some 68) rfl rfl (by kernel_rfl) (by kernel_rfl) (fun u W => u = .string X.f0 ∧ Below wr.drew.heap.size wr.drew W) (gives_call (by kernel_rfl) ((clone_c X.f0 wr.drew (by have := HSX.out; omega)).mono fun e w' ⟨he, hb⟩ => ⟨_, he, rfl, hb⟩)) ?_
          rintro u WA ⟨rfl, hbA⟩
          refine ⟨held_cons (.inr (atB hbA g3)) (held_cons (.inr (atB hbA m3)) (held_cons (.inr (HLK.out WA (HBk.out.drew.trans (hbA.mono HBk.out.size)))) (held_nil))), ?_⟩
          refine At.take 10 (some 75) (.agg #[.string X.f0, .int .i64 X.f1]) rfl rfl (by kernel_rfl) (by kernel_rfl) (by kernel_rfl) (by kernel_rfl) (fun _ _ _ h => h) (yl_pure (by kernel_rfl) (fun _ => by kernel_rfl)) ?_
          refine At.step 11 (some 76) rfl rfl (by kernel_rfl) (by kernel_rfl) (fun u W => u = .slice (some ⟨WA.heap.size, 0, none⟩) 1 1 ∧ W = WA.alloc (.cells #[.string X.f0, .int .i64 X.f1] 49)) (gives_run (by kernel_rfl)) ?_
          rintro u WB ⟨rfl, hWB⟩
          refine ⟨by subst hWB; exact held_cons (.inr (cell_alloc (atB hbA g3))) (held_cons (.inl (by kernel_rfl)) (held_cons (.inl (by kernel_rfl)) (held_nil))), ?_⟩
          have HFB : Hid (Fr (fun i => i = w.heap.size + 1) w5 WB) := by rw [hWB]; exact ((HFk.out.drew).bel hbA).alloc _
          have HGB : Hid (WB.heap[w.heap.size + 1]? = some (.cells #[.int .i64 room, .int .i64 next, v2, v3, .slice none 0 0] 28)) := by rw [hWB]; exact (Below.heap_alloc _ _ _ (Nat.lt_of_lt_of_le (lt_of_some HGk.out) hbA.size)).trans ((hbA.block _ (lt_of_some HGk.out)).trans HGk.out)
          have HOB : Hid (WB.ownsRow w5.heap.size 49 2 v3 k (rLink (D.take k))) := by rw [hWB]; exact (own_bel (w := wr.drew) (N := wr.drew.heap.size) HOk.out hbA (Nat.le_refl _)).alloc _
          obtain ⟨v', WC, hrunC, hownC, hgrowC, _, _⟩ := run_append_own_at (P := Tryz.prog) WB w5.heap.size 25 25 49 iL (.agg #[.string ⟨#[]⟩, .int .i64 0]) 2 24 Tryz.underlying25 hiL hL0 hL1 hL2 rfl (by decide) v3 k _ HOB.out ⟨WA.heap.size, 0, none⟩ 1 1 [.string X.f0, .int .i64 X.f1] rfl (by rw [hWB]; exact cells_new WA _ _) (by intro u hu; simp at hu; rcases hu with rfl | rfl <;> rfl) (by unfold maxLen; omega) (by omega) HFB.out.size
          have hneC : ∀ j, v3.ownBlock = some j → w5.heap.size ≤ j := fun j hj => own_ge HOB.out j hj
          obtain ⟨pv, cv, hvv, _, _⟩ := own_slice hownC
          subst hvv
          refine At.step 12 (some 77) rfl rfl (by kernel_rfl) (by kernel_rfl) (fun u W => u = .slice pv (k + 1) cv ∧ W = WC) (gives_append (fun _ => by kernel_rfl) hrunC) ?_
          rintro u WC' ⟨rfl, hWC⟩
          subst hWC
          refine ⟨held_cons (.inl (by kernel_rfl)) (held_cons (.inl (by kernel_rfl)) (held_cons (.inl (by kernel_rfl)) (held_nil))), ?_⟩
          have HFC : Hid (Fr (fun i => i = w.heap.size + 1) w5 WC') := HFB.out.grown hgrowC (fun j hj => .inr (hneC j hj))
          have HGC : Hid (WC'.heap[w.heap.size + 1]? = some (.cells #[.int .i64 room, .int .i64 next, v2, v3, .slice none 0 0] 28)) := (hgrowC.block _ (lt_of_some HGB.out) (fun e => by have := hneC _ e.symm; have := HL5.out; omega)).trans HGB.out
          obtain ⟨⟨_, _, gC2, gC3, gC4⟩, fC⟩ := disk_cell HGC.out
          refine At.take 13 (some 78) (.pointer (some ⟨w.heap.size + 1, 3, none⟩)) rfl rfl (by kernel_rfl) (by kernel_rfl) (by kernel_rfl) (by kernel_rfl) (fun _ _ _ h => h) (yl_pure (by kernel_rfl) (fun _ => by kernel_rfl)) ?_
          refine At.step 14 none rfl rfl (by kernel_rfl) (by kernel_rfl) (fun u W => u = undef ∧ W = WC'.setCell ⟨w.heap.size + 1, 3, none⟩ (.slice pv (k + 1) cv)) (gives_store (p := ⟨w.heap.size + 1, 3, none⟩) (x := .slice pv (k + 1) cv) (y := v3) (fun _ => by kernel_rfl) (by rfl) gC3 (fC 3)) ?_
          rintro u WE ⟨rfl, hWE⟩
          refine ⟨held_cons (.inl (by kernel_rfl)) (held_cons (.inl (by kernel_rfl)) (held_cons (.inl (by kernel_rfl)) (held_nil))), ?_⟩
          refine At.done (by kernel_rfl) ?_
          have HFE : Hid (Fr (fun i => i = w.heap.size + 1) w5 WE) := by rw [hWE]; exact HFC.out.setCell _ (.inl rfl)
          have HGE : Hid (WE.heap[w.heap.size + 1]? = some (.cells #[.int .i64 room, .int .i64 next, v2, (.slice pv (k + 1) cv), .slice none 0 0] 28)) := by rw [hWE]; exact (disk_set HGC.out).2.1 _
          have HOE : Hid (WE.ownsRow w5.heap.size 49 2 (.slice pv (k + 1) cv) (k + 1) (rLink (D.take (k + 1)))) := by rw [hWE, HT.out]; exact own_set_lt hownC _ (by have := HL5.out; exact this)
          clear hWE HFC HGC gC2 gC3 gC4 fC hownC hgrowC hrunC HFB HGB HOB hWB hbA hneC d0 g3 gf m2 m3 m5 HFk HGk HOk HBk HT HSX HLK
          simp only [Act.put, List.setIfInBounds_toArray, List.set_cons_zero, List.set_cons_succ]
          go_wp2
          go_roundw
          case rel => exact ⟨k + 1, _, by omega, by go_num, HFE, HGE, HOE⟩
          case measure => simp [intOf]; omega
        · have hke : k = D.length := by omega
          have HO3 : Hid (wr.ownsRow w5.heap.size 49 2 v3 D.length (rLink D)) := by
            have h1 := HOk.out
            rw [hke, List.take_of_length_le (by omega)] at h1
            exact h1
          have HI6 : Hid (wr.ownsRow w3.heap.size 47 3 v2 fs.length (rInode (fs.map (·.1)))) := own_fr HFk.out HI5.out (fun j hj e => by have := HL3.out; omega)
          have HR6 : Hid (wr.heap[w.heap.size]? = some (.cells #[.int .i64 0, .int .i64 0, .slice none 0 0, .slice none 0 0, .slice none 0 0] 28)) := HFk.out.at HR5.out (by show ¬ w.heap.size = w.heap.size + 1; omega)
          have HL6 : Hid (w.heap.size + 1 < wr.heap.size) := lt_of_some HGk.out
          have HS35 : Hid (w3.heap.size ≤ w5.heap.size ∨ True) := .inr trivial
          obtain ⟨w6, hw6⟩ : ∃ W, W = wr := ⟨_, rfl⟩
          rw [← hw6] at HO3 HI6 HR6 HL6 HGk HBk m5 ⊢
          clear HOk hlt HRN HRB HFk HG5 HR5 HB5 HI5 m2 m3 hw6
          go_wp2
          clear hke hk
          go_loopw [85] (fun iv wr => ∃ (k : Nat) (v4 : Value), k ≤ M.length ∧ iv = .int .i64 (k : Int) ∧ Hid (Fr (fun i => i = w.heap.size + 1) w6 wr) ∧ Hid (wr.heap[w.heap.size + 1]? = some (.cells #[.int .i64 room, .int .i64 next, v2, v3, v4] 28)) ∧ Hid (wr.ownsRow w6.heap.size 51 4 v4 k (rMove (M.take k)))) (fun iv _ => M.length - (intOf iv).toNat)
          case atStart => exact ⟨0, .slice none 0 0, Nat.zero_le _, rfl, Fr.refl _ _, HGk, ⟨rfl, .inl ⟨rfl, rfl⟩⟩⟩
          case round =>
            have HB6 : Hid (Below w.heap.size w w6) := HBk
            clear HGk HBk m5
            obtain ⟨k, v4, hk, rfl, HFk, HGk, HOk⟩ := hrel
            have HBk : Hid (Below w.heap.size w wr) := HB6.out.trans (HFk.out.below (fun i e => by omega) HB6.out.size)
            by_cases hlt : k < M.length
            · have hlt' : (k : Int) < M.length := by omega
              obtain ⟨bM, offM, capM, hvM, hbM, hcM⟩ := move_cells (HKP.out wr HBk.out).2.2.1 (by omega)
              simp only [Value.slice.injEq, true_and] at hvM
              obtain ⟨rfl, rfl⟩ := hvM
              obtain ⟨c0, c1, c2, c3⟩ := hcM k hlt
              have HSX : Hid (M[k].f1.size ≤ 1048576 ∧ M[k].f2.size ≤ 1048576) := HSM.out _ (List.getElem_mem hlt)
              have HT : Hid (rMove (M.take (k + 1)) = rMove (M.take k) ++ [.int .i64 M[k].f0, .string M[k].f1, .string M[k].f2, .int .i64 M[k].f3]) := by
                show _ = _
                unfold rMove
                rw [flat_take _ _ k hlt]
                rfl
              clear hcM
              generalize M[k] = X at c0 c1 c2 c3 HSX HT
              go_upto_region 16 with fail
              refine wp_genD (fun W1 => Hid (W1.heap[wr.heap.size]? = some (.cells #[.int .i64 X.f0, .string X.f1, .string X.f2, .int .i64 X.f3] 51)) ∧ Hid (Fr (fun i => i = w.heap.size + 1) w6 W1) ∧ Hid (W1.heap[w.heap.size + 1]? = some (.cells #[.int .i64 room, .int .i64 next, v2, v3, v4] 28)) ∧ Hid (W1.ownsRow w6.heap.size 51 4 v4 k (rMove (M.take k))) ∧ Hid (∀ j, v4.ownBlock = some j → j < wr.heap.size)) ⟨alloc_at _ _, HFk.out.alloc _, (Below.heap_alloc _ _ _ (lt_of_some HGk.out)).trans HGk.out, HOk.out.alloc _, fun j hj => own_below HOk.out j hj⟩ ?_
              rintro W1 ⟨HX1, HF1, HG1, HO1, HV1⟩
              obtain ⟨i0, i1, i2, i3, ifz⟩ := box4 HX1.out
              have HBX : Hid (w6.heap.size ≤ wr.heap.size) := HFk.out.size
              clear c0 c1 c2 c3 HFk HGk HOk HBk
              generalize wr.heap.size = bx at *
              refine wp_region_L [⟨2, fun W => W.cell? ⟨bx, 1, none⟩ = some (.string X.f1)⟩, ⟨5, fun W => W.cell? ⟨bx, 2, none⟩ = some (.string X.f2)⟩] (by kernel_rfl) (fun f hf => by
                  simp only [List.mem_cons, List.not_mem_nil, or_false] at hf
                  rcases hf with rfl | rfl
                  · exact i1
                  · exact i2
                  ) ?_
              refine At.take 0 (some 89) (.pointer (some ⟨bx, 1, none⟩)) rfl rfl (by kernel_rfl) (by kernel_rfl) (by kernel_rfl) (by kernel_rfl) (fun _ _ _ h => h) (yl_pure (by kernel_rfl) (fun _ => by kernel_rfl)) ?_
              refine At.take 1 (some 90) (.string X.f1) rfl rfl (by kernel_rfl) (by kernel_rfl) (by kernel_rfl) (by kernel_rfl) (fun _ _ _ h => h) (yl_load 2 ⟨bx, 1, none⟩ (.string X.f1) (List.mem_cons_self) [2] (by kernel_rfl) rfl (by kernel_rfl) (fun _ => by kernel_rfl)) ?_
              refine At.take 3 (some 92) (.pointer (some ⟨bx, 2, none⟩)) rfl rfl (by kernel_rfl) (by kernel_rfl) (by kernel_rfl) (by kernel_rfl) (fun _ _ _ h => h) (yl_pure (by kernel_rfl) (fun _ => by kernel_rfl)) ?_
              refine At.take 4 (some 93) (.string X.f2) rfl rfl (by kernel_rfl) (by kernel_rfl) (by kernel_rfl) (by kernel_rfl) (fun _ _ _ h => h) (yl_load 5 ⟨bx, 2, none⟩ (.string X.f2) (List.mem_cons_of_mem _ (List.mem_cons_self)) [5] (by kernel_rfl) rfl (by kernel_rfl) (fun _ => by kernel_rfl)) ?_
              refine At.step 2 (some 91) rfl rfl (by kernel_rfl) (by kernel_rfl) (fun u W => u = .string X.f1 ∧ Below W1.drew.heap.size W1.drew W) (gives_call (by kernel_rfl) ((clone_c X.f1 W1.drew (by have := HSX.out.1; omega)).mono fun e w' ⟨he, hb⟩ => ⟨_, he, rfl, hb⟩)) ?_
              rintro u WA ⟨rfl, hbA⟩
              refine ⟨held_cons (.inl (by kernel_rfl)) (held_cons (.inr (atB hbA (i2))) (held_nil)), ?_⟩
              refine At.take 6 (some 95) (.pointer (some ⟨bx, 1, none⟩)) rfl rfl (by kernel_rfl) (by kernel_rfl) (by kernel_rfl) (by kernel_rfl) (fun _ _ _ h => h) (yl_pure (by kernel_rfl) (fun _ => by kernel_rfl)) ?_
              refine At.step 5 (some 94) rfl rfl (by kernel_rfl) (by kernel_rfl) (fun u W => u = .string X.f2 ∧ Below WA.heap.size WA W) (gives_call (by kernel_rfl) ((clone_c X.f2 WA (by have := HSX.out.2; omega)).mono fun e w' ⟨he, hb⟩ => ⟨_, he, rfl, hb⟩)) ?_
              rintro u WB ⟨rfl, hbB⟩
              refine ⟨held_cons (.inl (by kernel_rfl)) (held_cons (.inl (by kernel_rfl)) (held_nil)), ?_⟩
              have HXB : Hid (WB.heap[bx]? = some (.cells #[.int .i64 X.f0, .string X.f1, .string X.f2, .int .i64 X.f3] 51)) := (hbB.block _ (Nat.lt_of_lt_of_le (lt_of_some HX1.out) hbA.size)).trans ((hbA.block _ (lt_of_some HX1.out)).trans HX1.out)
              obtain ⟨_, q1, q2, _, qf⟩ := box4 HXB.out
              refine At.step 7 none rfl rfl (by kernel_rfl) (by kernel_rfl) (fun u W => u = undef ∧ W = WB.setCell ⟨bx, 1, none⟩ (.string X.f1)) (gives_store (p := ⟨bx, 1, none⟩) (x := .string X.f1) (y := .string X.f1) (fun _ => by kernel_rfl) (by rfl) q1 (qf 1)) ?_
              rintro u WC ⟨rfl, hWC⟩
              refine ⟨held_cons (.inl (by kernel_rfl)) (held_cons (.inl (by kernel_rfl)) (held_nil)), ?_⟩
              have HXC : Hid (WC.heap[bx]? = some (.cells #[.int .i64 X.f0, .string X.f1, .string X.f2, .int .i64 X.f3] 51)) := by rw [hWC]; exact (box4_set HXB.out).1 _
              obtain ⟨_, r1, r2, _, rf⟩ := box4 HXC.out
              refine At.take 8 (some 96) (.pointer (some ⟨bx, 2, none⟩)) rfl rfl (by kernel_rfl) (by kernel_rfl) (by kernel_rfl) (by kernel_rfl) (fun _ _ _ h => h) (yl_pure (by kernel_rfl) (fun _ => by kernel_rfl)) ?_
              refine At.step 9 none rfl rfl (by kernel_rfl) (by kernel_rfl) (fun u W => u = undef ∧ W = WC.setCell ⟨bx, 2, none⟩ (.string X.f2)) (gives_store (p := ⟨bx, 2, none⟩) (x := .string X.f2) (y := .string X.f2) (fun _ => by kernel_rfl) (by rfl) r2 (rf 2)) ?_
              rintro u WE ⟨rfl, hWE⟩
              refine ⟨held_cons (.inl (by kernel_rfl)) (held_cons (.inl (by kernel_rfl)) (held_nil)), ?_⟩
              refine At.done (by kernel_rfl) ?_
              have HFE : Hid (Fr (fun i => i = w.heap.size + 1) w6 WE) := by rw [hWE, hWC]; exact ((((HF1.out.drew).bel hbA).bel hbB).setCell _ (.inr HBX.out)).setCell _ (.inr HBX.out)
              have HXE : Hid (WE.heap[bx]? = some (.cells #[.int .i64 X.f0, .string X.f1, .string X.f2, .int .i64 X.f3] 51)) := by rw [hWE]; exact (box4_set HXC.out).2 _
              have hgb : w.heap.size + 1 ≠ bx := by have := HL6.out; have := HBX.out; omega
              have HGE : Hid (WE.heap[w.heap.size + 1]? = some (.cells #[.int .i64 room, .int .i64 next, v2, v3, v4] 28)) := by
                rw [hWE, hWC, heap_set_ne _ _ hgb, heap_set_ne _ _ hgb]
                exact (hbB.block _ (Nat.lt_of_lt_of_le (lt_of_some HG1.out) hbA.size)).trans ((hbA.block _ (lt_of_some HG1.out)).trans HG1.out)
              have HOE : Hid (WE.ownsRow w6.heap.size 51 4 v4 k (rMove (M.take k))) := by
                rw [hWE, hWC]
                exact own_set_blk (own_set_blk (own_bel (own_bel (w := W1.drew) (N := W1.drew.heap.size) HO1.out hbA (Nat.le_refl _)) hbB (Nat.le_refl _)) (fun j hj => by have := HV1.out j hj; show j ≠ bx; omega)) (fun j hj => by have := HV1.out j hj; show j ≠ bx; omega)
              obtain ⟨x0, x1, x2, x3, _⟩ := box4 HXE.out
              obtain ⟨⟨_, _, _, _, g4⟩, _⟩ := disk_cell HGE.out
              clear hWE hWC HXC HXB q1 q2 qf r1 r2 rf hbA hbB i0 i1 i2 i3 ifz HX1 HF1 HG1 HO1 HV1 HXE
              simp only [Act.put, List.setIfInBounds_toArray, List.set_cons_zero, List.set_cons_succ]
              go_wp2_with (at_builtin; refine wpList_append_own_at _ rfl _ _ 26 rfl w6.heap.size 51 iM (.agg #[.int .i64 0, .string ⟨#[]⟩, .string ⟨#[]⟩, .int .i64 0]) 4 48 Tryz.underlying26 hiM hM0 hM1 hM2 rfl (by decide) v4 k (rMove (M.take k)) rfl (HOE.out.alloc _) ⟨WE.heap.size, 0, none⟩ 1 1 [.int .i64 X.f0, .string X.f1, .string X.f2, .int .i64 X.f3] rfl rfl (cells_new WE _ _) (by intro u hu; simp at hu; rcases hu with rfl | rfl | rfl | rfl <;> rfl) (by unfold maxLen; omega) (by omega) (by have := HFE.out.size; simp; omega) ?_)
              intro v' W9 hown hgrow _ hat
              obtain ⟨pv, cv, hvv, _, _⟩ := own_slice hown
              subst hvv
              have hge : ∀ j, v4.ownBlock = some j → w6.heap.size ≤ j := fun j hj => own_ge HOE.out j hj
              have HF9 : Hid (Fr (fun i => i = w.heap.size + 1) w6 W9) := (HFE.out.alloc _).grown hgrow (fun j hj => .inr (hge j hj))
              have HG9 : Hid (W9.heap[w.heap.size + 1]? = some (.cells #[.int .i64 room, .int .i64 next, v2, v3, v4] 28)) := (hgrow.block _ (by have := lt_of_some HGE.out; simp; omega) (fun e => by have := hge _ e.symm; have := HL6.out; omega)).trans ((Below.heap_alloc _ _ _ (lt_of_some HGE.out)).trans HGE.out)
              have HO9 : Hid (W9.ownsRow w6.heap.size 51 4 (.slice pv (k + 1) cv) (k + 1) (rMove (M.take (k + 1)))) := by rw [HT.out]; exact hown
              obtain ⟨⟨_, _, _, _, h4⟩, hf⟩ := disk_cell HG9.out
              have hf4 := hf 4
              clear hown hgrow hat hge x0 x1 x2 x3 g4 HFE HGE HOE HT hf
              go_wp2
              go_roundw
              case rel => exact ⟨k + 1, .slice pv (k + 1) cv, by omega, by go_num, HF9.out.setCell _ (.inl rfl), (disk_set HG9.out).2.2 _, own_set_lt HO9.out _ (by have := HL6.out; exact this)⟩
              case measure => simp [intOf]; omega
            · have hke : k = M.length := by omega
              have HO4 : Hid (wr.ownsRow w6.heap.size 51 4 v4 M.length (rMove M)) := by
                have h1 := HOk.out
                rw [hke, List.take_of_length_le (by omega)] at h1
                exact h1
              have HI9 : Hid (wr.ownsRow w3.heap.size 47 3 v2 fs.length (rInode (fs.map (·.1)))) := own_fr HFk.out HI6.out (fun j hj e => by have := HL3.out; omega)
              have HL9 : Hid (wr.ownsRow w5.heap.size 49 2 v3 D.length (rLink D)) := own_fr HFk.out HO3.out (fun j hj e => by have := HL5.out; omega)
              have HR9 : Hid (wr.heap[w.heap.size]? = some (.cells #[.int .i64 0, .int .i64 0, .slice none 0 0, .slice none 0 0, .slice none 0 0] 28)) := HFk.out.at HR6.out (by show ¬ w.heap.size = w.heap.size + 1; omega)
              obtain ⟨⟨z0, z1, z2, z3, z4⟩, zf⟩ := disk_cell HR9.out
              obtain ⟨⟨y0, y1, y2, y3, y4⟩, _⟩ := disk_cell HGk.out
              have zf0 := zf 0
              have zf1 := zf 1
              have zf2 := zf 2
              have zf3 := zf 3
              have zf4 := zf 4
              obtain ⟨p2, c2, hv2, _, _⟩ := own_slice HI9.out; subst hv2
              obtain ⟨p3, c3, hv3, _, _⟩ := own_slice HL9.out; subst hv3
              obtain ⟨p4, c4, hv4, _, _⟩ := own_slice HO4.out; subst hv4
              clear hlt HOk zf HFk HGk
              go_wp2
              refine bodyPost_ret (v := .agg #[.int .i64 room, .int .i64 next, .slice p2 fs.length c2, .slice p3 D.length c3, .slice p4 M.length c4]) (by simp [results, Tryz.results58, go_sem, z0, z1, z2, z3, z4]) rfl ⟨_, _, _, rfl, ?_, ?_⟩
              · have hs : ∀ {e : TypeId} {size n base : Nat} {v : Value} {xs : List Value} {W : World}, W.ownsRow base e size v n xs → w.heap.size < base → ∀ u (o : Nat), (W.setCell ⟨w.heap.size, o, none⟩ u).ownsRow base e size v n xs := fun h hl u o => own_set_lt h u hl
                have q3 := HL3.out
                have q5 := HL5.out
                have q6 := HL6.out
                refine ⟨?_, ?_, ?_⟩
                · have h1 := hs (hs (hs (hs (hs HI9.out (by omega) (.int .i64 room) 0) (by omega) (.int .i64 next) 1) (by omega) (.slice p2 fs.length c2) 2) (by omega) (.slice p3 D.length c3) 3) (by omega) (.slice p4 M.length c4) 4
                  have h2 := own_low h1 (base' := w.heap.size) (by omega)
                  simpa using h2
                · exact own_low (hs (hs (hs (hs (hs HL9.out (by omega) (.int .i64 room) 0) (by omega) (.int .i64 next) 1) (by omega) (.slice p2 fs.length c2) 2) (by omega) (.slice p3 D.length c3) 3) (by omega) (.slice p4 M.length c4) 4) (by omega)
                · exact own_low (hs (hs (hs (hs (hs HO4.out (by omega) (.int .i64 room) 0) (by omega) (.int .i64 next) 1) (by omega) (.slice p2 fs.length c2) 2) (by omega) (.slice p3 D.length c3) 3) (by omega) (.slice p4 M.length c4) 4) (by omega)
              · exact ((((HBk.out.setCell (Nat.le_refl _) _).setCell (Nat.le_refl _) _).setCell (Nat.le_refl _) _).setCell (Nat.le_refl _) _).setCell (Nat.le_refl _) _


end Go.Proofs.YtmknplpcpmkhiaaGreat
