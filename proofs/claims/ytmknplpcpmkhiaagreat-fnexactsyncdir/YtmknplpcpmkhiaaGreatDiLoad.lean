/- Load by contracts, both sides. -/
import Derived.Test.YtmknplpcpmkhiaaGreatDlBase
import Derived.Test.YtmknplpcpmkhiaaGreatDiFile
import Derived.Test.YtmknplpcpmkhiaaGreatFrClone
namespace Go.Proofs.YtmknplpcpmkhiaaGreat
open Go.RowKit Go.Maps
set_option linter.unusedVariables false

/-- What Load tells. -/
def ldS (x : S_Disk) (s : ByteArray) : ByteArray := if fnd x s < 0 then ⟨#[]⟩ else (x.f2[(fnd x s).toNat]?.map (·.f1)).getD ⟨#[]⟩

def LdR (x : S_Disk) (s : ByteArray) (w : World) (e : Ending) (w' : World) : Prop :=
  ((okX x ∧ e = .returned (.tuple #[.string (ldS x s), .bool (!decide (fnd x s < 0))])) ∨ (¬ okX x ∧ e = .returned (.tuple #[.string ⟨#[]⟩, .bool false]))) ∧ Below w.heap.size w w'

theorem okX_sum {x : S_Disk} (h : okX x) : x.f3.length + x.f4.length ≤ 1048576 := by
  have := okX_dir h
  have := h.1.2.2.2
  omega

set_option maxRecDepth 20000 in
set_option maxHeartbeats 1000000 in
theorem specLoad_c (x : S_Disk) (p2 p3 p4 : Option Addr) (c2 c3 c4 : Nat) (s : ByteArray) (w : World) (hb : Bnd x) (hr : RdDisk w x (.slice p2 x.f2.length c2) (.slice p3 x.f3.length c3) (.slice p4 x.f4.length c4)) (hc3 : x.f3.length ≤ c3) (hc4 : x.f4.length ≤ c4) (hsz : s.size ≤ 1048576) :
    Calls Tryz.prog 24 #[.agg #[.int .i64 x.f0, .int .i64 x.f1, .slice p2 x.f2.length c2, .slice p3 x.f3.length c3, .slice p4 x.f4.length c4], .string s] w (LdR x s w) := by
  obtain ⟨W0, hW0⟩ : ∃ W, W = w.alloc (.cells #[.int .i64 x.f0, .int .i64 x.f1, .slice p2 x.f2.length c2, .slice p3 x.f3.length c3, .slice p4 x.f4.length c4] 28) := ⟨_, rfl⟩
  have HW0 : Hid (w.alloc (.cells #[.int .i64 x.f0, .int .i64 x.f1, .slice p2 x.f2.length c2, .slice p3 x.f3.length c3, .slice p4 x.f4.length c4] 28) = W0) := hW0.symm
  have HS0 : Hid (W0.heap.size = w.heap.size + 1) := by show _ = _; rw [hW0]; simp
  have HB0 : Hid (Below w.heap.size w W0) := by rw [hW0]; exact (Below.refl _ _).alloc (Nat.le_refl _) _
  have HBX : Hid (∀ W', Below W0.heap.size W0 W' → W'.cell? ⟨w.heap.size, 0, none⟩ = some (.int .i64 x.f0) ∧ W'.cell? ⟨w.heap.size, 1, none⟩ = some (.int .i64 x.f1) ∧ W'.cell? ⟨w.heap.size, 2, none⟩ = some (.slice p2 x.f2.length c2) ∧ W'.cell? ⟨w.heap.size, 3, none⟩ = some (.slice p3 x.f3.length c3) ∧ W'.cell? ⟨w.heap.size, 4, none⟩ = some (.slice p4 x.f4.length c4)) := fun W' hbel => by
    have hk : W'.heap[w.heap.size]? = some (.cells #[.int .i64 x.f0, .int .i64 x.f1, .slice p2 x.f2.length c2, .slice p3 x.f3.length c3, .slice p4 x.f4.length c4] 28) := by rw [hbel.block _ (by rw [HS0.out]; exact Nat.lt_succ_self _), hW0]; exact alloc_at _ _
    exact (disk_cell hk).1
  have HRD : Hid (∀ W', Below W0.heap.size W0 W' → RdDisk W' x (.slice p2 x.f2.length c2) (.slice p3 x.f3.length c3) (.slice p4 x.f4.length c4)) := fun W' hbel => (hr.keep HB0.out (Nat.le_refl _)).keep hbel (Nat.le_refl _)
  have HDN : Hid (∀ W', Below W0.heap.size W0 W' → Below w.heap.size w W') := fun W' hbel => HB0.out.trans (hbel.mono (by rw [HS0.out]; exact Nat.le_succ _))
  have HBN : Hid (Bnd x) := hb
  have HLN : Hid (LnDisk x 1048576) := ⟨hb.len.1, hb.dir, hb.len.2⟩
  clear hW0 hr hb
  have HCP : Hid (x.f3.length ≤ c3 ∧ x.f4.length ≤ c4) := ⟨hc3, hc4⟩
  clear hc3 hc4
  obtain ⟨e0, e1, e2, e3, e4⟩ := HBX.out W0 (Below.refl _ _)
  go_enter Tryz.func24, Tryz.ntmps24
  go_wp2_with fail
  rw [HW0.out]
  refine (specOk_c x p2 p3 p4 c2 c3 c4 W0 HBN.out (HRD.out W0 (Below.refl _ _)) HCP.out.1 HCP.out.2).mono ?_
  intro e w1 hdo
  clear e0 e1 e2 e3 e4
  obtain ⟨⟨hok, rfl⟩ | ⟨hno, rfl⟩, b1⟩ := hdo
  case inr =>
    have HE : Hid (¬ okX x) := hno
    have HC1 : Hid (Below W0.heap.size W0 w1) := b1
    clear hno b1
    go_wp2
    go_ret2
    exact ⟨.inr ⟨HE.out, rfl⟩, HDN.out _ HC1.out⟩
  have HE : Hid (okX x) := hok
  have HC1 : Hid (Below W0.heap.size W0 w1) := b1
  clear hok b1
  obtain ⟨e0, e1, e2, e3, e4⟩ := HBX.out w1 HC1.out
  go_wp2_with fail
  refine (find_c x p2 p3 p4 c2 c3 c4 s w1 HLN.out (okX_sum HE.out) HBN.out.sm (by unfold maxLen; omega) (HRD.out w1 HC1.out)).mono ?_
  rintro e w2 ⟨rfl, b2⟩
  have HC2 : Hid (Below W0.heap.size W0 w2) := HC1.out.trans (b2.mono HC1.out.size)
  clear b2 e0 e1 e2 e3 e4
  obtain ⟨e0, e1, e2, e3, e4⟩ := HBX.out w2 HC2.out
  by_cases hneg : fnd x s < 0
  · have HZ : Hid (ldS x s = ⟨#[]⟩) := if_pos hneg
    have HD : Hid (decide (fnd x s < 0) = true) := by show _ = _; simpa using hneg
    go_wp2
    go_ret2
    exact ⟨.inl ⟨HE.out, by rw [HZ.out, HD.out]; rfl⟩, HDN.out _ HC2.out⟩
  · obtain ⟨k, hk⟩ : ∃ k : Nat, fnd x s = k := ⟨(fnd x s).toNat, by omega⟩
    have hkl : k < x.f2.length := by
      have h1 := (idx_range (fun y : S_Inode => decide (y.f0 = idOf (nms x.f3 x.f4) s)) x.f2).2
      unfold fnd at hk
      split at hk <;> omega
    obtain ⟨b, off, cap, hvv, hbl, hcc⟩ := inode_cells (HRD.out w2 HC2.out).1 (by omega)
    simp only [Value.slice.injEq, true_and] at hvv
    obtain ⟨rfl, rfl⟩ := hvv
    obtain ⟨_, d1, _⟩ := hcc k hkl
    have HZ : Hid (ldS x s = x.f2[k].f1) := by
      show _ = _
      unfold ldS
      rw [if_neg hneg, hk, Int.toNat_natCast, List.getElem?_eq_getElem hkl]
      rfl
    have HD : Hid (decide (fnd x s < 0) = false) := by show _ = _; simpa using hneg
    rw [hk]
    rw [hk] at hneg
    have hk1 : (k : Int) < x.f2.length := by omega
    clear hcc hk
    go_wp2
    go_ret2
    exact ⟨.inl ⟨HE.out, by rw [HZ.out, HD.out]; rfl⟩, HDN.out _ HC2.out⟩

/-- The place of a file among the inodes. -/
theorem find_zip (i : Int) : ∀ (I : List S_Inode) (bs : List Nat), bs.length = I.length → (I.zip bs).find? (fun p => decide (p.1.f0 = i)) = if idx (fun y : S_Inode => decide (y.f0 = i)) I < 0 then none else (I.zip bs)[(idx (fun y : S_Inode => decide (y.f0 = i)) I).toNat]?
  | [], _, _ => by simp [idx]
  | x :: xs, [], h => by simp at h
  | x :: xs, b :: bs, h => by
    have ih := find_zip i xs bs (by simpa using h)
    simp only [List.zip_cons_cons, List.find?_cons, idx]
    by_cases hx : x.f0 = i
    · simp [hx]
    · simp only [hx, decide_false, Bool.false_eq_true, if_false]
      rw [ih]
      have hr := (idx_range (fun y : S_Inode => decide (y.f0 = i)) xs).1
      by_cases hn : idx (fun y : S_Inode => decide (y.f0 = i)) xs < 0
      · simp [hn]
      · rw [if_neg hn, if_neg hn, if_neg (by omega)]
        obtain ⟨k, hk⟩ : ∃ k : Nat, idx (fun y : S_Inode => decide (y.f0 = i)) xs = k := ⟨_, (Int.toNat_of_nonneg (by omega)).symm⟩
        rw [hk]
        have : ((k : Int) + 1).toNat = k + 1 := by omega
        rw [this, Int.toNat_natCast, List.getElem?_cons_succ]

/-- No file has the Id 0. -/
theorem fnd_id {x : S_Disk} (h : okX x) (s : ByteArray) : fnd x s = idx (fun y : S_Inode => decide (y.f0 = idOf (nms x.f3 x.f4) s)) x.f2 := by
  unfold fnd
  split
  · rename_i hn
    refine (idx_miss _ _ fun j hj => ?_).symm
    have h1 := okI_pos (next := x.f1) j (fun i hi _ => h.2.1.1 i hi) (by omega)
    have h2 := (h.2.1.1 j hj).1
    unfold idOf
    rw [if_pos hn]
    simp
    omega
  · rfl

theorem fptr_zip {x : S_Disk} (h : okX x) (s : ByteArray) (bs : List Nat) (hl : bs.length = x.f2.length) :
    (fnd x s < 0 ∧ fptr (x.f2.zip bs) (idOf (nms x.f3 x.f4) s) = .pointer none ∧ hasF (x.f2.zip bs) (idOf (nms x.f3 x.f4) s) = false) ∨ (∃ (k : Nat) (hk : k < x.f2.length) (hkb : k < bs.length), fnd x s = k ∧ fptr (x.f2.zip bs) (idOf (nms x.f3 x.f4) s) = .pointer (some ⟨bs[k], 0, none⟩) ∧ hasF (x.f2.zip bs) (idOf (nms x.f3 x.f4) s) = true) := by
  have hf := find_zip (idOf (nms x.f3 x.f4) s) x.f2 bs hl
  rw [← fnd_id h s] at hf
  have hany : hasF (x.f2.zip bs) (idOf (nms x.f3 x.f4) s) = ((x.f2.zip bs).find? fun p => decide (p.1.f0 = idOf (nms x.f3 x.f4) s)).isSome := by
    unfold hasF
    rw [List.isSome_find?]
  by_cases hn : fnd x s < 0
  · rw [if_pos hn] at hf
    refine .inl ⟨hn, ?_, ?_⟩
    · unfold fptr; rw [hf]
    · rw [hany, hf]; rfl
  · rw [if_neg hn] at hf
    have hr := (idx_range (fun y : S_Inode => decide (y.f0 = idOf (nms x.f3 x.f4) s)) x.f2).2
    rw [← fnd_id h s] at hr
    obtain ⟨k, hk⟩ : ∃ k : Nat, fnd x s = k := ⟨_, (Int.toNat_of_nonneg (by omega)).symm⟩
    have hkl : k < x.f2.length := by omega
    have hkb : k < bs.length := by omega
    rw [hk, Int.toNat_natCast, List.getElem?_eq_getElem (by rw [List.length_zip]; omega), List.getElem_zip] at hf
    refine .inr ⟨k, hkl, hkb, hk, ?_, ?_⟩
    · unfold fptr; rw [hf]
    · rw [hany, hf]; rfl

set_option maxRecDepth 20000 in
set_option maxHeartbeats 1000000 in
theorem implLoad_c (x : S_Disk) (p2 p3 p4 : Option Addr) (c2 c3 c4 : Nat) (s : ByteArray) (w : World) (hb : Bnd x) (hr : RdDisk w x (.slice p2 x.f2.length c2) (.slice p3 x.f3.length c3) (.slice p4 x.f4.length c4)) (hp : p4 = none → c4 = 0) (hsz : s.size ≤ 1048576) :
    Calls Tryz.prog 18 #[.agg #[.int .i64 x.f0, .int .i64 x.f1, .slice p2 x.f2.length c2, .slice p3 x.f3.length c3, .slice p4 x.f4.length c4], .string s] w (LdR x s w) := by
  obtain ⟨W0, hW0⟩ : ∃ W, W = w.alloc (.cells #[.int .i64 x.f0, .int .i64 x.f1, .slice p2 x.f2.length c2, .slice p3 x.f3.length c3, .slice p4 x.f4.length c4] 28) := ⟨_, rfl⟩
  have HW0 : Hid (w.alloc (.cells #[.int .i64 x.f0, .int .i64 x.f1, .slice p2 x.f2.length c2, .slice p3 x.f3.length c3, .slice p4 x.f4.length c4] 28) = W0) := hW0.symm
  have HS0 : Hid (W0.heap.size = w.heap.size + 1) := by show _ = _; rw [hW0]; simp
  have HB0 : Hid (Below w.heap.size w W0) := by rw [hW0]; exact (Below.refl _ _).alloc (Nat.le_refl _) _
  have HBX : Hid (∀ W', Below W0.heap.size W0 W' → W'.cell? ⟨w.heap.size, 0, none⟩ = some (.int .i64 x.f0) ∧ W'.cell? ⟨w.heap.size, 1, none⟩ = some (.int .i64 x.f1) ∧ W'.cell? ⟨w.heap.size, 2, none⟩ = some (.slice p2 x.f2.length c2) ∧ W'.cell? ⟨w.heap.size, 3, none⟩ = some (.slice p3 x.f3.length c3) ∧ W'.cell? ⟨w.heap.size, 4, none⟩ = some (.slice p4 x.f4.length c4)) := fun W' hbel => by
    have hk : W'.heap[w.heap.size]? = some (.cells #[.int .i64 x.f0, .int .i64 x.f1, .slice p2 x.f2.length c2, .slice p3 x.f3.length c3, .slice p4 x.f4.length c4] 28) := by rw [hbel.block _ (by rw [HS0.out]; exact Nat.lt_succ_self _), hW0]; exact alloc_at _ _
    exact (disk_cell hk).1
  have HRD : Hid (∀ W', Below W0.heap.size W0 W' → RdDisk W' x (.slice p2 x.f2.length c2) (.slice p3 x.f3.length c3) (.slice p4 x.f4.length c4)) := fun W' hbel => (hr.keep HB0.out (Nat.le_refl _)).keep hbel (Nat.le_refl _)
  have HDN : Hid (∀ W', Below W0.heap.size W0 W' → Below w.heap.size w W') := fun W' hbel => HB0.out.trans (hbel.mono (by rw [HS0.out]; exact Nat.le_succ _))
  have HBN : Hid (Bnd x) := hb
  have HLN : Hid (LnDisk x 1048576) := ⟨hb.len.1, hb.dir, hb.len.2⟩
  clear hW0 hr hb
  have HP : Hid (p4 = none → c4 = 0) := hp
  clear hp
  obtain ⟨e0, e1, e2, e3, e4⟩ := HBX.out W0 (Below.refl _ _)
  go_enter Tryz.func18, Tryz.ntmps18
  go_wp2_with fail
  rw [HW0.out]
  refine (mount_c x p2 p3 p4 c2 c3 c4 W0 HBN.out (HRD.out W0 (Below.refl _ _)) HP.out).mono ?_
  rintro e w1 (⟨hok, ⟨m, bf, bd, bn, vm, bs, rfl, hM⟩, b1⟩ | ⟨hno, rfl, b1⟩)
  case inr =>
    have HE : Hid (¬ okX x) := hno
    have HC1 : Hid (Below W0.heap.size W0 w1) := b1
    clear hno b1 e0 e1 e2 e3 e4
    go_wp2
    go_ret2
    exact ⟨.inr ⟨HE.out, rfl⟩, HDN.out _ HC1.out⟩
  have HE : Hid (okX x) := hok
  have HC1 : Hid (Below W0.heap.size W0 w1) := b1
  have HM : Hid (Mnt W0.heap.size w1 m x bf bd bn vm bs) := hM
  clear hok b1 hM e0 e1 e2 e3 e4
  go_wp2_with fail
  refine (fileOf_c W0.heap.size m x.f0 x.f1 bf bd bn vm (x.f2.zip bs) _ (nms x.f3 x.f4) s w1 HM.out.2.2.2.2.1 HM.out.2.1 HM.out.2.2.2.1 (by unfold maxLen; omega)).mono ?_
  rintro e w2 ⟨rfl, hw2⟩
  have HC2 : Hid (Below W0.heap.size W0 w2) := by rw [hw2]; exact HC1.out.drew
  have HH2 : Hid (∀ k : Nat, w2.heap[k]? = w1.heap[k]?) := fun k => by rw [hw2]; rfl
  clear hw2
  rcases fptr_zip HE.out s bs HM.out.1 with ⟨hneg, h1, h2⟩ | ⟨k, hk, hkb, hkf, h1, h2⟩
  · rw [h1, h2]
    have HZ : Hid (ldS x s = ⟨#[]⟩) := if_pos hneg
    have HD : Hid (decide (fnd x s < 0) = true) := by show _ = _; simpa using hneg
    clear h1 h2 hneg
    go_wp2
    go_ret2
    exact ⟨.inl ⟨HE.out, by rw [HZ.out, HD.out]; rfl⟩, HDN.out _ HC2.out⟩
  · rw [h1, h2]
    have HZ : Hid (ldS x s = x.f2[k].f1) := by
      show _ = _
      unfold ldS
      rw [if_neg (by omega), hkf, Int.toNat_natCast, List.getElem?_eq_getElem hk]
      rfl
    have HD : Hid (decide (fnd x s < 0) = false) := by show _ = _; simp; omega
    have hmem : (x.f2[k], bs[k]) ∈ x.f2.zip bs := by
      rw [← List.getElem_zip (h := by rw [List.length_zip]; omega)]
      exact List.getElem_mem _
    have hblk := HM.out.2.1.blk _ hmem
    rw [← HH2.out] at hblk
    obtain ⟨d0, _, _⟩ := file_cell hblk
    have HSZ : Hid (x.f2[k].f1.size ≤ 1048576) := (HM.out.2.1.wf _ hmem).2.2
    clear h1 h2 hkf hmem hblk
    generalize x.f2[k].f1 = D at *
    generalize bs[k] = bk at *
    go_wp2_with fail
    refine (clone_c D w2 (by have := HSZ.out; omega)).mono ?_
    rintro e w3 ⟨rfl, b3⟩
    have HC3 : Hid (Below W0.heap.size W0 w3) := HC2.out.trans (b3.mono HC2.out.size)
    clear b3 d0
    go_wp2
    go_ret2
    exact ⟨.inl ⟨HE.out, by rw [HZ.out, HD.out]; rfl⟩, HDN.out _ HC3.out⟩

theorem LdR.val {x : S_Disk} {s : ByteArray} {w w' : World} {e : Ending} (h : LdR x s w e w') : ∃ D B, e = .returned (.tuple #[.string D, .bool B]) ∧ ((okX x ∧ D = ldS x s ∧ B = !decide (fnd x s < 0)) ∨ (¬ okX x ∧ D = ⟨#[]⟩ ∧ B = false)) ∧ Below w.heap.size w w' := by
  obtain ⟨⟨h1, rfl⟩ | ⟨h1, rfl⟩, hb⟩ := h
  · exact ⟨_, _, rfl, .inl ⟨h1, rfl, rfl⟩, hb⟩
  · exact ⟨_, _, rfl, .inr ⟨h1, rfl, rfl⟩, hb⟩

end Go.Proofs.YtmknplpcpmkhiaaGreat
