/- The program's own mount of a disk, by its contract. -/
import Derived.Test.YtmknplpcpmkhiaaGreatDiTakeM
namespace Go.Proofs.YtmknplpcpmkhiaaGreat
open Go.RowKit Go.Maps
set_option linter.unusedVariables false

/-- Inodes as files that lie nowhere. -/
def fs0 (I : List S_Inode) : List (S_Inode × Nat) := I.map fun y => (y, 0)

theorem hasF_zip : ∀ (I : List S_Inode) (bs : List Nat), bs.length = I.length → hasF (I.zip bs) = hasF (fs0 I)
  | [], _, _ => by simp [fs0]
  | x :: xs, [], h => by simp at h
  | x :: xs, b :: bs, h => by
    have := hasF_zip xs bs (by simpa using h)
    funext i
    have := congrFun this i
    simp only [hasF, fs0, List.zip_cons_cons, List.any_cons, List.map_cons] at this ⊢
    rw [this]

theorem okD_zip (I : List S_Inode) (bs : List Nat) (h : bs.length = I.length) (L : List S_Link) : okD (I.zip bs) L ↔ okD (fs0 I) L := by
  simp only [okD, dOk, hasF_zip I bs h]

theorem okM_zip (I : List S_Inode) (bs : List Nat) (h : bs.length = I.length) (D : List S_Link) (M : List S_Move) : okM (I.zip bs) D M ↔ okM (fs0 I) D M := by
  simp only [okM, mOk, hasF_zip I bs h]

theorem pigeon : ∀ (A B : List Int), A.Nodup → (∀ a ∈ A, a ∈ B) → A.length ≤ B.length
  | [], _, _, _ => by simp
  | a :: A, B, hn, hs => by
    obtain ⟨h1, h2⟩ := List.nodup_cons.1 hn
    have ha := hs a (by simp)
    have := pigeon A (B.erase a) h2 (fun b hb => (List.mem_erase_of_ne (fun e => h1 (by rw [← e]; exact hb))).2 (hs b (by simp [hb])))
    rw [List.length_erase_of_mem ha] at this
    have hl := List.length_pos_of_mem ha
    simp only [List.length_cons]
    omega

theorem okD_nodup {fs : List (S_Inode × Nat)} {L : List S_Link} (h : okD fs L) : ∀ k, k ≤ L.length → ((L.take k).map (·.f1)).Nodup
  | 0, _ => by simp
  | k + 1, hk => by
    have hkl : k < L.length := by omega
    have ih := okD_nodup h k (by omega)
    have e : L.take (k + 1) = L.take k ++ [L[k]] := by rw [List.take_add_one, List.getElem?_eq_getElem hkl]; rfl
    rw [e, List.map_append, List.nodup_append]
    refine ⟨ih, by simp, fun a ha b hb => ?_⟩
    simp only [List.map_cons, List.map_nil, List.mem_singleton] at hb
    subst hb
    intro he
    obtain ⟨y, hy, rfl⟩ := List.mem_map.1 ha
    have h1 := (h k hkl).2.2.2
    unfold lnk at h1
    rw [List.any_eq_false] at h1
    exact h1 y hy (by simpa using he)

theorem okD_len {I : List S_Inode} {L : List S_Link} (h : okD (fs0 I) L) : L.length ≤ I.length := by
  have h1 := okD_nodup h L.length (Nat.le_refl _)
  rw [List.take_length] at h1
  have h2 := pigeon (L.map (·.f1)) (I.map (·.f0)) h1 (fun a ha => by
    obtain ⟨y, hy, rfl⟩ := List.mem_map.1 ha
    obtain ⟨i, hi, rfl⟩ := List.getElem_of_mem hy
    have h3 := (h i hi).2.2.1
    unfold hasF fs0 at h3
    rw [List.any_map] at h3
    obtain ⟨z, hz, hzi⟩ := List.any_eq_true.1 h3
    exact List.mem_map.2 ⟨z, hz, by simpa using hzi⟩)
  simpa using h2

/-- Is a disk right? -/
def okX (x : S_Disk) : Prop :=
  ((0 ≤ x.f0 ∧ x.f0 ≤ 1048576) ∧ (1 ≤ x.f1 ∧ x.f1 ≤ 1000000) ∧ x.f2.length ≤ 10 ∧ x.f4.length ≤ 20) ∧ (okI x.f1 x.f2 ∧ (totI x.f2 : Int) ≤ x.f0) ∧ okD (fs0 x.f2) x.f3 ∧ okM (fs0 x.f2) x.f3 x.f4 ∧ ∀ y ∈ x.f2, (lnk x.f3 y.f0 || mad x.f4 y.f0) = true

/-- A disk that is worked on. -/
def Mnt (B : Nat) (w : World) (m : Nat) (x : S_Disk) (bf bd bn : Nat) (vm : Value) (bs : List Nat) : Prop :=
  bs.length = x.f2.length ∧ Fls B w bf (x.f2.zip bs) (fun i => lnk x.f3 i || mad x.f4 i) ∧ w.ownsMap Tryz.prog 9 (plainElem Tryz.prog 3) bd x.f3.length (encL x.f3) ∧ w.ownsMap Tryz.prog 9 (plainElem Tryz.prog 3) bn (nms x.f3 x.f4).length (encL (nms x.f3 x.f4)) ∧
    w.heap[m]? = some (mObj x.f0 x.f1 bf bd (.map (some bn)) vm) ∧ w.ownsRow B 51 4 vm x.f4.length (rMove x.f4) ∧ (bd ≠ bf ∧ bn ≠ bd ∧ bn ≠ bf) ∧ B ≤ m ∧ B ≤ bd ∧ B ≤ bn

def MoR (x : S_Disk) (w : World) (e : Ending) (w' : World) : Prop :=
  (okX x ∧ (∃ m bf bd bn vm bs, e = .returned (.tuple #[.pointer (some ⟨m, 0, none⟩), .bool true]) ∧ Mnt w.heap.size w' m x bf bd bn vm bs) ∧ Below w.heap.size w w') ∨ (¬ okX x ∧ e = .returned (.tuple #[.pointer none, .bool false]) ∧ Below w.heap.size w w')

/-- What bounds a disk has that can be handed in. -/
structure Bnd (x : S_Disk) : Prop where
  tot : totI x.f2 ≤ 1048576
  dir : x.f3.length ≤ 1048576
  gi : ∀ y ∈ x.f2, gInode y
  gl : ∀ y ∈ x.f3, gLink y
  sl : ∀ y ∈ x.f3, sLink y
  gm : ∀ y ∈ x.f4, gMove y
  sm : ∀ y ∈ x.f4, sMove y
  len : x.f2.length ≤ 1048576 ∧ x.f4.length ≤ 1048576

set_option maxRecDepth 20000 in
set_option maxHeartbeats 4000000 in
theorem mount_c (x : S_Disk) (p2 p3 p4 : Option Addr) (c2 c3 c4 : Nat) (w : World) (hb : Bnd x) (hr : RdDisk w x (.slice p2 x.f2.length c2) (.slice p3 x.f3.length c3) (.slice p4 x.f4.length c4)) (hp : p4 = none → c4 = 0) :
    Calls Tryz.prog 53 #[.agg #[.int .i64 x.f0, .int .i64 x.f1, .slice p2 x.f2.length c2, .slice p3 x.f3.length c3, .slice p4 x.f4.length c4]] w (MoR x w) := by
  obtain ⟨hl2, hl4⟩ := hb.len
  have HB : Hid (Bnd x) := hb
  have HR : Hid (RdDisk w x (.slice p2 x.f2.length c2) (.slice p3 x.f3.length c3) (.slice p4 x.f4.length c4)) := hr
  have HP : Hid (p4 = none → c4 = 0) := hp
  have HB0 : Hid (Below w.heap.size w (w.alloc (.cells #[.int .i64 x.f0, .int .i64 x.f1, .slice p2 x.f2.length c2, .slice p3 x.f3.length c3, .slice p4 x.f4.length c4] 28))) := (Below.refl _ _).alloc (Nat.le_refl _) _
  have hmm := @run_makeMap Tryz.prog
  clear hb hr hp
  by_cases g1 : x.f0 < 0
  · have HE : Hid (¬ okX x) := fun h => by have := h.1.1; omega
    go_enter Tryz.func53, Tryz.ntmps53
    go_wp2
    go_ret2
    exact .inr ⟨HE.out, rfl, HB0.out⟩
  by_cases g2 : 1048576 < x.f0
  · have HE : Hid (¬ okX x) := fun h => by have := h.1.1; omega
    go_enter Tryz.func53, Tryz.ntmps53
    go_wp2
    go_ret2
    exact .inr ⟨HE.out, rfl, HB0.out⟩
  by_cases g3 : x.f1 < 1
  · have HE : Hid (¬ okX x) := fun h => by have := h.1.2.1; omega
    go_enter Tryz.func53, Tryz.ntmps53
    go_wp2
    go_ret2
    exact .inr ⟨HE.out, rfl, HB0.out⟩
  by_cases g4 : 1000000 < x.f1
  · have HE : Hid (¬ okX x) := fun h => by have := h.1.2.1; omega
    go_enter Tryz.func53, Tryz.ntmps53
    go_wp2
    go_ret2
    exact .inr ⟨HE.out, rfl, HB0.out⟩
  by_cases g5 : (10 : Int) < x.f2.length
  · have HE : Hid (¬ okX x) := fun h => by have := h.1.2.2.1; omega
    go_enter Tryz.func53, Tryz.ntmps53
    go_wp2
    go_ret2
    exact .inr ⟨HE.out, rfl, HB0.out⟩
  by_cases g6 : (20 : Int) < x.f4.length
  · have HE : Hid (¬ okX x) := fun h => by have := h.1.2.2.2; omega
    go_enter Tryz.func53, Tryz.ntmps53
    go_wp2
    go_ret2
    exact .inr ⟨HE.out, rfl, HB0.out⟩
  have HX1 : Hid ((0 ≤ x.f0 ∧ x.f0 ≤ 1048576) ∧ (1 ≤ x.f1 ∧ x.f1 ≤ 1000000) ∧ x.f2.length ≤ 10 ∧ x.f4.length ≤ 20) := by show _ ∧ _; omega
  go_enter Tryz.func53, Tryz.ntmps53
  go_wp2_with fail
  refine wp_genC (fun W1 => W1.cell? ⟨w.heap.size, 3, none⟩ = some (.slice p3 x.f3.length c3) ∧ W1.cell? ⟨w.heap.size, 4, none⟩ = some (.slice p4 x.f4.length c4) ∧ Hid (W1.heap[w.heap.size + 1 + 1 + 1]? = some (mObj x.f0 x.f1 (w.heap.size + 1) (w.heap.size + 1 + 1) (.map none) (.slice none 0 0))) ∧ Hid (Fls (w.heap.size + 1) W1 (w.heap.size + 1) [] (fun _ => false)) ∧ Hid (W1.ownsMap Tryz.prog 9 (plainElem Tryz.prog 3) (w.heap.size + 1 + 1) 0 (encL [])) ∧ Hid (Below w.heap.size w W1) ∧ Hid (w.heap.size + 1 ≤ W1.heap.size)) ?_ ?_
  · obtain ⟨a1, ha1⟩ : ∃ a1, a1 = w.alloc (.cells #[.int .i64 x.f0, .int .i64 x.f1, .slice p2 x.f2.length c2, .slice p3 x.f3.length c3, .slice p4 x.f4.length c4] 28) := ⟨_, rfl⟩
    have s1 : a1.heap.size = w.heap.size + 1 := by rw [ha1]; simp
    have k3 : a1.cell? ⟨w.heap.size, 3, none⟩ = some (.slice p3 x.f3.length c3) := by rw [ha1]; exact box_cell _ _ _ _
    have k4 : a1.cell? ⟨w.heap.size, 4, none⟩ = some (.slice p4 x.f4.length c4) := by rw [ha1]; exact box_cell _ _ _ _
    have kb : Below w.heap.size w a1 := by rw [ha1]; exact HB0.out
    rw [← ha1]
    clear ha1
    have o1 : (a1.alloc (.map #[] 0)).ownsMap Tryz.prog 3 ptrElem (w.heap.size + 1) 0 (encF []) := by
      have := World.ownsMap_made (H := Unit) a1 Tryz.prog 3 ptrElem
      rw [s1] at this
      exact this
    have s2 : (a1.alloc (.map #[] 0)).heap.size = w.heap.size + 1 + 1 := by simp [s1]
    have o2 : ((a1.alloc (.map #[] 0)).alloc (.map #[] 0)).ownsMap Tryz.prog 9 (plainElem Tryz.prog 3) (w.heap.size + 1 + 1) 0 (encL []) := by
      have := World.ownsMap_made (H := Unit) (a1.alloc (.map #[] 0)) Tryz.prog 9 (plainElem Tryz.prog 3)
      rw [s2] at this
      exact this
    have s3 : ((a1.alloc (.map #[] 0)).alloc (.map #[] 0)).heap.size = w.heap.size + 1 + 1 + 1 := by simp [s1]
    refine ⟨cell_alloc (cell_alloc (cell_alloc k3)), cell_alloc (cell_alloc (cell_alloc k4)), ?_, ⟨(o1.alloc _).alloc _, by simp, ⟨Nat.le_refl _, by simp⟩, by simp, by simp, by simp⟩, o2.alloc _, ((kb.alloc (by omega) _).alloc (by omega) _).alloc (by omega) _, by show _ ≤ _; simp; omega⟩
    have := (MapKept.heap_alloc ((a1.alloc (.map #[] 0)).alloc (.map #[] 0)) (mObj x.f0 x.f1 (w.heap.size + 1) (w.heap.size + 1 + 1) (.map none) (.slice none 0 0))).1
    rw [s3] at this
    exact this
  intro W1 ⟨q3, q4, HM1, HF1, HD1, HBE1, HSZ1⟩
  refine (takeI_c (w.heap.size + 1) (w.heap.size + 1 + 1 + 1) x.f0 x.f1 (w.heap.size + 1) (w.heap.size + 1 + 1) (.map none) (.slice none 0 0) x.f2 p2 c2 w W1 HM1.out HF1.out (Nat.le_succ _) HSZ1.out HBE1.out HR.out.1 HX1.out.2.2.1 HB.out.gi HB.out.tot).mono ?_
  rintro e W2 (⟨hI, hT, rfl, hTk⟩ | ⟨hno, rfl, bel⟩)
  case inr =>
    have HE : Hid (¬ okX x) := fun h => hno h.2.1
    have HBE : Hid (Below w.heap.size w W2) := HBE1.out.trans (bel.mono (Nat.le_succ _))
    clear hno bel
    go_wp2
    go_ret2
    exact .inr ⟨HE.out, rfl, HBE.out⟩
  obtain ⟨⟨bs, hbs, hF2⟩, hfr2, hm2, hB2⟩ := hTk
  rw [List.take_length] at hF2
  have HX2 : Hid (okI x.f1 x.f2 ∧ (totI x.f2 : Int) ≤ x.f0) := ⟨hI, hT⟩
  have HBS : Hid (bs.length = x.f2.length) := hbs
  have HM2 : Hid (W2.heap[w.heap.size + 1 + 1 + 1]? = some (mObj x.f0 x.f1 (w.heap.size + 1) (w.heap.size + 1 + 1) (.map none) (.slice none 0 0))) := hm2
  have HF2 : Hid (Fls (w.heap.size + 1) W2 (w.heap.size + 1) (x.f2.zip bs) (fun _ => false)) := hF2
  have HD2 : Hid (W2.ownsMap Tryz.prog 9 (plainElem Tryz.prog 3) (w.heap.size + 1 + 1) 0 (encL [])) := hfr2.map HD1.out (by omega)
  have HBE2 : Hid (Below w.heap.size w W2) := HBE1.out.trans (hfr2.below (fun i e => by omega) HBE1.out.size)
  have q3' : W2.cell? ⟨w.heap.size, 3, none⟩ = some (.slice p3 x.f3.length c3) := fr_cell hfr2 q3 (by simp)
  have q4' : W2.cell? ⟨w.heap.size, 4, none⟩ = some (.slice p4 x.f4.length c4) := fr_cell hfr2 q4 (by simp)
  have HSZ2 : Hid (w.heap.size + 1 ≤ W2.heap.size) := hB2
  clear hI hT hbs hm2 hF2 hfr2 hB2 q3 q4 HM1 HF1 HD1
  go_wp2_with fail
  refine (takeD_c (w.heap.size + 1) (w.heap.size + 1 + 1 + 1) x.f0 x.f1 (w.heap.size + 1) (w.heap.size + 1 + 1) (.map none) (.slice none 0 0) (x.f2.zip bs) x.f3 p3 c3 w W2 HM2.out HF2.out HD2.out (by omega) (by omega) (Nat.le_succ _) HSZ2.out HBE2.out HR.out.2.1 (by have := HB.out.dir; omega) HB.out.gl HB.out.sl).mono ?_
  rintro e W3 (⟨hD, rfl, hTd⟩ | ⟨hno, rfl, bel⟩)
  case inr =>
    have HE : Hid (¬ okX x) := fun h => hno ((okD_zip x.f2 bs HBS.out x.f3).2 h.2.2.1)
    have HBE : Hid (Below w.heap.size w W3) := HBE2.out.trans (bel.mono (Nat.le_succ _))
    clear hno bel
    go_wp2
    go_ret2
    exact .inr ⟨HE.out, rfl, HBE.out⟩
  obtain ⟨hF3, hd3, hfr3, hm3⟩ := hTd
  rw [List.take_length] at hF3 hd3
  have HX3 : Hid (okD (fs0 x.f2) x.f3) := (okD_zip x.f2 bs HBS.out x.f3).1 hD
  have hlo : ∀ i, (i = w.heap.size + 1 + 1 ∨ ofF (x.f2.zip bs) i) → w.heap.size + 1 ≤ i := fun i h => by
    rcases h with rfl | ⟨q, hq, rfl⟩
    · omega
    · exact HF2.out.low.2 q hq
  have HM3 : Hid (W3.heap[w.heap.size + 1 + 1 + 1]? = some (mObj x.f0 x.f1 (w.heap.size + 1) (w.heap.size + 1 + 1) (.map none) (.slice none 0 0))) := hm3
  have HF3 : Hid (Fls (w.heap.size + 1) W3 (w.heap.size + 1) (x.f2.zip bs) (lnk x.f3)) := hF3
  have HD3 : Hid (W3.ownsMap Tryz.prog 9 (plainElem Tryz.prog 3) (w.heap.size + 1 + 1) x.f3.length (encL x.f3)) := hd3
  have HBE3 : Hid (Below w.heap.size w W3) := HBE2.out.trans (hfr3.below (fun i e => Nat.le_trans (Nat.le_succ _) (hlo i e)) HBE2.out.size)
  have q4 : W3.cell? ⟨w.heap.size, 4, none⟩ = some (.slice p4 x.f4.length c4) := fr_cell hfr3 q4' (fun h => by have := hlo _ h; simp only at this; omega)
  have HSZ3 : Hid (w.heap.size + 1 ≤ W3.heap.size) := Nat.le_trans HSZ2.out hfr3.size
  clear hD hF3 hd3 hfr3 hm3 hlo q3' q4' HM2 HF2 HD2
  go_wp2_with fail
  refine (takeM_c (w.heap.size + 1) (w.heap.size + 1 + 1 + 1) x.f0 x.f1 (w.heap.size + 1) (w.heap.size + 1 + 1) (.map none) (.slice none 0 0) (x.f2.zip bs) x.f3 x.f4 p4 c4 w W3 HM3.out HF3.out HD3.out (by omega) (by omega) (Nat.le_succ _) HSZ3.out HBE3.out HR.out.2.2 HP.out HX1.out.2.2.2 (by have := okD_len HX3.out; have := HX1.out.2.2.1; omega) HB.out.gm HB.out.sm).mono ?_
  rintro e W4 (⟨hM, rfl, vm, hTm, hrow⟩ | ⟨hno, rfl, bel⟩)
  case inr =>
    have HE : Hid (¬ okX x) := fun h => hno ((okM_zip x.f2 bs HBS.out x.f3 x.f4).2 h.2.2.2.1)
    have HBE : Hid (Below w.heap.size w W4) := HBE3.out.trans (bel.mono (Nat.le_succ _))
    clear hno bel
    go_wp2
    go_ret2
    exact .inr ⟨HE.out, rfl, HBE.out⟩
  obtain ⟨hF4, hd4, hn4, hfr4, hm4⟩ := hTm
  rw [List.take_length] at hF4 hn4
  have HX4 : Hid (okM (fs0 x.f2) x.f3 x.f4) := (okM_zip x.f2 bs HBS.out x.f3 x.f4).1 hM
  have hlo : ∀ i, (i = w.heap.size + 1 + 1 + 1 ∨ ofF (x.f2.zip bs) i) → w.heap.size + 1 ≤ i := fun i h => by
    rcases h with rfl | ⟨q, hq, rfl⟩
    · omega
    · exact HF3.out.low.2 q hq
  have HBE4 : Hid (Below w.heap.size w W4) := HBE3.out.trans (hfr4.below (fun i e => Nat.le_trans (Nat.le_succ _) (hlo i e)) HBE3.out.size)
  have hbn := HM3.out
  have hbn2 := lt_of_some hbn
  have HMN : Hid (Mnt w.heap.size W4 (w.heap.size + 1 + 1 + 1) x (w.heap.size + 1) (w.heap.size + 1 + 1) W3.heap.size vm bs) := ⟨HBS.out, ⟨hF4.own, hF4.blk, ⟨by omega, fun q hq => by have := hF4.low.2 q hq; omega⟩, hF4.apart, hF4.ris, hF4.wf⟩, hd4, hn4, hm4, own_base hrow (by omega), ⟨by omega, by omega, by omega⟩, by omega, by omega, by omega⟩
  obtain ⟨_, _, cf, _⟩ := mount_cell hm4
  have hown := hF4.own
  have HF4 : Hid (Fls (w.heap.size + 1) W4 (w.heap.size + 1) (x.f2.zip bs) (fun i => lnk x.f3 i || mad x.f4 i)) := hF4
  clear hM hF4 hd4 hn4 hfr4 hm4 hrow hlo q4 HM3 HF3 HD3 hbn hbn2
  go_wp2_with (first | (at_range; refine wpList_range_own _ rfl _ 93 rfl 3 94 kInt Tryz.underlying93 _ (w.heap.size + 1) (x.f2.zip bs).length _ rfl hown ?_; intro w0 hrg0 hg0 hs0) | go_in)
  have HB5 : Hid (Below W4.heap.size W4 w0) := (Below.refl _ _).grown hg0 (Nat.le_refl _) (fun j hj => by cases hj)
  have HL0 : Hid (∀ q ∈ x.f2.zip bs, Maps.has (encF (x.f2.zip bs)) (.int .i64 q.1.f0) = false → (lnk x.f3 q.1.f0 || mad x.f4 q.1.f0) = true) := fun q hq h => by
    rw [has_encF, List.any_eq_true.2 ⟨q, hq, by simp⟩] at h
    cases h
  clear hg0 hs0 hown
  go_frame
  go_loopw [] (fun wr => ∃ left cnt, wr.ranges Tryz.prog 3 ptrElem (w.heap.size + 1) W4.heap.size (x.f2.zip bs).length (encF (x.f2.zip bs)) left cnt ∧ Hid (∀ q ∈ x.f2.zip bs, left (.int .i64 q.1.f0) = false → (lnk x.f3 q.1.f0 || mad x.f4 q.1.f0) = true) ∧ Hid (Below W4.heap.size W4 wr)) (fun wr => wr.rangeLeft (w.heap.size + 1) W4.heap.size)
  case atStart => exact ⟨_, _, hrg0, HL0, HB5⟩
  case round =>
    obtain ⟨left, cnt, hrg, HLk, HBk⟩ := hrel
    go_wp2_with (first | (at_next; refine wpList_next_files _ rfl _ rfl Tryz.underlying3 (w.heap.size + 1) W4.heap.size (x.f2.zip bs).length (x.f2.zip bs) HF4.out.ris left cnt rfl hrg ?_ ?_) | go_in)
    · intro hl0
      have HX5 : Hid (∀ y ∈ x.f2, (lnk x.f3 y.f0 || mad x.f4 y.f0) = true) := fun y hy => by
        obtain ⟨i, hi, rfl⟩ := List.getElem_of_mem hy
        have hz : (x.f2.zip bs)[i]'(by rw [List.length_zip, HBS.out]; omega) = (x.f2[i], bs[i]'(by rw [HBS.out]; exact hi)) := List.getElem_zip
        have := HLk.out _ (List.getElem_mem (by rw [List.length_zip, HBS.out]; omega : i < (x.f2.zip bs).length)) (hl0 _)
        rw [hz] at this
        exact this
      clear hl0
      go_wp2
      go_ret2
      have fr : Fr (fun _ => False) W4 wr := (Fr.refl _ _).bel HBk.out
      obtain ⟨a1, a2, a3, a4, a5, a6, a7⟩ := HMN.out
      exact .inl ⟨⟨HX1.out, HX2.out, HX3.out, HX4.out, HX5.out⟩, ⟨_, _, _, _, _, _, rfl, a1, a2.keep fr (by simp) (by simp), fr.map a3 (by simp), fr.map a4 (by simp), fr.at a5 (by simp), own_bel a6 HBk.out (Nat.le_refl _), a7⟩, HBE4.out.trans (HBk.out.mono HBE4.out.size)⟩
    · intro y b w1 cnt1 hp hlk hrg1 hlt hg1 hs1 hen
      have HB1 : Hid (Below W4.heap.size W4 w1) := HBk.out.grown hg1 (by have := HBk.out.size; omega) (fun j hj => by cases hj; exact Nat.le_refl _)
      have hb := HF4.out.blk _ hp
      have hbl := lt_of_some hb
      simp only at hb hbl
      obtain ⟨_, _, c2'⟩ := file_cell ((HB1.out.block b (by omega)).trans hb)
      have HM' : Hid (cnt1 < cnt) := hlt
      have HR0 : Hid (wr.ranges Tryz.prog 3 ptrElem (w.heap.size + 1) W4.heap.size (x.f2.zip bs).length (encF (x.f2.zip bs)) left cnt) := hrg
      have HR1 : Hid (w1.ranges Tryz.prog 3 ptrElem (w.heap.size + 1) W4.heap.size (x.f2.zip bs).length (encF (x.f2.zip bs)) (fun z => left z && !z.sameKey (.int .i64 y.f0)) cnt1) := by rw [List.length_zip]; exact hrg1
      have HMM : Hid ((y, b) ∈ x.f2.zip bs) := hp
      clear hs1 hg1 hlt hlk hp hb hbl hrg hrg1
      cases hh : (lnk x.f3 y.f0 || mad x.f4 y.f0)
      · rw [hh] at c2'
        have HE : Hid (¬ okX x) := fun h => by
          have := h.2.2.2.2 y (List.of_mem_zip HMM.out).1
          rw [hh] at this
          cases this
        clear hh
        go_wp2
        go_ret2
        exact .inr ⟨HE.out, rfl, HBE4.out.trans (HB1.out.mono HBE4.out.size)⟩
      · rw [hh] at c2'
        have HL1 : Hid (∀ q ∈ x.f2.zip bs, (left (.int .i64 q.1.f0) && !(Lit.int .i64 q.1.f0).sameKey (.int .i64 y.f0)) = false → (lnk x.f3 q.1.f0 || mad x.f4 q.1.f0) = true) := fun q hq h => by
          rw [same_id] at h
          by_cases e : q.1.f0 = y.f0
          · rw [e]; exact hh
          · simp [e] at h
            exact HLk.out q hq h
        clear hh
        go_wp2
        go_roundw
        case rel => exact ⟨_, _, HR1.out, HL1, HB1⟩
        case measure => rw [HR1.out.left_eq, HR0.out.left_eq]; exact HM'.out

end Go.Proofs.YtmknplpcpmkhiaaGreat
