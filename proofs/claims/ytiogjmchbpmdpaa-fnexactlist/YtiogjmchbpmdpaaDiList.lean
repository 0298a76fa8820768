/- List by contracts, both sides. -/
import Derived.Test.YtiogjmchbpmdpaaDlBase
import Derived.Test.YtiogjmchbpmdpaaStWalk
import Derived.Test.YtiogjmchbpmdpaaSoKeys
import Derived.Test.YtiogjmchbpmdpaaFrClone
namespace Go.Proofs.Ytiogjmchbpmdpaa
open Go.RowKit Go.Maps
set_option linter.unusedVariables false

/-- The names of a disk now. -/
def nowN (x : S_Disk) : List ByteArray := (nms x.f3 x.f4).map (·.f0)

def LsR (x : S_Disk) (w : World) (e : Ending) (w' : World) : Prop :=
  ∃ v L, e = .returned v ∧ OwnS w' w.heap.size v L ∧ ((okX x ∧ L = nowN x) ∨ (¬ okX x ∧ L = [])) ∧ Below w.heap.size w w'

theorem okX_sumL {x : S_Disk} (h : okX x) : x.f3.length + x.f4.length ≤ 1048576 := by
  have := okX_dir h
  have := h.1.2.2.2
  omega

theorem nowN_len {x : S_Disk} (h : okX x) : (nowN x).length ≤ 30 := by
  have h1 := nms_len x.f3 x.f4
  have h2 := okX_dir h
  have h3 := h.1.2.2.2
  unfold nowN
  rw [List.length_map]
  omega

theorem mem_insF {x y : S_Link} : ∀ L : List S_Link, y ∈ insF x L → y = x ∨ y ∈ L
  | [], h => by simp [insF] at h; exact .inl h
  | z :: zs, h => by
    unfold insF at h
    split at h
    · simpa using h
    · rcases List.mem_cons.1 h with h | h
      · exact .inr (by rw [h]; simp)
      · rcases mem_insF zs h with h | h
        · exact .inl h
        · exact .inr (List.mem_cons_of_mem _ h)

theorem ap_name {L : List S_Link} (m : S_Move) (h : ∀ y ∈ L, nameB y.f0 = true) : ∀ y ∈ (ap L m).1, nameB y.f0 = true := by
  have hwo : ∀ nm, ∀ y ∈ wo nm L, nameB y.f0 = true := fun nm y hy => h y (List.mem_filter.1 hy).1
  intro y hy
  unfold ap at hy
  split at hy
  · exact h y hy
  · rename_i h1
    split at hy
    · rcases mem_insF _ hy with rfl | hy
      · simpa using h1
      · exact hwo _ y hy
    · split at hy
      · rename_i h3
        rcases mem_insF _ hy with rfl | hy
        · simp_all
        · exact hwo _ y (List.mem_filter.1 hy).1
      · split at hy
        · exact hwo _ y hy
        · exact h y hy

theorem nms_name : ∀ (ms : List S_Move) {L : List S_Link}, (∀ y ∈ L, nameB y.f0 = true) → ∀ y ∈ nms L ms, nameB y.f0 = true
  | [], _, h => h
  | m :: ms, _, h => nms_name ms (ap_name m h)

theorem now_small {x : S_Disk} (h : okX x) : ∀ y ∈ nms x.f3 x.f4, y.f0.size ≤ 12 := fun y hy => by
  have h1 := nms_name x.f4 (L := x.f3) (fun z hz => by
    obtain ⟨i, hi, rfl⟩ := List.getElem_of_mem hz
    exact (h.2.2.1 i hi).1) y hy
  unfold nameB at h1
  simp at h1
  exact h1.1.2

theorem takeS_snoc {L : List ByteArray} {k : Nat} (h : k < L.length) : L.take (k + 1) = L.take k ++ [L[k]] := by rw [List.take_add_one, List.getElem?_eq_getElem h]; rfl

theorem lenS_take {L : List ByteArray} {k : Nat} (h : k ≤ L.length) : (L.take k).length = k := by rw [List.length_take]; omega

theorem below_app {B : Nat} {w wr w1 : World} {o : Obj} {e : TypeId} {size : Nat} {v : Value} {n : Nat} {xs : List Value} (hbel : Below B w wr) (hB : B ≤ w.heap.size) (hown : wr.ownsRow B e size v n xs) (hg : (wr.alloc o).grownBy w1 v.ownBlock) : Below B w w1 := below_append hbel hB hown hg

set_option maxRecDepth 20000 in
set_option maxHeartbeats 2000000 in
theorem specList_c (x : S_Disk) (p2 p3 p4 : Option Addr) (c2 c3 c4 : Nat) (w : World) (hb : Bnd x) (hr : RdDisk w x (.slice p2 x.f2.length c2) (.slice p3 x.f3.length c3) (.slice p4 x.f4.length c4)) (hc3 : x.f3.length ≤ c3) (hc4 : x.f4.length ≤ c4) :
    Calls Try.prog 16 #[.agg #[.int .i64 x.f0, .int .i64 x.f1, .slice p2 x.f2.length c2, .slice p3 x.f3.length c3, .slice p4 x.f4.length c4]] w (LsR x w) := by
  obtain ⟨i0, hi, hz0, hz1, hz2⟩ := info_parts infoS
  obtain ⟨W0, hW0⟩ : ∃ W, W = w.alloc (.cells #[.int .i64 x.f0, .int .i64 x.f1, .slice p2 x.f2.length c2, .slice p3 x.f3.length c3, .slice p4 x.f4.length c4] 26) := ⟨_, rfl⟩
  have HW0 : Hid (w.alloc (.cells #[.int .i64 x.f0, .int .i64 x.f1, .slice p2 x.f2.length c2, .slice p3 x.f3.length c3, .slice p4 x.f4.length c4] 26) = W0) := hW0.symm
  have HS0 : Hid (W0.heap.size = w.heap.size + 1) := by show _ = _; rw [hW0]; simp
  have HB0 : Hid (Below w.heap.size w W0) := by rw [hW0]; exact (Below.refl _ _).alloc (Nat.le_refl _) _
  have HBX : Hid (∀ W', Below W0.heap.size W0 W' → W'.cell? ⟨w.heap.size, 0, none⟩ = some (.int .i64 x.f0) ∧ W'.cell? ⟨w.heap.size, 1, none⟩ = some (.int .i64 x.f1) ∧ W'.cell? ⟨w.heap.size, 2, none⟩ = some (.slice p2 x.f2.length c2) ∧ W'.cell? ⟨w.heap.size, 3, none⟩ = some (.slice p3 x.f3.length c3) ∧ W'.cell? ⟨w.heap.size, 4, none⟩ = some (.slice p4 x.f4.length c4)) := fun W' hbel => by
    have hk : W'.heap[w.heap.size]? = some (.cells #[.int .i64 x.f0, .int .i64 x.f1, .slice p2 x.f2.length c2, .slice p3 x.f3.length c3, .slice p4 x.f4.length c4] 26) := by rw [hbel.block _ (by rw [HS0.out]; exact Nat.lt_succ_self _), hW0]; exact alloc_at _ _
    exact (disk_cell hk).1
  have HRD : Hid (∀ W', Below W0.heap.size W0 W' → RdDisk W' x (.slice p2 x.f2.length c2) (.slice p3 x.f3.length c3) (.slice p4 x.f4.length c4)) := fun W' hbel => (hr.keep HB0.out (Nat.le_refl _)).keep hbel (Nat.le_refl _)
  have HDN : Hid (∀ W', Below W0.heap.size W0 W' → Below w.heap.size w W') := fun W' hbel => HB0.out.trans (hbel.mono (by rw [HS0.out]; exact Nat.le_succ _))
  have HBN : Hid (Bnd x) := hb
  have HLN : Hid (LnDisk x 1048576) := ⟨hb.len.1, hb.dir, hb.len.2⟩
  clear hW0 hr hb
  have HCP : Hid (x.f3.length ≤ c3 ∧ x.f4.length ≤ c4) := ⟨hc3, hc4⟩
  clear hc3 hc4
  obtain ⟨WB, hWB⟩ : ∃ W, W = W0.alloc (.cells #[] 9) := ⟨_, rfl⟩
  have HWB : Hid (W0.alloc (.cells #[] 9) = WB) := hWB.symm
  have HBB : Hid (Below W0.heap.size W0 WB) := by rw [hWB]; exact (Below.refl _ _).alloc (Nat.le_refl _) _
  have HOB : Hid (OwnS WB w.heap.size (.slice (some ⟨w.heap.size + 1, 0, none⟩) 0 0) []) := by
    have h1 := World.ownsRow_made (base := w.heap.size) (e := 9) (size := 1) W0 #[] 0 (by rw [HS0.out]; exact Nat.le_succ _) (by decide) (by simp)
    rw [← hWB, HS0.out] at h1
    exact h1
  clear hWB
  obtain ⟨e0, e1, e2, e3, e4⟩ := HBX.out WB HBB.out
  have hl4 : (x.f4.length : Int) ≤ 1048576 := by have := HLN.out.2.2; omega
  go_enter Try.func16, Try.ntmps16
  go_wp2_with fail
  rw [HW0.out, HWB.out]
  refine (specOk_c x p2 p3 p4 c2 c3 c4 WB HBN.out (HRD.out WB HBB.out) HCP.out.1 HCP.out.2).mono ?_
  intro e w1 hdo
  clear e0 e1 e2 e3 e4
  obtain ⟨⟨hok, rfl⟩ | ⟨hno, rfl⟩, b1⟩ := hdo
  case inr =>
    have HE : Hid (¬ okX x) := hno
    have HC1 : Hid (Below W0.heap.size W0 w1) := HBB.out.trans (b1.mono HBB.out.size)
    have HO1 : Hid (OwnS w1 w.heap.size (.slice (some ⟨w.heap.size + 1, 0, none⟩) 0 0) []) := HOB.out.keep b1
    clear hno b1
    go_wp2
    go_ret
    exact ⟨_, [], rfl, HO1.out, .inr ⟨HE.out, rfl⟩, HDN.out _ HC1.out⟩
  have HE : Hid (okX x) := hok
  have HC1 : Hid (Below W0.heap.size W0 w1) := HBB.out.trans (b1.mono HBB.out.size)
  have HO1 : Hid (OwnS w1 w.heap.size (.slice (some ⟨w.heap.size + 1, 0, none⟩) 0 0) []) := HOB.out.keep b1
  clear hok b1
  obtain ⟨e0, e1, e2, e3, e4⟩ := HBX.out w1 HC1.out
  go_wp2_with fail
  refine (names_c x _ _ _ (x.f4.length : Int) w1 HLN.out (okX_sumL HE.out) HBN.out.sm (HRD.out w1 HC1.out)).mono ?_
  rintro e w2 ⟨v4, rfl, hv, b2⟩
  rw [Int.toNat_natCast, List.take_length] at hv
  have HV : Hid (RowR w2 v4 (nms x.f3 x.f4).length 2 (rLink (nms x.f3 x.f4))) := hv
  have HC2 : Hid (Below W0.heap.size W0 w2) := HC1.out.trans (b2.mono HC1.out.size)
  have HO2 : Hid (OwnS w2 w.heap.size (.slice (some ⟨w.heap.size + 1, 0, none⟩) 0 0) []) := HO1.out.keep b2
  obtain ⟨L, hL⟩ : ∃ L, L = nms x.f3 x.f4 := ⟨_, rfl⟩
  have HN : Hid (nowN x = L.map (·.f0)) := by show _ = _; rw [hL]; rfl
  have hln : L.length ≤ 30 := by have := nowN_len HE.out; rw [HN.out, List.length_map] at this; exact this
  rw [← hL] at HV
  obtain ⟨p, cap, hvv⟩ : ∃ p cap, v4 = .slice p L.length cap := by obtain ⟨_, p, cap, h, _⟩ := HV.out; exact ⟨p, cap, h⟩
  subst hvv
  have HBK : Hid (∀ b off, p = some ⟨b, off, none⟩ → 0 < L.length → b < w2.heap.size ∧ b ≠ w.heap.size + 1) := fun b off hp hpos => by
    obtain ⟨b', off', cap', hv', hbl, hc⟩ := link_cells HV.out hpos
    rw [hp] at hv'
    simp only [Value.slice.injEq, true_and, Option.some.injEq, Addr.mk.injEq] at hv'
    obtain ⟨⟨rfl, _⟩, _⟩ := hv'
    refine ⟨hbl, fun hbe => ?_⟩
    obtain ⟨d0, _⟩ := hc 0 hpos
    obtain ⟨_, ⟨h1, _⟩ | ⟨g, cp, cur, h1, _, hh, _, _, hsz, _⟩⟩ := HO2.out
    · simp at h1
    · simp only [Value.slice.injEq, Option.some.injEq, Addr.mk.injEq] at h1
      obtain ⟨⟨h1, _⟩, _, h2⟩ := h1
      have hz : cur.size = 0 := by rw [hsz, ← h2]
      have hce : cur = #[] := Array.eq_empty_of_size_eq_zero hz
      rw [hbe, h1, World.cell?] at d0
      simp [hh, hce] at d0
  clear hv b2 e0 e1 e2 e3 e4 hL
  go_wp2
  go_loopw [3, 5] (fun v3 iv wr => ∃ k : Nat, k ≤ L.length ∧ iv = .int .i64 (k : Int) ∧ Hid (OwnS wr w.heap.size v3 ((L.map (·.f0)).take k)) ∧ Hid ((∀ g, v3.ownBlock = some g → g = w.heap.size + 1 ∨ w2.heap.size ≤ g) ∧ w2.heap.size ≤ wr.heap.size) ∧ Hid (RowR wr (.slice p L.length cap) L.length 2 (rLink L)) ∧ Hid (Below w.heap.size w wr)) (fun _ iv _ => L.length - (intOf iv).toNat)
  case atStart => exact ⟨0, Nat.zero_le _, rfl, HO2, ⟨fun g hg => by simp only [Value.ownBlock, Option.some.injEq] at hg; exact .inl hg.symm, Nat.le_refl _⟩, HV, HDN.out _ HC2.out⟩
  case round =>
    obtain ⟨k, hk, rfl, HOk, HGk, HVk, HDk⟩ := hrel
    by_cases hlt : k < L.length
    · have hlt' : (k : Int) < L.length := by omega
      obtain ⟨b, off, cap', hv, hbl, hc⟩ := link_cells HVk.out (by omega)
      simp only [Value.slice.injEq, true_and] at hv
      obtain ⟨rfl, rfl⟩ := hv
      obtain ⟨d0, _⟩ := hc k hlt
      have hkm : k < (L.map (·.f0)).length := by rw [List.length_map]; exact hlt
      have HT : Hid ((L.map (·.f0)).take (k + 1) = (L.map (·.f0)).take k ++ [L[k].f0]) := by show _ = _; rw [takeS_snoc hkm, List.getElem_map]
      have HTL : Hid (((L.map (·.f0)).take k).length = k) := lenS_take (by omega)
      clear hc
      generalize L[k].f0 = Y at d0 HT
      have HOW : Hid (wr.ownsRow w.heap.size 9 1 u3 k (((L.map (·.f0)).take k).map Value.string)) := by
        have h1 := HOk.out
        unfold OwnS at h1
        rw [HTL.out] at h1
        exact h1
      have HSB : Hid (w.heap.size ≤ wr.heap.size) := HDk.out.size
      go_wp2_with (at_builtin; refine wpList_append_own_at _ rfl _ _ 41 rfl w.heap.size 9 i0 (.string ⟨#[]⟩) 1 16 Try.underlying41 hi hz0 hz1 hz2 rfl (by decide) _ _ _ rfl (HOW.out.alloc _) ⟨wr.heap.size, 0, none⟩ 1 1 [.string Y] rfl rfl (cell_one_new _ _ _) (by intro u hu; simp at hu; subst hu; rfl) (by unfold maxLen; omega) (by omega) (by have := HSB.out; simp; omega) ?_)
      intro v' w3 hown2 hgrow _ hat
      have HR1 : Hid (OwnS w3 w.heap.size v' ((L.map (·.f0)).take (k + 1))) := by
        show OwnS _ _ _ _
        unfold OwnS
        rw [HT.out, List.length_append, HTL.out]
        simpa using hown2
      have HD3 : Hid (Below w.heap.size w w3) := below_app HDk.out (Nat.le_refl _) HOW.out hgrow
      have HV3 : Hid (RowR w3 (.slice (some ⟨b, off, none⟩) L.length cap) L.length 2 (rLink L)) := by
        obtain ⟨hlen, p', cap', hv', hcell⟩ := HVk.out
        refine ⟨hlen, p', cap', hv', fun j hj => ?_⟩
        obtain ⟨b', off', hp', hb', hc'⟩ := hcell j hj
        rw [hp'] at hv'
        simp only [Value.slice.injEq, Option.some.injEq, Addr.mk.injEq] at hv'
        obtain ⟨⟨rfl, rfl, _⟩, _⟩ := hv'
        obtain ⟨hb1, hb2⟩ := HBK.out b off rfl (by omega)
        have hs := hgrow.size
        simp only [World.size_alloc] at hs
        refine ⟨b, off, hp', by omega, ?_⟩
        have hne : some b ≠ u3.ownBlock := fun e => by
          rcases HGk.out.1 b e.symm with h | h <;> omega
        obtain ⟨u, hu⟩ : ∃ u, (rLink L)[j]? = some u := ⟨_, List.getElem?_eq_getElem (by rw [rLink_len]; exact hj)⟩
        rw [hu] at hc' ⊢
        exact hgrow.cell (cell_alloc hc') hne
      have HG3 : Hid ((∀ g, v'.ownBlock = some g → g = w.heap.size + 1 ∨ w2.heap.size ≤ g) ∧ w2.heap.size ≤ w3.heap.size) := by
        have hs := hgrow.size
        simp only [World.size_alloc] at hs
        refine ⟨fun g hg => ?_, by have := HGk.out.2; omega⟩
        rcases hat with h | h
        · rw [h] at hg; exact HGk.out.1 g hg
        · rw [h] at hg; simp only [Option.some.injEq] at hg; have := HGk.out.2; exact .inr (by omega)
      clear hown2 hgrow hat HOk HVk HDk HOW HGk d0
      go_wp2
      go_roundw
      case rel => exact ⟨k + 1, by omega, by go_num, HR1, HG3, HV3, HD3⟩
      case measure => simp [intOf]; omega
    · have hke : k = L.length := by omega
      have HF : Hid (OwnS wr w.heap.size u3 (nowN x)) := by
        have h1 := HOk.out
        rw [List.take_of_length_le (by rw [List.length_map]; omega), ← HN.out] at h1
        exact h1
      clear hlt
      go_wp2
      go_ret
      exact ⟨_, _, rfl, HF.out, .inl ⟨HE.out, rfl⟩, HDk.out⟩

set_option maxRecDepth 20000 in
set_option maxHeartbeats 2000000 in
theorem implList_c (x : S_Disk) (p2 p3 p4 : Option Addr) (c2 c3 c4 : Nat) (w : World) (hb : Bnd x) (hr : RdDisk w x (.slice p2 x.f2.length c2) (.slice p3 x.f3.length c3) (.slice p4 x.f4.length c4)) (hp : p4 = none → c4 = 0) :
    Calls Try.prog 17 #[.agg #[.int .i64 x.f0, .int .i64 x.f1, .slice p2 x.f2.length c2, .slice p3 x.f3.length c3, .slice p4 x.f4.length c4]] w (LsR x w) := by
  obtain ⟨i0, hi, hz0, hz1, hz2⟩ := info_parts infoS
  obtain ⟨W0, hW0⟩ : ∃ W, W = w.alloc (.cells #[.int .i64 x.f0, .int .i64 x.f1, .slice p2 x.f2.length c2, .slice p3 x.f3.length c3, .slice p4 x.f4.length c4] 26) := ⟨_, rfl⟩
  have HW0 : Hid (w.alloc (.cells #[.int .i64 x.f0, .int .i64 x.f1, .slice p2 x.f2.length c2, .slice p3 x.f3.length c3, .slice p4 x.f4.length c4] 26) = W0) := hW0.symm
  have HS0 : Hid (W0.heap.size = w.heap.size + 1) := by show _ = _; rw [hW0]; simp
  have HB0 : Hid (Below w.heap.size w W0) := by rw [hW0]; exact (Below.refl _ _).alloc (Nat.le_refl _) _
  have HBX : Hid (∀ W', Below W0.heap.size W0 W' → W'.cell? ⟨w.heap.size, 0, none⟩ = some (.int .i64 x.f0) ∧ W'.cell? ⟨w.heap.size, 1, none⟩ = some (.int .i64 x.f1) ∧ W'.cell? ⟨w.heap.size, 2, none⟩ = some (.slice p2 x.f2.length c2) ∧ W'.cell? ⟨w.heap.size, 3, none⟩ = some (.slice p3 x.f3.length c3) ∧ W'.cell? ⟨w.heap.size, 4, none⟩ = some (.slice p4 x.f4.length c4)) := fun W' hbel => by
    have hk : W'.heap[w.heap.size]? = some (.cells #[.int .i64 x.f0, .int .i64 x.f1, .slice p2 x.f2.length c2, .slice p3 x.f3.length c3, .slice p4 x.f4.length c4] 26) := by rw [hbel.block _ (by rw [HS0.out]; exact Nat.lt_succ_self _), hW0]; exact alloc_at _ _
    exact (disk_cell hk).1
  have HRD : Hid (∀ W', Below W0.heap.size W0 W' → RdDisk W' x (.slice p2 x.f2.length c2) (.slice p3 x.f3.length c3) (.slice p4 x.f4.length c4)) := fun W' hbel => (hr.keep HB0.out (Nat.le_refl _)).keep hbel (Nat.le_refl _)
  have HDN : Hid (∀ W', Below W0.heap.size W0 W' → Below w.heap.size w W') := fun W' hbel => HB0.out.trans (hbel.mono (by rw [HS0.out]; exact Nat.le_succ _))
  have HBN : Hid (Bnd x) := hb
  have HLN : Hid (LnDisk x 1048576) := ⟨hb.len.1, hb.dir, hb.len.2⟩
  clear hW0 hr hb
  have HP : Hid (p4 = none → c4 = 0) := hp
  clear hp
  obtain ⟨e0, e1, e2, e3, e4⟩ := HBX.out W0 (Below.refl _ _)
  go_enter Try.func17, Try.ntmps17
  go_wp2_with fail
  rw [HW0.out]
  refine (mount_c x p2 p3 p4 c2 c3 c4 W0 HBN.out (HRD.out W0 (Below.refl _ _)) HP.out).mono ?_
  rintro e w1 (⟨hok, ⟨m, bf, bd, bn, vm, bs, rfl, hM⟩, b1⟩ | ⟨hno, rfl, b1⟩)
  case inr =>
    have HE : Hid (¬ okX x) := hno
    have HC1 : Hid (Below W0.heap.size W0 w1) := b1
    clear hno b1 e0 e1 e2 e3 e4
    go_wp2
    go_ret
    exact ⟨.slice none 0 0, [], rfl, ⟨rfl, .inl ⟨rfl, rfl⟩⟩, .inr ⟨HE.out, rfl⟩, HDN.out _ HC1.out⟩
  have HE : Hid (okX x) := hok
  have HC1 : Hid (Below W0.heap.size W0 w1) := b1
  have HM : Hid (Mnt W0.heap.size w1 m x bf bd bn vm bs) := hM
  obtain ⟨_, _, _, _, cn, _⟩ := mount_cell hM.2.2.2.2.1
  obtain ⟨L, hL⟩ : ∃ L, L = nms x.f3 x.f4 := ⟨_, rfl⟩
  have HN : Hid (nowN x = L.map (·.f0)) := by show _ = _; rw [hL]; rfl
  have hln : L.length ≤ 30 := by have := nowN_len HE.out; rw [HN.out, List.length_map] at this; exact this
  have HOM : Hid (w1.ownsMap Try.prog 9 (plainElem Try.prog 3) bn L.length (encL L)) := by rw [hL]; exact hM.2.2.2.1
  have HSN : Hid (∀ y ∈ L, y.f0.size ≤ 12) := by rw [hL]; exact now_small HE.out
  clear hok b1 hM e0 e1 e2 e3 e4 hL
  go_wp2_with fail
  refine (keysS_c (some bn) w1).mono ?_
  rintro e w2 ⟨rfl, hw2⟩
  subst hw2
  go_wp2_with fail
  refine (sortedS_c bn L.length L _ w1 HOM.out (by omega)).mono ?_
  rintro e w3 ⟨v, rfl, hrow, b3⟩
  have HRS : Hid (OwnS w3 (w1.heap.size + 1) v (L.map (·.f0))) := by
    show OwnS _ _ _ _
    unfold OwnS
    rw [List.length_map, List.map_map]
    exact hrow
  have HC3 : Hid (Below W0.heap.size W0 w3) := HC1.out.trans (b3.mono HC1.out.size)
  obtain ⟨p, cap, hvv, _, _⟩ := own_slice hrow
  subst hvv
  clear hrow b3 cn
  go_wp2
  go_loopw [5, 22] (fun v5 iv wr => ∃ k : Nat, k ≤ L.length ∧ iv = .int .i64 (k : Int) ∧ Hid (OwnS wr w3.heap.size v5 ((L.map (·.f0)).take k)) ∧ Hid (Below w3.heap.size w3 wr)) (fun _ iv _ => L.length - (intOf iv).toNat)
  case atStart => exact ⟨0, Nat.zero_le _, rfl, ⟨rfl, .inl ⟨rfl, rfl⟩⟩, Below.refl _ _⟩
  case round =>
    obtain ⟨k, hk, rfl, HOk, HDk⟩ := hrel
    by_cases hlt : k < L.length
    · have hlt' : (k : Int) < L.length := by omega
      have hkm : k < (L.map (·.f0)).length := by rw [List.length_map]; exact hlt
      rcases own_forms (HRS.out.keep HDk.out) with ⟨h1, h2⟩ | ⟨g, cp, h1, _, hgl, hc⟩
      · rw [h2] at hkm; simp at hkm
      simp only [Value.slice.injEq, List.length_map, true_and] at h1
      obtain ⟨rfl, rfl⟩ := h1
      have d0 := hc k hkm
      rw [cell_str hkm, List.getElem_map] at d0
      have HT : Hid ((L.map (·.f0)).take (k + 1) = (L.map (·.f0)).take k ++ [L[k].f0]) := by show _ = _; rw [takeS_snoc hkm, List.getElem_map]
      have HTL : Hid (((L.map (·.f0)).take k).length = k) := lenS_take (by omega)
      have HYZ : Hid (L[k].f0.size ≤ 12) := HSN.out _ (List.getElem_mem hlt)
      clear hc
      generalize L[k].f0 = Y at d0 HT HYZ
      go_wp2_with fail
      refine (clone_c Y wr (by have := HYZ.out; omega)).mono ?_
      rintro e w4 ⟨rfl, b4⟩
      have HOW : Hid (w4.ownsRow w3.heap.size 9 1 u5 k (((L.map (·.f0)).take k).map Value.string)) := by
        have h1 := HOk.out.keep b4
        unfold OwnS at h1
        rw [HTL.out] at h1
        exact h1
      have HD4 : Hid (Below w3.heap.size w3 w4) := HDk.out.trans (b4.mono HDk.out.size)
      have HSB : Hid (w3.heap.size ≤ w4.heap.size) := HD4.out.size
      clear b4 d0 HOk HDk
      go_wp2_with (at_builtin; refine wpList_append_own_at _ rfl _ _ 41 rfl w3.heap.size 9 i0 (.string ⟨#[]⟩) 1 16 Try.underlying41 hi hz0 hz1 hz2 rfl (by decide) _ _ _ rfl (HOW.out.alloc _) ⟨w4.heap.size, 0, none⟩ 1 1 [.string Y] rfl rfl (cell_one_new _ _ _) (by intro u hu; simp at hu; subst hu; rfl) (by unfold maxLen; omega) (by omega) (by have := HSB.out; simp; omega) ?_)
      intro v' w5 hown2 hgrow _ hat
      have HR1 : Hid (OwnS w5 w3.heap.size v' ((L.map (·.f0)).take (k + 1))) := by
        show OwnS _ _ _ _
        unfold OwnS
        rw [HT.out, List.length_append, HTL.out]
        simpa using hown2
      have HD5 : Hid (Below w3.heap.size w3 w5) := below_app HD4.out (Nat.le_refl _) HOW.out hgrow
      clear hown2 hgrow hat HOW HD4
      go_wp2
      go_roundw
      case rel => exact ⟨k + 1, by omega, by go_num, HR1, HD5⟩
      case measure => simp [intOf]; omega
    · have hke : k = L.length := by omega
      have HF : Hid (OwnS wr w3.heap.size u5 (nowN x)) := by
        have h1 := HOk.out
        rw [List.take_of_length_le (by rw [List.length_map]; omega), ← HN.out] at h1
        exact h1
      have HDD : Hid (Below W0.heap.size W0 wr) := HC3.out.trans (HDk.out.mono HC3.out.size)
      clear hlt
      go_wp2
      go_ret
      exact ⟨_, _, rfl, HF.out.low (by have h1 := HC3.out.size; have h2 := HS0.out; omega), .inl ⟨HE.out, rfl⟩, HDN.out _ HDD.out⟩

end Go.Proofs.Ytiogjmchbpmdpaa
