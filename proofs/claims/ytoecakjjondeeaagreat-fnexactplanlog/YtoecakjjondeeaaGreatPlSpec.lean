/- The steps that lay a file anew, of the specification. -/
import Derived.Test.YtoecakjjondeeaaGreatPlMath
namespace Go.Proofs.YtoecakjjondeeaaGreat
open Go.RowKit
set_option linter.unusedVariables false
set_option linter.unusedSimpArgs false

set_option maxRecDepth 20000 in
set_option maxHeartbeats 4000000 in
theorem specAnew_c (x : S_Disk) (p2 p3 p4 : Option Addr) (c2 c3 c4 : Nat) (s T : ByteArray) (w : World) (hok : okX x) (hb : Bnd x) (hr : RdDisk w x (.slice p2 x.f2.length c2) (.slice p3 x.f3.length c3) (.slice p4 x.f4.length c4)) (hc3 : x.f3.length ≤ c3) (hc4 : x.f4.length ≤ c4) (hsz : s.size ≤ 12) :
    Calls Tryz.prog 60 #[.agg #[.int .i64 x.f0, .int .i64 x.f1, .slice p2 x.f2.length c2, .slice p3 x.f3.length c3, .slice p4 x.f4.length c4], .string s, .string T] w fun e w' => ∃ v, e = .returned v ∧ w'.ownsRow w.heap.size 39 4 v (anL (thB x (s ++ newB)) s T).length (rStep (anL (thB x (s ++ newB)) s T)) ∧ Below w.heap.size w w' := by
  obtain ⟨i0, hi, hz0, hz1, hz2⟩ := info_parts infoSt
  obtain ⟨W0, hW0⟩ : ∃ W, W = w.alloc (.cells #[.int .i64 x.f0, .int .i64 x.f1, .slice p2 x.f2.length c2, .slice p3 x.f3.length c3, .slice p4 x.f4.length c4] 35) := ⟨_, rfl⟩
  have HW0 : Hid (w.alloc (.cells #[.int .i64 x.f0, .int .i64 x.f1, .slice p2 x.f2.length c2, .slice p3 x.f3.length c3, .slice p4 x.f4.length c4] 35) = W0) := hW0.symm
  have HS0 : Hid (W0.heap.size = w.heap.size + 1) := by show _ = _; rw [hW0]; simp
  have HB0 : Hid (Below w.heap.size w W0) := by rw [hW0]; exact (Below.refl _ _).alloc (Nat.le_refl _) _
  have HBX : Hid (∀ W', Below W0.heap.size W0 W' → W'.cell? ⟨w.heap.size, 0, none⟩ = some (.int .i64 x.f0) ∧ W'.cell? ⟨w.heap.size, 1, none⟩ = some (.int .i64 x.f1) ∧ W'.cell? ⟨w.heap.size, 2, none⟩ = some (.slice p2 x.f2.length c2) ∧ W'.cell? ⟨w.heap.size, 3, none⟩ = some (.slice p3 x.f3.length c3) ∧ W'.cell? ⟨w.heap.size, 4, none⟩ = some (.slice p4 x.f4.length c4)) := fun W' hbel => by
    have hk : W'.heap[w.heap.size]? = some (.cells #[.int .i64 x.f0, .int .i64 x.f1, .slice p2 x.f2.length c2, .slice p3 x.f3.length c3, .slice p4 x.f4.length c4] 35) := by rw [hbel.block _ (by rw [HS0.out]; exact Nat.lt_succ_self _), hW0]; exact alloc_at _ _
    exact (disk_cell hk).1
  have HRD : Hid (∀ W', Below W0.heap.size W0 W' → RdDisk W' x (.slice p2 x.f2.length c2) (.slice p3 x.f3.length c3) (.slice p4 x.f4.length c4)) := fun W' hbel => (hr.keep HB0.out (Nat.le_refl _)).keep hbel (Nat.le_refl _)
  have HDN : Hid (∀ W', Below W0.heap.size W0 W' → Below w.heap.size w W') := fun W' hbel => HB0.out.trans (hbel.mono (by rw [HS0.out]; exact Nat.le_succ _))
  have HLOW : Hid (w.heap.size ≤ W0.heap.size) := by show _ ≤ _; rw [HS0.out]; exact Nat.le_succ _
  obtain ⟨F, hF⟩ : ∃ F, s ++ newB = F := ⟨_, rfl⟩
  have HFF : Hid (s ++ newB = F) := hF
  have HFS : Hid (F.size ≤ 20) := by show _ ≤ _; rw [← hF, ByteArray.size_append]; have : newB.size = 4 := rfl; omega
  have had : ∀ W, (Op.stringOp .add s (⟨#[46, 110, 101, 119]⟩ : ByteArray)).run Tryz.prog W = .ok (.string F) W := fun W => by
    rw [run_string_add_sum W s ⟨#[46, 110, 101, 119]⟩ (by have : (⟨#[46, 110, 101, 119]⟩ : ByteArray).size = 4 := rfl; omega), ← hF]
    rfl
  have HBN : Hid (Bnd x) := hb
  have HOK : Hid (okX x) := hok
  have HC3 : Hid (x.f3.length ≤ c3 ∧ x.f4.length ≤ c4) := ⟨hc3, hc4⟩
  obtain ⟨W1, hW1⟩ : ∃ W, W = W0.alloc (.cells #[] 39) := ⟨_, rfl⟩
  have HW1 : Hid (W0.alloc (.cells #[] 39) = W1) := hW1.symm
  have HM0 : Hid (W1.ownsRow W0.heap.size 39 4 (.slice (some ⟨w.heap.size + 1, 0, none⟩) 0 0) 0 []) := by
    have h := World.ownsRow_made (base := W0.heap.size) (e := 39) (size := 4) W0 #[] 0 (Nat.le_refl _) (by decide) rfl
    rw [HS0.out] at h
    rw [hW1, HS0.out]
    exact h
  have HC1 : Hid (Below W0.heap.size W0 W1) := by rw [hW1]; exact (Below.refl _ _).alloc (Nat.le_refl _) _
  clear hW0 hW1 hr hb hok hc3 hc4 hF
  obtain ⟨e0, e1, e2, e3, e4⟩ := HBX.out W1 HC1.out
  go_enter Tryz.func60, Tryz.ntmps60
  go_wp2_with fail
  rw [HW0.out, HW1.out]
  go_wp2_with fail
  refine (specLoad_c x p2 p3 p4 c2 c3 c4 F W1 HBN.out (HRD.out W1 HC1.out) HC3.out.1 HC3.out.2 (by have := HFS.out; omega)).mono ?_
  rintro e w2 ⟨⟨_, rfl⟩ | ⟨hno, _⟩, b2⟩
  rotate_left
  · exact absurd HOK.out hno
  have HC2 : Hid (Below W0.heap.size W0 w2) := HC1.out.trans (b2.mono HC1.out.size)
  have HM2 : Hid (w2.ownsRow W0.heap.size 39 4 (.slice (some ⟨w.heap.size + 1, 0, none⟩) 0 0) 0 []) := own_bel HM0.out b2 (Nat.le_refl _)
  obtain ⟨B, hB⟩ : ∃ B, (!decide (fnd x F < 0)) = B := ⟨_, rfl⟩
  have HBB : Hid (thB x F = B) := hB
  rw [hB]
  generalize ldS x F = dd
  clear b2 e0 e1 e2 e3 e4 hB
  cases B
  · have HMx : Hid (w2.ownsRow W0.heap.size 39 4 (.slice (some ⟨w.heap.size + 1, 0, none⟩) 0 0) (anH false F).length (rStep (anH false F))) := HM2.out
    clear HM2
    have hal := anH_len false F
    have hown := HMx.out
    have hsz := HC2.out.size
    go_wp2_with (at_builtin; refine wpList_append_own _ rfl _ _ 48 rfl W0.heap.size 39 i0 (.agg #[.int .i64 0, .string ⟨#[]⟩, .string ⟨#[]⟩, .string ⟨#[]⟩]) 4 56 Tryz.underlying48 hi hz0 hz1 hz2 rfl (by decide) _ _ _ rfl (hown.alloc _) ⟨w2.heap.size, 0, none⟩ 5 5 [.int .i64 1, .string F, .string ⟨#[]⟩, .string ⟨#[]⟩, .int .i64 2, .string F, .string ⟨#[]⟩, .string T, .int .i64 3, .string F, .string ⟨#[]⟩, .string ⟨#[]⟩, .int .i64 4, .string F, .string s, .string ⟨#[]⟩, .int .i64 6, .string ⟨#[]⟩, .string ⟨#[]⟩, .string ⟨#[]⟩] rfl rfl (cells_lit _ _ _) (ones_an F s T) (by unfold maxLen; omega) (by omega) (by have := hown.lt; first | omega | (simp; omega)) ?_)
    intro v9 w9 hown9 hgrow9 _
    have R1 : Hid (w9.ownsRow W0.heap.size 39 4 v9 (anH false F ++ anT F s T).length (rStep (anH false F ++ anT F s T))) := by
      show World.ownsRow _ _ _ _ _ _ _
      rw [rStep_app, List.length_append]
      exact hown9
    have R2 : Hid (Below W0.heap.size W0 w9) := below_append HC2.out (Nat.le_refl _) hown hgrow9
    clear hown9 hgrow9 hown hsz hal
    go_wp2
    go_ret
    exact ⟨_, rfl, by unfold anL; rw [HFF.out, HBB.out]; exact own_low R1.out HLOW.out, HDN.out _ R2.out⟩
  · have hown0 := HM2.out
    have hsz0 := HC2.out.size
    go_wp2_with (at_builtin; refine wpList_append_own _ rfl _ _ 48 rfl W0.heap.size 39 i0 (.agg #[.int .i64 0, .string ⟨#[]⟩, .string ⟨#[]⟩, .string ⟨#[]⟩]) 4 56 Tryz.underlying48 hi hz0 hz1 hz2 rfl (by decide) _ _ _ rfl (hown0.alloc _) ⟨w2.heap.size, 0, none⟩ 1 1 [.int .i64 5, .string F, .string ⟨#[]⟩, .string ⟨#[]⟩] rfl rfl (cells_lit _ _ _) (ones_st _ _ _ _) (by unfold maxLen; omega) (by omega) (by have := hown0.lt; first | omega | (simp; omega)) ?_)
    intro v5 w5 hown5 hgrow5 _
    have HMx : Hid (w5.ownsRow W0.heap.size 39 4 v5 (anH true F).length (rStep (anH true F))) := hown5
    have HC5 : Hid (Below W0.heap.size W0 w5) := below_append HC2.out (Nat.le_refl _) hown0 hgrow5
    clear hown5 hgrow5 hown0 hsz0 HM2 HC2
    have hal := anH_len true F
    have hown := HMx.out
    have hsz := HC5.out.size
    go_wp2_with (at_builtin; refine wpList_append_own _ rfl _ _ 48 rfl W0.heap.size 39 i0 (.agg #[.int .i64 0, .string ⟨#[]⟩, .string ⟨#[]⟩, .string ⟨#[]⟩]) 4 56 Tryz.underlying48 hi hz0 hz1 hz2 rfl (by decide) _ _ _ rfl (hown.alloc _) ⟨w5.heap.size, 0, none⟩ 5 5 [.int .i64 1, .string F, .string ⟨#[]⟩, .string ⟨#[]⟩, .int .i64 2, .string F, .string ⟨#[]⟩, .string T, .int .i64 3, .string F, .string ⟨#[]⟩, .string ⟨#[]⟩, .int .i64 4, .string F, .string s, .string ⟨#[]⟩, .int .i64 6, .string ⟨#[]⟩, .string ⟨#[]⟩, .string ⟨#[]⟩] rfl rfl (cells_lit _ _ _) (ones_an F s T) (by unfold maxLen; omega) (by omega) (by have := hown.lt; first | omega | (simp; omega)) ?_)
    intro v9 w9 hown9 hgrow9 _
    have R1 : Hid (w9.ownsRow W0.heap.size 39 4 v9 (anH true F ++ anT F s T).length (rStep (anH true F ++ anT F s T))) := by
      show World.ownsRow _ _ _ _ _ _ _
      rw [rStep_app, List.length_append]
      exact hown9
    have R2 : Hid (Below W0.heap.size W0 w9) := below_append HC5.out (Nat.le_refl _) hown hgrow9
    clear hown9 hgrow9 hown hsz hal
    go_wp2
    go_ret
    exact ⟨_, rfl, by unfold anL; rw [HFF.out, HBB.out]; exact own_low R1.out HLOW.out, HDN.out _ R2.out⟩

end Go.Proofs.YtoecakjjondeeaaGreat
