/- The walks of the specification's Unframe, and of the program's own reader of a frame. -/
import Derived.Test.YthlokfcejojdhaaDoorFrWalk
import Derived.Test.YthlokfcejojdhaaDoorRdWalk
import Derived.Test.YthlokfcejojdhaaDoorFrClone
import Derived.Test.YthlokfcejojdhaaDoorFrIs
import Derived.Test.YthlokfcejojdhaaDoorUfMath
import Derived.Deep.RegionWith
import Derived.BigQuiet
namespace Go.Proofs.YthlokfcejojdhaaDoor
open Go.RowKit
set_option linter.unusedVariables false

set_option maxRecDepth 20000 in
set_option maxHeartbeats 1000000 in
theorem specUn_short (s : ByteArray) (w : World) (hm : s.size ≤ maxLen) (h : UShort s) :
    Calls Tryd.prog 53 #[.string s] w fun e w' => e = .returned (.tuple #[.string ⟨#[]⟩, .int .i64 0, .int .i64 1]) ∧ w' = w := by
  have HM : Hid (s.size ≤ maxLen) := hm
  by_cases h4 : s.size < 4
  · have H4 : Hid ((4 : Int) < 1 ∨ 7 < (4 : Int) ∨ (s.size : Int) < 4) := by show _ ∨ _; omega
    clear h h4 hm
    go_enter Tryd.func53, Tryd.ntmps53
    go_wp2_with fail
    refine (specRd_no s 4 _ H4.out HM.out).mono ?_
    rintro e w1 ⟨rfl, rfl⟩
    go_wp2
    go_ret3
    exact ⟨rfl, rfl⟩
  · have h' : 1 ≤ rd s 4 ∧ rd s 4 ≤ 2000 ∧ (s.size : Int) < 8 + rd s 4 := by
      rcases h with h | h
      · omega
      · exact h
    have H4 : Hid (4 ≤ s.size) := by show _ ≤ _; omega
    clear h h4 hm
    generalize hN : rd s 4 = N at h'
    have HN : Hid (rd s 4 = N) := hN
    obtain ⟨h1, h2, h3⟩ := h'
    have t0 : (N == 0) = false := by simp; omega
    clear hN
    go_enter Tryd.func53, Tryd.ntmps53
    go_wp2_with fail
    refine (specRd_yes s 4 _ (by omega) (by omega) H4.out HM.out).mono ?_
    rintro e w1 ⟨rfl, rfl⟩
    rw [HN.out]
    go_wp2
    go_ret3
    exact ⟨rfl, rfl⟩

set_option maxRecDepth 20000 in
set_option maxHeartbeats 1000000 in
theorem specUn_none (s : ByteArray) (w : World) (hm : s.size ≤ maxLen) (h4 : 4 ≤ s.size) (h : rd s 4 = 0 ∨ 2000 < rd s 4) :
    Calls Tryd.prog 53 #[.string s] w fun e w' => e = .returned (.tuple #[.string ⟨#[]⟩, .int .i64 0, .int .i64 2]) ∧ w' = w := by
  have HM : Hid (s.size ≤ maxLen) := hm
  have H4 : Hid (4 ≤ s.size) := h4
  clear hm h4
  generalize hN : rd s 4 = N at h
  have HN : Hid (rd s 4 = N) := hN
  clear hN
  by_cases h0 : N = 0
  · subst h0
    clear h
    go_enter Tryd.func53, Tryd.ntmps53
    go_wp2_with fail
    refine (specRd_yes s 4 _ (by omega) (by omega) H4.out HM.out).mono ?_
    rintro e w1 ⟨rfl, rfl⟩
    rw [HN.out]
    go_wp2
    go_ret3
    exact ⟨rfl, rfl⟩
  · have h2 : 2000 < N := by omega
    have t0 : (N == 0) = false := by simp [h0]
    clear h h0
    go_enter Tryd.func53, Tryd.ntmps53
    go_wp2_with fail
    refine (specRd_yes s 4 _ (by omega) (by omega) H4.out HM.out).mono ?_
    rintro e w1 ⟨rfl, rfl⟩
    rw [HN.out]
    go_wp2
    go_ret3
    exact ⟨rfl, rfl⟩

set_option maxRecDepth 20000 in
theorem slice_to (s : ByteArray) (n : Nat) (h : 8 + n ≤ s.size) : ∀ w, (Instr.slice 9 (.string s) none (some (.int .i64 (8 + (n : Int)))) none).run Tryd.prog w = .ok (.string (s.extract 0 (8 + n))) w := fun w => by
  rw [run_slice_string_h (P := Tryd.prog) w 9 s Tryd.underlying9 .i64 (8 + (n : Int)) (by omega) (by omega)]
  have e : (8 + (n : Int)).toNat = 8 + n := by omega
  rw [e]

set_option maxRecDepth 20000 in
set_option maxHeartbeats 1000000 in
theorem specUn_last (s : ByteArray) (n : Nat) (w : World) (hm : s.size ≤ maxLen) (h1 : 1 ≤ n) (h2 : n ≤ 2000) (hn : rd s 4 = (n : Int)) (hs : 8 + n ≤ s.size) (c : Bool)
    (hc : ((frameOf (s.extract 8 (8 + n))).toList == (s.extract 0 (8 + n)).toList) = c) :
    Calls Tryd.prog 53 #[.string s] w fun e w' => e = .returned (bif c then .tuple #[.string (s.extract 8 (8 + n)), .int .i64 ((8 + n : Nat) : Int), .int .i64 0] else .tuple #[.string ⟨#[]⟩, .int .i64 0, .int .i64 2]) ∧ Below w.heap.size w w' := by
  have HM : Hid (s.size ≤ maxLen) := hm
  have H4 : Hid (4 ≤ s.size) := by show _ ≤ _; omega
  have HN : Hid (rd s 4 = (n : Int)) := hn
  have HB : Hid ((s.extract 8 (8 + n)).size = n) := by show _ = _; rw [ext_size _ _ _ hs]; omega
  have t0 : ((n : Int) == 0) = false := by simp; omega
  have hs' : (8 + (n : Int)) ≤ (s.size : Int) := by omega
  have hs3 : ¬ (s.size : Int) < 8 + (n : Int) := by omega
  have h1' : (1 : Int) ≤ n := by omega
  have h2' : ¬ (2000 : Int) < n := by omega
  have hsl := slice_to s n hs
  have wr8 : IntKind.i64.wrap (8 + (n : Int)) = 8 + (n : Int) := wrap_i64_in _ (by omega)
  clear hm hn
  go_enter Tryd.func53, Tryd.ntmps53
  go_wp2_with fail
  refine (specRd_yes s 4 _ (by omega) (by omega) H4.out HM.out).mono ?_
  rintro e w1 ⟨rfl, rfl⟩
  rw [HN.out]
  go_wp2
  refine wp_region_any (by kernel_rfl) ?_
  refine wpAny_take (i := 0) (v := ?_) rfl (by kernel_rfl) (by kernel_rfl) (by kernel_rfl) (fun _ _ _ h => h) (Or.inl ⟨by rfl, ?_⟩) ?_
  rotate_left
  · (intro W; go_simp; try with_reducible rfl)
  simp only [Act.put, List.setIfInBounds_toArray, List.set_cons_zero, List.set_cons_succ, List.getElem_toArray, List.getElem_cons_zero]
  refine wpAny_take (i := 2) (v := ?_) rfl (by kernel_rfl) (by kernel_rfl) (by kernel_rfl) (fun _ _ _ h => h) (Or.inl ⟨by rfl, ?_⟩) ?_
  rotate_left
  · (intro W; go_simp; try with_reducible rfl)
  simp only [Act.put, List.setIfInBounds_toArray, List.set_cons_zero, List.set_cons_succ, List.getElem_toArray, List.getElem_cons_zero, List.getElem_cons_succ]
  refine wpAny_take (i := 3) (v := ?_) rfl (by kernel_rfl) (by kernel_rfl) (by kernel_rfl) (fun _ _ _ h => h) (Or.inl ⟨by rfl, ?_⟩) ?_
  rotate_left
  · (intro W; go_simp; try with_reducible rfl)
  simp only [Act.put, List.setIfInBounds_toArray, List.set_cons_zero, List.set_cons_succ, List.getElem_toArray, List.getElem_cons_zero, List.getElem_cons_succ]
  refine wpAny_take (i := 4) (v := ?_) rfl (by kernel_rfl) (by kernel_rfl) (by kernel_rfl) (fun _ _ _ h => h) (Or.inl ⟨by rfl, ?_⟩) ?_
  rotate_left
  · (intro W; go_simp; try with_reducible rfl)
  simp only [Act.put, List.setIfInBounds_toArray, List.set_cons_zero, List.set_cons_succ, List.getElem_toArray, List.getElem_cons_zero, List.getElem_cons_succ]
  refine wpAny_take (i := 5) (v := ?_) rfl (by kernel_rfl) (by kernel_rfl) (by kernel_rfl) (fun _ _ _ h => h) (Or.inl ⟨by rfl, ?_⟩) ?_
  rotate_left
  · (intro W; go_simp; try with_reducible rfl)
  simp only [Act.put, List.setIfInBounds_toArray, List.set_cons_zero, List.set_cons_succ, List.getElem_toArray, List.getElem_cons_zero, List.getElem_cons_succ]
  refine wpAny_ready (rs := [1]) (by kernel_rfl) (by simp) ?_
  refine AllReady.cons rfl (fun K hK => ?_) AllReady.nil
  go_simp
  refine (specFr (s.extract 8 (8 + n)) _ (by rw [HB.out]; exact h1) (by rw [HB.out]; exact h2)).mono ?_
  rintro e w2 ⟨rfl, b1⟩
  refine hK _ _ ?_
  clear hK K
  refine wpAny_take (i := 6) (v := ?_) rfl (by kernel_rfl) (by kernel_rfl) (by kernel_rfl) (fun _ _ _ h => h) (Or.inl ⟨by rfl, ?_⟩) ?_
  rotate_left
  · (intro W; go_simp; try with_reducible rfl)
  simp only [Act.put, List.setIfInBounds_toArray, List.set_cons_zero, List.set_cons_succ, List.getElem_toArray, List.getElem_cons_zero, List.getElem_cons_succ]
  refine wpAny_done (by kernel_rfl) ?_ _
  have b : Below w1.heap.size w1 w2 := ((Below.refl _ w1).drew).trans b1
  clear b1 hsl hc
  cases c
  · go_wp2
    go_ret3
    exact ⟨rfl, b⟩
  · go_wp2
    go_ret3
    exact ⟨rfl, b⟩

/-! ### The program's own -/

/-- What the two error variables hold. -/
structure Errs (w : World) (a0 a2 : Addr) : Prop where
  e0 : w.cell? ⟨1, 0, none⟩ = some (.iface 155 (.pointer (some a0)))
  e2 : w.cell? ⟨2, 0, none⟩ = some (.iface 155 (.pointer (some a2)))

theorem Errs.lt {w : World} {a0 a2 : Addr} (h : Errs w a0 a2) : 2 < w.heap.size := by
  rcases Nat.lt_or_ge 2 w.heap.size with h' | h'
  · exact h'
  · have := h.e2
    simp [World.cell?, Array.getElem?_eq_none h'] at this

theorem Errs.keep {w w' : World} {a0 a2 : Addr} {B : Nat} (h : Errs w a0 a2) (hb : Below B w w') (hB : 2 < B) : Errs w' a0 a2 :=
  ⟨by rw [hb.cell (by show 1 < B; omega)]; exact h.e0, by rw [hb.cell (by exact hB)]; exact h.e2⟩

theorem bel_drewNU {B : Nat} {a w : World} (h : Below B a w) (n : Nat) : Below B a (w.drewN n) := ⟨h.os, h.tape, h.output, h.size, h.block⟩

set_option maxRecDepth 20000 in
set_option maxHeartbeats 1000000 in
theorem at_short (s T : ByteArray) (k : Nat) (w : World) (a0 a2 : Addr) (hE : Errs w a0 a2) (hm : s.size ≤ maxLen) (hk : k ≤ s.size) (hT : s.extract k s.size = T) (h : UShort T) :
    Calls Tryd.prog 68 #[.string s, .int .i64 (k : Int)] w fun e w' => e = .returned (.tuple #[.string ⟨#[]⟩, fe a0 k]) ∧ Below w.heap.size w w' := by
  have e0 := hE.e0
  have hTm : T.size ≤ maxLen := by rw [← hT]; simp; omega
  have HM : Hid (T.size ≤ maxLen) := hTm
  have hk' : (k : Int) ≤ s.size := by omega
  have HFE : Hid (fe a0 k = .iface 96 (.agg #[.iface 155 (.pointer (some a0)), .int .i64 (k : Int)])) := rfl
  clear hm hE hk
  by_cases h4 : T.size < 4
  · have H4 : Hid ((4 : Int) < 1 ∨ 7 < (4 : Int) ∨ (T.size : Int) < 4) := by show _ ∨ _; omega
    clear h h4 hTm
    go_enter Tryd.func68, Tryd.ntmps68
    go_wp2_with fail
    refine (implRd_no T 4 _ H4.out HM.out).mono ?_
    rintro e w1 ⟨rfl, hw⟩
    replace hw := hw.symm
    subst hw
    go_wp2
    go_quiet (fail)
    go_wp2
    go_ret2
    exact ⟨by rw [HFE.out]; rfl, bel_drewNU (Below.refl _ _) _⟩
  · have h' : 1 ≤ rd T 4 ∧ rd T 4 ≤ 2000 ∧ (T.size : Int) < 8 + rd T 4 := by
      rcases h with h | h
      · omega
      · exact h
    have H4 : Hid (4 ≤ T.size) := by show _ ≤ _; omega
    clear h h4 hTm
    generalize hN : rd T 4 = N at h'
    have HN : Hid (rd T 4 = N) := hN
    obtain ⟨h1, h2, h3⟩ := h'
    clear hN
    go_enter Tryd.func68, Tryd.ntmps68
    go_wp2_with fail
    refine (implRd_yes T 4 _ (by omega) (by omega) H4.out HM.out).mono ?_
    rintro e w1 ⟨rfl, hw⟩
    replace hw := hw.symm
    subst hw
    rw [HN.out]
    go_wp2_with fail
    refine (bodyOk_yes N _ (by omega) (by omega)).mono ?_
    rintro e w1 ⟨rfl, hw⟩
    replace hw := hw.symm
    subst hw
    go_wp2
    go_quiet (fail)
    go_wp2
    go_ret2
    exact ⟨by rw [HFE.out]; rfl, bel_drewNU (Below.refl _ _) _⟩

set_option maxRecDepth 20000 in
set_option maxHeartbeats 1000000 in
theorem at_none (s T : ByteArray) (k : Nat) (w : World) (a0 a2 : Addr) (hE : Errs w a0 a2) (hm : s.size ≤ maxLen) (hk : k ≤ s.size) (hT : s.extract k s.size = T) (h4 : 4 ≤ T.size) (h : rd T 4 = 0 ∨ 2000 < rd T 4) :
    Calls Tryd.prog 68 #[.string s, .int .i64 (k : Int)] w fun e w' => e = .returned (.tuple #[.string ⟨#[]⟩, fe a2 k]) ∧ Below w.heap.size w w' := by
  have e2 := hE.e2
  have hTm : T.size ≤ maxLen := by rw [← hT]; simp; omega
  have HM : Hid (T.size ≤ maxLen) := hTm
  have hk' : (k : Int) ≤ s.size := by omega
  have HFE : Hid (fe a2 k = .iface 96 (.agg #[.iface 155 (.pointer (some a2)), .int .i64 (k : Int)])) := rfl
  have H4 : Hid (4 ≤ T.size) := h4
  have HN : Hid (rd T 4 < 1 ∨ 2000 < rd T 4) := by have := rd4_range T; show _ ∨ _; omega
  clear hm hE hk h4 hTm h
  go_enter Tryd.func68, Tryd.ntmps68
  go_wp2_with fail
  refine (implRd_yes T 4 _ (by omega) (by omega) H4.out HM.out).mono ?_
  rintro e w1 ⟨rfl, hw⟩
  replace hw := hw.symm
  subst hw
  generalize rd T 4 = N at HN ⊢
  go_wp2_with fail
  refine (bodyOk_no N _ HN.out).mono ?_
  rintro e w1 ⟨rfl, hw⟩
  replace hw := hw.symm
  subst hw
  go_wp2
  go_quiet (fail)
  go_wp2
  go_ret2
  exact ⟨by rw [HFE.out]; rfl, bel_drewNU (Below.refl _ _) _⟩

theorem neq_no (a b : Int) (h : a = b) : (a != b) = false := by simp [h]

theorem neq_yes (a b : Int) (h : ¬ a = b) : (a != b) = true := by simp [h]

set_option maxRecDepth 20000 in
set_option maxHeartbeats 2000000 in
theorem at_last (s T : ByteArray) (k n : Nat) (w : World) (a0 a2 : Addr) (hE : Errs w a0 a2) (hm : s.size ≤ maxLen) (hk : k ≤ s.size) (hT : s.extract k s.size = T) (h1 : 1 ≤ n) (h2 : n ≤ 2000) (hn : rd T 4 = (n : Int)) (hs : 8 + n ≤ T.size) (c : Bool)
    (hc : (rd (T.extract 4 T.size) 4 != fsum (T.extract 0 4) (T.extract 8 (8 + n))) = c) :
    Calls Tryd.prog 68 #[.string s, .int .i64 (k : Int)] w fun e w' => e = .returned (bif c then .tuple #[.string ⟨#[]⟩, fe a2 k] else .tuple #[.string (T.extract 8 (8 + n)), .nilIface]) ∧ Below w.heap.size w w' := by
  have hTm : T.size ≤ maxLen := by rw [← hT]; simp; omega
  have HM : Hid (T.size ≤ maxLen) := hTm
  have hk' : (k : Int) ≤ s.size := by omega
  have HFE : Hid (fe a2 k = .iface 96 (.agg #[.iface 155 (.pointer (some a2)), .int .i64 (k : Int)])) := rfl
  have H4 : Hid (4 ≤ T.size) := by show _ ≤ _; omega
  have HN : Hid (rd T 4 = (n : Int)) := hn
  have HE : Hid (Errs w a0 a2) := hE
  have hlt := hE.lt
  have HB : Hid ((T.extract 8 (8 + n)).size = n) := by show _ = _; rw [ext_size _ _ _ hs]; omega
  have HR : Hid ((T.extract 4 T.size).size = T.size - 4) := by show _ = _; simp
  have HH : Hid ((T.extract 0 4).size = 4) := by show _ = _; rw [ext_size _ _ _ (by omega)]
  have hs' : (8 + (n : Int)) ≤ (T.size : Int) := by omega
  have hs3 : ¬ (T.size : Int) < 8 + (n : Int) := by omega
  have hs4 : (4 : Int) ≤ (T.size : Int) := by omega
  have h1' : (1 : Int) ≤ n := by omega
  have h2' : (n : Int) ≤ 2000 := by omega
  have HS : Hid (8 + n ≤ T.size) := hs
  have HML : Hid (2001 ≤ maxLen) := by show _ ≤ _; unfold maxLen; omega
  clear hm hE hk hTm hn hs
  go_enter Tryd.func68, Tryd.ntmps68
  go_wp2_with fail
  refine (implRd_yes T 4 _ (by omega) (by omega) H4.out HM.out).mono ?_
  rintro e w1 ⟨rfl, hw⟩
  replace hw := hw.symm
  subst hw
  rw [HN.out]
  go_wp2_with fail
  refine (bodyOk_yes (n : Int) _ (by omega) (by omega)).mono ?_
  rintro e w1 ⟨rfl, hw⟩
  replace hw := hw.symm
  subst hw
  go_wp2_with fail
  refine (implRd_yes (T.extract 4 T.size) 4 _ (by omega) (by omega) (by rw [HR.out]; have := HS.out; omega) (by rw [HR.out]; have := HM.out; omega)).mono ?_
  rintro e w1 ⟨rfl, hw⟩
  replace hw := hw.symm
  subst hw
  go_wp2_with fail
  refine (frameSum_c (T.extract 0 4) (T.extract 8 (8 + n)) _ (by rw [HH.out]; have := HML.out; omega) (by rw [HB.out]; have := HML.out; omega)).mono ?_
  rintro e w1 ⟨rfl, b1⟩
  have e2 := (HE.out.keep b1 hlt).e2
  cases c
  · go_wp2_with fail
    refine (clone_c (T.extract 8 (8 + n)) _ (by rw [HB.out]; omega)).mono ?_
    rintro e w2 ⟨rfl, b2⟩
    have b := b1.trans (b2.mono b1.size)
    clear b1 b2
    go_wp2
    go_ret2
    exact ⟨rfl, b⟩
  · go_wp2
    go_quiet (fail)
    go_wp2
    go_ret2
    exact ⟨by rw [HFE.out]; rfl, bel_drewNU b1 _⟩

end Go.Proofs.YthlokfcejojdhaaDoor
