/- An item that sinks. -/
import Derived.Test.YtdggkcohidijcaaH8Sw
namespace Go.Proofs.Ytdggkcohidijcaa
open Go.RowKit
set_option linter.unusedVariables false
set_option linter.unusedSimpArgs false

theorem hide8 {p : Prop} (h : p) : Hid p := h

set_option maxRecDepth 20000 in
set_option maxHeartbeats 4000000 in
theorem sink_c (X : List Jt) (w : World) (R B : Nat) (mv fv : Value) (p : Option Addr) (n c : Nat) (hn : n ≤ 4000) (S : HqS w R B mv fv X p n c) (hd : DnI X 0) :
    Calls Try.prog 87 #[.pointer (some ⟨R, 2, none⟩)] w fun e w' => e = .returned (.tuple #[]) ∧ ∃ Y, HqS w' R B mv fv Y p n c ∧ HpOk Y ∧ (∀ z, z ∈ Y ↔ z ∈ X) ∧ Fr8 R (.slice p n c) w w' := by
  have HS : Hid (HqS w R B mv fv X p n c) := S
  have HD : Hid (DnI X 0) := hd
  have hn' : (n : Int) ≤ 4000 := by omega
  have hsl0 := S.cells.2.2.2
  clear S hd
  go_enter Try.func87, Try.ntmps87
  go_wp2_with fail
  clear hsl0
  go_loopw [2, 3] (fun av bv wr => ∃ (Y : List Jt) (a b : Nat), av = .int .i64 (a : Int) ∧ bv = .int .i64 (b : Int) ∧ Hid (b = 2 * a + 1) ∧ a ≤ 4000 ∧ Hid (HqS wr R B mv fv Y p n c) ∧ Hid (DnI Y a) ∧ Hid (∀ z, z ∈ Y ↔ z ∈ X) ∧ Hid (Fr8 R (.slice p n c) w wr)) (fun av _ _ => n - (intOf av).toNat)
  case atStart => exact ⟨X, 0, 1, rfl, rfl, hide8 rfl, by omega, HS, HD, fun z => Iff.rfl, Fr8.refl _ _ _⟩
  case round =>
    clear HS HD
    obtain ⟨Y, a, b, rfl, rfl, HB0, ha, S, HD, HM, HF⟩ := hrel
    have hsl := S.out.cells.2.2.2
    have hless := S.out.cells.2.2.1
    by_cases hbn : b < n
    rotate_left
    · have HK : Hid (HpOk Y) := dn_none (c := a) (by have := HB0.out; rw [S.out.len]; omega) HD.out
      have hbn' : ¬ (b : Int) < n := by omega
      clear hbn
      go_wp2
      go_end0
      exact ⟨rfl, Y, S.out, HK.out, HM.out, HF.out⟩
    have hbn' : (b : Int) < n := by omega
    have han : a < n := by have := HB0.out; omega
    have han' : (a : Int) < n := by omega
    obtain ⟨g, rfl, hgw, hBg, hnc, hgR, hcl⟩ := S.out.items (by omega)
    obtain ⟨xa, hxa⟩ : ∃ x, Y[a]? = some x := ⟨_, List.getElem?_eq_getElem (by rw [S.out.len]; exact han)⟩
    obtain ⟨xb, hxb⟩ : ∃ x, Y[b]? = some x := ⟨_, List.getElem?_eq_getElem (by rw [S.out.len]; exact hbn)⟩
    obtain ⟨d, hd⟩ : ∃ d, b + 1 = d := ⟨_, rfl⟩
    have e1 : IntKind.i64.wrap ((b : Int) + 1) = (d : Int) := by rw [IntWalk.i64_in _ (by omega)]; omega
    have hca := hcl a xa hxa
    have hcb := hcl b xb hxb
    have HXa : Hid (Y[a]? = some xa) := hxa
    have HXb : Hid (Y[b]? = some xb) := hxb
    have HBA : Hid (b = 2 * a + 1 ∧ b + 1 = d) := ⟨HB0.out, hd⟩
    clear hd hbn
    have HBN : Hid (b < n) := by show _ < _; omega
    have hma := List.mem_of_getElem? hxa
    have hmb := List.mem_of_getElem? hxb
    clear hxa hxb
    go_upto_region 4 with fail
    by_cases hdn : d < n
    rotate_left
    · have hmin : Hid (∀ i x, 0 < i → (i - 1) / 2 = a → Y[i]? = some x → leJ xb x) := fun i x hi hp hx => by
        have hil := (List.getElem?_eq_some_iff.1 hx).1
        rw [S.out.len] at hil
        have : i = b := by have := HBA.out; omega
        rw [this, HXb.out] at hx
        cases hx
        exact leJ_refl _
      have hdn' : ¬ (d : Int) < n := by omega
      refine wp_region_told (fun W => Below wr.heap.size wr W) (by kernel_rfl) (by kernel_rfl) ((Below.refl wr.heap.size wr).drew) ?_
      refine told_pure (some 14) (.int .i64 (b : Int)) rfl (by kernel_rfl) (fun _ => by kernel_rfl) ?_
      refine told_is (some 15) (.int .i64 (IntKind.i64.wrap ((b : Int) + 1))) (.int .i64 (d : Int)) (by rw [e1]) rfl (by kernel_rfl) (fun _ => by kernel_rfl) ?_
      refine told_pure (some 16) (.pointer (some ⟨R, 2, none⟩)) rfl (by kernel_rfl) (fun _ => by kernel_rfl) ?_
      refine told_pure (some 17) (.pointer (some ⟨R, 2, none⟩)) rfl (by kernel_rfl) (fun _ => by kernel_rfl) ?_
      refine told_pure (some 18) (.pointer (some ⟨R, 3, none⟩)) rfl (by kernel_rfl) (fun _ => by kernel_rfl) ?_
      refine told_load (some 19) ⟨R, 3, none⟩ (.slice (some ⟨g, 0, none⟩) n c) rfl (by kernel_rfl) (fun _ => by kernel_rfl) (fun _ hS => atB hS hsl) ?_
      refine told_pure (some 20) (.int .i64 (n : Int)) rfl (by kernel_rfl) (fun _ => by kernel_rfl) ?_
      refine told_is (some 21) (.bool (decide ((d : Int) < (n : Int)))) (.bool false) (by rw [decide_eq_false hdn']) rfl (by kernel_rfl) (fun _ => by kernel_rfl) ?_
      refine told_pure (some 22) (.bool false) rfl (by kernel_rfl) (fun _ => by kernel_rfl) ?_
      refine told_skip (some 23) rfl (by kernel_rfl) ?_
      refine told_skip (some 24) rfl (by kernel_rfl) ?_
      refine told_skip (some 25) rfl (by kernel_rfl) ?_
      refine told_skip (some 26) rfl (by kernel_rfl) ?_
      refine told_skip (some 27) rfl (by kernel_rfl) ?_
      refine told_skip (some 28) rfl (by kernel_rfl) ?_
      refine told_skip (some 29) rfl (by kernel_rfl) ?_
      refine told_skip (some 30) rfl (by kernel_rfl) ?_
      refine told_skip (some 31) rfl (by kernel_rfl) ?_
      refine told_skip (some 32) rfl (by kernel_rfl) ?_
      refine told_skip (some 33) rfl (by kernel_rfl) ?_
      refine told_skip (some 34) rfl (by kernel_rfl) ?_
      refine told_skip (some 35) rfl (by kernel_rfl) ?_
      refine told_skip (some 36) rfl (by kernel_rfl) ?_
      refine told_skip (some 37) rfl (by kernel_rfl) ?_
      refine told_skip (some 38) rfl (by kernel_rfl) ?_
      refine told_skip (some 39) rfl (by kernel_rfl) ?_
      refine told_skip (some 40) rfl (by kernel_rfl) ?_
      refine told_skip (some 41) rfl (by kernel_rfl) ?_
      refine told_skip (some 42) rfl (by kernel_rfl) ?_
      refine told_pure (some 43) (.bool false) rfl (by kernel_rfl) (fun _ => by kernel_rfl) ?_
      refine told_nil ?_
      intro W2 hS2
      simp only [Act.put, List.setIfInBounds_toArray, List.set_cons_zero, List.set_cons_succ]
      have S2 : Hid (HqS W2 R B mv fv Y (some ⟨g, 0, none⟩) n c) := S.out.bel hS2
      have HF2 : Hid (Fr8 R (.slice (some ⟨g, 0, none⟩) n c) w W2) := HF.out.bel hS2
      have hsl2 := S2.out.cells.2.2.2
      have hless2 := S2.out.cells.2.2.1
      have hca2 := fun j u hj => atB hS2 (hca j u hj)
      have hcm2 := fun j u hj => atB hS2 (hcb j u hj)
      clear hS2
      go_upto_region 6 with fail
      by_cases hlm : ltJ xb xa
      · refine wp_region_told (fun W => Below W2.heap.size W2 W) (by kernel_rfl) (by kernel_rfl) ((Below.refl W2.heap.size W2).drew) ?_
        refine told_pure (some 46) (.pointer (some ⟨R, 2, none⟩)) rfl (by kernel_rfl) (fun _ => by kernel_rfl) ?_
        refine told_pure (some 47) (.pointer (some ⟨R, 2, none⟩)) rfl (by kernel_rfl) (fun _ => by kernel_rfl) ?_
        refine told_pure (some 48) (.pointer (some ⟨R, 2, none⟩)) rfl (by kernel_rfl) (fun _ => by kernel_rfl) ?_
        refine told_load (some 49) ⟨R, 2, none⟩ ((.func (.func 72) #[] #[])) rfl (by kernel_rfl) (fun _ => by kernel_rfl) (fun _ hS => atB hS hless2) ?_
        refine told_pure (some 50) (.pointer (some ⟨R, 2, none⟩)) rfl (by kernel_rfl) (fun _ => by kernel_rfl) ?_
        refine told_pure (some 51) (.pointer (some ⟨R, 2, none⟩)) rfl (by kernel_rfl) (fun _ => by kernel_rfl) ?_
        refine told_pure (some 52) (.pointer (some ⟨R, 3, none⟩)) rfl (by kernel_rfl) (fun _ => by kernel_rfl) ?_
        refine told_load (some 53) ⟨R, 3, none⟩ (.slice (some ⟨g, 0, none⟩) n c) rfl (by kernel_rfl) (fun _ => by kernel_rfl) (fun _ hS => atB hS hsl2) ?_
        refine told_pure (some 54) (.int .i64 (b : Int)) rfl (by kernel_rfl) (fun _ => by kernel_rfl) ?_
        refine told_pure (some 55) (.pointer (some ⟨g, b * 2, none⟩)) rfl (by kernel_rfl) (fun w => by go_simp) ?_
        refine told_loads (some 56) ⟨g, b * 2, none⟩ [.int .i64 xb.r, .pointer (some ⟨xb.b, 0, none⟩)] rfl (by kernel_rfl) (fun _ => by kernel_rfl) (fun W hS j u hj => atB hS (hcm2 j u hj)) ?_
        refine told_pure (some 57) (.pointer (some ⟨R, 2, none⟩)) rfl (by kernel_rfl) (fun _ => by kernel_rfl) ?_
        refine told_pure (some 58) (.pointer (some ⟨R, 2, none⟩)) rfl (by kernel_rfl) (fun _ => by kernel_rfl) ?_
        refine told_pure (some 59) (.pointer (some ⟨R, 3, none⟩)) rfl (by kernel_rfl) (fun _ => by kernel_rfl) ?_
        refine told_load (some 60) ⟨R, 3, none⟩ (.slice (some ⟨g, 0, none⟩) n c) rfl (by kernel_rfl) (fun _ => by kernel_rfl) (fun _ hS => atB hS hsl2) ?_
        refine told_pure (some 61) (.int .i64 (a : Int)) rfl (by kernel_rfl) (fun _ => by kernel_rfl) ?_
        refine told_pure (some 62) (.pointer (some ⟨g, a * 2, none⟩)) rfl (by kernel_rfl) (fun w => by go_simp) ?_
        refine told_loads (some 63) ⟨g, a * 2, none⟩ [.int .i64 xa.r, .pointer (some ⟨xa.b, 0, none⟩)] rfl (by kernel_rfl) (fun _ => by kernel_rfl) (fun W hS j u hj => atB hS (hca2 j u hj)) ?_
        refine told_call (some 64) (.bool true) 72 #[.agg #[.int .i64 xb.r, .pointer (some ⟨xb.b, 0, none⟩)], .agg #[.int .i64 xa.r, .pointer (some ⟨xa.b, 0, none⟩)]] rfl (by kernel_rfl) (fun _ => by kernel_rfl) (fun W hS => below_S ((sooner_c xb xa W (Sym.cell ((S2.out.bel hS).ats _ hmb)) (Sym.cell ((S2.out.bel hS).ats _ hma))).mono fun e w' ⟨he, hb⟩ => ⟨by rw [he, decide_eq_true hlm], hb⟩) hS) ?_
        refine told_pure (some 65) (.bool false) rfl (by kernel_rfl) (fun _ => by kernel_rfl) ?_
        refine told_nil ?_
        intro W3 hS3
        simp only [Act.put, List.setIfInBounds_toArray, List.set_cons_zero, List.set_cons_succ]
        have S3 : Hid (HqS W3 R B mv fv Y (some ⟨g, 0, none⟩) n c) := S2.out.bel hS3
        have HF3 : Hid (Fr8 R (.slice (some ⟨g, 0, none⟩) n c) w W3) := HF2.out.bel hS3
        clear hS3 hsl hless hsl2 hless2 hca hcb hca2 hcm2
        go_wp2_with fail
        refine (swap_c Y a b xa xb W3 R B mv fv _ n c hn HXa.out HXb.out S3.out).mono ?_
        rintro e W4 ⟨rfl, hS4, hf4⟩
        have S4 : Hid (HqS W4 R B mv fv ((Y.set a xb).set b xa) (some ⟨g, 0, none⟩) n c) := hS4
        have HF4 : Hid (Fr8 R (.slice (some ⟨g, 0, none⟩) n c) w W4) := HF3.out.trans (Nxt8.refl _ _) hf4
        have hsw := swp_set HXa.out HXb.out
        have HD4 : Hid (DnI ((Y.set a xb).set b xa) b) := dn_step (by have := HBA.out; omega) (by have := HBA.out; omega) HXa.out HXb.out hlm hmin.out hsw HD.out
        have HM4 : Hid (∀ z, z ∈ (Y.set a xb).set b xa ↔ z ∈ X) := fun z => (hsw.mem (List.getElem?_eq_some_iff.1 HXa.out).1 (List.getElem?_eq_some_iff.1 HXb.out).1 z).trans (HM.out z)
        obtain ⟨m2, hm2⟩ : ∃ m2, 2 * b + 1 = m2 := ⟨_, rfl⟩
        have ew0 : IntKind.i64.wrap (2 * (b : Int)) = 2 * (b : Int) := IntWalk.i64_in _ (by omega)
        have ew1 : IntKind.i64.wrap (2 * (b : Int) + 1) = (m2 : Int) := by rw [IntWalk.i64_in _ (by omega)]; omega
        have HM2 : Hid (m2 = 2 * b + 1) := hm2.symm
        clear hm2
        have hmle : b ≤ 4000 := by omega
        have hma2 : a < b := by have := HBA.out; omega
        have hmn4 : b < n := by have := HBA.out; have := HBN.out; omega
        clear hsw hS4 hf4 hlm
        go_wp2
        go_roundw
        case rel => exact ⟨_, b, m2, rfl, by go_num, HM2, hmle, S4, HD4, HM4, HF4⟩
        case measure => simp [intOf] <;> omega
      · have HK : Hid (HpOk Y) := dn_done HXa.out (fun i x hi hp hx => leJ_trans hlm (hmin.out i x hi hp hx)) HD.out
        refine wp_region_told (fun W => Below W2.heap.size W2 W) (by kernel_rfl) (by kernel_rfl) ((Below.refl W2.heap.size W2).drew) ?_
        refine told_pure (some 46) (.pointer (some ⟨R, 2, none⟩)) rfl (by kernel_rfl) (fun _ => by kernel_rfl) ?_
        refine told_pure (some 47) (.pointer (some ⟨R, 2, none⟩)) rfl (by kernel_rfl) (fun _ => by kernel_rfl) ?_
        refine told_pure (some 48) (.pointer (some ⟨R, 2, none⟩)) rfl (by kernel_rfl) (fun _ => by kernel_rfl) ?_
        refine told_load (some 49) ⟨R, 2, none⟩ ((.func (.func 72) #[] #[])) rfl (by kernel_rfl) (fun _ => by kernel_rfl) (fun _ hS => atB hS hless2) ?_
        refine told_pure (some 50) (.pointer (some ⟨R, 2, none⟩)) rfl (by kernel_rfl) (fun _ => by kernel_rfl) ?_
        refine told_pure (some 51) (.pointer (some ⟨R, 2, none⟩)) rfl (by kernel_rfl) (fun _ => by kernel_rfl) ?_
        refine told_pure (some 52) (.pointer (some ⟨R, 3, none⟩)) rfl (by kernel_rfl) (fun _ => by kernel_rfl) ?_
        refine told_load (some 53) ⟨R, 3, none⟩ (.slice (some ⟨g, 0, none⟩) n c) rfl (by kernel_rfl) (fun _ => by kernel_rfl) (fun _ hS => atB hS hsl2) ?_
        refine told_pure (some 54) (.int .i64 (b : Int)) rfl (by kernel_rfl) (fun _ => by kernel_rfl) ?_
        refine told_pure (some 55) (.pointer (some ⟨g, b * 2, none⟩)) rfl (by kernel_rfl) (fun w => by go_simp) ?_
        refine told_loads (some 56) ⟨g, b * 2, none⟩ [.int .i64 xb.r, .pointer (some ⟨xb.b, 0, none⟩)] rfl (by kernel_rfl) (fun _ => by kernel_rfl) (fun W hS j u hj => atB hS (hcm2 j u hj)) ?_
        refine told_pure (some 57) (.pointer (some ⟨R, 2, none⟩)) rfl (by kernel_rfl) (fun _ => by kernel_rfl) ?_
        refine told_pure (some 58) (.pointer (some ⟨R, 2, none⟩)) rfl (by kernel_rfl) (fun _ => by kernel_rfl) ?_
        refine told_pure (some 59) (.pointer (some ⟨R, 3, none⟩)) rfl (by kernel_rfl) (fun _ => by kernel_rfl) ?_
        refine told_load (some 60) ⟨R, 3, none⟩ (.slice (some ⟨g, 0, none⟩) n c) rfl (by kernel_rfl) (fun _ => by kernel_rfl) (fun _ hS => atB hS hsl2) ?_
        refine told_pure (some 61) (.int .i64 (a : Int)) rfl (by kernel_rfl) (fun _ => by kernel_rfl) ?_
        refine told_pure (some 62) (.pointer (some ⟨g, a * 2, none⟩)) rfl (by kernel_rfl) (fun w => by go_simp) ?_
        refine told_loads (some 63) ⟨g, a * 2, none⟩ [.int .i64 xa.r, .pointer (some ⟨xa.b, 0, none⟩)] rfl (by kernel_rfl) (fun _ => by kernel_rfl) (fun W hS j u hj => atB hS (hca2 j u hj)) ?_
        refine told_call (some 64) (.bool false) 72 #[.agg #[.int .i64 xb.r, .pointer (some ⟨xb.b, 0, none⟩)], .agg #[.int .i64 xa.r, .pointer (some ⟨xa.b, 0, none⟩)]] rfl (by kernel_rfl) (fun _ => by kernel_rfl) (fun W hS => below_S ((sooner_c xb xa W (Sym.cell ((S2.out.bel hS).ats _ hmb)) (Sym.cell ((S2.out.bel hS).ats _ hma))).mono fun e w' ⟨he, hb⟩ => ⟨by rw [he, decide_eq_false hlm], hb⟩) hS) ?_
        refine told_pure (some 65) (.bool true) rfl (by kernel_rfl) (fun _ => by kernel_rfl) ?_
        refine told_nil ?_
        intro W3 hS3
        simp only [Act.put, List.setIfInBounds_toArray, List.set_cons_zero, List.set_cons_succ]
        have S3 : Hid (HqS W3 R B mv fv Y (some ⟨g, 0, none⟩) n c) := S2.out.bel hS3
        have HF3 : Hid (Fr8 R (.slice (some ⟨g, 0, none⟩) n c) w W3) := HF2.out.bel hS3
        clear hS3 hsl hless hsl2 hless2 hca hcb hca2 hcm2
        go_wp2
        (try simp only [Exit.inBlock, Exit.then])
        refine bodyPost_ret (results_none rfl _ _ _) rfl ?_
        exact ⟨rfl, Y, S3.out, HK.out, HM.out, HF3.out⟩
    · obtain ⟨xd, hxd⟩ : ∃ x, Y[d]? = some x := ⟨_, List.getElem?_eq_getElem (by rw [S.out.len]; exact hdn)⟩
      have hcd := hcl d xd hxd
      have hmd := List.mem_of_getElem? hxd
      have hdn' : (d : Int) < n := by omega
      have HXd : Hid (Y[d]? = some xd) := hxd
      clear hxd
      have HCH : Hid (∀ i x, 0 < i → (i - 1) / 2 = a → Y[i]? = some x → x = xb ∨ x = xd) := fun i x hi hp hx => by
        have : i = b ∨ i = d := by have := HBA.out; omega
        rcases this with h | h
        · rw [h, HXb.out] at hx; cases hx; exact .inl rfl
        · rw [h, HXd.out] at hx; cases hx; exact .inr rfl
      by_cases hlt : ltJ xd xb
      · have hmin : Hid (∀ i x, 0 < i → (i - 1) / 2 = a → Y[i]? = some x → leJ xd x) := fun i x hi hp hx => by
          rcases HCH.out i x hi hp hx with rfl | rfl
          · exact leJ_lt hlt
          · exact leJ_refl _
        refine wp_region_told (fun W => Below wr.heap.size wr W) (by kernel_rfl) (by kernel_rfl) ((Below.refl wr.heap.size wr).drew) ?_
        refine told_pure (some 14) (.int .i64 (b : Int)) rfl (by kernel_rfl) (fun _ => by kernel_rfl) ?_
        refine told_is (some 15) (.int .i64 (IntKind.i64.wrap ((b : Int) + 1))) (.int .i64 (d : Int)) (by rw [e1]) rfl (by kernel_rfl) (fun _ => by kernel_rfl) ?_
        refine told_pure (some 16) (.pointer (some ⟨R, 2, none⟩)) rfl (by kernel_rfl) (fun _ => by kernel_rfl) ?_
        refine told_pure (some 17) (.pointer (some ⟨R, 2, none⟩)) rfl (by kernel_rfl) (fun _ => by kernel_rfl) ?_
        refine told_pure (some 18) (.pointer (some ⟨R, 3, none⟩)) rfl (by kernel_rfl) (fun _ => by kernel_rfl) ?_
        refine told_load (some 19) ⟨R, 3, none⟩ (.slice (some ⟨g, 0, none⟩) n c) rfl (by kernel_rfl) (fun _ => by kernel_rfl) (fun _ hS => atB hS hsl) ?_
        refine told_pure (some 20) (.int .i64 (n : Int)) rfl (by kernel_rfl) (fun _ => by kernel_rfl) ?_
        refine told_is (some 21) (.bool (decide ((d : Int) < (n : Int)))) (.bool true) (by rw [decide_eq_true hdn']) rfl (by kernel_rfl) (fun _ => by kernel_rfl) ?_
        refine told_pure (some 22) (.bool true) rfl (by kernel_rfl) (fun _ => by kernel_rfl) ?_
        refine told_pure (some 23) (.pointer (some ⟨R, 2, none⟩)) rfl (by kernel_rfl) (fun _ => by kernel_rfl) ?_
        refine told_pure (some 24) (.pointer (some ⟨R, 2, none⟩)) rfl (by kernel_rfl) (fun _ => by kernel_rfl) ?_
        refine told_pure (some 25) (.pointer (some ⟨R, 2, none⟩)) rfl (by kernel_rfl) (fun _ => by kernel_rfl) ?_
        refine told_load (some 26) ⟨R, 2, none⟩ ((.func (.func 72) #[] #[])) rfl (by kernel_rfl) (fun _ => by kernel_rfl) (fun _ hS => atB hS hless) ?_
        refine told_pure (some 27) (.pointer (some ⟨R, 2, none⟩)) rfl (by kernel_rfl) (fun _ => by kernel_rfl) ?_
        refine told_pure (some 28) (.pointer (some ⟨R, 2, none⟩)) rfl (by kernel_rfl) (fun _ => by kernel_rfl) ?_
        refine told_pure (some 29) (.pointer (some ⟨R, 3, none⟩)) rfl (by kernel_rfl) (fun _ => by kernel_rfl) ?_
        refine told_load (some 30) ⟨R, 3, none⟩ (.slice (some ⟨g, 0, none⟩) n c) rfl (by kernel_rfl) (fun _ => by kernel_rfl) (fun _ hS => atB hS hsl) ?_
        refine told_pure (some 31) (.int .i64 (b : Int)) rfl (by kernel_rfl) (fun _ => by kernel_rfl) ?_
        refine told_is (some 32) (.int .i64 (IntKind.i64.wrap ((b : Int) + 1))) (.int .i64 (d : Int)) (by rw [e1]) rfl (by kernel_rfl) (fun _ => by kernel_rfl) ?_
        refine told_pure (some 33) (.pointer (some ⟨g, d * 2, none⟩)) rfl (by kernel_rfl) (fun w => by go_simp) ?_
        refine told_loads (some 34) ⟨g, d * 2, none⟩ [.int .i64 xd.r, .pointer (some ⟨xd.b, 0, none⟩)] rfl (by kernel_rfl) (fun _ => by kernel_rfl) (fun W hS j u hj => atB hS (hcd j u hj)) ?_
        refine told_pure (some 35) (.pointer (some ⟨R, 2, none⟩)) rfl (by kernel_rfl) (fun _ => by kernel_rfl) ?_
        refine told_pure (some 36) (.pointer (some ⟨R, 2, none⟩)) rfl (by kernel_rfl) (fun _ => by kernel_rfl) ?_
        refine told_pure (some 37) (.pointer (some ⟨R, 3, none⟩)) rfl (by kernel_rfl) (fun _ => by kernel_rfl) ?_
        refine told_load (some 38) ⟨R, 3, none⟩ (.slice (some ⟨g, 0, none⟩) n c) rfl (by kernel_rfl) (fun _ => by kernel_rfl) (fun _ hS => atB hS hsl) ?_
        refine told_pure (some 39) (.int .i64 (b : Int)) rfl (by kernel_rfl) (fun _ => by kernel_rfl) ?_
        refine told_pure (some 40) (.pointer (some ⟨g, b * 2, none⟩)) rfl (by kernel_rfl) (fun w => by go_simp) ?_
        refine told_loads (some 41) ⟨g, b * 2, none⟩ [.int .i64 xb.r, .pointer (some ⟨xb.b, 0, none⟩)] rfl (by kernel_rfl) (fun _ => by kernel_rfl) (fun W hS j u hj => atB hS (hcb j u hj)) ?_
        refine told_call (some 42) (.bool true) 72 #[.agg #[.int .i64 xd.r, .pointer (some ⟨xd.b, 0, none⟩)], .agg #[.int .i64 xb.r, .pointer (some ⟨xb.b, 0, none⟩)]] rfl (by kernel_rfl) (fun _ => by kernel_rfl) (fun W hS => below_S ((sooner_c xd xb W (Sym.cell ((S.out.bel hS).ats _ hmd)) (Sym.cell ((S.out.bel hS).ats _ hmb))).mono fun e w' ⟨he, hb⟩ => ⟨by rw [he, decide_eq_true hlt], hb⟩) hS) ?_
        refine told_pure (some 43) (.bool true) rfl (by kernel_rfl) (fun _ => by kernel_rfl) ?_
        refine told_nil ?_
        intro W2 hS2
        simp only [Act.put, List.setIfInBounds_toArray, List.set_cons_zero, List.set_cons_succ]
        have S2 : Hid (HqS W2 R B mv fv Y (some ⟨g, 0, none⟩) n c) := S.out.bel hS2
        have HF2 : Hid (Fr8 R (.slice (some ⟨g, 0, none⟩) n c) w W2) := HF.out.bel hS2
        have hsl2 := S2.out.cells.2.2.2
        have hless2 := S2.out.cells.2.2.1
        have hca2 := fun j u hj => atB hS2 (hca j u hj)
        have hcm2 := fun j u hj => atB hS2 (hcd j u hj)
        clear hS2
        go_upto_region 6 with fail
        by_cases hlm : ltJ xd xa
        · refine wp_region_told (fun W => Below W2.heap.size W2 W) (by kernel_rfl) (by kernel_rfl) ((Below.refl W2.heap.size W2).drew) ?_
          refine told_pure (some 46) (.pointer (some ⟨R, 2, none⟩)) rfl (by kernel_rfl) (fun _ => by kernel_rfl) ?_
          refine told_pure (some 47) (.pointer (some ⟨R, 2, none⟩)) rfl (by kernel_rfl) (fun _ => by kernel_rfl) ?_
          refine told_pure (some 48) (.pointer (some ⟨R, 2, none⟩)) rfl (by kernel_rfl) (fun _ => by kernel_rfl) ?_
          refine told_load (some 49) ⟨R, 2, none⟩ ((.func (.func 72) #[] #[])) rfl (by kernel_rfl) (fun _ => by kernel_rfl) (fun _ hS => atB hS hless2) ?_
          refine told_pure (some 50) (.pointer (some ⟨R, 2, none⟩)) rfl (by kernel_rfl) (fun _ => by kernel_rfl) ?_
          refine told_pure (some 51) (.pointer (some ⟨R, 2, none⟩)) rfl (by kernel_rfl) (fun _ => by kernel_rfl) ?_
          refine told_pure (some 52) (.pointer (some ⟨R, 3, none⟩)) rfl (by kernel_rfl) (fun _ => by kernel_rfl) ?_
          refine told_load (some 53) ⟨R, 3, none⟩ (.slice (some ⟨g, 0, none⟩) n c) rfl (by kernel_rfl) (fun _ => by kernel_rfl) (fun _ hS => atB hS hsl2) ?_
          refine told_pure (some 54) (.int .i64 (d : Int)) rfl (by kernel_rfl) (fun _ => by kernel_rfl) ?_
          refine told_pure (some 55) (.pointer (some ⟨g, d * 2, none⟩)) rfl (by kernel_rfl) (fun w => by go_simp) ?_
          refine told_loads (some 56) ⟨g, d * 2, none⟩ [.int .i64 xd.r, .pointer (some ⟨xd.b, 0, none⟩)] rfl (by kernel_rfl) (fun _ => by kernel_rfl) (fun W hS j u hj => atB hS (hcm2 j u hj)) ?_
          refine told_pure (some 57) (.pointer (some ⟨R, 2, none⟩)) rfl (by kernel_rfl) (fun _ => by kernel_rfl) ?_
          refine told_pure (some 58) (.pointer (some ⟨R, 2, none⟩)) rfl (by kernel_rfl) (fun _ => by kernel_rfl) ?_
          refine told_pure (some 59) (.pointer (some ⟨R, 3, none⟩)) rfl (by kernel_rfl) (fun _ => by kernel_rfl) ?_
          refine told_load (some 60) ⟨R, 3, none⟩ (.slice (some ⟨g, 0, none⟩) n c) rfl (by kernel_rfl) (fun _ => by kernel_rfl) (fun _ hS => atB hS hsl2) ?_
          refine told_pure (some 61) (.int .i64 (a : Int)) rfl (by kernel_rfl) (fun _ => by kernel_rfl) ?_
          refine told_pure (some 62) (.pointer (some ⟨g, a * 2, none⟩)) rfl (by kernel_rfl) (fun w => by go_simp) ?_
          refine told_loads (some 63) ⟨g, a * 2, none⟩ [.int .i64 xa.r, .pointer (some ⟨xa.b, 0, none⟩)] rfl (by kernel_rfl) (fun _ => by kernel_rfl) (fun W hS j u hj => atB hS (hca2 j u hj)) ?_
          refine told_call (some 64) (.bool true) 72 #[.agg #[.int .i64 xd.r, .pointer (some ⟨xd.b, 0, none⟩)], .agg #[.int .i64 xa.r, .pointer (some ⟨xa.b, 0, none⟩)]] rfl (by kernel_rfl) (fun _ => by kernel_rfl) (fun W hS => below_S ((sooner_c xd xa W (Sym.cell ((S2.out.bel hS).ats _ hmd)) (Sym.cell ((S2.out.bel hS).ats _ hma))).mono fun e w' ⟨he, hb⟩ => ⟨by rw [he, decide_eq_true hlm], hb⟩) hS) ?_
          refine told_pure (some 65) (.bool false) rfl (by kernel_rfl) (fun _ => by kernel_rfl) ?_
          refine told_nil ?_
          intro W3 hS3
          simp only [Act.put, List.setIfInBounds_toArray, List.set_cons_zero, List.set_cons_succ]
          have S3 : Hid (HqS W3 R B mv fv Y (some ⟨g, 0, none⟩) n c) := S2.out.bel hS3
          have HF3 : Hid (Fr8 R (.slice (some ⟨g, 0, none⟩) n c) w W3) := HF2.out.bel hS3
          clear hS3 hsl hless hsl2 hless2 hca hcb hca2 hcm2
          go_wp2_with fail
          refine (swap_c Y a d xa xd W3 R B mv fv _ n c hn HXa.out HXd.out S3.out).mono ?_
          rintro e W4 ⟨rfl, hS4, hf4⟩
          have S4 : Hid (HqS W4 R B mv fv ((Y.set a xd).set d xa) (some ⟨g, 0, none⟩) n c) := hS4
          have HF4 : Hid (Fr8 R (.slice (some ⟨g, 0, none⟩) n c) w W4) := HF3.out.trans (Nxt8.refl _ _) hf4
          have hsw := swp_set HXa.out HXd.out
          have HD4 : Hid (DnI ((Y.set a xd).set d xa) d) := dn_step (by have := HBA.out; omega) (by have := HBA.out; omega) HXa.out HXd.out hlm hmin.out hsw HD.out
          have HM4 : Hid (∀ z, z ∈ (Y.set a xd).set d xa ↔ z ∈ X) := fun z => (hsw.mem (List.getElem?_eq_some_iff.1 HXa.out).1 (List.getElem?_eq_some_iff.1 HXd.out).1 z).trans (HM.out z)
          obtain ⟨m2, hm2⟩ : ∃ m2, 2 * d + 1 = m2 := ⟨_, rfl⟩
          have ew0 : IntKind.i64.wrap (2 * (d : Int)) = 2 * (d : Int) := IntWalk.i64_in _ (by omega)
          have ew1 : IntKind.i64.wrap (2 * (d : Int) + 1) = (m2 : Int) := by rw [IntWalk.i64_in _ (by omega)]; omega
          have HM2 : Hid (m2 = 2 * d + 1) := hm2.symm
          clear hm2
          have hmle : d ≤ 4000 := by omega
          have hma2 : a < d := by have := HBA.out; omega
          have hmn4 : d < n := by have := HBA.out; have := HBN.out; omega
          clear hsw hS4 hf4 hlm
          go_wp2
          go_roundw
          case rel => exact ⟨_, d, m2, rfl, by go_num, HM2, hmle, S4, HD4, HM4, HF4⟩
          case measure => simp [intOf] <;> omega
        · have HK : Hid (HpOk Y) := dn_done HXa.out (fun i x hi hp hx => leJ_trans hlm (hmin.out i x hi hp hx)) HD.out
          refine wp_region_told (fun W => Below W2.heap.size W2 W) (by kernel_rfl) (by kernel_rfl) ((Below.refl W2.heap.size W2).drew) ?_
          refine told_pure (some 46) (.pointer (some ⟨R, 2, none⟩)) rfl (by kernel_rfl) (fun _ => by kernel_rfl) ?_
          refine told_pure (some 47) (.pointer (some ⟨R, 2, none⟩)) rfl (by kernel_rfl) (fun _ => by kernel_rfl) ?_
          refine told_pure (some 48) (.pointer (some ⟨R, 2, none⟩)) rfl (by kernel_rfl) (fun _ => by kernel_rfl) ?_
          refine told_load (some 49) ⟨R, 2, none⟩ ((.func (.func 72) #[] #[])) rfl (by kernel_rfl) (fun _ => by kernel_rfl) (fun _ hS => atB hS hless2) ?_
          refine told_pure (some 50) (.pointer (some ⟨R, 2, none⟩)) rfl (by kernel_rfl) (fun _ => by kernel_rfl) ?_
          refine told_pure (some 51) (.pointer (some ⟨R, 2, none⟩)) rfl (by kernel_rfl) (fun _ => by kernel_rfl) ?_
          refine told_pure (some 52) (.pointer (some ⟨R, 3, none⟩)) rfl (by kernel_rfl) (fun _ => by kernel_rfl) ?_
          refine told_load (some 53) ⟨R, 3, none⟩ (.slice (some ⟨g, 0, none⟩) n c) rfl (by kernel_rfl) (fun _ => by kernel_rfl) (fun _ hS => atB hS hsl2) ?_
          refine told_pure (some 54) (.int .i64 (d : Int)) rfl (by kernel_rfl) (fun _ => by kernel_rfl) ?_
          refine told_pure (some 55) (.pointer (some ⟨g, d * 2, none⟩)) rfl (by kernel_rfl) (fun w => by go_simp) ?_
          refine told_loads (some 56) ⟨g, d * 2, none⟩ [.int .i64 xd.r, .pointer (some ⟨xd.b, 0, none⟩)] rfl (by kernel_rfl) (fun _ => by kernel_rfl) (fun W hS j u hj => atB hS (hcm2 j u hj)) ?_
          refine told_pure (some 57) (.pointer (some ⟨R, 2, none⟩)) rfl (by kernel_rfl) (fun _ => by kernel_rfl) ?_
          refine told_pure (some 58) (.pointer (some ⟨R, 2, none⟩)) rfl (by kernel_rfl) (fun _ => by kernel_rfl) ?_
          refine told_pure (some 59) (.pointer (some ⟨R, 3, none⟩)) rfl (by kernel_rfl) (fun _ => by kernel_rfl) ?_
          refine told_load (some 60) ⟨R, 3, none⟩ (.slice (some ⟨g, 0, none⟩) n c) rfl (by kernel_rfl) (fun _ => by kernel_rfl) (fun _ hS => atB hS hsl2) ?_
          refine told_pure (some 61) (.int .i64 (a : Int)) rfl (by kernel_rfl) (fun _ => by kernel_rfl) ?_
          refine told_pure (some 62) (.pointer (some ⟨g, a * 2, none⟩)) rfl (by kernel_rfl) (fun w => by go_simp) ?_
          refine told_loads (some 63) ⟨g, a * 2, none⟩ [.int .i64 xa.r, .pointer (some ⟨xa.b, 0, none⟩)] rfl (by kernel_rfl) (fun _ => by kernel_rfl) (fun W hS j u hj => atB hS (hca2 j u hj)) ?_
          refine told_call (some 64) (.bool false) 72 #[.agg #[.int .i64 xd.r, .pointer (some ⟨xd.b, 0, none⟩)], .agg #[.int .i64 xa.r, .pointer (some ⟨xa.b, 0, none⟩)]] rfl (by kernel_rfl) (fun _ => by kernel_rfl) (fun W hS => below_S ((sooner_c xd xa W (Sym.cell ((S2.out.bel hS).ats _ hmd)) (Sym.cell ((S2.out.bel hS).ats _ hma))).mono fun e w' ⟨he, hb⟩ => ⟨by rw [he, decide_eq_false hlm], hb⟩) hS) ?_
          refine told_pure (some 65) (.bool true) rfl (by kernel_rfl) (fun _ => by kernel_rfl) ?_
          refine told_nil ?_
          intro W3 hS3
          simp only [Act.put, List.setIfInBounds_toArray, List.set_cons_zero, List.set_cons_succ]
          have S3 : Hid (HqS W3 R B mv fv Y (some ⟨g, 0, none⟩) n c) := S2.out.bel hS3
          have HF3 : Hid (Fr8 R (.slice (some ⟨g, 0, none⟩) n c) w W3) := HF2.out.bel hS3
          clear hS3 hsl hless hsl2 hless2 hca hcb hca2 hcm2
          go_wp2
          (try simp only [Exit.inBlock, Exit.then])
          refine bodyPost_ret (results_none rfl _ _ _) rfl ?_
          exact ⟨rfl, Y, S3.out, HK.out, HM.out, HF3.out⟩
      · have hmin : Hid (∀ i x, 0 < i → (i - 1) / 2 = a → Y[i]? = some x → leJ xb x) := fun i x hi hp hx => by
          rcases HCH.out i x hi hp hx with rfl | rfl
          · exact leJ_refl _
          · exact hlt
        refine wp_region_told (fun W => Below wr.heap.size wr W) (by kernel_rfl) (by kernel_rfl) ((Below.refl wr.heap.size wr).drew) ?_
        refine told_pure (some 14) (.int .i64 (b : Int)) rfl (by kernel_rfl) (fun _ => by kernel_rfl) ?_
        refine told_is (some 15) (.int .i64 (IntKind.i64.wrap ((b : Int) + 1))) (.int .i64 (d : Int)) (by rw [e1]) rfl (by kernel_rfl) (fun _ => by kernel_rfl) ?_
        refine told_pure (some 16) (.pointer (some ⟨R, 2, none⟩)) rfl (by kernel_rfl) (fun _ => by kernel_rfl) ?_
        refine told_pure (some 17) (.pointer (some ⟨R, 2, none⟩)) rfl (by kernel_rfl) (fun _ => by kernel_rfl) ?_
        refine told_pure (some 18) (.pointer (some ⟨R, 3, none⟩)) rfl (by kernel_rfl) (fun _ => by kernel_rfl) ?_
        refine told_load (some 19) ⟨R, 3, none⟩ (.slice (some ⟨g, 0, none⟩) n c) rfl (by kernel_rfl) (fun _ => by kernel_rfl) (fun _ hS => atB hS hsl) ?_
        refine told_pure (some 20) (.int .i64 (n : Int)) rfl (by kernel_rfl) (fun _ => by kernel_rfl) ?_
        refine told_is (some 21) (.bool (decide ((d : Int) < (n : Int)))) (.bool true) (by rw [decide_eq_true hdn']) rfl (by kernel_rfl) (fun _ => by kernel_rfl) ?_
        refine told_pure (some 22) (.bool true) rfl (by kernel_rfl) (fun _ => by kernel_rfl) ?_
        refine told_pure (some 23) (.pointer (some ⟨R, 2, none⟩)) rfl (by kernel_rfl) (fun _ => by kernel_rfl) ?_
        refine told_pure (some 24) (.pointer (some ⟨R, 2, none⟩)) rfl (by kernel_rfl) (fun _ => by kernel_rfl) ?_
        refine told_pure (some 25) (.pointer (some ⟨R, 2, none⟩)) rfl (by kernel_rfl) (fun _ => by kernel_rfl) ?_
        refine told_load (some 26) ⟨R, 2, none⟩ ((.func (.func 72) #[] #[])) rfl (by kernel_rfl) (fun _ => by kernel_rfl) (fun _ hS => atB hS hless) ?_
        refine told_pure (some 27) (.pointer (some ⟨R, 2, none⟩)) rfl (by kernel_rfl) (fun _ => by kernel_rfl) ?_
        refine told_pure (some 28) (.pointer (some ⟨R, 2, none⟩)) rfl (by kernel_rfl) (fun _ => by kernel_rfl) ?_
        refine told_pure (some 29) (.pointer (some ⟨R, 3, none⟩)) rfl (by kernel_rfl) (fun _ => by kernel_rfl) ?_
        refine told_load (some 30) ⟨R, 3, none⟩ (.slice (some ⟨g, 0, none⟩) n c) rfl (by kernel_rfl) (fun _ => by kernel_rfl) (fun _ hS => atB hS hsl) ?_
        refine told_pure (some 31) (.int .i64 (b : Int)) rfl (by kernel_rfl) (fun _ => by kernel_rfl) ?_
        refine told_is (some 32) (.int .i64 (IntKind.i64.wrap ((b : Int) + 1))) (.int .i64 (d : Int)) (by rw [e1]) rfl (by kernel_rfl) (fun _ => by kernel_rfl) ?_
        refine told_pure (some 33) (.pointer (some ⟨g, d * 2, none⟩)) rfl (by kernel_rfl) (fun w => by go_simp) ?_
        refine told_loads (some 34) ⟨g, d * 2, none⟩ [.int .i64 xd.r, .pointer (some ⟨xd.b, 0, none⟩)] rfl (by kernel_rfl) (fun _ => by kernel_rfl) (fun W hS j u hj => atB hS (hcd j u hj)) ?_
        refine told_pure (some 35) (.pointer (some ⟨R, 2, none⟩)) rfl (by kernel_rfl) (fun _ => by kernel_rfl) ?_
        refine told_pure (some 36) (.pointer (some ⟨R, 2, none⟩)) rfl (by kernel_rfl) (fun _ => by kernel_rfl) ?_
        refine told_pure (some 37) (.pointer (some ⟨R, 3, none⟩)) rfl (by kernel_rfl) (fun _ => by kernel_rfl) ?_
        refine told_load (some 38) ⟨R, 3, none⟩ (.slice (some ⟨g, 0, none⟩) n c) rfl (by kernel_rfl) (fun _ => by kernel_rfl) (fun _ hS => atB hS hsl) ?_
        refine told_pure (some 39) (.int .i64 (b : Int)) rfl (by kernel_rfl) (fun _ => by kernel_rfl) ?_
        refine told_pure (some 40) (.pointer (some ⟨g, b * 2, none⟩)) rfl (by kernel_rfl) (fun w => by go_simp) ?_
        refine told_loads (some 41) ⟨g, b * 2, none⟩ [.int .i64 xb.r, .pointer (some ⟨xb.b, 0, none⟩)] rfl (by kernel_rfl) (fun _ => by kernel_rfl) (fun W hS j u hj => atB hS (hcb j u hj)) ?_
        refine told_call (some 42) (.bool false) 72 #[.agg #[.int .i64 xd.r, .pointer (some ⟨xd.b, 0, none⟩)], .agg #[.int .i64 xb.r, .pointer (some ⟨xb.b, 0, none⟩)]] rfl (by kernel_rfl) (fun _ => by kernel_rfl) (fun W hS => below_S ((sooner_c xd xb W (Sym.cell ((S.out.bel hS).ats _ hmd)) (Sym.cell ((S.out.bel hS).ats _ hmb))).mono fun e w' ⟨he, hb⟩ => ⟨by rw [he, decide_eq_false hlt], hb⟩) hS) ?_
        refine told_pure (some 43) (.bool false) rfl (by kernel_rfl) (fun _ => by kernel_rfl) ?_
        refine told_nil ?_
        intro W2 hS2
        simp only [Act.put, List.setIfInBounds_toArray, List.set_cons_zero, List.set_cons_succ]
        have S2 : Hid (HqS W2 R B mv fv Y (some ⟨g, 0, none⟩) n c) := S.out.bel hS2
        have HF2 : Hid (Fr8 R (.slice (some ⟨g, 0, none⟩) n c) w W2) := HF.out.bel hS2
        have hsl2 := S2.out.cells.2.2.2
        have hless2 := S2.out.cells.2.2.1
        have hca2 := fun j u hj => atB hS2 (hca j u hj)
        have hcm2 := fun j u hj => atB hS2 (hcb j u hj)
        clear hS2
        go_upto_region 6 with fail
        by_cases hlm : ltJ xb xa
        · refine wp_region_told (fun W => Below W2.heap.size W2 W) (by kernel_rfl) (by kernel_rfl) ((Below.refl W2.heap.size W2).drew) ?_
          refine told_pure (some 46) (.pointer (some ⟨R, 2, none⟩)) rfl (by kernel_rfl) (fun _ => by kernel_rfl) ?_
          refine told_pure (some 47) (.pointer (some ⟨R, 2, none⟩)) rfl (by kernel_rfl) (fun _ => by kernel_rfl) ?_
          refine told_pure (some 48) (.pointer (some ⟨R, 2, none⟩)) rfl (by kernel_rfl) (fun _ => by kernel_rfl) ?_
          refine told_load (some 49) ⟨R, 2, none⟩ ((.func (.func 72) #[] #[])) rfl (by kernel_rfl) (fun _ => by kernel_rfl) (fun _ hS => atB hS hless2) ?_
          refine told_pure (some 50) (.pointer (some ⟨R, 2, none⟩)) rfl (by kernel_rfl) (fun _ => by kernel_rfl) ?_
          refine told_pure (some 51) (.pointer (some ⟨R, 2, none⟩)) rfl (by kernel_rfl) (fun _ => by kernel_rfl) ?_
          refine told_pure (some 52) (.pointer (some ⟨R, 3, none⟩)) rfl (by kernel_rfl) (fun _ => by kernel_rfl) ?_
          refine told_load (some 53) ⟨R, 3, none⟩ (.slice (some ⟨g, 0, none⟩) n c) rfl (by kernel_rfl) (fun _ => by kernel_rfl) (fun _ hS => atB hS hsl2) ?_
          refine told_pure (some 54) (.int .i64 (b : Int)) rfl (by kernel_rfl) (fun _ => by kernel_rfl) ?_
          refine told_pure (some 55) (.pointer (some ⟨g, b * 2, none⟩)) rfl (by kernel_rfl) (fun w => by go_simp) ?_
          refine told_loads (some 56) ⟨g, b * 2, none⟩ [.int .i64 xb.r, .pointer (some ⟨xb.b, 0, none⟩)] rfl (by kernel_rfl) (fun _ => by kernel_rfl) (fun W hS j u hj => atB hS (hcm2 j u hj)) ?_
          refine told_pure (some 57) (.pointer (some ⟨R, 2, none⟩)) rfl (by kernel_rfl) (fun _ => by kernel_rfl) ?_
          refine told_pure (some 58) (.pointer (some ⟨R, 2, none⟩)) rfl (by kernel_rfl) (fun _ => by kernel_rfl) ?_
          refine told_pure (some 59) (.pointer (some ⟨R, 3, none⟩)) rfl (by kernel_rfl) (fun _ => by kernel_rfl) ?_
          refine told_load (some 60) ⟨R, 3, none⟩ (.slice (some ⟨g, 0, none⟩) n c) rfl (by kernel_rfl) (fun _ => by kernel_rfl) (fun _ hS => atB hS hsl2) ?_
          refine told_pure (some 61) (.int .i64 (a : Int)) rfl (by kernel_rfl) (fun _ => by kernel_rfl) ?_
          refine told_pure (some 62) (.pointer (some ⟨g, a * 2, none⟩)) rfl (by kernel_rfl) (fun w => by go_simp) ?_
          refine told_loads (some 63) ⟨g, a * 2, none⟩ [.int .i64 xa.r, .pointer (some ⟨xa.b, 0, none⟩)] rfl (by kernel_rfl) (fun _ => by kernel_rfl) (fun W hS j u hj => atB hS (hca2 j u hj)) ?_
          refine told_call (some 64) (.bool true) 72 #[.agg #[.int .i64 xb.r, .pointer (some ⟨xb.b, 0, none⟩)], .agg #[.int .i64 xa.r, .pointer (some ⟨xa.b, 0, none⟩)]] rfl (by kernel_rfl) (fun _ => by kernel_rfl) (fun W hS => below_S ((sooner_c xb xa W (Sym.cell ((S2.out.bel hS).ats _ hmb)) (Sym.cell ((S2.out.bel hS).ats _ hma))).mono fun e w' ⟨he, hb⟩ => ⟨by rw [he, decide_eq_true hlm], hb⟩) hS) ?_
          refine told_pure (some 65) (.bool false) rfl (by kernel_rfl) (fun _ => by kernel_rfl) ?_
          refine told_nil ?_
          intro W3 hS3
          simp only [Act.put, List.setIfInBounds_toArray, List.set_cons_zero, List.set_cons_succ]
          have S3 : Hid (HqS W3 R B mv fv Y (some ⟨g, 0, none⟩) n c) := S2.out.bel hS3
          have HF3 : Hid (Fr8 R (.slice (some ⟨g, 0, none⟩) n c) w W3) := HF2.out.bel hS3
          clear hS3 hsl hless hsl2 hless2 hca hcb hca2 hcm2
          go_wp2_with fail
          refine (swap_c Y a b xa xb W3 R B mv fv _ n c hn HXa.out HXb.out S3.out).mono ?_
          rintro e W4 ⟨rfl, hS4, hf4⟩
          have S4 : Hid (HqS W4 R B mv fv ((Y.set a xb).set b xa) (some ⟨g, 0, none⟩) n c) := hS4
          have HF4 : Hid (Fr8 R (.slice (some ⟨g, 0, none⟩) n c) w W4) := HF3.out.trans (Nxt8.refl _ _) hf4
          have hsw := swp_set HXa.out HXb.out
          have HD4 : Hid (DnI ((Y.set a xb).set b xa) b) := dn_step (by have := HBA.out; omega) (by have := HBA.out; omega) HXa.out HXb.out hlm hmin.out hsw HD.out
          have HM4 : Hid (∀ z, z ∈ (Y.set a xb).set b xa ↔ z ∈ X) := fun z => (hsw.mem (List.getElem?_eq_some_iff.1 HXa.out).1 (List.getElem?_eq_some_iff.1 HXb.out).1 z).trans (HM.out z)
          obtain ⟨m2, hm2⟩ : ∃ m2, 2 * b + 1 = m2 := ⟨_, rfl⟩
          have ew0 : IntKind.i64.wrap (2 * (b : Int)) = 2 * (b : Int) := IntWalk.i64_in _ (by omega)
          have ew1 : IntKind.i64.wrap (2 * (b : Int) + 1) = (m2 : Int) := by rw [IntWalk.i64_in _ (by omega)]; omega
          have HM2 : Hid (m2 = 2 * b + 1) := hm2.symm
          clear hm2
          have hmle : b ≤ 4000 := by omega
          have hma2 : a < b := by have := HBA.out; omega
          have hmn4 : b < n := by have := HBA.out; have := HBN.out; omega
          clear hsw hS4 hf4 hlm
          go_wp2
          go_roundw
          case rel => exact ⟨_, b, m2, rfl, by go_num, HM2, hmle, S4, HD4, HM4, HF4⟩
          case measure => simp [intOf] <;> omega
        · have HK : Hid (HpOk Y) := dn_done HXa.out (fun i x hi hp hx => leJ_trans hlm (hmin.out i x hi hp hx)) HD.out
          refine wp_region_told (fun W => Below W2.heap.size W2 W) (by kernel_rfl) (by kernel_rfl) ((Below.refl W2.heap.size W2).drew) ?_
          refine told_pure (some 46) (.pointer (some ⟨R, 2, none⟩)) rfl (by kernel_rfl) (fun _ => by kernel_rfl) ?_
          refine told_pure (some 47) (.pointer (some ⟨R, 2, none⟩)) rfl (by kernel_rfl) (fun _ => by kernel_rfl) ?_
          refine told_pure (some 48) (.pointer (some ⟨R, 2, none⟩)) rfl (by kernel_rfl) (fun _ => by kernel_rfl) ?_
          refine told_load (some 49) ⟨R, 2, none⟩ ((.func (.func 72) #[] #[])) rfl (by kernel_rfl) (fun _ => by kernel_rfl) (fun _ hS => atB hS hless2) ?_
          refine told_pure (some 50) (.pointer (some ⟨R, 2, none⟩)) rfl (by kernel_rfl) (fun _ => by kernel_rfl) ?_
          refine told_pure (some 51) (.pointer (some ⟨R, 2, none⟩)) rfl (by kernel_rfl) (fun _ => by kernel_rfl) ?_
          refine told_pure (some 52) (.pointer (some ⟨R, 3, none⟩)) rfl (by kernel_rfl) (fun _ => by kernel_rfl) ?_
          refine told_load (some 53) ⟨R, 3, none⟩ (.slice (some ⟨g, 0, none⟩) n c) rfl (by kernel_rfl) (fun _ => by kernel_rfl) (fun _ hS => atB hS hsl2) ?_
          refine told_pure (some 54) (.int .i64 (b : Int)) rfl (by kernel_rfl) (fun _ => by kernel_rfl) ?_
          refine told_pure (some 55) (.pointer (some ⟨g, b * 2, none⟩)) rfl (by kernel_rfl) (fun w => by go_simp) ?_
          refine told_loads (some 56) ⟨g, b * 2, none⟩ [.int .i64 xb.r, .pointer (some ⟨xb.b, 0, none⟩)] rfl (by kernel_rfl) (fun _ => by kernel_rfl) (fun W hS j u hj => atB hS (hcm2 j u hj)) ?_
          refine told_pure (some 57) (.pointer (some ⟨R, 2, none⟩)) rfl (by kernel_rfl) (fun _ => by kernel_rfl) ?_
          refine told_pure (some 58) (.pointer (some ⟨R, 2, none⟩)) rfl (by kernel_rfl) (fun _ => by kernel_rfl) ?_
          refine told_pure (some 59) (.pointer (some ⟨R, 3, none⟩)) rfl (by kernel_rfl) (fun _ => by kernel_rfl) ?_
          refine told_load (some 60) ⟨R, 3, none⟩ (.slice (some ⟨g, 0, none⟩) n c) rfl (by kernel_rfl) (fun _ => by kernel_rfl) (fun _ hS => atB hS hsl2) ?_
          refine told_pure (some 61) (.int .i64 (a : Int)) rfl (by kernel_rfl) (fun _ => by kernel_rfl) ?_
          refine told_pure (some 62) (.pointer (some ⟨g, a * 2, none⟩)) rfl (by kernel_rfl) (fun w => by go_simp) ?_
          refine told_loads (some 63) ⟨g, a * 2, none⟩ [.int .i64 xa.r, .pointer (some ⟨xa.b, 0, none⟩)] rfl (by kernel_rfl) (fun _ => by kernel_rfl) (fun W hS j u hj => atB hS (hca2 j u hj)) ?_
          refine told_call (some 64) (.bool false) 72 #[.agg #[.int .i64 xb.r, .pointer (some ⟨xb.b, 0, none⟩)], .agg #[.int .i64 xa.r, .pointer (some ⟨xa.b, 0, none⟩)]] rfl (by kernel_rfl) (fun _ => by kernel_rfl) (fun W hS => below_S ((sooner_c xb xa W (Sym.cell ((S2.out.bel hS).ats _ hmb)) (Sym.cell ((S2.out.bel hS).ats _ hma))).mono fun e w' ⟨he, hb⟩ => ⟨by rw [he, decide_eq_false hlm], hb⟩) hS) ?_
          refine told_pure (some 65) (.bool true) rfl (by kernel_rfl) (fun _ => by kernel_rfl) ?_
          refine told_nil ?_
          intro W3 hS3
          simp only [Act.put, List.setIfInBounds_toArray, List.set_cons_zero, List.set_cons_succ]
          have S3 : Hid (HqS W3 R B mv fv Y (some ⟨g, 0, none⟩) n c) := S2.out.bel hS3
          have HF3 : Hid (Fr8 R (.slice (some ⟨g, 0, none⟩) n c) w W3) := HF2.out.bel hS3
          clear hS3 hsl hless hsl2 hless2 hca hcb hca2 hcm2
          go_wp2
          (try simp only [Exit.inBlock, Exit.then])
          refine bodyPost_ret (results_none rfl _ _ _) rfl ?_
          exact ⟨rfl, Y, S3.out, HK.out, HM.out, HF3.out⟩

end Go.Proofs.Ytdggkcohidijcaa
