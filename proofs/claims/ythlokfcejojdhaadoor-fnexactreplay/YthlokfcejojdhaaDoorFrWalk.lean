/- The walks of the two that tell a frame, and of the law over them. -/
import Derived.Test.YthlokfcejojdhaaDoorCrcWalk
import Derived.Test.YthlokfcejojdhaaDoorFixWalk
import Derived.Test.YthlokfcejojdhaaDoorFrMath
namespace Go.Proofs.YthlokfcejojdhaaDoor
open Go.RowKit
set_option linter.unusedVariables false

theorem add_sm (a b : ByteArray) (h : a.size + b.size ≤ 9223372036854775807) : ∀ w, (Op.stringOp .add a b).run Tryd.prog w = .ok (.string (a ++ b)) w := fun w => run_string_add_sum w a b h

set_option maxRecDepth 20000 in
set_option maxHeartbeats 1000000 in
theorem takeQ (s : ByteArray) (w : World) (B : Nat) (c0 : Int) (hc0 : 0 ≤ c0) (hc1 : c0 ≤ 4294967295) (hm : s.size ≤ maxLen) (hown : w.ownsRow B 116 1 (.slice (some ⟨B, 0, none⟩) 1 1) 1 [.int .u32 c0]) :
    Calls Tryd.prog 65 #[.pointer (some ⟨B, 0, none⟩), .string s] w fun e w' => e = .returned (.tuple #[]) ∧ w' = w.setCell ⟨B, 0, none⟩ (.int .u32 (cq c0 s s.size)) := by
  unfold maxLen at hm
  have c0' : w.cell? ⟨B, 0, none⟩ = some (.int .u32 c0) := by rw [hown.cellAt 0 (by omega)]; rfl
  have f0 := hown.frozenAt 0
  clear hown
  go_enter Tryd.func65, Tryd.ntmps65
  go_wp2
  go_loop [4, 12] (fun c i => ∃ k : Nat, k ≤ s.size ∧ i = .int .i64 k ∧ c = .int .u32 (cq c0 s k)) (fun _ i => s.size - (intOf i).toNat)
  case atStart => exact ⟨0, Nat.zero_le _, rfl, rfl⟩
  case round =>
    obtain ⟨k, hk, rfl, rfl⟩ := hrel
    obtain ⟨h0, h1⟩ := cq_range c0 hc0 hc1 s k
    by_cases hlt : k < s.size
    · have hb := cbyte_lt s[k]
      have hx := xor_u32 (cq c0 s k) ((s[k]).toNat : Int) h0 h1 (by omega) (by omega)
      obtain ⟨x0, x1⟩ := cx_range (cq c0 s k) ((s[k]).toNat : Int) h0 h1 (by omega) (by omega)
      have HS : Hid (cq c0 s (k + 1) = ci (cx (cq c0 s k) ((s[k]).toNat : Int)) 8) := cq_succ c0 s k hlt
      obtain ⟨X, hX⟩ : ∃ X, cx (cq c0 s k) ((s[k]).toNat : Int) = X := ⟨_, rfl⟩
      rw [hX] at hx x0 x1
      have HX : Hid (cx (cq c0 s k) ((s[k]).toNat : Int) = X) := hX
      clear hX
      go_wp2
      go_loop [4, 21] (fun c j => ∃ m : Nat, m ≤ 8 ∧ j = .int .i64 m ∧ c = .int .u32 (ci X m)) (fun _ j => 8 - (intOf j).toNat)
      case atStart => exact ⟨0, by omega, rfl, rfl⟩
      case round =>
        obtain ⟨m, hm8, rfl, rfl⟩ := hrel
        obtain ⟨y0, y1⟩ := ci_range X x0 x1 m
        by_cases hl8 : m < 8
        · rcases Int.emod_two_eq (ci X m) with ho | ho
          · have HE : Hid (ci X (m + 1) = ci X m / 2) := ct_even _ ho
            have hk2 := mask_even (ci X m) y0 y1 ho
            have hx2 := xor_u32 (ci X m / 2) 0 (by omega) (by omega) (by omega) (by omega)
            rw [cx_zero _ (by omega)] at hx2
            clear ho
            go_wp2
            go_round
            case rel => exact ⟨m + 1, by omega, by go_num, by rw [HE.out]⟩
            case measure => simp [intOf]; omega
          · have hk2 := mask_odd (ci X m) y0 y1 ho
            have hx2 := xor_u32 (ci X m / 2) 2197175160 (by omega) (by omega) (by omega) (by omega)
            have HE : Hid (ci X (m + 1) = cx (ci X m / 2) 2197175160) := ct_odd _ ho
            clear ho
            go_wp2
            go_round
            case rel => exact ⟨m + 1, by omega, by go_num, by rw [HE.out]⟩
            case measure => simp [intOf]; omega
        · have : m = 8 := by omega
          subst this
          go_wp2
          go_round
          case rel => exact ⟨k + 1, by omega, by go_num, by rw [HS.out, HX.out]⟩
          case measure => simp [intOf]; omega
    · have : k = s.size := by omega
      subst this
      go_wp2
      go_end0
      exact ⟨rfl, rfl⟩

theorem tellQ (w : World) (B : Nat) (c : Int) (h0 : 0 ≤ c) (h1 : c ≤ 4294967295) (hc : w.cell? ⟨B, 0, none⟩ = some (.int .u32 c)) :
    Calls Tryd.prog 66 #[.pointer (some ⟨B, 0, none⟩)] w fun e w' => e = .returned (.int .i64 (4294967295 - c)) ∧ w' = w := by
  have hr : (4294967295 - c) % 4294967296 = 4294967295 - c := by omega
  go_enter Tryd.func66, Tryd.ntmps66
  go_wp2
  go_ret
  exact ⟨rfl, rfl⟩

set_option maxHeartbeats 1000000 in
theorem frameSum_c (h s : ByteArray) (w : World) (hm : h.size ≤ maxLen) (hm2 : s.size ≤ maxLen) :
    Calls Tryd.prog 45 #[.string h, .string s] w fun e w' => e = .returned (.int .i64 (fsum h s)) ∧ Below w.heap.size w w' := by
  have HF : Hid (fsum h s = 4294967295 - cq (cq 4294967295 h h.size) s s.size) := rfl
  obtain ⟨x0, x1⟩ := cq_range 4294967295 (by omega) (by omega) h h.size
  obtain ⟨y0, y1⟩ := cq_range _ x0 x1 s s.size
  go_enter Tryd.func45, Tryd.ntmps45
  go_wp2_with fail
  have hown : (w.alloc (.cells #[.int .u32 4294967295] 116)).ownsRow w.heap.size 116 1 (.slice (some ⟨w.heap.size, 0, none⟩) 1 1) 1 [.int .u32 4294967295] := World.ownsRow_lit w #[.int .u32 4294967295] 1 (Nat.le_refl _) (by decide) rfl
  refine (takeQ h _ w.heap.size 4294967295 (by omega) (by omega) hm hown).mono ?_
  rintro e w1 ⟨rfl, rfl⟩
  generalize hX : cq 4294967295 h h.size = X at x0 x1 y0 y1 HF ⊢
  clear hown hX
  have hown2 : (w.alloc (.cells #[.int .u32 X] 116)).ownsRow w.heap.size 116 1 (.slice (some ⟨w.heap.size, 0, none⟩) 1 1) 1 [.int .u32 X] := World.ownsRow_lit w #[.int .u32 X] 1 (Nat.le_refl _) (by decide) rfl
  go_wp2_with fail
  refine (takeQ s _ w.heap.size X x0 x1 hm2 hown2).mono ?_
  rintro e w1 ⟨rfl, rfl⟩
  generalize hY : cq X s s.size = Y at y0 y1 HF ⊢
  clear hown2 hY
  have hown3 : (w.alloc (.cells #[.int .u32 Y] 116)).ownsRow w.heap.size 116 1 (.slice (some ⟨w.heap.size, 0, none⟩) 1 1) 1 [.int .u32 Y] := World.ownsRow_lit w #[.int .u32 Y] 1 (Nat.le_refl _) (by decide) rfl
  have hc : (w.alloc (.cells #[.int .u32 Y] 116)).cell? ⟨w.heap.size, 0, none⟩ = some (.int .u32 Y) := hown3.cellAt 0 (by omega)
  have hbel : Below w.heap.size w (w.alloc (.cells #[.int .u32 Y] 116)) := (Below.refl _ _).alloc (Nat.le_refl _) _
  clear hown3
  go_wp2_with fail
  refine (tellQ _ w.heap.size Y y0 y1 hc).mono ?_
  rintro e w1 ⟨rfl, rfl⟩
  go_wp2
  go_ret
  exact ⟨by rw [HF.out]; rfl, hbel⟩

theorem bodyOk_yes (n : Int) (w : World) (h1 : 1 ≤ n) (h2 : n ≤ 2000) : Calls Tryd.prog 43 #[.int .i64 n] w fun e w' => e = .returned (.bool true) ∧ w' = w := by
  go_enter Tryd.func43, Tryd.ntmps43
  go_wp2
  go_ret
  exact ⟨rfl, rfl⟩

theorem bodyOk_no (n : Int) (w : World) (h : n < 1 ∨ 2000 < n) : Calls Tryd.prog 43 #[.int .i64 n] w fun e w' => e = .returned (.bool false) ∧ w' = w := by
  by_cases h1 : 1 ≤ n
  · have h2 : ¬ n ≤ 2000 := by omega
    clear h
    go_enter Tryd.func43, Tryd.ntmps43
    go_wp2
    go_ret
    exact ⟨rfl, rfl⟩
  · clear h
    go_enter Tryd.func43, Tryd.ntmps43
    go_wp2
    go_ret
    exact ⟨rfl, rfl⟩

/-! ### Frame -/

theorem specFr_no (s : ByteArray) (w : World) (h : s.size = 0 ∨ 2000 < s.size) :
    Calls Tryd.prog 76 #[.string s] w fun e w' => e = .returned (.string ⟨#[]⟩) ∧ w' = w := by
  have h' : (s.size : Int) = 0 ∨ 2000 < (s.size : Int) := by omega
  generalize hN : (s.size : Int) = N at h'
  clear h
  by_cases h0 : N = 0
  · clear h'
    subst h0
    go_enter Tryd.func76, Tryd.ntmps76
    go_wp2
    go_ret
    exact ⟨rfl, rfl⟩
  · have h2 : 2000 < N := by omega
    have ht : (N == 0) = false := by simp [h0]
    clear h' h0
    go_enter Tryd.func76, Tryd.ntmps76
    go_wp2
    go_ret
    exact ⟨rfl, rfl⟩

theorem implFr_no (s : ByteArray) (w : World) (h : s.size = 0 ∨ 2000 < s.size) :
    Calls Tryd.prog 21 #[.string s] w fun e w' => e = .returned (.string ⟨#[]⟩) ∧ w' = w := by
  have h' : (s.size : Int) = 0 ∨ 2000 < (s.size : Int) := by omega
  generalize hN : (s.size : Int) = N at h'
  clear h
  have hd : Hid (N < 1 ∨ 2000 < N) := by show _ ∨ _; omega
  clear h'
  go_enter Tryd.func21, Tryd.ntmps21
  go_wp2_with fail
  refine (bodyOk_no N _ hd.out).mono ?_
  rintro e w1 ⟨rfl, rfl⟩
  clear hd
  go_wp2
  go_ret
  exact ⟨rfl, rfl⟩

set_option maxHeartbeats 1000000 in
theorem specFr (s : ByteArray) (w : World) (h1 : 1 ≤ s.size) (h2 : s.size ≤ 2000) :
    Calls Tryd.prog 76 #[.string s] w fun e w' => e = .returned (.string (frameOf s)) ∧ Below w.heap.size w w' := by
  have HF : Hid (frameOf s = strOfNums (beL s.size 4) ++ strOfNums (beL (fsum (strOfNums (beL s.size 4)) s) 4) ++ s) := rfl
  have g1 : (1 : Int) ≤ s.size := by omega
  have g2 : (s.size : Int) ≤ 2000 := by omega
  obtain ⟨r0, r1⟩ := fsum_range (strOfNums (beL s.size 4)) s
  have HC : Hid (4294967295 - cp (strOfNums (beL s.size 4) ++ s) (strOfNums (beL s.size 4) ++ s).size = fsum (strOfNums (beL s.size 4)) s) := fsum_cp _ _
  have z1 := be_size (s.size : Int) 4
  have z2 := be_size (fsum (strOfNums (beL s.size 4)) s) 4
  have HL : Hid (s.size ≤ 2000) := h2
  have hN : ∃ N : Int, (s.size : Int) = N := ⟨_, rfl⟩
  obtain ⟨N, hN⟩ := hN
  rw [hN] at HF g1 g2 r0 r1 HC z1 z2
  obtain ⟨H, hH⟩ : ∃ H, strOfNums (beL N 4) = H := ⟨_, rfl⟩
  rw [hH] at HF r0 r1 HC z1 z2
  have HH : Hid (strOfNums (beL N 4) = H) := hH
  clear hH
  obtain ⟨F, hF⟩ : ∃ F, fsum H s = F := ⟨_, rfl⟩
  rw [hF] at HF r0 r1 HC z2
  clear hF
  obtain ⟨G, hG⟩ : ∃ G, strOfNums (beL F 4) = G := ⟨_, rfl⟩
  rw [hG] at HF z2
  have HG : Hid (strOfNums (beL F 4) = G) := hG
  clear hG
  have ha1 := add_sm H s (by omega)
  have ha2 := add_sm H G (by omega)
  have ha3 := add_sm (H ++ G) s (by rw [ByteArray.size_append]; omega)
  have Z1 : Hid (H.size = 4) := z1
  have t0 : (N == 0) = false := by simp; omega
  clear h1 h2 z1 z2
  go_enter Tryd.func76, Tryd.ntmps76
  go_wp2_with fail
  refine (specFix_yes N 4 _ (by omega) (by omega) (by omega) (by omega) (fq4 N (by omega) (by omega))).mono ?_
  rintro e w1 ⟨rfl, b1⟩
  rw [HH.out]
  go_wp2_with fail
  refine (specCrc (H ++ s) _ (by rw [ByteArray.size_append, Z1.out]; have := HL.out; unfold maxLen; omega)).mono ?_
  rintro e w2 ⟨rfl, rfl⟩
  rw [HC.out]
  go_wp2_with fail
  refine (specFix_yes F 4 _ (by omega) (by omega) (by omega) (by omega) (fq4 F (by omega) (by omega))).mono ?_
  rintro e w3 ⟨rfl, b3⟩
  rw [HG.out]
  have b := b1.trans (b3.mono b1.size)
  clear b1 b3
  go_wp2
  go_ret
  exact ⟨by rw [HF.out]; rfl, b⟩

set_option maxHeartbeats 1000000 in
theorem implFr (s : ByteArray) (w : World) (h1 : 1 ≤ s.size) (h2 : s.size ≤ 2000) :
    Calls Tryd.prog 21 #[.string s] w fun e w' => e = .returned (.string (frameOf s)) ∧ Below w.heap.size w w' := by
  have HF : Hid (frameOf s = strOfNums (beL s.size 4) ++ strOfNums (beL (fsum (strOfNums (beL s.size 4)) s) 4) ++ s) := rfl
  have g1 : (1 : Int) ≤ s.size := by omega
  have g2 : (s.size : Int) ≤ 2000 := by omega
  obtain ⟨r0, r1⟩ := fsum_range (strOfNums (beL s.size 4)) s
  have z1 := be_size (s.size : Int) 4
  have z2 := be_size (fsum (strOfNums (beL s.size 4)) s) 4
  have HL : Hid (s.size ≤ 2000) := h2
  have hN : ∃ N : Int, (s.size : Int) = N := ⟨_, rfl⟩
  obtain ⟨N, hN⟩ := hN
  rw [hN] at HF g1 g2 r0 r1 z1 z2
  obtain ⟨H, hH⟩ : ∃ H, strOfNums (beL N 4) = H := ⟨_, rfl⟩
  rw [hH] at HF r0 r1 z1 z2
  have HH : Hid (strOfNums (beL N 4) = H) := hH
  clear hH
  obtain ⟨F, hF⟩ : ∃ F, fsum H s = F := ⟨_, rfl⟩
  rw [hF] at HF r0 r1 z2
  have HFS : Hid (fsum H s = F) := hF
  clear hF
  obtain ⟨G, hG⟩ : ∃ G, strOfNums (beL F 4) = G := ⟨_, rfl⟩
  rw [hG] at HF z2
  have HG : Hid (strOfNums (beL F 4) = G) := hG
  clear hG
  have ha2 := add_sm H G (by omega)
  have ha3 := add_sm (H ++ G) s (by rw [ByteArray.size_append]; omega)
  have Z1 : Hid (H.size = 4) := z1
  clear h1 h2 z1 z2
  go_enter Tryd.func21, Tryd.ntmps21
  go_wp2_with fail
  refine (bodyOk_yes N _ (by omega) (by omega)).mono ?_
  rintro e w1 ⟨rfl, rfl⟩
  go_wp2_with fail
  refine (implFix_yes N 4 _ (by omega) (by omega) (by omega) (by omega) (fq4 N (by omega) (by omega))).mono ?_
  rintro e w1 ⟨rfl, b1⟩
  rw [HH.out]
  go_wp2_with fail
  refine (frameSum_c H s _ (by rw [Z1.out]; unfold maxLen; omega) (by have := HL.out; unfold maxLen; omega)).mono ?_
  rintro e w2 ⟨rfl, b2⟩
  rw [HFS.out]
  have b12 := b1.trans (b2.mono b1.size)
  clear b1 b2
  go_wp2_with fail
  refine (implFix_yes F 4 _ (by omega) (by omega) (by omega) (by omega) (fq4 F (by omega) (by omega))).mono ?_
  rintro e w3 ⟨rfl, b3⟩
  rw [HG.out]
  have b := b12.trans (b3.mono b12.size)
  clear b12 b3
  go_wp2
  go_ret
  exact ⟨by rw [HF.out]; rfl, b⟩

end Go.Proofs.YthlokfcejojdhaaDoor
