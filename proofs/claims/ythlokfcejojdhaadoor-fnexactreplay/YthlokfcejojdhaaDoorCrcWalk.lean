/- The walks of the two that tell whether a text was turned, and of the law over them. -/
import Derived.Test.YthlokfcejojdhaaDoorRows
import Derived.Test.YthlokfcejojdhaaDoorCrcMath
import Derived.WalkKit
import Derived.WalkSpells
import Derived.WalkLawsBesides
import Derived.Below
namespace Go.Proofs.YthlokfcejojdhaaDoor
open Go.RowKit
set_option linter.unusedVariables false

theorem crc_ret {k : IntKind} {a b : Int} (h : a = b) : Ending.returned (.int k a) = .returned (.int k b) := by rw [h]

set_option maxRecDepth 20000 in
set_option maxHeartbeats 1000000 in
theorem specCrc (s : ByteArray) (w : World) (hm : s.size ≤ maxLen) :
    Calls Tryd.prog 85 #[.string s] w fun e w' => e = .returned (.int .i64 (4294967295 - cp s s.size)) ∧ w' = w := by
  unfold maxLen at hm
  go_enter Tryd.func85, Tryd.ntmps85
  go_wp2
  go_loop [3, 4] (fun c i => ∃ k : Nat, k ≤ s.size ∧ i = .int .i64 k ∧ c = .int .i64 (cp s k)) (fun _ i => s.size - (intOf i).toNat)
  case atStart => exact ⟨0, Nat.zero_le _, rfl, rfl⟩
  case round =>
    obtain ⟨k, hk, rfl, rfl⟩ := hrel
    obtain ⟨h0, h1⟩ := cp_range s k
    by_cases hlt : k < s.size
    · have hb := cbyte_lt s[k]
      have hx := xor_i64 (cp s k) ((s[k]).toNat : Int) h0 h1 (by omega) (by omega)
      obtain ⟨x0, x1⟩ := cx_range (cp s k) ((s[k]).toNat : Int) h0 h1 (by omega) (by omega)
      have HS : Hid (cp s (k + 1) = ci (cx (cp s k) ((s[k]).toNat : Int)) 8) := cp_succ s k hlt
      obtain ⟨X, hX⟩ : ∃ X, cx (cp s k) ((s[k]).toNat : Int) = X := ⟨_, rfl⟩
      rw [hX] at hx x0 x1
      have HX : Hid (cx (cp s k) ((s[k]).toNat : Int) = X) := hX
      clear hX
      go_wp2
      go_loop [3, 5] (fun c j => ∃ m : Nat, m ≤ 8 ∧ j = .int .i64 m ∧ c = .int .i64 (ci X m)) (fun _ j => 8 - (intOf j).toNat)
      case atStart => exact ⟨0, by omega, rfl, rfl⟩
      case round =>
        obtain ⟨m, hm8, rfl, rfl⟩ := hrel
        obtain ⟨y0, y1⟩ := ci_range X x0 x1 m
        by_cases hl8 : m < 8
        · rcases Int.emod_two_eq (ci X m) with ho | ho
          · have HE : Hid (ci X (m + 1) = ci X m / 2) := ct_even _ ho
            have ht : (ci X m % 2 == 1) = false := by rw [ho]; rfl
            clear ho
            go_wp2
            go_round
            case rel => exact ⟨m + 1, by omega, by go_num, by rw [HE.out]⟩
            case measure => simp [intOf]; omega
          · have hx2 := xor_i64 (ci X m / 2) 2197175160 (by omega) (by omega) (by omega) (by omega)
            have HE : Hid (ci X (m + 1) = cx (ci X m / 2) 2197175160) := ct_odd _ ho
            have ht : (ci X m % 2 == 1) = true := by rw [ho]; rfl
            clear ho
            go_wp2
            go_round
            case rel => exact ⟨m + 1, by omega, by go_num, by rw [HE.out]⟩
            case measure => simp [intOf]; omega
        · have : m = 8 := by omega
          subst this
          go_wp2
          go_round
          case rel => exact ⟨k + 1, by omega, by go_num, by rw [HS.out, HX.out]⟩
          case measure => simp [intOf]; omega
    · have : k = s.size := by omega
      subst this
      go_wp2
      go_ret
      exact ⟨rfl, rfl⟩

set_option maxRecDepth 20000 in
set_option maxHeartbeats 1000000 in
theorem implTake (s : ByteArray) (w : World) (B : Nat) (hm : s.size ≤ maxLen) (hown : w.ownsRow B 116 1 (.slice (some ⟨B, 0, none⟩) 1 1) 1 [.int .u32 4294967295]) :
    Calls Tryd.prog 65 #[.pointer (some ⟨B, 0, none⟩), .string s] w fun e w' => e = .returned (.tuple #[]) ∧ w' = w.setCell ⟨B, 0, none⟩ (.int .u32 (cp s s.size)) := by
  unfold maxLen at hm
  have c0 : w.cell? ⟨B, 0, none⟩ = some (.int .u32 4294967295) := by rw [hown.cellAt 0 (by omega)]; rfl
  have f0 := hown.frozenAt 0
  clear hown
  go_enter Tryd.func65, Tryd.ntmps65
  go_wp2
  go_loop [4, 12] (fun c i => ∃ k : Nat, k ≤ s.size ∧ i = .int .i64 k ∧ c = .int .u32 (cp s k)) (fun _ i => s.size - (intOf i).toNat)
  case atStart => exact ⟨0, Nat.zero_le _, rfl, rfl⟩
  case round =>
    obtain ⟨k, hk, rfl, rfl⟩ := hrel
    obtain ⟨h0, h1⟩ := cp_range s k
    by_cases hlt : k < s.size
    · have hb := cbyte_lt s[k]
      have hx := xor_u32 (cp s k) ((s[k]).toNat : Int) h0 h1 (by omega) (by omega)
      obtain ⟨x0, x1⟩ := cx_range (cp s k) ((s[k]).toNat : Int) h0 h1 (by omega) (by omega)
      have HS : Hid (cp s (k + 1) = ci (cx (cp s k) ((s[k]).toNat : Int)) 8) := cp_succ s k hlt
      obtain ⟨X, hX⟩ : ∃ X, cx (cp s k) ((s[k]).toNat : Int) = X := ⟨_, rfl⟩
      rw [hX] at hx x0 x1
      have HX : Hid (cx (cp s k) ((s[k]).toNat : Int) = X) := hX
      clear hX
      go_wp2
      go_loop [4, 21] (fun c j => ∃ m : Nat, m ≤ 8 ∧ j = .int .i64 m ∧ c = .int .u32 (ci X m)) (fun _ j => 8 - (intOf j).toNat)
      case atStart => exact ⟨0, by omega, rfl, rfl⟩
      case round =>
        obtain ⟨m, hm8, rfl, rfl⟩ := hrel
        obtain ⟨y0, y1⟩ := ci_range X x0 x1 m
        by_cases hl8 : m < 8
        · rcases Int.emod_two_eq (ci X m) with ho | ho
          · have HE : Hid (ci X (m + 1) = ci X m / 2) := ct_even _ ho
            have hk2 := mask_even (ci X m) y0 y1 ho
            have hx2 := xor_u32 (ci X m / 2) 0 (by omega) (by omega) (by omega) (by omega)
            rw [cx_zero _ (by omega)] at hx2
            clear ho
            go_wp2
            go_round
            case rel => exact ⟨m + 1, by omega, by go_num, by rw [HE.out]⟩
            case measure => simp [intOf]; omega
          · have hk2 := mask_odd (ci X m) y0 y1 ho
            have hx2 := xor_u32 (ci X m / 2) 2197175160 (by omega) (by omega) (by omega) (by omega)
            have HE : Hid (ci X (m + 1) = cx (ci X m / 2) 2197175160) := ct_odd _ ho
            clear ho
            go_wp2
            go_round
            case rel => exact ⟨m + 1, by omega, by go_num, by rw [HE.out]⟩
            case measure => simp [intOf]; omega
        · have : m = 8 := by omega
          subst this
          go_wp2
          go_round
          case rel => exact ⟨k + 1, by omega, by go_num, by rw [HS.out, HX.out]⟩
          case measure => simp [intOf]; omega
    · have : k = s.size := by omega
      subst this
      go_wp2
      go_end0
      exact ⟨rfl, rfl⟩

theorem implTell (w : World) (B : Nat) (c : Int) (h0 : 0 ≤ c) (h1 : c ≤ 4294967295) (hc : w.cell? ⟨B, 0, none⟩ = some (.int .u32 c)) :
    Calls Tryd.prog 66 #[.pointer (some ⟨B, 0, none⟩)] w fun e w' => e = .returned (.int .i64 (4294967295 - c)) ∧ w' = w := by
  have hr : (4294967295 - c) % 4294967296 = 4294967295 - c := by omega
  go_enter Tryd.func66, Tryd.ntmps66
  go_wp2
  go_ret
  exact ⟨rfl, rfl⟩

end Go.Proofs.YthlokfcejojdhaaDoor
