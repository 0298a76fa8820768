/- The walks of the two readers of a number in so many bytes, and of the law over them. -/
import Derived.Test.YthlokfcejojdhaaDoorRows
import Derived.Test.YthlokfcejojdhaaDoorRdMath
import Derived.WalkKit
import Derived.WalkSpells
import Derived.WalkLawsBesides
namespace Go.Proofs.YthlokfcejojdhaaDoor
open Go.RowKit
set_option linter.unusedVariables false

set_option maxRecDepth 20000 in
set_option maxHeartbeats 400000 in
theorem specRd_yes (s : ByteArray) (W : Nat) (w : World) (hW1 : 1 ≤ W) (hW7 : W ≤ 7) (hs : W ≤ s.size) (hm : s.size ≤ maxLen) :
    Calls Tryd.prog 75 #[.string s, .int .i64 W] w fun e w' => e = .returned (.tuple #[.int .i64 (rd s W), .bool true]) ∧ w' = w := by
  unfold maxLen at hm
  go_enter Tryd.func75, Tryd.ntmps75
  go_wp2
  go_loop [6, 7] (fun n i => ∃ k : Nat, k ≤ W ∧ i = .int .i64 k ∧ n = .int .i64 (rd s k)) (fun _ i => W - (intOf i).toNat)
  case atStart => exact ⟨0, Nat.zero_le _, rfl, rfl⟩
  case round =>
    obtain ⟨k, hk, rfl, rfl⟩ := hrel
    by_cases hlt : k < W
    · have h0 := rd_nonneg s k
      have h6 := rd_le6 s k (by omega)
      have hks : k < s.size := by omega
      have HS : Hid (rd s (k + 1) = rd s k * 256 + ((s[k]).toNat : Int)) := rd_succ s k hks
      have hb := byte_lt s[k]
      go_wp2
      go_round
      case rel => exact ⟨k + 1, by omega, by go_num, by rw [HS.out]⟩
      case measure => simp [intOf]; omega
    · have : k = W := by omega
      subst this
      go_wp2
      go_ret2
      exact ⟨rfl, rfl⟩

set_option maxRecDepth 20000 in
set_option maxHeartbeats 400000 in
theorem specRd_no (s : ByteArray) (v : Int) (w : World) (h : v < 1 ∨ 7 < v ∨ (s.size : Int) < v) (hm : s.size ≤ maxLen) :
    Calls Tryd.prog 75 #[.string s, .int .i64 v] w fun e w' => e = .returned (.tuple #[.int .i64 0, .bool false]) ∧ w' = w := by
  unfold maxLen at hm
  by_cases h1 : v < 1
  · go_enter Tryd.func75, Tryd.ntmps75
    go_wp2
    go_ret2
    exact ⟨rfl, rfl⟩
  · by_cases h7 : 7 < v
    · go_enter Tryd.func75, Tryd.ntmps75
      go_wp2
      go_ret2
      exact ⟨rfl, rfl⟩
    · have hs : (s.size : Int) < v := by omega
      go_enter Tryd.func75, Tryd.ntmps75
      go_wp2
      go_ret2
      exact ⟨rfl, rfl⟩

set_option maxRecDepth 20000 in
set_option maxHeartbeats 400000 in
theorem implRd_yes (s : ByteArray) (W : Nat) (w : World) (hW1 : 1 ≤ W) (hW7 : W ≤ 7) (hs : W ≤ s.size) (hm : s.size ≤ maxLen) :
    Calls Tryd.prog 80 #[.string s, .int .i64 W] w fun e w' => e = .returned (.tuple #[.int .i64 (rd s W), .bool true]) ∧ w' = w := by
  unfold maxLen at hm
  go_enter Tryd.func80, Tryd.ntmps80
  go_wp2
  go_loop [6, 18] (fun n i => ∃ k : Nat, k ≤ W ∧ i = .int .i64 k ∧ n = .int .i64 (rd s k)) (fun _ i => W - (intOf i).toNat)
  case atStart => exact ⟨0, Nat.zero_le _, rfl, rfl⟩
  case round =>
    obtain ⟨k, hk, rfl, rfl⟩ := hrel
    by_cases hlt : k < W
    · have h0 := rd_nonneg s k
      have h6 := rd_le6 s k (by omega)
      have hks : k < s.size := by omega
      have hb := byte_lt s[k]
      have HS : Hid (rd s (k + 1) = bits .or .i64 (rd s k * 256) ((s[k]).toNat : Int)) := by
        rw [or_byte _ _ h0 h6 (by omega) hb]; exact rd_succ s k hks
      go_wp2
      go_round
      case rel => exact ⟨k + 1, by omega, by go_num, by rw [HS.out]⟩
      case measure => simp [intOf]; omega
    · have : k = W := by omega
      subst this
      go_wp2
      go_ret2
      exact ⟨rfl, rfl⟩

set_option maxRecDepth 20000 in
set_option maxHeartbeats 400000 in
theorem implRd_no (s : ByteArray) (v : Int) (w : World) (h : v < 1 ∨ 7 < v ∨ (s.size : Int) < v) (hm : s.size ≤ maxLen) :
    Calls Tryd.prog 80 #[.string s, .int .i64 v] w fun e w' => e = .returned (.tuple #[.int .i64 0, .bool false]) ∧ w' = w := by
  unfold maxLen at hm
  by_cases h1 : v < 1
  · go_enter Tryd.func80, Tryd.ntmps80
    go_wp2
    go_ret2
    exact ⟨rfl, rfl⟩
  · by_cases h7 : 7 < v
    · go_enter Tryd.func80, Tryd.ntmps80
      go_wp2
      go_ret2
      exact ⟨rfl, rfl⟩
    · have hs : (s.size : Int) < v := by omega
      go_enter Tryd.func80, Tryd.ntmps80
      go_wp2
      go_ret2
      exact ⟨rfl, rfl⟩

end Go.Proofs.YthlokfcejojdhaaDoor
