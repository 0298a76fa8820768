/- The walks of the two readers of a number in so many bytes, and of the law over them. -/
import Derived.Test.YtdhiobfalffebaiRows
import Derived.Test.YtdhiobfalffebaiRdMath
import Derived.WalkKit
import Derived.WalkSpells
import Derived.WalkLawsBesides
namespace Go.Proofs.Ytdhiobfalffebai
open Go.RowKit
set_option linter.unusedVariables false

set_option maxHeartbeats 400000 in
theorem specRd_yes (s : ByteArray) (W : Nat) (w : World) (hW1 : 1 ≤ W) (hW7 : W ≤ 7) (hs : W ≤ s.size) (hm : s.size ≤ maxLen) :
    Calls Try.prog 11 #[.string s, .int .i64 W] w fun e w' => e = .returned (.tuple #[.int .i64 (rd s W), .bool true]) ∧ w' = w := by
  unfold maxLen at hm
  go_enter Try.func11, Try.ntmps11
  go_wp2
  go_loop [6, 7] (fun n i => ∃ k : Nat, k ≤ W ∧ i = .int .i64 k ∧ n = .int .i64 (rd s k)) (fun _ i => W - (intOf i).toNat)
  case atStart => exact ⟨0, Nat.zero_le _, rfl, rfl⟩
  case round =>
    obtain ⟨k, hk, rfl, rfl⟩ := hrel
    by_cases hlt : k < W
    · have h0 := rd_nonneg s k
      have h6 := rd_le6 s k (by omega)
      have hks : k < s.size := by omega
      have HS : Hid (rd s (k + 1) = rd s k * 256 + ((s[k]).toNat : Int)) := rd_succ s k hks
      have hb := byte_lt s[k]
      go_wp2
      go_round
      case rel => exact ⟨k + 1, by omega, by go_num, by rw [HS.out]⟩
      case measure => simp [intOf]; omega
    · have : k = W := by omega
      subst this
      go_wp2
      go_ret2
      exact ⟨rfl, rfl⟩

set_option maxHeartbeats 400000 in
theorem specRd_no (s : ByteArray) (v : Int) (w : World) (h : v < 1 ∨ 7 < v ∨ (s.size : Int) < v) (hm : s.size ≤ maxLen) :
    Calls Try.prog 11 #[.string s, .int .i64 v] w fun e w' => e = .returned (.tuple #[.int .i64 0, .bool false]) ∧ w' = w := by
  unfold maxLen at hm
  by_cases h1 : v < 1
  · go_enter Try.func11, Try.ntmps11
    go_wp2
    go_ret2
    exact ⟨rfl, rfl⟩
  · by_cases h7 : 7 < v
    · go_enter Try.func11, Try.ntmps11
      go_wp2
      go_ret2
      exact ⟨rfl, rfl⟩
    · have hs : (s.size : Int) < v := by omega
      go_enter Try.func11, Try.ntmps11
      go_wp2
      go_ret2
      exact ⟨rfl, rfl⟩

set_option maxHeartbeats 400000 in
theorem implRd_yes (s : ByteArray) (W : Nat) (w : World) (hW1 : 1 ≤ W) (hW7 : W ≤ 7) (hs : W ≤ s.size) (hm : s.size ≤ maxLen) :
    Calls Try.prog 12 #[.string s, .int .i64 W] w fun e w' => e = .returned (.tuple #[.int .i64 (rd s W), .bool true]) ∧ w' = w := by
  unfold maxLen at hm
  go_enter Try.func12, Try.ntmps12
  go_wp2
  go_loop [6, 18] (fun n i => ∃ k : Nat, k ≤ W ∧ i = .int .i64 k ∧ n = .int .i64 (rd s k)) (fun _ i => W - (intOf i).toNat)
  case atStart => exact ⟨0, Nat.zero_le _, rfl, rfl⟩
  case round =>
    obtain ⟨k, hk, rfl, rfl⟩ := hrel
    by_cases hlt : k < W
    · have h0 := rd_nonneg s k
      have h6 := rd_le6 s k (by omega)
      have hks : k < s.size := by omega
      have hb := byte_lt s[k]
      have HS : Hid (rd s (k + 1) = bits .or .i64 (rd s k * 256) ((s[k]).toNat : Int)) := by
        rw [or_byte _ _ h0 h6 (by omega) hb]; exact rd_succ s k hks
      go_wp2
      go_round
      case rel => exact ⟨k + 1, by omega, by go_num, by rw [HS.out]⟩
      case measure => simp [intOf]; omega
    · have : k = W := by omega
      subst this
      go_wp2
      go_ret2
      exact ⟨rfl, rfl⟩

set_option maxHeartbeats 400000 in
theorem implRd_no (s : ByteArray) (v : Int) (w : World) (h : v < 1 ∨ 7 < v ∨ (s.size : Int) < v) (hm : s.size ≤ maxLen) :
    Calls Try.prog 12 #[.string s, .int .i64 v] w fun e w' => e = .returned (.tuple #[.int .i64 0, .bool false]) ∧ w' = w := by
  unfold maxLen at hm
  by_cases h1 : v < 1
  · go_enter Try.func12, Try.ntmps12
    go_wp2
    go_ret2
    exact ⟨rfl, rfl⟩
  · by_cases h7 : 7 < v
    · go_enter Try.func12, Try.ntmps12
      go_wp2
      go_ret2
      exact ⟨rfl, rfl⟩
    · have hs : (s.size : Int) < v := by omega
      go_enter Try.func12, Try.ntmps12
      go_wp2
      go_ret2
      exact ⟨rfl, rfl⟩

set_option maxHeartbeats 400000 in
theorem lawRd (s : ByteArray) (v : Int) (w : World) (hm : s.size ≤ maxLen) (_ : (Lit.int .i64 v).wf = true) :
    Calls Try.prog 4 #[.string s, .int .i64 v] w fun e w' => e = .returned (.bool true) ∧ Below w.heap.size w w' := by
  have hm' := hm
  unfold maxLen at hm'
  by_cases hbig : (1048576 : Int) < (s.size : Int)
  · go_enter Try.func4, Try.ntmps4
    go_wp2_with fail
    go_ret
    exact ⟨rfl, Below.refl _ _⟩
  · by_cases hno : v < 1 ∨ 7 < v ∨ (s.size : Int) < v
    · have H : Hid (v < 1 ∨ 7 < v ∨ (s.size : Int) < v) := hno
      clear hno
      go_enter Try.func4, Try.ntmps4
      go_wp2_with fail
      refine (specRd_no s v _ H.out hm).mono ?_
      rintro e w' ⟨rfl, rfl⟩
      go_wp2_with fail
      refine (implRd_no s v _ H.out hm).mono ?_
      rintro e w' ⟨rfl, rfl⟩
      go_wp2
      go_ret
      exact ⟨rfl, Below.refl _ _⟩
    · obtain ⟨W, rfl⟩ := Int.eq_ofNat_of_zero_le (show 0 ≤ v by omega)
      go_enter Try.func4, Try.ntmps4
      go_wp2_with fail
      refine (specRd_yes s W _ (by omega) (by omega) (by omega) hm).mono ?_
      rintro e w' ⟨rfl, rfl⟩
      go_wp2_with fail
      refine (implRd_yes s W _ (by omega) (by omega) (by omega) hm).mono ?_
      rintro e w' ⟨rfl, rfl⟩
      go_wp2
      go_ret
      exact ⟨rfl, Below.refl _ _⟩
end Go.Proofs.Ytdhiobfalffebai
