/- The walks of the two that read a number told by seven bits a byte. -/
import Derived.Test.YthhkjnpeopfmjaaVarWalk
import Derived.Test.YthhkjnpeopfmjaaRvMath
import Derived.Deep.RegionWith
namespace Go.Proofs.Ythhkjnpeopfmjaa
open Go.RowKit
set_option linter.unusedVariables false

theorem ret_two {a b c d : Int} (h1 : a = c) (h2 : b = d) : Ending.returned (.tuple #[.int .i64 a, .int .i64 b]) = .returned (.tuple #[.int .i64 c, .int .i64 d]) := by rw [h1, h2]

set_option maxHeartbeats 400000 in
set_option maxRecDepth 100000 in
theorem implRv_any (s : ByteArray) (w : World) (hs : s.size ≤ 1048576) :
    Calls Try.prog 51 #[.string s] w fun e w' => e = .returned (.tuple #[.int .i64 (rvAt s (min s.size 7) 0).1, .int .i64 (rvAt s (min s.size 7) 0).2]) ∧ w' = w := by
  obtain ⟨m, hm⟩ : ∃ m, m = min s.size 7 := ⟨_, rfl⟩
  have hm1 : m ≤ s.size := by omega
  have hm7 : m ≤ 7 := by omega
  rw [← hm]
  have hcase : (s.size ≤ 7 ∧ s.size ≤ m) ∨ (7 < s.size ∧ 7 ≤ m) := by omega
  clear hm
  rcases hcase with ⟨hA, hB⟩ | ⟨hA, hB⟩
  all_goals
    go_enter Try.func51, Try.ntmps51
    go_wp2
    go_step3
    go_wp2
    go_step3
    go_wp2
    go_loop [4, 10] (fun n i => ∃ k : Nat, k ≤ m ∧ i = .int .i64 k ∧ n = .int .i64 (segL (bl s k)) ∧ Hid (rvAt s (m - k) k = rvAt s m 0)) (fun _ i => m - (intOf i).toNat)
    case atStart => exact ⟨0, Nat.zero_le _, rfl, rfl, rfl⟩
    case round =>
      obtain ⟨k, hk, rfl, rfl, HE⟩ := hrel
      by_cases hlt : k < m
      · have hks : k < s.size := by omega
        have hb := byteAt_eq s k hks
        have hr := byteAt_range s k
        rw [hb] at hr
        obtain ⟨hr0, hr1⟩ := hr
        have hm' : m - k = (m - (k + 1)) + 1 := by omega
        have HF : Hid (rvAt s ((m - (k + 1)) + 1) k = rvAt s m 0) := by have := HE.out; rw [hm'] at this; exact this
        have HO : Hid (bits .or .i64 (segL (bl s k)) (wrap64 (((s[k]).toNat : Int) % 128 * 2 ^ (7 * k))) = segL (bl s (k + 1))) := by
          have hsw := shl_wrap ((s[k]).toNat : Int) k (by omega)
          rw [IntWalk.wrap64_in _ (by omega)]
          have := or_seg (bl s k) (byteAt s k) k (bl_length s k) (by omega)
          rw [← bl_succ, hb] at this; exact this
        have HB : Hid (byteAt s k = ((s[k]).toNat : Int)) := hb
        clear hb hm' HE
        by_cases h128 : (128 : Int) ≤ ((s[k]).toNat : Int)
        · go_wp2
          go_round
          case rel => exact ⟨k + 1, by omega, by go_num, by rw [HO.out], by have := HF.out; rw [rvAt_on _ _ _ (by rw [HB.out]; exact h128)] at this; exact this⟩
          case measure => simp [intOf]; omega
        · by_cases hz : ((s[k]).toNat : Int) = 0 ∧ 0 < k
          · obtain ⟨hz0, hk0⟩ := hz
            have e0 : (((s[k]).toNat : Int) == 0) = true := by simp only [hz0]; rfl
            have HZ : Hid (((s[k]).toNat : Int) = 0) := hz0
            clear hz0
            go_wp2
            go_ret2
            have HG : Hid ((0, 0) = rvAt s m 0) := by have := HF.out; rw [rvAt_bad _ _ _ (by rw [HB.out]; exact HZ.out) hk0] at this; exact this
            exact ⟨ret_two (congrArg Prod.fst HG.out) (congrArg Prod.snd HG.out), rfl⟩
          · have HG : Hid ((segL (bl s (k + 1)), ((k + 1 : Nat) : Int)) = rvAt s m 0) := by
              have := HF.out; rw [rvAt_end _ _ _ (by rw [HB.out]; omega) (by rw [HB.out]; exact hz)] at this; exact this
            by_cases hz0 : ((s[k]).toNat : Int) = 0
            · have hk0 : ¬ 0 < k := fun h => hz ⟨hz0, h⟩
              have e0 : (((s[k]).toNat : Int) == 0) = true := by simp only [hz0]; rfl
              clear hz hz0
              go_wp2
              go_ret2
              exact ⟨ret_two (HO.out.trans (congrArg Prod.fst HG.out)) (Eq.trans (by omega) (congrArg Prod.snd HG.out)), rfl⟩
            · have e0 : (((s[k]).toNat : Int) == 0) = false := by simpa using hz0
              clear hz hz0
              go_wp2
              go_ret2
              exact ⟨ret_two (HO.out.trans (congrArg Prod.fst HG.out)) (Eq.trans (by omega) (congrArg Prod.snd HG.out)), rfl⟩
      · have hkm : m - k = 0 := by omega
        have HG : Hid ((0, 0) = rvAt s m 0) := by have := HE.out; rw [hkm] at this; exact this
        clear hkm HE
        go_wp2
        go_ret2
        exact ⟨ret_two (congrArg Prod.fst HG.out) (congrArg Prod.snd HG.out), rfl⟩

set_option maxHeartbeats 400000 in
set_option maxRecDepth 100000 in
theorem specRv_any (s : ByteArray) (w : World) (hs : s.size ≤ 1048576) :
    Calls Try.prog 38 #[.string s] w fun e w' => e = .returned (.tuple #[.int .i64 (rvAt s (min s.size 7) 0).1, .int .i64 (rvAt s (min s.size 7) 0).2]) ∧ Below w.heap.size w w' := by
  obtain ⟨m, hm⟩ : ∃ m, m = min s.size 7 := ⟨_, rfl⟩
  have hm1 : m ≤ s.size := by omega
  have hm7 : m ≤ 7 := by omega
  rw [← hm]
  have hcase : s.size ≤ m ∨ 7 ≤ m := by omega
  have HC : Hid (s.size ≤ m ∨ 7 ≤ m) := hcase
  clear hm hcase
  go_enter Try.func38, Try.ntmps38
  go_wp2
  go_loopw [4] (fun i wr => ∃ k : Nat, k ≤ m ∧ i = .int .i64 ((k : Int) + 1) ∧ Below w.heap.size w wr ∧ Hid (RvState s m k)) (fun i _ => m + 1 - (intOf i).toNat)
  case atStart => exact ⟨0, Nat.zero_le _, rfl, Below.refl _ _, .inl ⟨fun i hi => by omega, rfl⟩⟩
  case round =>
    obtain ⟨k, hk, rfl, hbel, HS⟩ := hrel
    have hsz := hbel.size
    by_cases hlt : k < m
    · have hks : k < s.size := by omega
      go_wp2
      go_loop [5, 6] (fun n i => ∃ j : Nat, j ≤ k + 1 ∧ i = .int .i64 ((j : Int) - 1) ∧ n = .int .i64 (segL ((bl s (k + 1)).drop j))) (fun _ i => (intOf i + 1).toNat)
      case atStart => exact ⟨k + 1, Nat.le_refl _, by go_num, by rw [List.drop_of_length_le (by rw [bl_length]; omega)]; rfl⟩
      case round =>
        obtain ⟨j, hj, rfl, rfl⟩ := hrel
        by_cases hj0 : 0 < j
        · obtain ⟨i, rfl⟩ : ∃ i, j = i + 1 := ⟨j - 1, by omega⟩
          have his : i < s.size := by omega
          have hb := byteAt_eq s i his
          have hd := bl_drop s (k + 1) i (by omega)
          have h0 := segL_nonneg ((bl s (k + 1)).drop (i + 1))
          have h6 := segL_le6 ((bl s (k + 1)).drop (i + 1)) (by simp [bl_length]; omega)
          have HD : Hid (segL ((bl s (k + 1)).drop i) = segL ((bl s (k + 1)).drop (i + 1)) * 128 + ((s[i]).toNat : Int) % 128) := by
            show _ = _
            rw [hd, ← hb]; simp only [segL]; omega
          have hr := byteAt_range s i
          rw [hb] at hr
          obtain ⟨hr0, hr1⟩ := hr
          clear hb hd
          go_wp2
          go_round
          case rel => exact ⟨i, by omega, by go_num, by rw [HD.out]⟩
          case measure => simp [intOf]
        · have hj' : j = 0 := by omega
          subst hj'
          have h0 := segL_nonneg (bl s (k + 1))
          have h7 := segL_le7 (bl s (k + 1)) (by rw [bl_length]; omega)
          rcases rv_step s m k hm1 hlt HS.out with ⟨ht, HG⟩ | ⟨ht, HT⟩
          · have HG' : Hid ((segL (bl s (k + 1)), ((k + 1 : Nat) : Int)) = rvAt s m 0) := HG
            clear HG HS
            go_wp2
            go_region_with (go_at_call 34; refine (specVar_yes _ _ h0 h7).mono ?_; rintro e w1 ⟨rfl, hb1⟩)
            all_goals
              have R2 : Below w.heap.size w w1 := hbel.drew.trans (hb1.mono hsz)
              clear hb1
              go_wp2
              go_ret2
              exact ⟨ret_two (congrArg Prod.fst HG'.out) (Eq.trans (by omega) (congrArg Prod.snd HG'.out)), R2⟩
          · have HT' : Hid (RvState s m (k + 1)) := HT
            clear HT HS
            go_wp2
            go_region_with (go_at_call 34; refine (specVar_yes _ _ h0 h7).mono ?_; rintro e w1 ⟨rfl, hb1⟩)
            all_goals
              have R2 : Below w.heap.size w w1 := hbel.drew.trans (hb1.mono hsz)
              clear hb1
              go_wp2
              go_roundw
              case rel => first | exact ⟨k + 1, by omega, by go_num, R2, HT'⟩ | ((repeat apply Exists.intro); exact ⟨⟨k + 1, by omega, by go_num, R2, HT'⟩, rfl⟩)
              case measure => simp [intOf]; omega
    · have HG : Hid ((0, 0) = rvAt s m 0) := rv_over s m k (by omega) HS.out
      clear HS
      by_cases h7 : (k : Int) + 1 ≤ 7
      · have hks : (s.size : Int) < (k : Int) + 1 := by have := HC.out; omega
        go_wp2
        go_ret2
        exact ⟨ret_two (congrArg Prod.fst HG.out) (congrArg Prod.snd HG.out), hbel⟩
      · go_wp2
        go_ret2
        exact ⟨ret_two (congrArg Prod.fst HG.out) (congrArg Prod.snd HG.out), hbel⟩

end Go.Proofs.Ythhkjnpeopfmjaa
