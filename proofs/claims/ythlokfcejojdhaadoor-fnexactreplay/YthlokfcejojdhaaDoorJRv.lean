/- The walks of the two that read a number told by seven bits a byte. -/
import Derived.Test.YthlokfcejojdhaaDoorVarWalk
import Derived.Test.YthlokfcejojdhaaDoorRvMath
import Derived.Deep.RegionWith
import Derived.Test.YthlokfcejojdhaaDoorWvMath
namespace Go.Proofs.YthlokfcejojdhaaDoor
open Go.RowKit
set_option linter.unusedVariables false

theorem ret_two {a b c d : Int} (h1 : a = c) (h2 : b = d) : Ending.returned (.tuple #[.int .i64 a, .int .i64 b]) = .returned (.tuple #[.int .i64 c, .int .i64 d]) := by rw [h1, h2]

set_option maxHeartbeats 400000 in
set_option maxRecDepth 100000 in
theorem implRv_any (s : ByteArray) (w : World) (hs : s.size ≤ 1048576) :
    Calls Tryd.prog 51 #[.string s] w fun e w' => e = .returned (.tuple #[.int .i64 (rvAt s (min s.size 7) 0).1, .int .i64 (rvAt s (min s.size 7) 0).2]) ∧ w' = w := by
  obtain ⟨m, hm⟩ : ∃ m, m = min s.size 7 := ⟨_, rfl⟩
  have hm1 : m ≤ s.size := by omega
  have hm7 : m ≤ 7 := by omega
  rw [← hm]
  have hcase : (s.size ≤ 7 ∧ s.size ≤ m) ∨ (7 < s.size ∧ 7 ≤ m) := by omega
  clear hm
  rcases hcase with ⟨hA, hB⟩ | ⟨hA, hB⟩
  all_goals
    go_enter Tryd.func51, Tryd.ntmps51
    go_wp2
    go_step3
    go_wp2
    go_step3
    go_wp2
    go_loop [4, 10] (fun n i => ∃ k : Nat, k ≤ m ∧ i = .int .i64 k ∧ n = .int .i64 (segL (bl s k)) ∧ Hid (rvAt s (m - k) k = rvAt s m 0)) (fun _ i => m - (intOf i).toNat)
    case atStart => exact ⟨0, Nat.zero_le _, rfl, rfl, rfl⟩
    case round =>
      obtain ⟨k, hk, rfl, rfl, HE⟩ := hrel
      by_cases hlt : k < m
      · have hks : k < s.size := by omega
        have hb := byteAt_eq s k hks
        have hr := byteAt_range s k
        rw [hb] at hr
        obtain ⟨hr0, hr1⟩ := hr
        have hm' : m - k = (m - (k + 1)) + 1 := by omega
        have HF : Hid (rvAt s ((m - (k + 1)) + 1) k = rvAt s m 0) := by have := HE.out; rw [hm'] at this; exact this
        have HO : Hid (bits .or .i64 (segL (bl s k)) (wrap64 (((s[k]).toNat : Int) % 128 * 2 ^ (7 * k))) = segL (bl s (k + 1))) := by
          have hsw := shl_wrap ((s[k]).toNat : Int) k (by omega)
          rw [IntWalk.wrap64_in _ (by omega)]
          have := or_seg (bl s k) (byteAt s k) k (bl_length s k) (by omega)
          rw [← bl_succ, hb] at this; exact this
        have HB : Hid (byteAt s k = ((s[k]).toNat : Int)) := hb
        clear hb hm' HE
        by_cases h128 : (128 : Int) ≤ ((s[k]).toNat : Int)
        · go_wp2
          go_round
          case rel => exact ⟨k + 1, by omega, by go_num, by rw [HO.out], by have := HF.out; rw [rvAt_on _ _ _ (by rw [HB.out]; exact h128)] at this; exact this⟩
          case measure => simp [intOf]; omega
        · by_cases hz : ((s[k]).toNat : Int) = 0 ∧ 0 < k
          · obtain ⟨hz0, hk0⟩ := hz
            have e0 : (((s[k]).toNat : Int) == 0) = true := by simp only [hz0]; rfl
            have HZ : Hid (((s[k]).toNat : Int) = 0) := hz0
            clear hz0
            go_wp2
            go_ret2
            have HG : Hid ((0, 0) = rvAt s m 0) := by have := HF.out; rw [rvAt_bad _ _ _ (by rw [HB.out]; exact HZ.out) hk0] at this; exact this
            exact ⟨ret_two (congrArg Prod.fst HG.out) (congrArg Prod.snd HG.out), rfl⟩
          · have HG : Hid ((segL (bl s (k + 1)), ((k + 1 : Nat) : Int)) = rvAt s m 0) := by
              have := HF.out; rw [rvAt_end _ _ _ (by rw [HB.out]; omega) (by rw [HB.out]; exact hz)] at this; exact this
            by_cases hz0 : ((s[k]).toNat : Int) = 0
            · have hk0 : ¬ 0 < k := fun h => hz ⟨hz0, h⟩
              have e0 : (((s[k]).toNat : Int) == 0) = true := by simp only [hz0]; rfl
              clear hz hz0
              go_wp2
              go_ret2
              exact ⟨ret_two (HO.out.trans (congrArg Prod.fst HG.out)) (Eq.trans (by omega) (congrArg Prod.snd HG.out)), rfl⟩
            · have e0 : (((s[k]).toNat : Int) == 0) = false := by simpa using hz0
              clear hz hz0
              go_wp2
              go_ret2
              exact ⟨ret_two (HO.out.trans (congrArg Prod.fst HG.out)) (Eq.trans (by omega) (congrArg Prod.snd HG.out)), rfl⟩
      · have hkm : m - k = 0 := by omega
        have HG : Hid ((0, 0) = rvAt s m 0) := by have := HE.out; rw [hkm] at this; exact this
        clear hkm HE
        go_wp2
        go_ret2
        exact ⟨ret_two (congrArg Prod.fst HG.out) (congrArg Prod.snd HG.out), rfl⟩

set_option maxHeartbeats 400000 in
set_option maxRecDepth 100000 in
theorem specRv_any (s : ByteArray) (w : World) (hs : s.size ≤ 1048576) :
    Calls Tryd.prog 54 #[.string s] w fun e w' => e = .returned (.tuple #[.int .i64 (rvAt s (min s.size 7) 0).1, .int .i64 (rvAt s (min s.size 7) 0).2]) ∧ Below w.heap.size w w' := by
  obtain ⟨m, hm⟩ : ∃ m, m = min s.size 7 := ⟨_, rfl⟩
  have hm1 : m ≤ s.size := by omega
  have hm7 : m ≤ 7 := by omega
  rw [← hm]
  have hcase : s.size ≤ m ∨ 7 ≤ m := by omega
  have HC : Hid (s.size ≤ m ∨ 7 ≤ m) := hcase
  clear hm hcase
  go_enter Tryd.func54, Tryd.ntmps54
  go_wp2
  go_loopw [4] (fun i wr => ∃ k : Nat, k ≤ m ∧ i = .int .i64 ((k : Int) + 1) ∧ Below w.heap.size w wr ∧ Hid (RvState s m k)) (fun i _ => m + 1 - (intOf i).toNat)
  case atStart => exact ⟨0, Nat.zero_le _, rfl, Below.refl _ _, .inl ⟨fun i hi => by omega, rfl⟩⟩
  case round =>
    obtain ⟨k, hk, rfl, hbel, HS⟩ := hrel
    have hsz := hbel.size
    by_cases hlt : k < m
    · have hks : k < s.size := by omega
      go_wp2
      go_loop [5, 6] (fun n i => ∃ j : Nat, j ≤ k + 1 ∧ i = .int .i64 ((j : Int) - 1) ∧ n = .int .i64 (segL ((bl s (k + 1)).drop j))) (fun _ i => (intOf i + 1).toNat)
      case atStart => exact ⟨k + 1, Nat.le_refl _, by go_num, by rw [List.drop_of_length_le (by rw [bl_length]; omega)]; rfl⟩
      case round =>
        obtain ⟨j, hj, rfl, rfl⟩ := hrel
        by_cases hj0 : 0 < j
        · obtain ⟨i, rfl⟩ : ∃ i, j = i + 1 := ⟨j - 1, by omega⟩
          have his : i < s.size := by omega
          have hb := byteAt_eq s i his
          have hd := bl_drop s (k + 1) i (by omega)
          have h0 := segL_nonneg ((bl s (k + 1)).drop (i + 1))
          have h6 := segL_le6 ((bl s (k + 1)).drop (i + 1)) (by simp [bl_length]; omega)
          have HD : Hid (segL ((bl s (k + 1)).drop i) = segL ((bl s (k + 1)).drop (i + 1)) * 128 + ((s[i]).toNat : Int) % 128) := by
            show _ = _
            rw [hd, ← hb]; simp only [segL]; omega
          have hr := byteAt_range s i
          rw [hb] at hr
          obtain ⟨hr0, hr1⟩ := hr
          clear hb hd
          go_wp2
          go_round
          case rel => exact ⟨i, by omega, by go_num, by rw [HD.out]⟩
          case measure => simp [intOf]
        · have hj' : j = 0 := by omega
          subst hj'
          have h0 := segL_nonneg (bl s (k + 1))
          have h7 := segL_le7 (bl s (k + 1)) (by rw [bl_length]; omega)
          rcases rv_step s m k hm1 hlt HS.out with ⟨ht, HG⟩ | ⟨ht, HT⟩
          · have HG' : Hid ((segL (bl s (k + 1)), ((k + 1 : Nat) : Int)) = rvAt s m 0) := HG
            clear HG HS
            go_wp2
            go_region_with (go_at_call 77; refine (specVar_yes _ _ h0 h7).mono ?_; rintro e w1 ⟨rfl, hb1⟩)
            all_goals
              have R2 : Below w.heap.size w w1 := hbel.drew.trans (hb1.mono hsz)
              clear hb1
              go_wp2
              go_ret2
              exact ⟨ret_two (congrArg Prod.fst HG'.out) (Eq.trans (by omega) (congrArg Prod.snd HG'.out)), R2⟩
          · have HT' : Hid (RvState s m (k + 1)) := HT
            clear HT HS
            go_wp2
            go_region_with (go_at_call 77; refine (specVar_yes _ _ h0 h7).mono ?_; rintro e w1 ⟨rfl, hb1⟩)
            all_goals
              have R2 : Below w.heap.size w w1 := hbel.drew.trans (hb1.mono hsz)
              clear hb1
              go_wp2
              go_roundw
              case rel => first | exact ⟨k + 1, by omega, by go_num, R2, HT'⟩ | ((repeat apply Exists.intro); exact ⟨⟨k + 1, by omega, by go_num, R2, HT'⟩, rfl⟩)
              case measure => simp [intOf]; omega
    · have HG : Hid ((0, 0) = rvAt s m 0) := rv_over s m k (by omega) HS.out
      clear HS
      by_cases h7 : (k : Int) + 1 ≤ 7
      · have hks : (s.size : Int) < (k : Int) + 1 := by have := HC.out; omega
        go_wp2
        go_ret2
        exact ⟨ret_two (congrArg Prod.fst HG.out) (congrArg Prod.snd HG.out), hbel⟩
      · go_wp2
        go_ret2
        exact ⟨ret_two (congrArg Prod.fst HG.out) (congrArg Prod.snd HG.out), hbel⟩

end Go.Proofs.YthlokfcejojdhaaDoor

/- The specification's reading of a record, by a contract. -/
namespace Go.Proofs.YthlokfcejojdhaaDoor
open Go.RowKit
set_option linter.unusedVariables false

theorem sl_at (s : ByteArray) (a : Nat) (x : Int) (hx : x = (a : Int)) (h : a ≤ s.size) : ∀ W, (Instr.slice 9 (.string s) (some (.int .i64 x)) none none).run Tryd.prog W = .ok (.string (s.extract a s.size)) W := fun W => by
  subst hx
  rw [run_slice_string_l (P := Tryd.prog) W 9 s Tryd.underlying9 .i64 (a : Int) (by omega) (by omega)]
  rw [Int.toNat_natCast]

theorem ix_0 (s : ByteArray) (h : s.size ≠ 0) : ∀ W, (Instr.index 9 (.string s) (.int .i64 0)).run Tryd.prog W = .ok (.int .u8 (byteAt s 0)) W := fun W => by
  rw [run_index_string (P := Tryd.prog) W 9 s .i64 0 Tryd.underlying9, dif_pos ⟨by omega, by omega⟩, byteAt_eq s 0 (by omega)]
  rfl

theorem rdV_spec (s : ByteArray) (a : Nat) (k : Nat) (t : Int) (hs : s.size ≤ 1048576) (e1 : (rdV s a).1 = t) (e2 : (rdV s a).2 = (k : Int)) : ∀ W : World, Calls Tryd.prog 54 #[.string (s.extract a s.size)] W fun e w' => e = .returned (.tuple #[.int .i64 t, .int .i64 (k : Int)]) ∧ Below W.heap.size W w' := fun W => by
  have h := specRv_any (s.extract a s.size) W (by simp; omega)
  rw [← e1, ← e2]
  exact h

set_option maxRecDepth 20000 in
set_option maxHeartbeats 1000000 in
theorem specRead_out (s : ByteArray) (w : World) (h : s.size = 0 ∨ 2000 < s.size) (hs : s.size ≤ 1048576) : Calls Tryd.prog 31 #[.string s] w fun e w' => e = .returned (.tuple #[.agg #[.int .i64 0, .int .i64 0, .int .i64 0, .int .i64 0, .string ⟨#[]⟩], .bool false]) ∧ Below w.heap.size w w' := by
  rcases h with h | h
  · have h1 : ((s.size : Int) == 0) = true := by rw [h]; rfl
    clear h hs
    go_enter Tryd.func31, Tryd.ntmps31
    go_wp2
    refine bodyPost_ret (v := .tuple #[.agg #[.int .i64 0, .int .i64 0, .int .i64 0, .int .i64 0, .string ⟨#[]⟩], .bool false]) (by simp [results, Tryd.results31, go_sem]) rfl ⟨rfl, ?_⟩
    exact (Below.refl _ _).alloc (Nat.le_refl _) _
  · have h1 : ((s.size : Int) == 0) = false := by rw [beq_eq_false_iff_ne]; omega
    have h2 : (2000 : Int) < s.size := by omega
    clear h hs
    go_enter Tryd.func31, Tryd.ntmps31
    go_wp2
    refine bodyPost_ret (v := .tuple #[.agg #[.int .i64 0, .int .i64 0, .int .i64 0, .int .i64 0, .string ⟨#[]⟩], .bool false]) (by simp [results, Tryd.results31, go_sem]) rfl ⟨rfl, ?_⟩
    exact (Below.refl _ _).alloc (Nat.le_refl _) _

set_option maxRecDepth 20000 in
set_option maxHeartbeats 1000000 in
theorem specRead_in (s T1 T2 T3 D : ByteArray) (b t i v : Int) (k1 k2 k3 : Nat) (w : World) (h0 : s.size ≠ 0) (h2 : s.size ≤ 2000)
    (hk1 : k1 ≤ 7) (hk2 : k2 ≤ 7) (hk3 : k3 ≤ 7) (hv : 0 ≤ v ∧ v ≤ 562949953421311) (hb : 0 ≤ b ∧ b < 256)
    (ri : ∀ W, (Instr.index 9 (.string s) (.int .i64 0)).run Tryd.prog W = .ok (.int .u8 b) W)
    (r1 : ∀ W, (Instr.slice 9 (.string s) (some (.int .i64 1)) none none).run Tryd.prog W = .ok (.string T1) W)
    (r2 : ∀ W, (Instr.slice 9 (.string s) (some (.int .i64 (1 + (k1 : Int)))) none none).run Tryd.prog W = .ok (.string T2) W)
    (r3 : ∀ W, (Instr.slice 9 (.string s) (some (.int .i64 (1 + (k1 : Int) + (k2 : Int)))) none none).run Tryd.prog W = .ok (.string T3) W)
    (r4 : ∀ W, (Instr.slice 9 (.string s) (some (.int .i64 (1 + (k1 : Int) + (k2 : Int) + (k3 : Int)))) none none).run Tryd.prog W = .ok (.string D) W)
    (c1 : ∀ W : World, Calls Tryd.prog 54 #[.string T1] W fun e w' => e = .returned (.tuple #[.int .i64 t, .int .i64 (k1 : Int)]) ∧ Below W.heap.size W w')
    (c2 : ∀ W : World, Calls Tryd.prog 54 #[.string T2] W fun e w' => e = .returned (.tuple #[.int .i64 i, .int .i64 (k2 : Int)]) ∧ Below W.heap.size W w')
    (c3 : ∀ W : World, Calls Tryd.prog 54 #[.string T3] W fun e w' => e = .returned (.tuple #[.int .i64 v, .int .i64 (k3 : Int)]) ∧ Below W.heap.size W w')
    (R : ByteArray) (cR : ∀ W : World, Calls Tryd.prog 55 #[.agg #[.int .i64 b, .int .i64 t, .int .i64 i, .int .i64 (v - 1), .string D]] W fun e w' => e = .returned (.string R) ∧ Below W.heap.size W w')
    (z1 z2 z3 z4 : Bool) (hz1 : ((k1 : Int) == 0) = z1) (hz2 : ((k2 : Int) == 0) = z2) (hz3 : ((k3 : Int) == 0) = z3) (hz4 : (R.toList == s.toList) = z4) (g : Bool) (hg : (!z1 && !z2 && !z3 && z4) = g) :
    Calls Tryd.prog 31 #[.string s] w fun e w' => e = .returned (.tuple #[bif g then .agg #[.int .i64 b, .int .i64 t, .int .i64 i, .int .i64 (v - 1), .string D] else .agg #[.int .i64 0, .int .i64 0, .int .i64 0, .int .i64 0, .string ⟨#[]⟩], .bool g]) ∧ Below w.heap.size w w' := by
  have q1 : ((s.size : Int) == 0) = false := by rw [beq_eq_false_iff_ne]; omega
  have q2 : ¬ (2000 : Int) < s.size := by omega
  have C1 : Hid (∀ W : World, Calls Tryd.prog 54 #[.string T1] W fun e w' => e = .returned (.tuple #[.int .i64 t, .int .i64 (k1 : Int)]) ∧ Below W.heap.size W w') := c1
  have C2 : Hid (∀ W : World, Calls Tryd.prog 54 #[.string T2] W fun e w' => e = .returned (.tuple #[.int .i64 i, .int .i64 (k2 : Int)]) ∧ Below W.heap.size W w') := c2
  have C3 : Hid (∀ W : World, Calls Tryd.prog 54 #[.string T3] W fun e w' => e = .returned (.tuple #[.int .i64 v, .int .i64 (k3 : Int)]) ∧ Below W.heap.size W w') := c3
  have CR : Hid (∀ W : World, Calls Tryd.prog 55 #[.agg #[.int .i64 b, .int .i64 t, .int .i64 i, .int .i64 (v - 1), .string D]] W fun e w' => e = .returned (.string R) ∧ Below W.heap.size W w') := cR
  have HG : Hid ((!z1 && !z2 && !z3 && z4) = g) := hg
  clear c1 c2 c3 cR h0 h2 hg
  go_enter Tryd.func31, Tryd.ntmps31
  go_upto_region 5 with fail
  refine wp_genW (fun W => Hid (W.heap[w.heap.size]? = some (.cells #[.int .i64 0, .int .i64 0, .int .i64 0, .int .i64 0, .string ⟨#[]⟩] 57)) ∧ Hid (W.heap[w.heap.size + 1]? = some (.cells #[.int .i64 b, .int .i64 0, .int .i64 0, .int .i64 0, .string ⟨#[]⟩] 57)) ∧ Hid (Below w.heap.size w W)) ⟨?_, ?_, ?_⟩ ?_
  · exact (Below.heap_alloc _ _ _ (by simp)).trans (alloc_last _ _)
  · have := alloc_last (w.alloc (.cells #[.int .i64 0, .int .i64 0, .int .i64 0, .int .i64 0, .string ⟨#[]⟩] 57)) (.cells #[.int .i64 b, .int .i64 0, .int .i64 0, .int .i64 0, .string ⟨#[]⟩] 57)
    rw [show (w.alloc (.cells #[.int .i64 0, .int .i64 0, .int .i64 0, .int .i64 0, .string ⟨#[]⟩] 57)).heap.size = w.heap.size + 1 by simp] at this
    exact this
  · exact ((Below.refl _ _).alloc (Nat.le_refl _) _).alloc (by simp) _
  rintro W0 ⟨HA0, HX0, HB0⟩
  clear hb ri q1 q2
  go_wp2_with fail
  refine (C1.out _).mono ?_
  rintro e w1 ⟨rfl, b1⟩
  go_wp2_with fail
  refine (C2.out _).mono ?_
  rintro e w2 ⟨rfl, b2⟩
  go_wp2_with fail
  refine (C3.out _).mono ?_
  rintro e w3 ⟨rfl, b3⟩
  have bb : Below W0.heap.size W0 w3 := (b1.trans (b2.mono b1.size)).trans (b3.mono (b1.trans (b2.mono b1.size)).size)
  have HA3 : Hid (w3.heap[w.heap.size]? = some (.cells #[.int .i64 0, .int .i64 0, .int .i64 0, .int .i64 0, .string ⟨#[]⟩] 57)) := (bb.block _ (lt_of_some HA0.out)).trans HA0.out
  have HX3 : Hid (w3.heap[w.heap.size + 1]? = some (.cells #[.int .i64 b, .int .i64 0, .int .i64 0, .int .i64 0, .string ⟨#[]⟩] 57)) := (bb.block _ (lt_of_some HX0.out)).trans HX0.out
  have HB3 : Hid (Below w.heap.size w w3) := HB0.out.trans (bb.mono HB0.out.size)
  clear bb b1 b2 b3
  obtain ⟨x0, x1, x2, x3, x4⟩ := box5 HX3.out
  have z1' : w3.frozen? ⟨w.heap.size + 1, 1, none⟩ = false := by simp [World.frozen?, HX3.out]
  have z2' : w3.frozen? ⟨w.heap.size + 1, 2, none⟩ = false := by simp [World.frozen?, HX3.out]
  have z3' : w3.frozen? ⟨w.heap.size + 1, 3, none⟩ = false := by simp [World.frozen?, HX3.out]
  have z4' : w3.frozen? ⟨w.heap.size + 1, 4, none⟩ = false := by simp [World.frozen?, HX3.out]
  go_upto_region 15 with fail
  refine wp_genW (fun W => Hid (W.heap[w.heap.size]? = some (.cells #[.int .i64 0, .int .i64 0, .int .i64 0, .int .i64 0, .string ⟨#[]⟩] 57)) ∧ Hid (W.heap[w.heap.size + 1]? = some (.cells #[.int .i64 b, .int .i64 t, .int .i64 i, .int .i64 (v - 1), .string D] 57)) ∧ Hid (Below w.heap.size w W)) ⟨?_, ?_, ?_⟩ ?_
  · exact (Below.heap_setCell _ _ _ _ (by show w.heap.size ≠ w.heap.size + 1; omega)).trans ((Below.heap_setCell _ _ _ _ (by show w.heap.size ≠ w.heap.size + 1; omega)).trans ((Below.heap_setCell _ _ _ _ (by show w.heap.size ≠ w.heap.size + 1; omega)).trans ((Below.heap_setCell _ _ _ _ (by show w.heap.size ≠ w.heap.size + 1; omega)).trans HA3.out)))
  · have q1 := heap_setCell_same w3 (w.heap.size + 1) 1 _ _ (.int .i64 t) HX3.out
    have q2 := heap_setCell_same _ (w.heap.size + 1) 2 _ _ (.int .i64 i) q1
    have q3 := heap_setCell_same _ (w.heap.size + 1) 3 _ _ (.int .i64 (v - 1)) q2
    have q4 := heap_setCell_same _ (w.heap.size + 1) 4 _ _ (.string D) q3
    exact q4
  · exact (((HB3.out.setCell (by show w.heap.size ≤ w.heap.size + 1; omega) _).setCell (by show w.heap.size ≤ w.heap.size + 1; omega) _).setCell (by show w.heap.size ≤ w.heap.size + 1; omega) _).setCell (by show w.heap.size ≤ w.heap.size + 1; omega) _
  rintro W4 ⟨HA4, HX4, HB4⟩
  clear x0 x1 x2 x3 x4 z1' z2' z3' z4' HA3 HX3 HB3 HA0 HX0 HB0 r1 r2 r3 r4 hk1 hk2 hk3 hv
  obtain ⟨x0, x1, x2, x3, x4⟩ := box5 HX4.out
  obtain ⟨y0, y1, y2, y3, y4⟩ := box5 HA4.out
  have fz : ∀ j, W4.frozen? ⟨w.heap.size, j, none⟩ = false := fun j => by simp [World.frozen?, HA4.out]
  cases z1
  case true =>
    go_wp2
    refine bodyPost_ret (v := .tuple #[.agg #[.int .i64 0, .int .i64 0, .int .i64 0, .int .i64 0, .string ⟨#[]⟩], .bool false]) (by simp [results, Tryd.results31, go_sem, y0, y1, y2, y3, y4]) rfl ⟨by rw [← HG.out]; rfl, ?_⟩
    exact (((((HB4.out).setCell (Nat.le_refl _) _).setCell (Nat.le_refl _) _).setCell (Nat.le_refl _) _).setCell (Nat.le_refl _) _).setCell (Nat.le_refl _) _
  cases z2
  case true =>
    go_wp2
    refine bodyPost_ret (v := .tuple #[.agg #[.int .i64 0, .int .i64 0, .int .i64 0, .int .i64 0, .string ⟨#[]⟩], .bool false]) (by simp [results, Tryd.results31, go_sem, y0, y1, y2, y3, y4]) rfl ⟨by rw [← HG.out]; rfl, ?_⟩
    exact (((((HB4.out).setCell (Nat.le_refl _) _).setCell (Nat.le_refl _) _).setCell (Nat.le_refl _) _).setCell (Nat.le_refl _) _).setCell (Nat.le_refl _) _
  cases z3
  case true =>
    go_wp2
    refine bodyPost_ret (v := .tuple #[.agg #[.int .i64 0, .int .i64 0, .int .i64 0, .int .i64 0, .string ⟨#[]⟩], .bool false]) (by simp [results, Tryd.results31, go_sem, y0, y1, y2, y3, y4]) rfl ⟨by rw [← HG.out]; rfl, ?_⟩
    exact (((((HB4.out).setCell (Nat.le_refl _) _).setCell (Nat.le_refl _) _).setCell (Nat.le_refl _) _).setCell (Nat.le_refl _) _).setCell (Nat.le_refl _) _
  go_wp2_with fail
  refine (CR.out _).mono ?_
  rintro e w5 ⟨rfl, b5⟩
  have HA5 : Hid (w5.heap[w.heap.size]? = some (.cells #[.int .i64 0, .int .i64 0, .int .i64 0, .int .i64 0, .string ⟨#[]⟩] 57)) := (b5.block _ (lt_of_some HA4.out)).trans HA4.out
  have HX5 : Hid (w5.heap[w.heap.size + 1]? = some (.cells #[.int .i64 b, .int .i64 t, .int .i64 i, .int .i64 (v - 1), .string D] 57)) := (b5.block _ (lt_of_some HX4.out)).trans HX4.out
  have HB5 : Hid (Below w.heap.size w w5) := HB4.out.trans (b5.mono HB4.out.size)
  clear b5 x0 x1 x2 x3 x4 y0 y1 y2 y3 y4 fz HA4 HX4 HB4
  obtain ⟨x0, x1, x2, x3, x4⟩ := box5 HX5.out
  obtain ⟨y0, y1, y2, y3, y4⟩ := box5 HA5.out
  have fz : ∀ j, w5.frozen? ⟨w.heap.size, j, none⟩ = false := fun j => by simp [World.frozen?, HA5.out]
  cases z4
  · go_wp2
    refine bodyPost_ret (v := .tuple #[.agg #[.int .i64 0, .int .i64 0, .int .i64 0, .int .i64 0, .string ⟨#[]⟩], .bool false]) (by simp [results, Tryd.results31, go_sem, y0, y1, y2, y3, y4]) rfl ⟨by rw [← HG.out]; rfl, ?_⟩
    exact (((((HB5.out).setCell (Nat.le_refl _) _).setCell (Nat.le_refl _) _).setCell (Nat.le_refl _) _).setCell (Nat.le_refl _) _).setCell (Nat.le_refl _) _
  · go_wp2
    refine bodyPost_ret (v := .tuple #[.agg #[.int .i64 b, .int .i64 t, .int .i64 i, .int .i64 (v - 1), .string D], .bool true]) (by simp [results, Tryd.results31, go_sem, y0, y1, y2, y3, y4]) rfl ⟨by rw [← HG.out]; rfl, ?_⟩
    exact (((((HB5.out).setCell (Nat.le_refl _) _).setCell (Nat.le_refl _) _).setCell (Nat.le_refl _) _).setCell (Nat.le_refl _) _).setCell (Nat.le_refl _) _

theorem specRead_c (s : ByteArray) (w : World) (hs : s.size ≤ 1048576) : Calls Tryd.prog 31 #[.string s] w fun e w' => e = .returned (.tuple #[.agg #[.int .i64 (rdR s).f0, .int .i64 (rdR s).f1, .int .i64 (rdR s).f2, .int .i64 (rdR s).f3, .string (rdR s).f4], .bool (decide (okR (rdR s)))]) ∧ Below w.heap.size w w' := by
  by_cases h : s.size = 0 ∨ 2000 < s.size
  · have hn : ¬ (hasR s ∧ okR (rawR s)) := by
      rintro ⟨h1, h2⟩
      rcases h with h | h
      · unfold hasR at h1; exact h1.1 h
      · have := raw_size s h1 h2; omega
    rw [decide_eq_false (by rw [rdR_iff]; exact hn), rdR_no hn]
    exact specRead_out s w h hs
  · have h0 : s.size ≠ 0 := by omega
    obtain ⟨t, i, v, k1, k2, k3, e1, e2, e3, e4, e5, e6, hz, l1, l2, l3, ht, hi', hv, hr, hi⟩ := rd_letters s h0
    obtain ⟨G, hG⟩ : ∃ G, (!((k1 : Int) == 0) && !((k2 : Int) == 0) && !((k3 : Int) == 0) && ((recT (rawR s)).toList == s.toList)) = G := ⟨_, rfl⟩
    have hGd : G = decide (okR (rdR s)) := by
      rw [← hG, Bool.eq_iff_iff, decide_eq_true_iff, rdR_iff, hi]
      simp only [Bool.and_eq_true, Bool.not_eq_true', beq_eq_false_iff_ne, beq_iff_eq, txt_iff]
      constructor
      · rintro ⟨⟨⟨a, b⟩, c⟩, d⟩
        refine ⟨⟨by omega, by omega, by omega⟩, ?_⟩
        by_cases hn : okR (rawR s)
        · exact hn
        · exact absurd d (raw_no s h0 hn)
      · rintro ⟨⟨a, b, c⟩, d⟩
        exact ⟨⟨⟨by omega, by omega⟩, by omega⟩, raw_text s (hi.2 ⟨a, b, c⟩) d⟩
    refine (specRead_in s _ _ _ _ (byteAt s 0) t i v k1 k2 k3 w h0 (by omega) l1 l2 l3 hv (byteAt_range s 0) (ix_0 s h0) (sl_at s 1 1 rfl (by omega)) (sl_at s (1 + k1) _ (by omega) (by omega)) (sl_at s (1 + k1 + k2) _ (by omega) (by omega)) (sl_at s (1 + k1 + k2 + k3) _ (by omega) (by omega))
      (rdV_spec s 1 k1 t hs e1 e2) (rdV_spec s (1 + k1) k2 i hs e3 e4) (rdV_spec s (1 + k1 + k2) k3 v hs e5 e6) (recT (rawR s)) (fun W => by
        have h3 := specShow_c (rawR s) W (by rw [hr]; show (s.extract _ _).size ≤ _; simp; omega)
        rw [hr] at h3 ⊢
        exact h3) _ _ _ _ rfl rfl rfl rfl G hG).mono ?_
    rintro e w' ⟨rfl, hb⟩
    refine ⟨?_, hb⟩
    by_cases hg : hasR s ∧ okR (rawR s)
    · have h1 : okR (rdR s) := (rdR_iff s).2 hg
      rw [decide_eq_true h1] at hGd ⊢
      rw [hGd, rdR_yes hg.1 hg.2, hr]
      rfl
    · have h1 : ¬ okR (rdR s) := fun h => hg ((rdR_iff s).1 h)
      rw [decide_eq_false h1] at hGd ⊢
      rw [hGd, rdR_no hg]
      rfl

end Go.Proofs.YthlokfcejojdhaaDoor
