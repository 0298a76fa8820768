/- The walks of the two that read bytes told by two signs each. -/
import Derived.Test.YtdhiobfalffebaiHexWalk
import Derived.Test.YtdhiobfalffebaiUnMath
namespace Go.Proofs.Ytdhiobfalffebai
open Go.RowKit
set_option linter.unusedVariables false

theorem ret_sb {a b : ByteArray} {c d : Bool} (h : (a, c) = (b, d)) : Ending.returned (.tuple #[.string a, .bool c]) = .returned (.tuple #[.string b, .bool d]) := by
  injection h with h1 h2; rw [h1, h2]

set_option maxHeartbeats 1000000 in
set_option maxRecDepth 100000 in
theorem index_lite (c : Int) (w : World) (h0 : 0 ≤ c) (h1 : c < 256) :
    Calls Try.prog 26 #[.string ⟨#[48, 49, 50, 51, 52, 53, 54, 55, 56, 57, 97, 98, 99, 100, 101, 102]⟩, .int .u8 c] w fun e w' => e = .returned (.int .i64 (unhexd c)) ∧ w' = w := by
  go_enter Try.func26, Try.ntmps26
  go_wp2
  rw [run_callFunc_extern Try.func27 (by kernel_rfl) (by kernel_rfl) (by kernel_rfl) (e := Extern.BytealgIndexByte.indexByte) (by kernel_rfl), Lib.run_indexByteString]
  simp only [Result.andThen]
  rw [Oper.upon_value, index_hex c h0 h1]
  go_wp2
  go_ret
  exact ⟨rfl, rfl⟩

set_option maxHeartbeats 400000 in
theorem index_any (c : Int) (w : World) (h0 : 0 ≤ c) (h1 : c < 256) :
    Calls Try.prog 25 #[.string ⟨#[48, 49, 50, 51, 52, 53, 54, 55, 56, 57, 97, 98, 99, 100, 101, 102]⟩, .int .u8 c] w fun e w' => e = .returned (.int .i64 (unhexd c)) ∧ w' = w := by
  go_enter Try.func25, Try.ntmps25
  go_wp2_with fail
  refine (index_lite c _ h0 h1).mono ?_
  rintro e w' ⟨rfl, rfl⟩
  go_wp2
  go_ret
  exact ⟨rfl, rfl⟩

set_option maxHeartbeats 400000 in
theorem from_any (c : Int) (w : World) :
    Calls Try.prog 24 #[.int .u8 c] w fun e w' => e = .returned (.int .i64 (unhexd c)) ∧ w' = w := by
  go_enter Try.func24, Try.ntmps24
  go_wp2
  go_loop [3] (fun i => ∃ k : Nat, k ≤ 16 ∧ i = .int .i64 k ∧ Hid (∀ j : Int, 0 ≤ j → j < k → hexd j ≠ c)) (fun i => 16 - (intOf i).toNat)
  case atStart => exact ⟨0, by omega, rfl, fun j h0 h1 => by omega⟩
  case round =>
    obtain ⟨k, hk, rfl, HN⟩ := hrel
    by_cases hlt : k < 16
    · by_cases he : hexd k = c
      · have ht : (hexd (k : Int) == c) = true := by simpa using he
        have HE : Hid (unhexd c = (k : Int)) := by show unhexd c = k; rw [← he]; exact unhexd_hexd k (by omega) (by omega)
        clear he
        go_wp2_with (go_at_call 23; refine (digit_any _ _ (by omega) (by omega)).mono ?_; rintro e w' ⟨rfl, rfl⟩)
        go_ret
        exact ⟨by rw [HE.out]; rfl, rfl⟩
      · have ht : (hexd (k : Int) == c) = false := by simpa using he
        have HN' : Hid (∀ j : Int, 0 ≤ j → j < (k + 1 : Nat) → hexd j ≠ c) := by
          intro j h0 h1
          by_cases hj : j = k
          · rw [hj]; exact he
          · exact HN.out j h0 (by omega)
        clear he HN
        go_wp2_with (go_at_call 23; refine (digit_any _ _ (by omega) (by omega)).mono ?_; rintro e w' ⟨rfl, rfl⟩)
        go_round
        case rel => exact ⟨k + 1, by omega, by go_num, HN'⟩
        case measure => simp [intOf]; omega
    · have hk16 : k = 16 := by omega
      subst hk16
      have HE : Hid (unhexd c = -1) := unhexd_none c HN.out
      clear HN
      go_wp2
      go_ret
      exact ⟨by rw [HE.out]; rfl, rfl⟩

set_option maxHeartbeats 1000000 in
theorem specUn_any (s : ByteArray) (w : World) (hs : s.size ≤ 1048576) :
    Calls Try.prog 19 #[.string s] w fun e w' => e = .returned (.tuple #[.string (uRes s).1, .bool (uRes s).2]) ∧ Below w.heap.size w w' := by
  by_cases hodd : s.size % 2 = 1
  · have e1 : ((s.size : Int) % 2 == 1) = true := by simp; omega
    have HU : Hid (uRes s = (⟨#[]⟩, false)) := uRes_odd s hodd
    clear hodd
    go_enter Try.func19, Try.ntmps19
    go_wp2
    go_ret2
    exact ⟨ret_sb HU.out.symm, (Below.refl _ _).alloc (Nat.le_refl _) _⟩
  · have e1 : ((s.size : Int) % 2 == 1) = false := by simp; omega
    obtain ⟨m, hm⟩ : ∃ m, s.size = 2 * m := ⟨s.size / 2, by omega⟩
    have hm1 : s.size ≤ 2 * m := by omega
    have hm2 : 2 * m ≤ s.size := by omega
    have HM : Hid (s.size = 2 * m) := hm
    clear hm hodd
    obtain ⟨i0, hi, hz0, hz1, hz2⟩ := info_parts info5
    go_enter Try.func19, Try.ntmps19
    go_wp2
    go_loopw [4, 5] (fun v i wr => ∃ k : Nat, k ≤ m ∧ i = .int .i64 (2 * (k : Int)) ∧ wr.ownsRow w.heap.size 5 1 v (un s k).length ((un s k).map (Value.int .u8)) ∧ Below w.heap.size w wr ∧ Hid (Good s (2 * k))) (fun _ i _ => 2 * m - (intOf i).toNat)
    case atStart => exact ⟨0, Nat.zero_le _, rfl, World.ownsRow_made w _ 0 (Nat.le_refl _) (by decide) (by simp), (Below.refl _ _).alloc (Nat.le_refl _) _, fun i hi => by omega⟩
    case round =>
      obtain ⟨k, hk, rfl, hown, hbel, HG⟩ := hrel
      have hsz := hbel.size
      have hl := un_length s k
      by_cases hlt : k < m
      · have b0 := byteAt_eq s (2 * k) (by omega)
        have b1 := byteAt_eq s (2 * k + 1) (by omega)
        have g0 := unhexd_range ((s[2 * k]).toNat : Int)
        have g1 := unhexd_range ((s[2 * k + 1]).toNat : Int)
        obtain ⟨g0l, g0h⟩ := g0
        obtain ⟨g1l, g1h⟩ := g1
        have hk1 : 2 * (k : Int) + 1 < s.size := by omega
        have B0 : Hid (byteAt s (2 * k) = ((s[2 * k]).toNat : Int)) := b0
        have B1 : Hid (byteAt s (2 * k + 1) = ((s[2 * k + 1]).toNat : Int)) := b1
        clear b0 b1
        by_cases c0 : unhexd ((s[2 * k]).toNat : Int) < 0
        · have HU : Hid (uRes s = (⟨#[]⟩, false)) := uRes_bad s (2 * k) (by omega) (by rw [B0.out]; exact c0)
          go_wp2_with (go_at_call 24; refine (from_any _ _).mono ?_; rintro e w' ⟨rfl, hq⟩; replace hq := hq.symm; subst hq)
          go_ret2
          exact ⟨ret_sb HU.out.symm, hbel⟩
        · by_cases c1 : unhexd ((s[2 * k + 1]).toNat : Int) < 0
          · have HU : Hid (uRes s = (⟨#[]⟩, false)) := uRes_bad s (2 * k + 1) (by omega) (by rw [B1.out]; exact c1)
            go_wp2_with (go_at_call 24; refine (from_any _ _).mono ?_; rintro e w' ⟨rfl, hq⟩; replace hq := hq.symm; subst hq)
            go_ret2
            exact ⟨ret_sb HU.out.symm, hbel⟩
          · have HG2 : Hid (Good s (2 * (k + 1))) := HG.out.two (by rw [B0.out]; omega) (by rw [B1.out]; omega)
            go_wp2_with (first | (go_at_call 24; refine (from_any _ _).mono ?_; rintro e w' ⟨rfl, hq⟩; replace hq := hq.symm; subst hq) | (at_builtin; refine wpList_append_own _ rfl _ _ 36 rfl w.heap.size 5 i0 (.int .u8 0) 1 1 Try.underlying36 hi hz0 hz1 hz2 rfl (by decide) _ _ _ rfl (hown.alloc _) ⟨wr.heap.size, 0, none⟩ 1 1 [.int .u8 (16 * unhexd ((s[2 * k]).toNat : Int) + unhexd ((s[2 * k + 1]).toNat : Int))] rfl rfl (cell_one_new _ _ _) (by intro u hu; simp at hu; subst hu; rfl) (by unfold maxLen; omega) (by omega) (by simp; omega) ?_))
            intro v' w1 hown' hgrow _
            have R1 : w1.ownsRow w.heap.size 5 1 v' (un s (k + 1)).length ((un s (k + 1)).map (Value.int .u8)) := by
              rw [un, B0.out, B1.out]; exact own_snoc (by rw [hl]; exact hown')
            have R2 := below_append hbel (Nat.le_refl _) hown hgrow
            clear hown' hgrow hown hbel HG
            go_wp2
            go_roundw
            case rel => first | exact ⟨k + 1, by omega, by go_num, R1, R2, HG2⟩ | ((repeat apply Exists.intro); exact ⟨⟨k + 1, by omega, by go_num, R1, R2, HG2⟩, rfl⟩)
            case measure => simp [intOf]; omega
      · have hkm : k = m := by omega
        subst hkm
        have HU : Hid (uRes s = (strOfNums (un s k), true)) := by
          have h1 : s.size = 2 * k := HM.out
          have := uRes_yes s ⟨by omega, by rw [h1]; exact HG.out⟩
          rw [show s.size / 2 = k by omega] at this
          exact this
        have hconv := run_string_of_own (un s k) rfl hown
        clear hown
        go_wp2
        go_ret2
        exact ⟨ret_sb HU.out.symm, hbel⟩


set_option maxHeartbeats 1000000 in
set_option maxRecDepth 100000 in
theorem implUn_any (s : ByteArray) (w : World) (hs : s.size ≤ 1048576) :
    Calls Try.prog 20 #[.string s] w fun e w' => e = .returned (.tuple #[.string (uRes s).1, .bool (uRes s).2]) ∧ Below w.heap.size w w' := by
  obtain ⟨m, hm⟩ : ∃ m, m = s.size / 2 := ⟨_, rfl⟩
  have hm1 : s.size ≤ 2 * m + 1 := by omega
  have hm2 : 2 * m ≤ s.size := by omega
  have hmi : (s.size : Int) / 2 = m := by omega
  clear hm
  obtain ⟨i0, hi, hz0, hz1, hz2⟩ := info_parts info5
  go_enter Try.func20, Try.ntmps20
  go_wp2
  go_step3
  go_wp2_with (first | (at_make; refine wpList_make_own _ rfl _ _ 36 rfl w.heap.size 5 i0 (.int .u8 0) 1 Try.underlying36 hi hz0 hz1 .i64 .i64 _ m rfl rfl rfl (by rw [hz2]; omega) (by unfold maxLen; omega) (Nat.le_refl _) ?_))
  intro w0 hown0 hgrow0
  have hbel0 : Below w.heap.size w w0 := (Below.refl _ _).grown hgrow0 (Nat.le_refl _) (by simp)
  clear hgrow0
  go_wp2
  go_step3
  go_wp2
  go_loopw [4, 16] (fun v i wr => ∃ k : Nat, k ≤ m ∧ i = .int .i64 k ∧ v = .slice (some ⟨w.heap.size, 0, none⟩) k m ∧ wr.ownsRow w.heap.size 5 1 (.slice (some ⟨w.heap.size, 0, none⟩) k m) k ((un s k).map (Value.int .u8)) ∧ Below w.heap.size w wr ∧ Hid (Good s (2 * k))) (fun _ i _ => m - (intOf i).toNat)
  case atStart => exact ⟨0, Nat.zero_le _, rfl, rfl, hown0, hbel0, fun i hi => by omega⟩
  case round =>
    obtain ⟨k, hk, rfl, rfl, hown, hbel, HG⟩ := hrel
    have hsz := hbel.size
    by_cases hlt : k < m
    · have B0 : Hid (byteAt s (2 * k) = ((s[2 * k]).toNat : Int)) := byteAt_eq s (2 * k) (by omega)
      have B1 : Hid (byteAt s (2 * k + 1) = ((s[2 * k + 1]).toNat : Int)) := byteAt_eq s (2 * k + 1) (by omega)
      obtain ⟨g0l, g0h⟩ := unhexd_range ((s[2 * k]).toNat : Int)
      obtain ⟨g1l, g1h⟩ := unhexd_range ((s[2 * k + 1]).toNat : Int)
      have y0 := (byteAt_range s (2 * k)).2
      have y1 := (byteAt_range s (2 * k + 1)).2
      rw [B0.out] at y0
      rw [B1.out] at y1
      have hk1 : 2 * (k : Int) + 1 < s.size := by omega
      go_wp2
      go_loop [6, 19] (fun b j => (j = .int .i64 0 ∧ b = .int .i64 0) ∨ (j = .int .i64 1 ∧ b = .int .i64 (unhexd ((s[2 * k]).toNat : Int)) ∧ 0 ≤ unhexd ((s[2 * k]).toNat : Int)) ∨ (j = .int .i64 2 ∧ b = .int .i64 (16 * unhexd ((s[2 * k]).toNat : Int) + unhexd ((s[2 * k + 1]).toNat : Int)) ∧ 0 ≤ unhexd ((s[2 * k]).toNat : Int) ∧ 0 ≤ unhexd ((s[2 * k + 1]).toNat : Int))) (fun _ j => 2 - (intOf j).toNat)
      case atStart => exact .inl ⟨rfl, rfl⟩
      case round =>
        rcases hrel with ⟨rfl, rfl⟩ | ⟨rfl, rfl, d0⟩ | ⟨rfl, rfl, d0, d1⟩
        · by_cases c0 : unhexd ((s[2 * k]).toNat : Int) < 0
          · have HU : Hid (uRes s = (⟨#[]⟩, false)) := uRes_bad s (2 * k) (by omega) (by rw [B0.out]; exact c0)
            go_wp2_with (go_at_call 25; refine (index_any _ _ (by omega) (by omega)).mono ?_; rintro e w' ⟨rfl, hq⟩; replace hq := hq.symm; subst hq)
            try rw [Exit.noGoto_ret]
            go_ret2
            exact ⟨ret_sb HU.out.symm, hbel⟩
          · go_wp2_with (go_at_call 25; refine (index_any _ _ (by omega) (by omega)).mono ?_; rintro e w' ⟨rfl, hq⟩; replace hq := hq.symm; subst hq)
            go_round
            case rel => exact .inr (.inl ⟨rfl, by go_num, by omega⟩)
            case measure => simp [intOf]
        · by_cases c1 : unhexd ((s[2 * k + 1]).toNat : Int) < 0
          · have HU : Hid (uRes s = (⟨#[]⟩, false)) := uRes_bad s (2 * k + 1) (by omega) (by rw [B1.out]; exact c1)
            go_wp2_with (go_at_call 25; refine (index_any _ _ (by omega) (by omega)).mono ?_; rintro e w' ⟨rfl, hq⟩; replace hq := hq.symm; subst hq)
            try rw [Exit.noGoto_ret]
            go_ret2
            exact ⟨ret_sb HU.out.symm, hbel⟩
          · go_wp2_with (go_at_call 25; refine (index_any _ _ (by omega) (by omega)).mono ?_; rintro e w' ⟨rfl, hq⟩; replace hq := hq.symm; subst hq)
            go_round
            case rel => exact .inr (.inr ⟨rfl, by go_num, d0, by omega⟩)
            case measure => simp [intOf]
        · have HG2 : Hid (Good s (2 * (k + 1))) := HG.out.two (by rw [B0.out]; omega) (by rw [B1.out]; omega)
          go_wp2_with (at_builtin; refine wpList_append_fits _ rfl _ _ 36 rfl w.heap.size 5 i0 1 Try.underlying36 hi hz1 w.heap.size k m _ rfl (hown.alloc _) ⟨wr.heap.size, 0, none⟩ 1 1 [.int .u8 (16 * unhexd ((s[2 * k]).toNat : Int) + unhexd ((s[2 * k + 1]).toNat : Int))] rfl rfl (cell_one_new _ _ _) (by intro u hu; simp at hu; subst hu; rfl) (by omega) ?_)
          intro w1 hown' hgrow
          have R1 : w1.ownsRow w.heap.size 5 1 (.slice (some ⟨w.heap.size, 0, none⟩) (k + 1) m) (k + 1) ((un s (k + 1)).map (Value.int .u8)) := by
            rw [un, B0.out, B1.out, List.map_append]; exact hown'
          have R2 := below_append hbel (Nat.le_refl _) hown hgrow
          clear hown' hgrow hown hbel HG
          go_wp2
          go_roundw
          case rel => first | exact ⟨k + 1, by omega, by go_num, rfl, R1, R2, HG2⟩ | ((repeat apply Exists.intro); exact ⟨⟨k + 1, by omega, by go_num, rfl, R1, R2, HG2⟩, rfl⟩)
          case measure => simp [intOf]; omega
    · have hkm : k = m := by omega
      subst hkm
      by_cases hodd : s.size = 2 * k
      · have HU : Hid (uRes s = (strOfNums (un s k), true)) := by
          have := uRes_yes s ⟨by omega, by rw [hodd]; exact HG.out⟩
          rw [show s.size / 2 = k by omega] at this
          exact this
        have hconv := run_string_of_own (un s k) (un_length s k).symm hown
        have hne : (2 * (k : Int) != (s.size : Int)) = false := by simp; omega
        clear hown hodd
        go_wp2
        try rw [Exit.noGoto_ret]
        go_ret2
        exact ⟨ret_sb HU.out.symm, hbel⟩
      · have HU : Hid (uRes s = (⟨#[]⟩, false)) := uRes_odd s (by omega)
        have hne : (2 * (k : Int) != (s.size : Int)) = true := by simp; omega
        clear hown hodd
        go_wp2
        try rw [Exit.noGoto_ret]
        go_ret2
        exact ⟨ret_sb HU.out.symm, hbel⟩

set_option maxHeartbeats 400000 in
theorem lawUn (s : ByteArray) (w : World) (hm : s.size ≤ maxLen) :
    Calls Try.prog 8 #[.string s] w fun e w' => e = .returned (.bool true) ∧ Below w.heap.size w w' := by
  unfold maxLen at hm
  by_cases hbig : (1048576 : Int) < (s.size : Int)
  · go_enter Try.func8, Try.ntmps8
    go_wp2_with fail
    go_ret
    exact ⟨rfl, Below.refl _ _⟩
  · have hs : s.size ≤ 1048576 := by omega
    obtain ⟨r, hr⟩ : ∃ r, r = uRes s := ⟨_, rfl⟩
    obtain ⟨ra, rb⟩ := r
    have H1 := fun w => specUn_any s w hs
    have H2 := fun w => implUn_any s w hs
    rw [← hr] at H1 H2
    have K1 := fun w => H1 w
    clear hr
    go_enter Try.func8, Try.ntmps8
    go_wp2_with fail
    refine (H1 _).mono ?_
    rintro e w1 ⟨rfl, b1⟩
    go_wp2_with fail
    refine (H2 _).mono ?_
    rintro e w2 ⟨rfl, b2⟩
    have b3 := b1.trans (b2.mono b1.size)
    clear b1 b2 H1 H2 K1
    go_wp2
    go_ret
    exact ⟨rfl, b3⟩

end Go.Proofs.Ytdhiobfalffebai
