/- The walks of the two that read bytes told by two signs each. -/
import Derived.Test.YtdhiobfalffebabHexWalk
import Derived.Test.YtdhiobfalffebabUnMath
namespace Go.Proofs.Ytdhiobfalffebab
open Go.RowKit
set_option linter.unusedVariables false

theorem ret_sb {a b : ByteArray} {c d : Bool} (h : (a, c) = (b, d)) : Ending.returned (.tuple #[.string a, .bool c]) = .returned (.tuple #[.string b, .bool d]) := by
  injection h with h1 h2; rw [h1, h2]

set_option maxHeartbeats 1000000 in
set_option maxRecDepth 100000 in
theorem index_lite (c : Int) (w : World) (h0 : 0 ≤ c) (h1 : c < 256) :
    Calls Try.prog 29 #[.string ⟨#[48, 49, 50, 51, 52, 53, 54, 55, 56, 57, 97, 98, 99, 100, 101, 102]⟩, .int .u8 c] w fun e w' => e = .returned (.int .i64 (unhexd c)) ∧ w' = w := by
  go_enter Try.func29, Try.ntmps29
  go_wp2
  rw [run_callFunc_extern Try.func32 (by kernel_rfl) (by kernel_rfl) (by kernel_rfl) (e := Extern.BytealgIndexByte.indexByte) (by kernel_rfl), Lib.run_indexByteString]
  simp only [Result.andThen]
  rw [Oper.upon_value, index_hex c h0 h1]
  go_wp2
  go_ret
  exact ⟨rfl, rfl⟩

set_option maxHeartbeats 400000 in
theorem index_any (c : Int) (w : World) (h0 : 0 ≤ c) (h1 : c < 256) :
    Calls Try.prog 21 #[.string ⟨#[48, 49, 50, 51, 52, 53, 54, 55, 56, 57, 97, 98, 99, 100, 101, 102]⟩, .int .u8 c] w fun e w' => e = .returned (.int .i64 (unhexd c)) ∧ w' = w := by
  go_enter Try.func21, Try.ntmps21
  go_wp2_with fail
  refine (index_lite c _ h0 h1).mono ?_
  rintro e w' ⟨rfl, rfl⟩
  go_wp2
  go_ret
  exact ⟨rfl, rfl⟩


set_option maxHeartbeats 1000000 in
set_option maxRecDepth 100000 in
theorem implUn_any (s : ByteArray) (w : World) (hs : s.size ≤ 1048576) :
    Calls Try.prog 13 #[.string s] w fun e w' => e = .returned (.tuple #[.string (uRes s).1, .bool (uRes s).2]) ∧ Below w.heap.size w w' := by
  obtain ⟨m, hm⟩ : ∃ m, m = s.size / 2 := ⟨_, rfl⟩
  have hm1 : s.size ≤ 2 * m + 1 := by omega
  have hm2 : 2 * m ≤ s.size := by omega
  have hmi : (s.size : Int) / 2 = m := by omega
  clear hm
  obtain ⟨i0, hi, hz0, hz1, hz2⟩ := info_parts info5
  go_enter Try.func13, Try.ntmps13
  go_wp2
  go_step3
  go_wp2_with (first | (at_make; refine wpList_make_own _ rfl _ _ 22 rfl w.heap.size 5 i0 (.int .u8 0) 1 Try.underlying22 hi hz0 hz1 .i64 .i64 _ m rfl rfl rfl (by rw [hz2]; omega) (by unfold maxLen; omega) (Nat.le_refl _) ?_))
  intro w0 hown0 hgrow0
  have hbel0 : Below w.heap.size w w0 := (Below.refl _ _).grown hgrow0 (Nat.le_refl _) (by simp)
  clear hgrow0
  go_wp2
  go_step3
  go_wp2
  go_loopw [4, 16] (fun v i wr => ∃ k : Nat, k ≤ m ∧ i = .int .i64 k ∧ v = .slice (some ⟨w.heap.size, 0, none⟩) k m ∧ wr.ownsRow w.heap.size 5 1 (.slice (some ⟨w.heap.size, 0, none⟩) k m) k ((un s k).map (Value.int .u8)) ∧ Below w.heap.size w wr ∧ Hid (Good s (2 * k))) (fun _ i _ => m - (intOf i).toNat)
  case atStart => exact ⟨0, Nat.zero_le _, rfl, rfl, hown0, hbel0, fun i hi => by omega⟩
  case round =>
    obtain ⟨k, hk, rfl, rfl, hown, hbel, HG⟩ := hrel
    have hsz := hbel.size
    by_cases hlt : k < m
    · have B0 : Hid (byteAt s (2 * k) = ((s[2 * k]).toNat : Int)) := byteAt_eq s (2 * k) (by omega)
      have B1 : Hid (byteAt s (2 * k + 1) = ((s[2 * k + 1]).toNat : Int)) := byteAt_eq s (2 * k + 1) (by omega)
      obtain ⟨g0l, g0h⟩ := unhexd_range ((s[2 * k]).toNat : Int)
      obtain ⟨g1l, g1h⟩ := unhexd_range ((s[2 * k + 1]).toNat : Int)
      have y0 := (byteAt_range s (2 * k)).2
      have y1 := (byteAt_range s (2 * k + 1)).2
      rw [B0.out] at y0
      rw [B1.out] at y1
      have hk1 : 2 * (k : Int) + 1 < s.size := by omega
      go_wp2
      go_loop [6, 19] (fun b j => (j = .int .i64 0 ∧ b = .int .i64 0) ∨ (j = .int .i64 1 ∧ b = .int .i64 (unhexd ((s[2 * k]).toNat : Int)) ∧ 0 ≤ unhexd ((s[2 * k]).toNat : Int)) ∨ (j = .int .i64 2 ∧ b = .int .i64 (16 * unhexd ((s[2 * k]).toNat : Int) + unhexd ((s[2 * k + 1]).toNat : Int)) ∧ 0 ≤ unhexd ((s[2 * k]).toNat : Int) ∧ 0 ≤ unhexd ((s[2 * k + 1]).toNat : Int))) (fun _ j => 2 - (intOf j).toNat)
      case atStart => exact .inl ⟨rfl, rfl⟩
      case round =>
        rcases hrel with ⟨rfl, rfl⟩ | ⟨rfl, rfl, d0⟩ | ⟨rfl, rfl, d0, d1⟩
        · by_cases c0 : unhexd ((s[2 * k]).toNat : Int) < 0
          · have HU : Hid (uRes s = (⟨#[]⟩, false)) := uRes_bad s (2 * k) (by omega) (by rw [B0.out]; exact c0)
            go_wp2_with (go_at_call 21; refine (index_any _ _ (by omega) (by omega)).mono ?_; rintro e w' ⟨rfl, hq⟩; replace hq := hq.symm; subst hq)
            try rw [Exit.noGoto_ret]
            go_ret2
            exact ⟨ret_sb HU.out.symm, hbel⟩
          · go_wp2_with (go_at_call 21; refine (index_any _ _ (by omega) (by omega)).mono ?_; rintro e w' ⟨rfl, hq⟩; replace hq := hq.symm; subst hq)
            go_round
            case rel => exact .inr (.inl ⟨rfl, by go_num, by omega⟩)
            case measure => simp [intOf]
        · by_cases c1 : unhexd ((s[2 * k + 1]).toNat : Int) < 0
          · have HU : Hid (uRes s = (⟨#[]⟩, false)) := uRes_bad s (2 * k + 1) (by omega) (by rw [B1.out]; exact c1)
            go_wp2_with (go_at_call 21; refine (index_any _ _ (by omega) (by omega)).mono ?_; rintro e w' ⟨rfl, hq⟩; replace hq := hq.symm; subst hq)
            try rw [Exit.noGoto_ret]
            go_ret2
            exact ⟨ret_sb HU.out.symm, hbel⟩
          · go_wp2_with (go_at_call 21; refine (index_any _ _ (by omega) (by omega)).mono ?_; rintro e w' ⟨rfl, hq⟩; replace hq := hq.symm; subst hq)
            go_round
            case rel => exact .inr (.inr ⟨rfl, by go_num, d0, by omega⟩)
            case measure => simp [intOf]
        · have HG2 : Hid (Good s (2 * (k + 1))) := HG.out.two (by rw [B0.out]; omega) (by rw [B1.out]; omega)
          go_wp2_with (at_builtin; refine wpList_append_fits _ rfl _ _ 22 rfl w.heap.size 5 i0 1 Try.underlying22 hi hz1 w.heap.size k m _ rfl (hown.alloc _) ⟨wr.heap.size, 0, none⟩ 1 1 [.int .u8 (16 * unhexd ((s[2 * k]).toNat : Int) + unhexd ((s[2 * k + 1]).toNat : Int))] rfl rfl (cell_one_new _ _ _) (by intro u hu; simp at hu; subst hu; rfl) (by omega) ?_)
          intro w1 hown' hgrow
          have R1 : w1.ownsRow w.heap.size 5 1 (.slice (some ⟨w.heap.size, 0, none⟩) (k + 1) m) (k + 1) ((un s (k + 1)).map (Value.int .u8)) := by
            rw [un, B0.out, B1.out, List.map_append]; exact hown'
          have R2 := below_append hbel (Nat.le_refl _) hown hgrow
          clear hown' hgrow hown hbel HG
          go_wp2
          go_roundw
          case rel => first | exact ⟨k + 1, by omega, by go_num, rfl, R1, R2, HG2⟩ | ((repeat apply Exists.intro); exact ⟨⟨k + 1, by omega, by go_num, rfl, R1, R2, HG2⟩, rfl⟩)
          case measure => simp [intOf]; omega
    · have hkm : k = m := by omega
      subst hkm
      by_cases hodd : s.size = 2 * k
      · have HU : Hid (uRes s = (strOfNums (un s k), true)) := by
          have := uRes_yes s ⟨by omega, by rw [hodd]; exact HG.out⟩
          rw [show s.size / 2 = k by omega] at this
          exact this
        have hconv := run_string_of_own (un s k) (un_length s k).symm hown
        have hne : (2 * (k : Int) != (s.size : Int)) = false := by simp; omega
        clear hown hodd
        go_wp2
        try rw [Exit.noGoto_ret]
        go_ret2
        exact ⟨ret_sb HU.out.symm, hbel⟩
      · have HU : Hid (uRes s = (⟨#[]⟩, false)) := uRes_odd s (by omega)
        have hne : (2 * (k : Int) != (s.size : Int)) = true := by simp; omega
        clear hown hodd
        go_wp2
        try rw [Exit.noGoto_ret]
        go_ret2
        exact ⟨ret_sb HU.out.symm, hbel⟩

end Go.Proofs.Ytdhiobfalffebab
