/- The walks of the two that tell a number in decimal digits. -/
import Derived.Test.YtdhiobfalffebajOwnLaws
import Derived.Test.YtdhiobfalffebajDecMath
import Derived.OpenShut
namespace Go.Proofs.Ytdhiobfalffebaj
open Go.RowKit
set_option linter.unusedVariables false

theorem add_dl (m : Int) (k : Nat) (hk : k ≤ 30) : ∀ w, (Op.stringOp .add (strOfNums [48 + dq m k % 10]) (strOfNums (dl m k))).run Try.prog w = .ok (.string (strOfNums (dl m (k + 1)))) w := fun w =>
  run_add_nums [48 + dq m k % 10] (dl m k) (by rw [dl_length]; simp; omega) w

set_option maxHeartbeats 400000 in
theorem specDec_zero (w : World) :
    Calls Try.prog 5 #[.int .i64 0] w fun e w' => e = .returned (.string (strOfNums (decL 0))) ∧ Below w.heap.size w w' := by
  have HD : Hid (strOfNums (decL 0) = ⟨#[48]⟩) := by show strOfNums (decL 0) = _; unfold decL; rw [if_neg (by omega), decN_last 0 (by omega)]; rfl
  go_enter Try.func5, Try.ntmps5
  go_wp2
  go_ret
  exact ⟨ret_str HD.out.symm, Below.refl _ _⟩

set_option maxHeartbeats 400000 in
theorem specDec_pos (n : Int) (w : World) (h0 : 0 < n) (h1 : n ≤ 9223372036854775807) :
    Calls Try.prog 5 #[.int .i64 n] w fun e w' => e = .returned (.string (strOfNums (decL n))) ∧ Below w.heap.size w w' := by
  have HD : Hid (decL n = decN n) := by show decL n = decN n; unfold decL; rw [if_neg (by omega)]
  have hz : (n == 0) = false := by simp; omega
  go_enter Try.func5, Try.ntmps5
  go_wp2
  go_loopw [0, 3] (fun m v wr => ∃ k : Nat, m = .int .i64 (dq n k) ∧ v = .string (strOfNums (dl n k)) ∧ Below w.heap.size w wr ∧ Hid (k = 0 ∨ 1 ≤ dq n (k - 1))) (fun m _ _ => (intOf m).toNat)
  case atStart => exact ⟨0, rfl, rfl, Below.refl _ _, .inl rfl⟩
  case round =>
    obtain ⟨k, rfl, rfl, hbel, HK⟩ := hrel
    have hsz := hbel.size
    have f0 := dq_nonneg n (by omega) k
    have f1 := dq_le n (by omega) k
    by_cases hq : dq n k = 0
    · have hk0 : ∃ j, k = j + 1 := by
        rcases k with _ | j
        · simp only [dq] at hq; omega
        · exact ⟨j, rfl⟩
      obtain ⟨j, rfl⟩ := hk0
      have HE : Hid (decN n = dl n (j + 1)) := dec_end n j (by rcases HK.out with h | h; omega; exact .inl h) (by omega) (by omega)
      have ht : (dq n (j + 1) != 0) = false := by simp [hq]
      clear hq HK
      go_wp2
      go_ret
      exact ⟨ret_str (by rw [HD.out, HE.out]), hbel⟩
    · have ht : (dq n k != 0) = true := by simp [hq]
      have hk18 := dq_le18 n (by omega) (by omega) k (by omega)
      have hp : 1 ≤ dq n k := by omega
      have hco := conv_one wr
      have had := add_dl n k (by omega)
      clear hq HK
      go_wp2
      go_roundw
      case rel => exact ⟨k + 1, rfl, rfl, hbel.alloc (by omega) _, .inr hp⟩
      case measure => simp [intOf]; omega

set_option maxHeartbeats 400000 in
theorem specDec_neg (n : Int) (w : World) (h0 : n < 0) (h1 : -9223372036854775808 ≤ n) :
    Calls Try.prog 5 #[.int .i64 n] w fun e w' => e = .returned (.string (strOfNums (decL n))) ∧ Below w.heap.size w w' := by
  obtain ⟨m, hm⟩ : ∃ m, m = -n := ⟨_, rfl⟩
  obtain rfl : n = -m := by omega
  have HD : Hid (decL (-m) = 45 :: decN m) := by show decL (-m) = 45 :: decN m; unfold decL; rw [if_pos h0, Int.neg_neg]
  have hz : (-m == 0) = false := by simp; omega
  have hm1 : 1 ≤ m := by omega
  have hm2 : m ≤ 9223372036854775808 := by omega
  clear hm
  go_enter Try.func5, Try.ntmps5
  go_wp2
  go_loopw [0, 3] (fun x v wr => ∃ k : Nat, x = .int .i64 (-(dq m k)) ∧ v = .string (strOfNums (dl m k)) ∧ Below w.heap.size w wr ∧ Hid (k = 0 ∨ 1 ≤ dq m (k - 1))) (fun x _ _ => (-(intOf x)).toNat)
  case atStart => exact ⟨0, rfl, rfl, Below.refl _ _, .inl rfl⟩
  case round =>
    obtain ⟨k, rfl, rfl, hbel, HK⟩ := hrel
    have hsz := hbel.size
    have f0 := dq_nonneg m (by omega) k
    have f1 := dq_le m (by omega) k
    by_cases hq : dq m k = 0
    · have hk0 : ∃ j, k = j + 1 := by
        rcases k with _ | j
        · simp only [dq] at hq; omega
        · exact ⟨j, rfl⟩
      obtain ⟨j, rfl⟩ := hk0
      have HE : Hid (decN m = dl m (j + 1)) := dec_end m j (by rcases HK.out with h | h; omega; exact .inl h) (by omega) (by omega)
      have hj : j ≤ 18 := by
        rcases HK.out with h | h
        · omega
        · exact dq_le18 m (by omega) (by omega) j h
      have had : ∀ w, (Op.stringOp .add ⟨#[45]⟩ (strOfNums (dl m (j + 1)))).run Try.prog w = .ok (.string (strOfNums (45 :: dl m (j + 1)))) w := fun w =>
        run_add_nums [45] (dl m (j + 1)) (by rw [dl_length]; simp; omega) w
      have ht : (-(dq m (j + 1)) != 0) = false := by simp [hq]
      clear hq HK
      go_wp2
      go_ret
      exact ⟨ret_str (by rw [HD.out, HE.out]), hbel⟩
    · have ht : (-(dq m k) != 0) = true := by simp [hq]
      have hk18 := dq_le18 m (by omega) (by omega) k (by omega)
      have hp : 1 ≤ dq m k := by omega
      have hco := conv_one wr
      have had := add_dl m k (by omega)
      have t1 : (-(dq m k)).tmod 10 = -(dq m k % 10) := by rw [Int.neg_tmod, Int.tmod_eq_emod_of_nonneg f0]
      have t2 : (-(dq m k)).tdiv 10 = -(dq m k / 10) := by rw [Int.neg_tdiv, Int.tdiv_eq_ediv_of_nonneg f0]
      clear hq HK
      by_cases hd : dq m k % 10 = 0
      · have hd1 : ¬ (-(dq m k % 10) < 0) := by omega
        have had0 : ∀ w, (Op.stringOp .add (strOfNums [48]) (strOfNums (dl m k))).run Try.prog w = .ok (.string (strOfNums (dl m (k + 1)))) w := by
          have h := add_dl m k (by omega); rw [hd] at h; exact h
        clear had
        go_wp2
        go_roundw
        case rel => exact ⟨k + 1, by go_num, rfl, hbel.alloc (by omega) _, .inr hp⟩
        case measure => simp [intOf]; omega
      · have hd1 : -(dq m k % 10) < 0 := by omega
        clear hd
        go_wp2
        go_roundw
        case rel => exact ⟨k + 1, by go_num, rfl, hbel.alloc (by omega) _, .inr hp⟩
        case measure => simp [intOf]; omega

theorem dl_cell (m : Int) (k : Nat) (h : k < 20) : ((List.replicate (20 - k) 0 ++ dl m k).map (Value.int .u8))[20 - k - 1]? = some (.int .u8 0) := by
  rw [List.map_append, List.getElem?_append_left (by simp; omega), List.map_replicate, List.getElem?_replicate_of_lt (by omega)]

/-- out[j:], out an array of twenty bytes. -/
theorem run_cut (g j n : Nat) (l : Int) (hl : l = (j : Int)) (hj : n + j = 20) (hn : 0 < n) (w : World) :
    (Instr.sliceAt 29 (.pointer (some ⟨g, 0, none⟩)) (some (.int .i64 l)) none none).run Try.prog w = .ok (.slice (some ⟨g, j, none⟩) n n) w := by
  subst hl
  have h20 : Try.prog.arrayLen 29 = 20 := by kernel_rfl
  have hs : (sizeOf (Try.prog.elem 29)).run Try.prog w = .ok 1 w := by kernel_rfl
  have e1 : 20 - j = n := by omega
  have e2 : ¬ (20 = j) := by omega
  rw [run_sliceAt_array_l w 29 _ (by kernel_rfl) .i64 _ (by omega) (by rw [h20]; omega), hs]
  simp [slicedAt, h20, Result.andThen, Addr.add, e1, e2]
  omega

/-- string(out[j:]), out an array of twenty bytes of the call's own. -/
theorem run_tail {w : World} {B : Nat} (g : Nat) (xs : List Int) (j : Nat) (hl : xs.length + j = 20) (cap : Nat)
    (h : w.ownsRow B 29 1 (.slice (some ⟨g, 0, none⟩) 20 20) 20 ((List.replicate j 0 ++ xs).map (Value.int .u8))) :
    (convert 27 9 (.slice (some ⟨g, j, none⟩) xs.length cap)).run Try.prog w = .ok (.string (strOfNums xs)) w := by
  refine run_convert_bytes_arg w 27 5 Try.underlying27 Try.underlying5 g j xs.length cap xs rfl (fun i hi => ?_) 9 Try.underlying9
  rw [h.cellAt (j + i) (by omega), List.map_append, List.getElem?_append_right (by simp)]
  simp [List.getD, List.getElem?_eq_getElem hi]

set_option maxHeartbeats 1000000 in
theorem implDec_pos (n : Int) (w : World) (h0 : 0 ≤ n) (h1 : n ≤ 9223372036854775807) :
    Calls Try.prog 6 #[.int .i64 n] w fun e w' => e = .returned (.string (strOfNums (decL n))) ∧ Below w.heap.size w w' := by
  have HD : Hid (decL n = decN n) := by show decL n = decN n; unfold decL; rw [if_neg (by omega)]
  go_enter Try.func6, Try.ntmps6
  go_wp2
  go_loopw [3, 5, 12] (fun l at_ i wr => ∃ k : Nat, k ≤ 18 ∧ i = .int .i64 k ∧ at_ = .int .i64 (20 - (k : Int)) ∧ l = .int .u64 (dq n k) ∧ wr.ownsRow w.heap.size 29 1 (.slice (some ⟨w.heap.size, 0, none⟩) 20 20) 20 ((List.replicate (20 - k) 0 ++ dl n k).map (Value.int .u8)) ∧ Below w.heap.size w wr ∧ Hid (k = 0 ∨ 1 ≤ dq n k)) (fun _ _ i _ => 19 - (intOf i).toNat)
  case atStart => exact ⟨0, by omega, rfl, rfl, rfl, World.ownsRow_lit w _ 20 (Nat.le_refl _) (by decide) rfl, (Below.refl _ _).alloc (Nat.le_refl _) _, .inl rfl⟩
  case round =>
    obtain ⟨k, hk, rfl, rfl, rfl, hown, hbel, HK⟩ := hrel
    have hsz := hbel.size
    have f0 := dq_nonneg n (by omega) k
    have f1 := dq_le n (by omega) k
    have hcl : wr.cell? ⟨w.heap.size, 20 - k - 1, none⟩ = some (.int .u8 0) := by
      rw [hown.cellAt (20 - k - 1) (by omega)]
      exact dl_cell n k (by omega)
    have hfz := hown.frozenAt (20 - k - 1)
    have hst := hown.stored (20 - k - 1) (.int .u8 (48 + dq n k % 10))
    have R1 : (wr.setCell ⟨w.heap.size, 20 - k - 1, none⟩ (.int .u8 (48 + dq n k % 10))).ownsRow w.heap.size 29 1 (.slice (some ⟨w.heap.size, 0, none⟩) 20 20) 20 ((List.replicate (20 - (k + 1)) 0 ++ dl n (k + 1)).map (Value.int .u8)) := by
      rw [← dl_set n k (by omega), List.map_set]
      exact hst.1
    have R2 : Below w.heap.size w (wr.setCell ⟨w.heap.size, 20 - k - 1, none⟩ (.int .u8 (48 + dq n k % 10))) := hbel.setCell (Nat.le_refl _) _
    clear hst
    by_cases hq : dq n k / 10 = 0
    · have ht : (dq n k / 10 == 0) = true := by simp [hq]
      have HE : Hid (decN n = dl n (k + 1)) := dec_end n k (by rcases HK.out with h | h; exact .inr h; exact .inl h) (by simp only [dq]; omega) (by omega)
      clear hq HK
      have hsl := run_cut w.heap.size (20 - k - 1) (k + 1) (20 - (k : Int) - 1) (by omega) (by omega) (by omega)
      have hcv := run_tail w.heap.size (dl n (k + 1)) (20 - (k + 1)) (by rw [dl_length]; omega) (k + 1) R1
      rw [dl_length] at hcv
      have hcv' : (convert 27 9 (.slice (some ⟨w.heap.size, 20 - k - 1, none⟩) (k + 1) (k + 1))).run Try.prog (wr.setCell ⟨w.heap.size, 20 - k - 1, none⟩ (.int .u8 (48 + dq n k % 10))) = .ok (.string (strOfNums (dl n (k + 1)))) (wr.setCell ⟨w.heap.size, 20 - k - 1, none⟩ (.int .u8 (48 + dq n k % 10))) := hcv
      clear hcv R1 hown
      go_wp2
      go_ret
      exact ⟨ret_str (by rw [HD.out, HE.out]), R2⟩
    · have ht : (dq n k / 10 == 0) = false := by simp [hq]
      have hp : 1 ≤ dq n (k + 1) := by simp only [dq]; omega
      have hk18 := dq_le18 n (by omega) (by omega) (k + 1) hp
      clear hq HK
      go_wp2
      go_roundw
      case rel => first | exact ⟨k + 1, by omega, by go_num, by go_num, rfl, R1, R2, .inr hp⟩ | ((repeat apply Exists.intro); exact ⟨⟨k + 1, by omega, by go_num, by go_num, rfl, R1, R2, .inr hp⟩, rfl⟩)
      case measure => simp [intOf]; omega

theorem neg_u64 (m : Int) (h0 : 0 ≤ m) (h1 : m ≤ 9223372036854775808) : IntKind.u64.wrap (-IntKind.u64.wrap (-m)) = m := by
  rw [IntKind.wrap_u64, IntKind.wrap_u64]; omega

set_option maxHeartbeats 1000000 in
theorem implDec_neg (m : Int) (w : World) (h0 : 1 ≤ m) (h1 : m ≤ 9223372036854775808) :
    Calls Try.prog 6 #[.int .i64 (-m)] w fun e w' => e = .returned (.string (strOfNums (decL (-m)))) ∧ Below w.heap.size w w' := by
  have HD : Hid (decL (-m) = 45 :: decN m) := by show decL (-m) = 45 :: decN m; unfold decL; rw [if_pos (by omega), Int.neg_neg]
  have hwr : IntKind.u64.wrap (-IntKind.u64.wrap (-m)) = m := neg_u64 m (by omega) h1
  go_enter Try.func6, Try.ntmps6
  go_wp2
  go_loopw [3, 5, 12] (fun l at_ i wr => ∃ k : Nat, k ≤ 18 ∧ i = .int .i64 k ∧ at_ = .int .i64 (20 - (k : Int)) ∧ l = .int .u64 (dq m k) ∧ wr.ownsRow w.heap.size 29 1 (.slice (some ⟨w.heap.size, 0, none⟩) 20 20) 20 ((List.replicate (20 - k) 0 ++ dl m k).map (Value.int .u8)) ∧ Below w.heap.size w wr ∧ Hid (k = 0 ∨ 1 ≤ dq m k)) (fun _ _ i _ => 19 - (intOf i).toNat)
  case atStart => exact ⟨0, by omega, rfl, rfl, rfl, World.ownsRow_lit w _ 20 (Nat.le_refl _) (by decide) rfl, (Below.refl _ _).alloc (Nat.le_refl _) _, .inl rfl⟩
  case round =>
    obtain ⟨k, hk, rfl, rfl, rfl, hown, hbel, HK⟩ := hrel
    have hsz := hbel.size
    have f0 := dq_nonneg m (by omega) k
    have f1 := dq_le m (by omega) k
    have hcl : wr.cell? ⟨w.heap.size, 20 - k - 1, none⟩ = some (.int .u8 0) := by
      rw [hown.cellAt (20 - k - 1) (by omega)]
      exact dl_cell m k (by omega)
    have hfz := hown.frozenAt (20 - k - 1)
    have hst := hown.stored (20 - k - 1) (.int .u8 (48 + dq m k % 10))
    have R1 : (wr.setCell ⟨w.heap.size, 20 - k - 1, none⟩ (.int .u8 (48 + dq m k % 10))).ownsRow w.heap.size 29 1 (.slice (some ⟨w.heap.size, 0, none⟩) 20 20) 20 ((List.replicate (20 - (k + 1)) 0 ++ dl m (k + 1)).map (Value.int .u8)) := by
      rw [← dl_set m k (by omega), List.map_set]
      exact hst.1
    have R2 : Below w.heap.size w (wr.setCell ⟨w.heap.size, 20 - k - 1, none⟩ (.int .u8 (48 + dq m k % 10))) := hbel.setCell (Nat.le_refl _) _
    clear hst
    by_cases hq : dq m k / 10 = 0
    · have ht : (dq m k / 10 == 0) = true := by simp [hq]
      have HE : Hid (decN m = dl m (k + 1)) := dec_end m k (by rcases HK.out with h | h; exact .inr h; exact .inl h) (by simp only [dq]; omega) (by omega)
      clear hq HK
      have hcl2 : (wr.setCell ⟨w.heap.size, 20 - k - 1, none⟩ (.int .u8 (48 + dq m k % 10))).cell? ⟨w.heap.size, 20 - k - 1 - 1, none⟩ = some (.int .u8 0) := by
        rw [R1.cellAt (20 - k - 1 - 1) (by omega)]
        exact dl_cell m (k + 1) (by omega)
      have hfz2 := R1.frozenAt (20 - k - 1 - 1)
      have hst2 := R1.stored (20 - k - 1 - 1) (.int .u8 45)
      have S1 := hst2.1
      rw [← List.map_set (f := Value.int .u8)] at S1
      have S2 : Below w.heap.size w ((wr.setCell ⟨w.heap.size, 20 - k - 1, none⟩ (.int .u8 (48 + dq m k % 10))).setCell ⟨w.heap.size, 20 - k - 1 - 1, none⟩ (.int .u8 45)) := R2.setCell (Nat.le_refl _) _
      have e20 : (List.replicate (20 - (k + 1)) 0 ++ dl m (k + 1)).set (20 - k - 1 - 1) 45 = List.replicate (20 - (k + 2)) 0 ++ (45 :: dl m (k + 1)) := dl_set_sign m (k + 1) (by omega)
      rw [e20] at S1
      have hsl := run_cut w.heap.size (20 - k - 1 - 1) (k + 2) (20 - (k : Int) - 1 - 1) (by omega) (by omega) (by omega)
      have hcv := run_tail w.heap.size (45 :: dl m (k + 1)) (20 - (k + 2)) (by rw [List.length_cons, dl_length]; omega) (k + 2) S1
      rw [List.length_cons, dl_length] at hcv
      have hcv' : (convert 27 9 (.slice (some ⟨w.heap.size, 20 - k - 1 - 1, none⟩) (k + 2) (k + 2))).run Try.prog ((wr.setCell ⟨w.heap.size, 20 - k - 1, none⟩ (.int .u8 (48 + dq m k % 10))).setCell ⟨w.heap.size, 20 - k - 1 - 1, none⟩ (.int .u8 45)) = .ok (.string (strOfNums (45 :: dl m (k + 1)))) ((wr.setCell ⟨w.heap.size, 20 - k - 1, none⟩ (.int .u8 (48 + dq m k % 10))).setCell ⟨w.heap.size, 20 - k - 1 - 1, none⟩ (.int .u8 45)) := hcv
      clear hcv S1 R1 hown hst2 e20 R2
      go_wp2
      go_ret
      exact ⟨ret_str (by rw [HD.out, HE.out]), S2⟩
    · have ht : (dq m k / 10 == 0) = false := by simp [hq]
      have hp : 1 ≤ dq m (k + 1) := by simp only [dq]; omega
      have hk18 := dq_le18 m (by omega) (by omega) (k + 1) hp
      clear hq HK
      go_wp2
      go_roundw
      case rel => first | exact ⟨k + 1, by omega, by go_num, by go_num, rfl, R1, R2, .inr hp⟩ | ((repeat apply Exists.intro); exact ⟨⟨k + 1, by omega, by go_num, by go_num, rfl, R1, R2, .inr hp⟩, rfl⟩)
      case measure => simp [intOf]; omega


theorem specDec_any (n : Int) (w : World) (h0 : -9223372036854775808 ≤ n) (h1 : n ≤ 9223372036854775807) :
    Calls Try.prog 5 #[.int .i64 n] w fun e w' => e = .returned (.string (strOfNums (decL n))) ∧ Below w.heap.size w w' := by
  rcases Int.lt_trichotomy n 0 with h | h | h
  · exact specDec_neg n w h h0
  · subst h; exact specDec_zero w
  · exact specDec_pos n w h h1

theorem implDec_any (n : Int) (w : World) (h0 : -9223372036854775808 ≤ n) (h1 : n ≤ 9223372036854775807) :
    Calls Try.prog 6 #[.int .i64 n] w fun e w' => e = .returned (.string (strOfNums (decL n))) ∧ Below w.heap.size w w' := by
  by_cases h : n < 0
  · have := implDec_neg (-n) w (by omega) (by omega)
    rw [Int.neg_neg] at this
    exact this
  · exact implDec_pos n w (by omega) h1

set_option maxHeartbeats 400000 in
theorem lawDec (n : Int) (w : World) (hn : (Lit.int .i64 n).wf = true) :
    Calls Try.prog 3 #[.int .i64 n] w fun e w' => e = .returned (.bool true) ∧ Below w.heap.size w w' := by
  obtain ⟨h0, h1⟩ := bounds_i64 hn
  clear hn
  go_enter Try.func3, Try.ntmps3
  go_wp2_with fail
  refine (specDec_any n _ h0 h1).mono ?_
  rintro e w1 ⟨rfl, b1⟩
  go_wp2_with fail
  refine (implDec_any n _ h0 h1).mono ?_
  rintro e w2 ⟨rfl, b2⟩
  have b3 := b1.trans (b2.mono b1.size)
  clear b1 b2
  go_wp2
  go_ret
  exact ⟨rfl, b3⟩

end Go.Proofs.Ytdhiobfalffebaj
