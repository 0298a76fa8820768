/- The walks of the two that tell a number in decimal digits. -/
import Derived.Test.YtdhiobfalffebabOwnLaws
import Derived.Test.YtdhiobfalffebabDecMath
import Derived.OpenShut
namespace Go.Proofs.Ytdhiobfalffebab
open Go.RowKit
set_option linter.unusedVariables false

theorem add_dl (m : Int) (k : Nat) (hk : k ≤ 30) : ∀ w, (Op.stringOp .add (strOfNums [48 + dq m k % 10]) (strOfNums (dl m k))).run Try.prog w = .ok (.string (strOfNums (dl m (k + 1)))) w := fun w =>
  run_add_nums [48 + dq m k % 10] (dl m k) (by rw [dl_length]; simp; omega) w

theorem dl_cell (m : Int) (k : Nat) (h : k < 20) : ((List.replicate (20 - k) 0 ++ dl m k).map (Value.int .u8))[20 - k - 1]? = some (.int .u8 0) := by
  rw [List.map_append, List.getElem?_append_left (by simp; omega), List.map_replicate, List.getElem?_replicate_of_lt (by omega)]

/-- out[j:], out an array of twenty bytes. -/
theorem run_cut (g j n : Nat) (l : Int) (hl : l = (j : Int)) (hj : n + j = 20) (hn : 0 < n) (w : World) :
    (Instr.sliceAt 44 (.pointer (some ⟨g, 0, none⟩)) (some (.int .i64 l)) none none).run Try.prog w = .ok (.slice (some ⟨g, j, none⟩) n n) w := by
  subst hl
  have h20 : Try.prog.arrayLen 44 = 20 := by kernel_rfl
  have hs : (sizeOf (Try.prog.elem 44)).run Try.prog w = .ok 1 w := by kernel_rfl
  have e1 : 20 - j = n := by omega
  have e2 : ¬ (20 = j) := by omega
  rw [run_sliceAt_array_l w 44 _ (by kernel_rfl) .i64 _ (by omega) (by rw [h20]; omega), hs]
  simp [slicedAt, h20, Result.andThen, Addr.add, e1, e2]
  omega

/-- string(out[j:]), out an array of twenty bytes of the call's own. -/
theorem run_tail {w : World} {B : Nat} (g : Nat) (xs : List Int) (j : Nat) (hl : xs.length + j = 20) (cap : Nat)
    (h : w.ownsRow B 44 1 (.slice (some ⟨g, 0, none⟩) 20 20) 20 ((List.replicate j 0 ++ xs).map (Value.int .u8))) :
    (convert 22 9 (.slice (some ⟨g, j, none⟩) xs.length cap)).run Try.prog w = .ok (.string (strOfNums xs)) w := by
  refine run_convert_bytes_arg w 22 5 Try.underlying22 Try.underlying5 g j xs.length cap xs rfl (fun i hi => ?_) 9 Try.underlying9
  rw [h.cellAt (j + i) (by omega), List.map_append, List.getElem?_append_right (by simp)]
  simp [List.getD, List.getElem?_eq_getElem hi]

set_option maxHeartbeats 1000000 in
theorem implDec_pos (n : Int) (w : World) (h0 : 0 ≤ n) (h1 : n ≤ 9223372036854775807) :
    Calls Try.prog 12 #[.int .i64 n] w fun e w' => e = .returned (.string (strOfNums (decL n))) ∧ Below w.heap.size w w' := by
  have HD : Hid (decL n = decN n) := by show decL n = decN n; unfold decL; rw [if_neg (by omega)]
  go_enter Try.func12, Try.ntmps12
  go_wp2
  go_loopw [3, 5, 12] (fun l at_ i wr => ∃ k : Nat, k ≤ 18 ∧ i = .int .i64 k ∧ at_ = .int .i64 (20 - (k : Int)) ∧ l = .int .u64 (dq n k) ∧ wr.ownsRow w.heap.size 44 1 (.slice (some ⟨w.heap.size, 0, none⟩) 20 20) 20 ((List.replicate (20 - k) 0 ++ dl n k).map (Value.int .u8)) ∧ Below w.heap.size w wr ∧ Hid (k = 0 ∨ 1 ≤ dq n k)) (fun _ _ i _ => 19 - (intOf i).toNat)
  case atStart => exact ⟨0, by omega, rfl, rfl, rfl, World.ownsRow_lit w _ 20 (Nat.le_refl _) (by decide) rfl, (Below.refl _ _).alloc (Nat.le_refl _) _, .inl rfl⟩
  case round =>
    obtain ⟨k, hk, rfl, rfl, rfl, hown, hbel, HK⟩ := hrel
    have hsz := hbel.size
    have f0 := dq_nonneg n (by omega) k
    have f1 := dq_le n (by omega) k
    have hcl : wr.cell? ⟨w.heap.size, 20 - k - 1, none⟩ = some (.int .u8 0) := by
      rw [hown.cellAt (20 - k - 1) (by omega)]
      exact dl_cell n k (by omega)
    have hfz := hown.frozenAt (20 - k - 1)
    have hst := hown.stored (20 - k - 1) (.int .u8 (48 + dq n k % 10))
    have R1 : (wr.setCell ⟨w.heap.size, 20 - k - 1, none⟩ (.int .u8 (48 + dq n k % 10))).ownsRow w.heap.size 44 1 (.slice (some ⟨w.heap.size, 0, none⟩) 20 20) 20 ((List.replicate (20 - (k + 1)) 0 ++ dl n (k + 1)).map (Value.int .u8)) := by
      rw [← dl_set n k (by omega), List.map_set]
      exact hst.1
    have R2 : Below w.heap.size w (wr.setCell ⟨w.heap.size, 20 - k - 1, none⟩ (.int .u8 (48 + dq n k % 10))) := hbel.setCell (Nat.le_refl _) _
    clear hst
    by_cases hq : dq n k / 10 = 0
    · have ht : (dq n k / 10 == 0) = true := by simp [hq]
      have HE : Hid (decN n = dl n (k + 1)) := dec_end n k (by rcases HK.out with h | h; exact .inr h; exact .inl h) (by simp only [dq]; omega) (by omega)
      clear hq HK
      have hsl := run_cut w.heap.size (20 - k - 1) (k + 1) (20 - (k : Int) - 1) (by omega) (by omega) (by omega)
      have hcv := run_tail w.heap.size (dl n (k + 1)) (20 - (k + 1)) (by rw [dl_length]; omega) (k + 1) R1
      rw [dl_length] at hcv
      have hcv' : (convert 22 9 (.slice (some ⟨w.heap.size, 20 - k - 1, none⟩) (k + 1) (k + 1))).run Try.prog (wr.setCell ⟨w.heap.size, 20 - k - 1, none⟩ (.int .u8 (48 + dq n k % 10))) = .ok (.string (strOfNums (dl n (k + 1)))) (wr.setCell ⟨w.heap.size, 20 - k - 1, none⟩ (.int .u8 (48 + dq n k % 10))) := hcv
      clear hcv R1 hown
      go_wp2
      go_ret
      exact ⟨ret_str (by rw [HD.out, HE.out]), R2⟩
    · have ht : (dq n k / 10 == 0) = false := by simp [hq]
      have hp : 1 ≤ dq n (k + 1) := by simp only [dq]; omega
      have hk18 := dq_le18 n (by omega) (by omega) (k + 1) hp
      clear hq HK
      go_wp2
      go_roundw
      case rel => first | exact ⟨k + 1, by omega, by go_num, by go_num, rfl, R1, R2, .inr hp⟩ | ((repeat apply Exists.intro); exact ⟨⟨k + 1, by omega, by go_num, by go_num, rfl, R1, R2, .inr hp⟩, rfl⟩)
      case measure => simp [intOf]; omega

theorem neg_u64 (m : Int) (h0 : 0 ≤ m) (h1 : m ≤ 9223372036854775808) : IntKind.u64.wrap (-IntKind.u64.wrap (-m)) = m := by
  rw [IntKind.wrap_u64, IntKind.wrap_u64]; omega

set_option maxHeartbeats 1000000 in
theorem implDec_neg (m : Int) (w : World) (h0 : 1 ≤ m) (h1 : m ≤ 9223372036854775808) :
    Calls Try.prog 12 #[.int .i64 (-m)] w fun e w' => e = .returned (.string (strOfNums (decL (-m)))) ∧ Below w.heap.size w w' := by
  have HD : Hid (decL (-m) = 45 :: decN m) := by show decL (-m) = 45 :: decN m; unfold decL; rw [if_pos (by omega), Int.neg_neg]
  have hwr : IntKind.u64.wrap (-IntKind.u64.wrap (-m)) = m := neg_u64 m (by omega) h1
  go_enter Try.func12, Try.ntmps12
  go_wp2
  go_loopw [3, 5, 12] (fun l at_ i wr => ∃ k : Nat, k ≤ 18 ∧ i = .int .i64 k ∧ at_ = .int .i64 (20 - (k : Int)) ∧ l = .int .u64 (dq m k) ∧ wr.ownsRow w.heap.size 44 1 (.slice (some ⟨w.heap.size, 0, none⟩) 20 20) 20 ((List.replicate (20 - k) 0 ++ dl m k).map (Value.int .u8)) ∧ Below w.heap.size w wr ∧ Hid (k = 0 ∨ 1 ≤ dq m k)) (fun _ _ i _ => 19 - (intOf i).toNat)
  case atStart => exact ⟨0, by omega, rfl, rfl, rfl, World.ownsRow_lit w _ 20 (Nat.le_refl _) (by decide) rfl, (Below.refl _ _).alloc (Nat.le_refl _) _, .inl rfl⟩
  case round =>
    obtain ⟨k, hk, rfl, rfl, rfl, hown, hbel, HK⟩ := hrel
    have hsz := hbel.size
    have f0 := dq_nonneg m (by omega) k
    have f1 := dq_le m (by omega) k
    have hcl : wr.cell? ⟨w.heap.size, 20 - k - 1, none⟩ = some (.int .u8 0) := by
      rw [hown.cellAt (20 - k - 1) (by omega)]
      exact dl_cell m k (by omega)
    have hfz := hown.frozenAt (20 - k - 1)
    have hst := hown.stored (20 - k - 1) (.int .u8 (48 + dq m k % 10))
    have R1 : (wr.setCell ⟨w.heap.size, 20 - k - 1, none⟩ (.int .u8 (48 + dq m k % 10))).ownsRow w.heap.size 44 1 (.slice (some ⟨w.heap.size, 0, none⟩) 20 20) 20 ((List.replicate (20 - (k + 1)) 0 ++ dl m (k + 1)).map (Value.int .u8)) := by
      rw [← dl_set m k (by omega), List.map_set]
      exact hst.1
    have R2 : Below w.heap.size w (wr.setCell ⟨w.heap.size, 20 - k - 1, none⟩ (.int .u8 (48 + dq m k % 10))) := hbel.setCell (Nat.le_refl _) _
    clear hst
    by_cases hq : dq m k / 10 = 0
    · have ht : (dq m k / 10 == 0) = true := by simp [hq]
      have HE : Hid (decN m = dl m (k + 1)) := dec_end m k (by rcases HK.out with h | h; exact .inr h; exact .inl h) (by simp only [dq]; omega) (by omega)
      clear hq HK
      have hcl2 : (wr.setCell ⟨w.heap.size, 20 - k - 1, none⟩ (.int .u8 (48 + dq m k % 10))).cell? ⟨w.heap.size, 20 - k - 1 - 1, none⟩ = some (.int .u8 0) := by
        rw [R1.cellAt (20 - k - 1 - 1) (by omega)]
        exact dl_cell m (k + 1) (by omega)
      have hfz2 := R1.frozenAt (20 - k - 1 - 1)
      have hst2 := R1.stored (20 - k - 1 - 1) (.int .u8 45)
      have S1 := hst2.1
      rw [← List.map_set (f := Value.int .u8)] at S1
      have S2 : Below w.heap.size w ((wr.setCell ⟨w.heap.size, 20 - k - 1, none⟩ (.int .u8 (48 + dq m k % 10))).setCell ⟨w.heap.size, 20 - k - 1 - 1, none⟩ (.int .u8 45)) := R2.setCell (Nat.le_refl _) _
      have e20 : (List.replicate (20 - (k + 1)) 0 ++ dl m (k + 1)).set (20 - k - 1 - 1) 45 = List.replicate (20 - (k + 2)) 0 ++ (45 :: dl m (k + 1)) := dl_set_sign m (k + 1) (by omega)
      rw [e20] at S1
      have hsl := run_cut w.heap.size (20 - k - 1 - 1) (k + 2) (20 - (k : Int) - 1 - 1) (by omega) (by omega) (by omega)
      have hcv := run_tail w.heap.size (45 :: dl m (k + 1)) (20 - (k + 2)) (by rw [List.length_cons, dl_length]; omega) (k + 2) S1
      rw [List.length_cons, dl_length] at hcv
      have hcv' : (convert 22 9 (.slice (some ⟨w.heap.size, 20 - k - 1 - 1, none⟩) (k + 2) (k + 2))).run Try.prog ((wr.setCell ⟨w.heap.size, 20 - k - 1, none⟩ (.int .u8 (48 + dq m k % 10))).setCell ⟨w.heap.size, 20 - k - 1 - 1, none⟩ (.int .u8 45)) = .ok (.string (strOfNums (45 :: dl m (k + 1)))) ((wr.setCell ⟨w.heap.size, 20 - k - 1, none⟩ (.int .u8 (48 + dq m k % 10))).setCell ⟨w.heap.size, 20 - k - 1 - 1, none⟩ (.int .u8 45)) := hcv
      clear hcv S1 R1 hown hst2 e20 R2
      go_wp2
      go_ret
      exact ⟨ret_str (by rw [HD.out, HE.out]), S2⟩
    · have ht : (dq m k / 10 == 0) = false := by simp [hq]
      have hp : 1 ≤ dq m (k + 1) := by simp only [dq]; omega
      have hk18 := dq_le18 m (by omega) (by omega) (k + 1) hp
      clear hq HK
      go_wp2
      go_roundw
      case rel => first | exact ⟨k + 1, by omega, by go_num, by go_num, rfl, R1, R2, .inr hp⟩ | ((repeat apply Exists.intro); exact ⟨⟨k + 1, by omega, by go_num, by go_num, rfl, R1, R2, .inr hp⟩, rfl⟩)
      case measure => simp [intOf]; omega

theorem implDec_any (n : Int) (w : World) (h0 : -9223372036854775808 ≤ n) (h1 : n ≤ 9223372036854775807) :
    Calls Try.prog 12 #[.int .i64 n] w fun e w' => e = .returned (.string (strOfNums (decL n))) ∧ Below w.heap.size w w' := by
  by_cases h : n < 0
  · have := implDec_neg (-n) w (by omega) (by omega)
    rw [Int.neg_neg] at this
    exact this
  · exact implDec_pos n w (by omega) h1

end Go.Proofs.Ytdhiobfalffebab
