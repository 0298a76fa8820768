/- Pairs of numbers, by the program. -/
import Derived.Test.YthhkjnpeopfmjaaVrRead
import Derived.Test.YthhkjnpeopfmjaaRgHeld
namespace Go.Proofs.Ythhkjnpeopfmjaa
open Go.RowKit
set_option linter.unusedVariables false
set_option linter.unusedSimpArgs false

theorem cell_allocV {w : World} {a : Addr} {u : Value} {o : Obj} (h : w.cell? a = some u) : (w.alloc o).cell? a = some u := (World.grownBy_alloc w o none).cell h (by simp)

theorem flatP_at : ∀ (L : List S_Pair) (k : Nat) (h : k < L.length), (flatP L)[2 * k]? = some L[k].f0 ∧ (flatP L)[2 * k + 1]? = some L[k].f1
  | p :: L, 0, _ => ⟨rfl, rfl⟩
  | p :: L, k + 1, h => by
    have ih := flatP_at L k (by simpa using h)
    have e1 : 2 * (k + 1) = 2 * k + 1 + 1 := by omega
    rw [e1]
    exact ih

theorem rPair_len2 (L : List S_Pair) : (rPair L).length = L.length * 2 := rPair_len L

set_option maxRecDepth 20000 in
set_option maxHeartbeats 4000000 in
theorem pairs_c (L : List S_Pair) (v : Value) (w : World) (hn : L.length ≤ 1000) (hr : RowR w v (2 * L.length) 1 ((flatP L).map (Value.int .i64))) :
    Calls Try.prog 41 #[v] w fun e w' => ∃ v', e = .returned v' ∧ w'.ownsRow w.heap.size 53 2 v' L.length (rPair L) ∧ Below w.heap.size w w' := by
  obtain ⟨iR, hiR, hR0, hR1, hR2⟩ := info_parts infoPr
  obtain ⟨n, hnn⟩ : ∃ n, n = 2 * L.length := ⟨_, rfl⟩
  rw [← hnn] at hr
  have HR : Hid (RowR w v n 1 ((flatP L).map (Value.int .i64))) := hr
  obtain ⟨p, cap, hv⟩ : ∃ p cap, v = .slice p n cap := by obtain ⟨_, p, cap, hv, _⟩ := hr; exact ⟨p, cap, hv⟩
  subst hv
  have HNN : Hid (n = 2 * L.length) := hnn
  have HLn : Hid (L.length ≤ 1000) := hn
  have hn' : (n : Int) ≤ 2000 := by omega
  clear hr hn hnn
  go_enter Try.func41, Try.ntmps41
  go_wp2
  go_loopw [3, 4] (fun ov iv wr => ∃ k q : Nat, q = 2 * k ∧ q ≤ n ∧ iv = .int .i64 ((q + 1 : Nat) : Int) ∧ Hid (wr.ownsRow w.heap.size 53 2 ov (L.take k).length (rPair (L.take k))) ∧ Hid (Below w.heap.size w wr)) (fun _ iv _ => n + 1 - (intOf iv).toNat)
  case atStart => exact ⟨0, 0, rfl, Nat.zero_le _, rfl, ⟨rfl, Or.inl ⟨rfl, rfl⟩⟩, Below.refl _ _⟩
  case round =>
    obtain ⟨k, q, hq, hqn, rfl, HO, HBr⟩ := hrel
    by_cases hlt : k < L.length
    · have hlt2 : q + 1 < n := by have := HNN.out; omega
      have hlt' : ((q + 1 : Nat) : Int) < (n : Int) := by omega
      have hlq : ((q : Nat) : Int) < (n : Int) := by omega
      obtain ⟨b, off, cap', hv, hb, hc⟩ := HR.out.some (by omega) (by decide)
      simp only [Value.slice.injEq, true_and] at hv
      obtain ⟨rfl, rfl⟩ := hv
      have hat := flatP_at L k hlt
      have c0 : wr.cell? ⟨b, off + q, none⟩ = some (.int .i64 (L[k]).f0) := by rw [HBr.out.cell (by exact hb), hc q (by omega), List.getElem?_map, hq, hat.1]; rfl
      have c1 : wr.cell? ⟨b, off + (q + 1), none⟩ = some (.int .i64 (L[k]).f1) := by rw [HBr.out.cell (by exact hb), hc (q + 1) (by omega), List.getElem?_map, hq, hat.2]; rfl
      have HTK : Hid (L.take (k + 1) = L.take k ++ [L[k]]) := List.take_succ_eq_append_getElem hlt
      have HWQ : Hid (IntKind.i64.wrap (((q + 1 : Nat) : Int) - 1) = ((q : Nat) : Int)) := by show _ = _; rw [IntWalk.i64_in _ (by omega)]; omega
      have HKL : Hid ((L.take k).length ≤ 1000) := by have := HLn.out; show _ ≤ _; rw [List.length_take]; omega
      have HQ : Hid (q = 2 * k) := hq
      have hw3 : IntKind.i64.wrap (((q + 1 : Nat) : Int) + 2) = (((q + 2) + 1 : Nat) : Int) := by rw [IntWalk.i64_in _ (by omega)]; omega
      clear hc hat
      generalize L[k] = X at c0 c1 HTK
      clear hq
      go_upto_region 5 with fail
      refine wp_region_L [⟨11, fun W => W.cell? ⟨b, off + q, none⟩ = some (.int .i64 X.f0)⟩, ⟨11, fun W => W.cell? ⟨b, off + (q + 1), none⟩ = some (.int .i64 X.f1)⟩] (by kernel_rfl) (fun f hf => by
          simp only [List.mem_cons, List.not_mem_nil, or_false] at hf
          rcases hf with rfl | rfl
          · exact c0
          · exact c1
          ) ?_
      refine At.take 0 (some 11) (u3) rfl rfl (by kernel_rfl) (by kernel_rfl) (by kernel_rfl) (by kernel_rfl) (fun _ _ _ h => h) (yl_pure (by kernel_rfl) (fun _ => by kernel_rfl)) ?_
      refine At.take 1 (some 12) (.slice (some ⟨b, off, none⟩) n cap) rfl rfl (by kernel_rfl) (by kernel_rfl) (by kernel_rfl) (by kernel_rfl) (fun _ _ _ h => h) (yl_pure (by kernel_rfl) (fun _ => by kernel_rfl)) ?_
      refine At.take 2 (some 13) (.int .i64 ((q + 1 : Nat) : Int)) rfl rfl (by kernel_rfl) (by kernel_rfl) (by kernel_rfl) (by kernel_rfl) (fun _ _ _ h => h) (yl_pure (by kernel_rfl) (fun _ => by kernel_rfl)) ?_
      refine At.take 3 (some 14) (.int .i64 ((q : Nat) : Int)) rfl rfl (by kernel_rfl) (by kernel_rfl) (by kernel_rfl) (by kernel_rfl) (fun _ _ _ h => h) (yl_is (.int .i64 (IntKind.i64.wrap (((q + 1 : Nat) : Int) - 1))) (by rw [HWQ.out]) (by kernel_rfl) (fun _ => by kernel_rfl)) ?_
      refine At.take 4 (some 15) (.pointer (some ⟨b, off + q, none⟩)) rfl rfl (by kernel_rfl) (by kernel_rfl) (by kernel_rfl) (by kernel_rfl) (fun _ _ _ h => h) (yl_pure (by kernel_rfl) (fun w => by go_simp)) ?_
      refine At.take 5 (some 16) (.int .i64 X.f0) rfl rfl (by kernel_rfl) (by kernel_rfl) (by kernel_rfl) (by kernel_rfl) (fun _ _ _ h => h) (yl_load 11 ⟨b, off + q, none⟩ (.int .i64 X.f0) (List.mem_cons_self) [10, 11] (by kernel_rfl) rfl (by kernel_rfl) (fun _ => by kernel_rfl)) ?_
      refine At.take 6 (some 17) (.slice (some ⟨b, off, none⟩) n cap) rfl rfl (by kernel_rfl) (by kernel_rfl) (by kernel_rfl) (by kernel_rfl) (fun _ _ _ h => h) (yl_pure (by kernel_rfl) (fun _ => by kernel_rfl)) ?_
      refine At.take 7 (some 18) (.int .i64 ((q + 1 : Nat) : Int)) rfl rfl (by kernel_rfl) (by kernel_rfl) (by kernel_rfl) (by kernel_rfl) (fun _ _ _ h => h) (yl_pure (by kernel_rfl) (fun _ => by kernel_rfl)) ?_
      refine At.take 8 (some 19) (.pointer (some ⟨b, off + (q + 1), none⟩)) rfl rfl (by kernel_rfl) (by kernel_rfl) (by kernel_rfl) (by kernel_rfl) (fun _ _ _ h => h) (yl_pure (by kernel_rfl) (fun w => by go_simp; exact fun h => absurd h (by omega))) ?_
      refine At.take 9 (some 20) (.int .i64 X.f1) rfl rfl (by kernel_rfl) (by kernel_rfl) (by kernel_rfl) (by kernel_rfl) (fun _ _ _ h => h) (yl_load 11 ⟨b, off + (q + 1), none⟩ (.int .i64 X.f1) (List.mem_cons_of_mem _ (List.mem_cons_self)) [10, 11] (by kernel_rfl) rfl (by kernel_rfl) (fun _ => by kernel_rfl)) ?_
      refine At.take 10 (some 21) (.agg #[.int .i64 X.f0, .int .i64 X.f1]) rfl rfl (by kernel_rfl) (by kernel_rfl) (by kernel_rfl) (by kernel_rfl) (fun _ _ _ h => h) (yl_pure (by kernel_rfl) (fun _ => by kernel_rfl)) ?_
      refine At.step 11 (some 22) rfl rfl (by kernel_rfl) (by kernel_rfl) (fun u W => u = .slice (some ⟨wr.drew.heap.size, 0, none⟩) 1 1 ∧ W = wr.drew.alloc (.cells #[.int .i64 X.f0, .int .i64 X.f1] 53)) (gives_run (by kernel_rfl)) ?_
      rintro u WB ⟨rfl, hWB⟩
      refine ⟨by subst hWB; exact held_cons (.inl (by kernel_rfl)) (held_cons (.inl (by kernel_rfl)) (held_nil)), ?_⟩
      have HOB : Hid (WB.ownsRow w.heap.size 53 2 u3 (L.take k).length (rPair (L.take k))) := by rw [hWB]; exact (show wr.drew.ownsRow _ _ _ _ _ _ from HO.out).alloc _
      have HBB : Hid (Below w.heap.size w WB) := by rw [hWB]; exact (HBr.out.drew).alloc HBr.out.size _
      obtain ⟨v', WC, hrunC, hownC, hgrowC, _⟩ := run_append_own (P := Try.prog) WB w.heap.size 27 27 53 iR (.agg #[.int .i64 0, .int .i64 0]) 2 16 Try.underlying27 hiR hR0 hR1 hR2 rfl (by decide) u3 (L.take k).length _ HOB.out ⟨wr.drew.heap.size, 0, none⟩ 1 1 [.int .i64 X.f0, .int .i64 X.f1] rfl (by rw [hWB]; exact cell_two_new wr.drew _ _ _) (by intro u hu; simp at hu; rcases hu with rfl | rfl <;> rfl) (by have := HKL.out; unfold maxLen; omega) (by have := HKL.out; omega) HBB.out.size
      refine At.step 12 (some 23) rfl rfl (by kernel_rfl) (by kernel_rfl) (fun u W => u = v' ∧ W = WC) (gives_append (fun _ => by kernel_rfl) hrunC) ?_
      rintro u WC' ⟨rfl, hWC⟩
      subst hWC
      refine ⟨held_cons (.inl (by kernel_rfl)) (held_cons (.inl (by kernel_rfl)) (held_nil)), ?_⟩
      refine At.take 13 (some 3) (u) rfl rfl (by kernel_rfl) (by kernel_rfl) (by kernel_rfl) (by kernel_rfl) (fun _ _ _ h => h) (yl_pure (by kernel_rfl) (fun _ => by kernel_rfl)) ?_
      refine At.done (by kernel_rfl) ?_
      simp only [Act.put, List.setIfInBounds_toArray, List.set_cons_zero, List.set_cons_succ]
      have HOE : Hid (WC'.ownsRow w.heap.size 53 2 u (L.take (k + 1)).length (rPair (L.take (k + 1)))) := by
        show WC'.ownsRow _ _ _ _ _ _
        rw [HTK.out, rPair_one, List.length_append]
        exact hownC
      have HBE : Hid (Below w.heap.size w WC') := HBB.out.grown hgrowC HBB.out.size (ownBlock_ge HOB.out)
      clear hownC hgrowC hrunC HOB HBB hWB c0 c1 HWQ
      go_wp2
      go_roundw
      case rel => exact ⟨k + 1, q + 2, by have := HQ.out; omega, by omega, by go_num, HOE, HBE⟩
      case measure => simp [intOf]; omega
    · have hq2 : ¬ ((q + 1 : Nat) : Int) < (n : Int) := by have := HNN.out; omega
      have HF : Hid (wr.ownsRow w.heap.size 53 2 u3 L.length (rPair L)) := by have := HO.out; rw [List.take_of_length_le (by omega)] at this; exact this
      clear hq
      go_wp2
      go_ret
      exact ⟨_, rfl, HF.out, HBr.out⟩

end Go.Proofs.Ythhkjnpeopfmjaa
