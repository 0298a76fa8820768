/- The records of a Wal's entries, by the program's contract. -/
import Derived.Test.YtefbenojkajnoaaWxMath
import Derived.Test.YtefbenojkajnoaaRgHeld
namespace Go.Proofs.Ytefbenojkajnoaa
open Go.RowKit
set_option linter.unusedVariables false
set_option linter.unusedSimpArgs false

theorem infoRecd : (Try.prog.info? 79).map (fun i => (i.zero, i.size, i.bytes)) = some (some .nilIface, 1, 16) := by kernel_rfl

theorem cells_newW (w : World) (cs : List Value) (t : TypeId) : ∀ j u, cs[j]? = some u → (w.alloc (.cells cs.toArray t)).cell? ((⟨w.heap.size, 0, none⟩ : Addr).add j) = some u := fun j u h => by
  rw [Addr.add_mid, Nat.zero_add]
  simp only [World.cell?, alloc_last]
  rw [List.getElem?_toArray]
  exact h

theorem cell_allocW {w : World} {a : Addr} {u : Value} {o : Obj} (h : w.cell? a = some u) : (w.alloc o).cell? a = some u := (World.grownBy_alloc w o none).cell h (by simp)

theorem cells2W {w : World} {b n : Nat} {a0 a1 : Value} (h0 : w.cell? ⟨b, n, none⟩ = some a0) (h1 : w.cell? ⟨b, n + 1, none⟩ = some a1) : ∀ j u, [a0, a1][j]? = some u → w.cell? ((⟨b, n, none⟩ : Addr).add j) = some u := by
  intro j u h
  rw [Addr.add_mid]
  rcases j with _ | _ | j
  · simp only [List.getElem?_cons_zero, Option.some.injEq] at h; rw [← h]; exact h0
  · simp only [List.getElem?_cons_succ, List.getElem?_cons_zero, Option.some.injEq] at h; rw [← h]; exact h1
  · simp at h

/-- The records of j entries from number bt on. -/
def recP (x : S_Wal) (bt : Nat) : Nat → List S_Rec
  | 0 => []
  | j + 1 => recP x bt j ++ [enRec x (bt + j)]

theorem recP_len (x : S_Wal) (bt : Nat) : ∀ j, (recP x bt j).length = j
  | 0 => rfl
  | j + 1 => by show (recP x bt j ++ [_]).length = _; rw [List.length_append, recP_len x bt j]; rfl

theorem recV_en (x : S_Wal) (k : Nat) (hk : k < x.f4.length) : recV (enRec x k) = .iface 89 (.agg #[.int .i64 (x.f2 + 1 + (k : Int)), .int .i64 x.f4[k].f0, .string x.f4[k].f1]) := by
  rw [en_at hk]
  unfold recV
  rfl

theorem own_lowW {w : World} {b b' : Nat} {e : TypeId} {size n : Nat} {v : Value} {xs : List Value} (h : w.ownsRow b e size v n xs) (hb : b' ≤ b) : w.ownsRow b' e size v n xs := by
  obtain ⟨h1, ⟨rfl, h2⟩ | ⟨g, cap, cur, rfl, hg, r⟩⟩ := h
  · exact ⟨h1, .inl ⟨rfl, h2⟩⟩
  · exact ⟨h1, .inr ⟨g, cap, cur, rfl, Nat.le_trans hb hg, r⟩⟩

theorem own_step {w : World} {base : Nat} {v : Value} {x : S_Wal} {bt k : Nat} (hb : bt ≤ k) (hk : k < x.f4.length) (h : w.ownsRow base 79 1 v (k - bt + 1) ((recP x bt (k - bt)).map recV ++ [.iface 89 (.agg #[.int .i64 (x.f2 + 1 + (k : Int)), .int .i64 x.f4[k].f0, .string x.f4[k].f1])])) : w.ownsRow base 79 1 v (k + 1 - bt) ((recP x bt (k + 1 - bt)).map recV) := by
  have e : k + 1 - bt = (k - bt) + 1 := by omega
  rw [e]
  show w.ownsRow _ _ _ _ _ ((recP x bt (k - bt) ++ [enRec x (bt + (k - bt))]).map recV)
  rw [List.map_append, show bt + (k - bt) = k by omega]
  show w.ownsRow _ _ _ _ _ (_ ++ [recV (enRec x k)])
  rw [recV_en x k hk]
  exact h

set_option maxRecDepth 20000 in
set_option maxHeartbeats 4000000 in
theorem entryRecs_c (x : S_Wal) (p : Option Addr) (cap bt : Nat) (w : World) (hok : okW x) (hbt : bt ≤ x.f4.length) (hn : x.f4.length ≤ 1048576) (hs : ∀ y ∈ x.f4, sEntry y) (hr : RowR w (.slice p x.f4.length cap) x.f4.length 2 (rEntry x.f4)) :
    Calls Try.prog 38 #[.agg #[.int .i64 x.f0, .int .i64 x.f1, .int .i64 x.f2, .int .i64 x.f3, .slice p x.f4.length cap], .int .i64 (bt : Int)] w fun e w' => ∃ v, e = .returned v ∧ w'.ownsRow w.heap.size 79 1 v (x.f4.length - bt) ((recP x bt (x.f4.length - bt)).map recV) ∧ Below w.heap.size w w' := by
  obtain ⟨iR, hiR, hR0, hR1, hR2⟩ := info_parts infoRecd
  obtain ⟨W0, hW0⟩ : ∃ W, W = (w.alloc (.cells #[.int .i64 x.f0, .int .i64 x.f1, .int .i64 x.f2, .int .i64 x.f3, .slice p x.f4.length cap] 30)) := ⟨_, rfl⟩
  have HW0 : Hid ((w.alloc (.cells #[.int .i64 x.f0, .int .i64 x.f1, .int .i64 x.f2, .int .i64 x.f3, .slice p x.f4.length cap] 30)) = W0) := hW0.symm
  have HZ0 : Hid (W0.heap.size = w.heap.size + 1) := by show _ = _; rw [hW0]; simp
  have HB0 : Hid (Below w.heap.size w W0) := by rw [hW0]; exact (Below.refl _ _).alloc (Nat.le_refl _) _
  have HX : Hid (∀ W', Below W0.heap.size W0 W' → W'.cell? ⟨w.heap.size, 0, none⟩ = some (.int .i64 x.f0) ∧ W'.cell? ⟨w.heap.size, 1, none⟩ = some (.int .i64 x.f1) ∧ W'.cell? ⟨w.heap.size, 2, none⟩ = some (.int .i64 x.f2) ∧ W'.cell? ⟨w.heap.size, 3, none⟩ = some (.int .i64 x.f3) ∧ W'.cell? ⟨w.heap.size, 4, none⟩ = some (.slice p x.f4.length cap)) := fun W' hW => by
    have hk : W'.heap[w.heap.size]? = some (.cells #[.int .i64 x.f0, .int .i64 x.f1, .int .i64 x.f2, .int .i64 x.f3, .slice p x.f4.length cap] 30) := by rw [hW.block _ (by rw [HZ0.out]; exact Nat.lt_succ_self _), hW0]; exact alloc_last _ _
    exact box5 hk
  have HS : Hid (∀ y ∈ x.f4, sEntry y) := hs
  have HR : Hid (RowR w (.slice p x.f4.length cap) x.f4.length 2 (rEntry x.f4)) := hr
  have HN : Hid (x.f4.length ≤ 1048576) := hn
  have hn' : (x.f4.length : Int) ≤ 1048576 := by omega
  obtain ⟨d0, d1, d2, d3, d4⟩ := HX.out W0 (Below.refl _ _)
  clear hs hr hW0
  have HOK : Hid (okW x) := hok
  clear hok
  go_enter Try.func38, Try.ntmps38
  go_wp2_with fail
  rw [HW0.out]
  go_loopw [5, 6] (fun ov iv wr => ∃ k : Nat, bt ≤ k ∧ k ≤ x.f4.length ∧ iv = .int .i64 (k : Int) ∧ Hid (wr.ownsRow W0.heap.size 79 1 ov (k - bt) ((recP x bt (k - bt)).map recV)) ∧ Hid (Below W0.heap.size W0 wr)) (fun _ iv _ => x.f4.length - (intOf iv).toNat)
  case atStart => exact ⟨bt, Nat.le_refl _, hbt, rfl, ⟨by rw [Nat.sub_self]; rfl, .inl ⟨rfl, by rw [Nat.sub_self]⟩⟩, Below.refl _ _⟩
  case round =>
    obtain ⟨k, hbk, hk, rfl, HO, HBr⟩ := hrel
    have HBw : Hid (Below w.heap.size w wr) := HB0.out.trans (HBr.out.mono (by rw [HZ0.out]; omega))
    clear d0 d1 d2 d3 d4
    obtain ⟨d0, d1, d2, d3, d4⟩ := HX.out wr HBr.out
    by_cases hlt : k < x.f4.length
    · have hlt' : (k : Int) < x.f4.length := by omega
      obtain ⟨b, off, cap', hv, hb, hc⟩ := HR.out.some (by omega) (by decide)
      simp only [Value.slice.injEq, true_and] at hv
      obtain ⟨rfl, rfl⟩ := hv
      have HC : Hid (∀ j, j < x.f4.length * 2 → w.cell? ⟨b, off + j, none⟩ = (rEntry x.f4)[j]?) := hc
      clear hc
      have c : ∀ q, q < 2 → wr.cell? ⟨b, off + (k * 2 + q), none⟩ = (cEntry x.f4[k])[q]? := fun q hq => by
        rw [HBw.out.cell (by exact hb), HC.out (k * 2 + q) (by omega)]
        exact flat_at cEntry 2 cEntry_len x.f4 k q hlt hq
      have c0 : wr.cell? ⟨b, off + k * 2, none⟩ = some (.int .i64 (x.f4[k]).f0) := by have := c 0 (by decide); rw [← Nat.add_assoc] at this; exact this
      have c1 : wr.cell? ⟨b, off + k * 2 + 1, none⟩ = some (.string (x.f4[k]).f1) := by have := c 1 (by decide); rw [← Nat.add_assoc] at this; exact this
      clear c
      have HWR : Hid (IntKind.i64.wrap (x.f2 + (k : Int)) = x.f2 + (k : Int) ∧ IntKind.i64.wrap (x.f2 + (k : Int) + 1) = x.f2 + 1 + (k : Int)) := by
        have h2 := okW_base HOK.out
        exact ⟨IntWalk.i64_in _ (by omega), by rw [IntWalk.i64_in _ (by omega)]; omega⟩
      go_upto_region 5 with fail
      refine wp_region_L [⟨13, fun W => W.cell? ⟨w.heap.size, 2, none⟩ = some (.int .i64 x.f2)⟩, ⟨13, fun W => W.cell? ⟨w.heap.size, 4, none⟩ = some (.slice (some ⟨b, off, none⟩) x.f4.length cap)⟩, ⟨13, fun W => ∀ j u, ([.int .i64 x.f4[k].f0, .string x.f4[k].f1] : List Value)[j]? = some u → W.cell? ((⟨b, off + k * 2, none⟩ : Addr).add j) = some u⟩] (by kernel_rfl) (fun f hf => by
          simp only [List.mem_cons, List.not_mem_nil, or_false] at hf
          rcases hf with rfl | rfl | rfl
          · exact d2
          · exact d4
          · exact cells2W c0 c1
          ) ?_
      refine At.take 0 (some 15) (u5) rfl rfl (by kernel_rfl) (by kernel_rfl) (by kernel_rfl) (by kernel_rfl) (fun _ _ _ h => h) (yl_pure (by kernel_rfl) (fun _ => by kernel_rfl)) ?_
      refine At.take 1 (some 16) (.pointer (some ⟨w.heap.size, 2, none⟩)) rfl rfl (by kernel_rfl) (by kernel_rfl) (by kernel_rfl) (by kernel_rfl) (fun _ _ _ h => h) (yl_pure (by kernel_rfl) (fun _ => by kernel_rfl)) ?_
      refine At.take 2 (some 17) (.int .i64 x.f2) rfl rfl (by kernel_rfl) (by kernel_rfl) (by kernel_rfl) (by kernel_rfl) (fun _ _ _ h => h) (yl_load 13 ⟨w.heap.size, 2, none⟩ (.int .i64 x.f2) (List.mem_cons_self) [4, 5, 11, 12, 13] (by kernel_rfl) rfl (by kernel_rfl) (fun _ => by kernel_rfl)) ?_
      refine At.take 3 (some 18) (.int .i64 (k : Int)) rfl rfl (by kernel_rfl) (by kernel_rfl) (by kernel_rfl) (by kernel_rfl) (fun _ _ _ h => h) (yl_pure (by kernel_rfl) (fun _ => by kernel_rfl)) ?_
      refine At.take 4 (some 19) (.int .i64 (x.f2 + (k : Int))) rfl rfl (by kernel_rfl) (by kernel_rfl) (by kernel_rfl) (by kernel_rfl) (fun _ _ _ h => h) (yl_is (.int .i64 (IntKind.i64.wrap (x.f2 + (k : Int)))) (by rw [HWR.out.1]) (by kernel_rfl) (fun _ => by kernel_rfl)) ?_
      refine At.take 5 (some 20) (.int .i64 (x.f2 + 1 + (k : Int))) rfl rfl (by kernel_rfl) (by kernel_rfl) (by kernel_rfl) (by kernel_rfl) (fun _ _ _ h => h) (yl_is (.int .i64 (IntKind.i64.wrap (x.f2 + (k : Int) + 1))) (by rw [HWR.out.2]) (by kernel_rfl) (fun _ => by kernel_rfl)) ?_
      refine At.take 6 (some 21) (.pointer (some ⟨w.heap.size, 4, none⟩)) rfl rfl (by kernel_rfl) (by kernel_rfl) (by kernel_rfl) (by kernel_rfl) (fun _ _ _ h => h) (yl_pure (by kernel_rfl) (fun _ => by kernel_rfl)) ?_
      refine At.take 7 (some 22) (.slice (some ⟨b, off, none⟩) x.f4.length cap) rfl rfl (by kernel_rfl) (by kernel_rfl) (by kernel_rfl) (by kernel_rfl) (fun _ _ _ h => h) (yl_load 13 ⟨w.heap.size, 4, none⟩ (.slice (some ⟨b, off, none⟩) x.f4.length cap) (List.mem_cons_of_mem _ (List.mem_cons_self)) [9, 10, 11, 12, 13] (by kernel_rfl) rfl (by kernel_rfl) (fun _ => by kernel_rfl)) ?_
      refine At.take 8 (some 23) (.int .i64 (k : Int)) rfl rfl (by kernel_rfl) (by kernel_rfl) (by kernel_rfl) (by kernel_rfl) (fun _ _ _ h => h) (yl_pure (by kernel_rfl) (fun _ => by kernel_rfl)) ?_
      refine At.take 9 (some 24) (.pointer (some ⟨b, off + k * 2, none⟩)) rfl rfl (by kernel_rfl) (by kernel_rfl) (by kernel_rfl) (by kernel_rfl) (fun _ _ _ h => h) (yl_pure (by kernel_rfl) (fun w => by go_simp)) ?_
      refine At.take 10 (some 25) (.agg #[.int .i64 x.f4[k].f0, .string x.f4[k].f1]) rfl rfl (by kernel_rfl) (by kernel_rfl) (by kernel_rfl) (by kernel_rfl) (fun _ _ _ h => h) (yl_loads 13 ⟨b, off + k * 2, none⟩ [.int .i64 x.f4[k].f0, .string x.f4[k].f1] (List.mem_cons_of_mem _ (List.mem_cons_of_mem _ (List.mem_cons_self))) [11, 12, 13] (by kernel_rfl) rfl (by kernel_rfl) (fun _ => by kernel_rfl)) ?_
      refine At.take 11 (some 26) (.agg #[.int .i64 (x.f2 + 1 + (k : Int)), .int .i64 x.f4[k].f0, .string x.f4[k].f1]) rfl rfl (by kernel_rfl) (by kernel_rfl) (by kernel_rfl) (by kernel_rfl) (fun _ _ _ h => h) (yl_pure (by kernel_rfl) (fun _ => by kernel_rfl)) ?_
      refine At.take 12 (some 27) (.iface 89 (.agg #[.int .i64 (x.f2 + 1 + (k : Int)), .int .i64 x.f4[k].f0, .string x.f4[k].f1])) rfl rfl (by kernel_rfl) (by kernel_rfl) (by kernel_rfl) (by kernel_rfl) (fun _ _ _ h => h) (yl_pure (by kernel_rfl) (fun _ => by kernel_rfl)) ?_
      refine At.step 13 (some 28) rfl rfl (by kernel_rfl) (by kernel_rfl) (fun u W => u = .slice (some ⟨wr.drew.heap.size, 0, none⟩) 1 1 ∧ W = wr.drew.alloc (.cells #[.iface 89 (.agg #[.int .i64 (x.f2 + 1 + (k : Int)), .int .i64 x.f4[k].f0, .string x.f4[k].f1])] 79)) (gives_run (by kernel_rfl)) ?_
      rintro u WB ⟨rfl, hWB⟩
      refine ⟨by subst hWB; exact held_cons (.inl (by kernel_rfl)) (held_cons (.inl (by kernel_rfl)) (held_cons (.inl (by kernel_rfl)) (held_nil))), ?_⟩
      have HOB : Hid (WB.ownsRow W0.heap.size 79 1 u5 (k - bt) ((recP x bt (k - bt)).map recV)) := by rw [hWB]; exact (show wr.drew.ownsRow _ _ _ _ _ _ from HO.out).alloc _
      have HBB : Hid (Below W0.heap.size W0 WB) := by rw [hWB]; exact (HBr.out.drew).alloc HBr.out.size _
      obtain ⟨v', WC, hrunC, hownC, hgrowC, _⟩ := run_append_own (P := Try.prog) WB W0.heap.size 71 71 79 iR .nilIface 1 16 Try.underlying71 hiR hR0 hR1 hR2 rfl (by decide) u5 (k - bt) _ HOB.out ⟨wr.drew.heap.size, 0, none⟩ 1 1 [.iface 89 (.agg #[.int .i64 (x.f2 + 1 + (k : Int)), .int .i64 x.f4[k].f0, .string x.f4[k].f1])] rfl (by rw [hWB]; exact cells_newW wr.drew _ _) (by intro u hu; simp at hu; subst hu; rfl) (by unfold maxLen; omega) (by omega) HBB.out.size
      refine At.step 14 (some 29) rfl rfl (by kernel_rfl) (by kernel_rfl) (fun u W => u = v' ∧ W = WC) (gives_append (fun _ => by kernel_rfl) hrunC) ?_
      rintro u WC' ⟨rfl, hWC⟩
      subst hWC
      refine ⟨held_cons (.inl (by kernel_rfl)) (held_cons (.inl (by kernel_rfl)) (held_cons (.inl (by kernel_rfl)) (held_nil))), ?_⟩
      refine At.take 15 (some 5) (u) rfl rfl (by kernel_rfl) (by kernel_rfl) (by kernel_rfl) (by kernel_rfl) (fun _ _ _ h => h) (yl_pure (by kernel_rfl) (fun _ => by kernel_rfl)) ?_
      refine At.done (by kernel_rfl) ?_
      simp only [Act.put, List.setIfInBounds_toArray, List.set_cons_zero, List.set_cons_succ]
      have HOE := own_step hbk hlt hownC
      have HBE : Hid (Below W0.heap.size W0 WC') := HBB.out.grown hgrowC HBB.out.size (ownBlock_ge HOB.out)
      clear hownC hgrowC hrunC HOB HBB hWB d0 d1 d2 d3 d4 c0 c1 HWR HC
      go_wp2
      go_roundw
      case rel => exact ⟨k + 1, by omega, by omega, by go_num, HOE, HBE⟩
      case measure => simp [intOf]; omega
    · have hke : k = x.f4.length := by omega
      subst hke
      go_wp2
      go_ret
      exact ⟨_, rfl, own_lowW HO.out (by rw [HZ0.out]; omega), HBw.out⟩

end Go.Proofs.Ytefbenojkajnoaa
