/- The text of a Wal. -/
import Derived.Test.YthlokfcejojdhaaDoorWwImpl
import Derived.Test.YthlokfcejojdhaaDoorWsWalk
import Derived.Test.YthlokfcejojdhaaDoorFrWalk
import Derived.Test.YthlokfcejojdhaaDoorRgHeld
import Derived.Test.YthlokfcejojdhaaDoorJWs
namespace Go.Proofs.YthlokfcejojdhaaDoor
open Go.RowKit
set_option linter.unusedVariables false

def bsRec (x : S_Wal) : S_Rec := ⟨4, x.f3, x.f2, 0, ⟨#[]⟩⟩
def hdRec (x : S_Wal) : S_Rec := ⟨1, x.f0, 0, x.f1, ⟨#[]⟩⟩
def enRec (x : S_Wal) (k : Nat) : S_Rec := match x.f4[k]? with | some e => ⟨2, e.f0, x.f2 + 1 + k, 0, e.f1⟩ | none => ⟨0, 0, 0, 0, ⟨#[]⟩⟩
def frR (r : S_Rec) : ByteArray := frameOf (recT r)
def walP (x : S_Wal) : Nat → ByteArray
  | 0 => frR (bsRec x) ++ frR (hdRec x)
  | k + 1 => walP x k ++ frR (enRec x k)
def walT (x : S_Wal) : ByteArray := if okW x then walP x x.f4.length else ⟨#[]⟩

theorem okE_mem (top : Int) : ∀ (L : List S_Entry) (last : Int), okE top last L → ∀ e ∈ L, 1 ≤ e.f0 ∧ e.f0 ≤ top ∧ e.f1.size ≤ 900
  | [], _, _, e, he => by simp at he
  | a :: L, last, h, e, he => by
    obtain ⟨h1, h2, h3, h4, h5⟩ := h
    rcases List.mem_cons.1 he with rfl | he
    · exact ⟨h1, h3, h4⟩
    · exact okE_mem top L a.f0 h5 e he

theorem okR_bs {x : S_Wal} (h : okW x) : okR (bsRec x) := (okR_base _ _).2 h.1.2.2.1
theorem okR_hd {x : S_Wal} (h : okW x) : okR (hdRec x) := (okR_hard _ _).2 ⟨h.1.1, h.1.2.1⟩
theorem en_at {x : S_Wal} {k : Nat} (hk : k < x.f4.length) : enRec x k = ⟨2, x.f4[k].f0, x.f2 + 1 + k, 0, x.f4[k].f1⟩ := by
  unfold enRec; rw [List.getElem?_eq_getElem hk]
theorem okW_base {x : S_Wal} (h : okW x) : 0 ≤ x.f2 ∧ x.f2 ≤ 100000 := by have := h.1.2.2.1; unfold bsR at this; omega
theorem okR_en {x : S_Wal} (h : okW x) {k : Nat} (hk : k < x.f4.length) : okR ⟨2, x.f4[k].f0, x.f2 + 1 + k, 0, x.f4[k].f1⟩ := by
  have h1 := okE_mem _ _ _ h.2 _ (List.getElem_mem hk)
  have h2 := okW_base h
  have h3 := h.1
  unfold headW at h3
  refine .inr (.inl ⟨rfl, ⟨h1.1, ?_⟩, ⟨?_, ?_⟩, rfl, h1.2.2⟩)
  · show x.f4[k].f0 ≤ 100000; omega
  · show 1 ≤ x.f2 + 1 + (k : Int); omega
  · show x.f2 + 1 + (k : Int) ≤ 100000; omega

theorem okR_data {r : S_Rec} (h : okR r) : r.f4.size ≤ 900 := by
  rcases h with h | h | h | h
  · rw [h.2.2.2.2]; exact Nat.zero_le _
  · exact h.2.2.2.2
  · rw [h.2.2.2.2]; exact Nat.zero_le _
  · rw [h.2.2.2]; exact Nat.zero_le _

theorem recT_size {r : S_Rec} (h : okR r) : 1 ≤ (recT r).size ∧ (recT r).size ≤ 910 := by
  have h1 := okR_range h
  have h2 := okR_data h
  have a := varL_len3 r.f1 (by omega) (by omega)
  have b := varL_len3 r.f2 (by omega) (by omega)
  have c := varL_len3 (r.f3 + 1) (by omega) (by omega)
  unfold recT
  rw [if_pos h, ByteArray.size_append, strOfNums_size]
  simp only [List.length_append, List.length_cons, List.length_nil]
  omega

theorem frR_size {r : S_Rec} (h : okR r) : (frR r).size ≤ 918 := by
  have := recT_size h
  unfold frR
  rw [frameOf_size]
  omega

theorem walP_size {x : S_Wal} (h : okW x) : ∀ k, k ≤ x.f4.length → (walP x k).size ≤ 918 * (k + 2)
  | 0, _ => by
    have a := frR_size (okR_bs h)
    have b := frR_size (okR_hd h)
    show (frR (bsRec x) ++ frR (hdRec x)).size ≤ _
    rw [ByteArray.size_append]
    omega
  | k + 1, hk => by
    have a := walP_size h k (by omega)
    have b := frR_size (okR_en h (show k < x.f4.length by omega))
    show (walP x k ++ frR (enRec x k)).size ≤ _
    rw [ByteArray.size_append, en_at (by omega)]
    omega

theorem walP_small {x : S_Wal} (h : okW x) (k : Nat) (hk : k ≤ x.f4.length) : (walP x k).size ≤ 60000 := by
  have := walP_size h k hk
  have h1 := h.1.2.2.2.2.1
  omega

theorem sframe_c (r : S_Rec) (w : World) (h : okR r) : Calls Tryd.prog 76 #[.string (recT r)] w fun e w' => e = .returned (.string (frR r)) ∧ Below w.heap.size w w' := by
  have := recT_size h
  exact specFr (recT r) w (by omega) (by omega)

theorem iframe_c (r : S_Rec) (w : World) (h : okR r) : Calls Tryd.prog 21 #[.string (recT r)] w fun e w' => e = .returned (.string (frR r)) ∧ Below w.heap.size w w' := by
  have := recT_size h
  exact implFr (recT r) w (by omega) (by omega)

end Go.Proofs.YthlokfcejojdhaaDoor

/- The records of a Wal's entries, by the program's contract. -/
namespace Go.Proofs.YthlokfcejojdhaaDoor
open Go.RowKit
set_option linter.unusedVariables false
set_option linter.unusedSimpArgs false

theorem infoRecd : (Tryd.prog.info? 49).map (fun i => (i.zero, i.size, i.bytes)) = some (some .nilIface, 1, 16) := by kernel_rfl

theorem cells_newW (w : World) (cs : List Value) (t : TypeId) : ∀ j u, cs[j]? = some u → (w.alloc (.cells cs.toArray t)).cell? ((⟨w.heap.size, 0, none⟩ : Addr).add j) = some u := fun j u h => by
  rw [Addr.add_mid, Nat.zero_add]
  simp only [World.cell?, alloc_last]
  rw [List.getElem?_toArray]
  exact h

theorem cell_allocW {w : World} {a : Addr} {u : Value} {o : Obj} (h : w.cell? a = some u) : (w.alloc o).cell? a = some u := (World.grownBy_alloc w o none).cell h (by simp)

theorem cells2W {w : World} {b n : Nat} {a0 a1 : Value} (h0 : w.cell? ⟨b, n, none⟩ = some a0) (h1 : w.cell? ⟨b, n + 1, none⟩ = some a1) : ∀ j u, [a0, a1][j]? = some u → w.cell? ((⟨b, n, none⟩ : Addr).add j) = some u := by
  intro j u h
  rw [Addr.add_mid]
  rcases j with _ | _ | j
  · simp only [List.getElem?_cons_zero, Option.some.injEq] at h; rw [← h]; exact h0
  · simp only [List.getElem?_cons_succ, List.getElem?_cons_zero, Option.some.injEq] at h; rw [← h]; exact h1
  · simp at h

/-- The records of j entries from number bt on. -/
def recP (x : S_Wal) (bt : Nat) : Nat → List S_Rec
  | 0 => []
  | j + 1 => recP x bt j ++ [enRec x (bt + j)]

theorem recP_len (x : S_Wal) (bt : Nat) : ∀ j, (recP x bt j).length = j
  | 0 => rfl
  | j + 1 => by show (recP x bt j ++ [_]).length = _; rw [List.length_append, recP_len x bt j]; rfl

theorem recV_en (x : S_Wal) (k : Nat) (hk : k < x.f4.length) : recV (enRec x k) = .iface 85 (.agg #[.int .i64 (x.f2 + 1 + (k : Int)), .int .i64 x.f4[k].f0, .string x.f4[k].f1]) := by
  rw [en_at hk]
  unfold recV
  rfl

theorem own_lowW {w : World} {b b' : Nat} {e : TypeId} {size n : Nat} {v : Value} {xs : List Value} (h : w.ownsRow b e size v n xs) (hb : b' ≤ b) : w.ownsRow b' e size v n xs := by
  obtain ⟨h1, ⟨rfl, h2⟩ | ⟨g, cap, cur, rfl, hg, r⟩⟩ := h
  · exact ⟨h1, .inl ⟨rfl, h2⟩⟩
  · exact ⟨h1, .inr ⟨g, cap, cur, rfl, Nat.le_trans hb hg, r⟩⟩

theorem own_step {w : World} {base : Nat} {v : Value} {x : S_Wal} {bt k : Nat} (hb : bt ≤ k) (hk : k < x.f4.length) (h : w.ownsRow base 49 1 v (k - bt + 1) ((recP x bt (k - bt)).map recV ++ [.iface 85 (.agg #[.int .i64 (x.f2 + 1 + (k : Int)), .int .i64 x.f4[k].f0, .string x.f4[k].f1])])) : w.ownsRow base 49 1 v (k + 1 - bt) ((recP x bt (k + 1 - bt)).map recV) := by
  have e : k + 1 - bt = (k - bt) + 1 := by omega
  rw [e]
  show w.ownsRow _ _ _ _ _ ((recP x bt (k - bt) ++ [enRec x (bt + (k - bt))]).map recV)
  rw [List.map_append, show bt + (k - bt) = k by omega]
  show w.ownsRow _ _ _ _ _ (_ ++ [recV (enRec x k)])
  rw [recV_en x k hk]
  exact h

set_option maxRecDepth 20000 in
set_option maxHeartbeats 4000000 in
theorem entryRecs_c (x : S_Wal) (p : Option Addr) (cap bt : Nat) (w : World) (hok : okW x) (hbt : bt ≤ x.f4.length) (hn : x.f4.length ≤ 1048576) (hs : ∀ y ∈ x.f4, sEntry y) (hr : RowR w (.slice p x.f4.length cap) x.f4.length 2 (rEntry x.f4)) :
    Calls Tryd.prog 19 #[.agg #[.int .i64 x.f0, .int .i64 x.f1, .int .i64 x.f2, .int .i64 x.f3, .slice p x.f4.length cap], .int .i64 (bt : Int)] w fun e w' => ∃ v, e = .returned v ∧ w'.ownsRow w.heap.size 49 1 v (x.f4.length - bt) ((recP x bt (x.f4.length - bt)).map recV) ∧ Below w.heap.size w w' := by
  obtain ⟨iR, hiR, hR0, hR1, hR2⟩ := info_parts infoRecd
  obtain ⟨W0, hW0⟩ : ∃ W, W = (w.alloc (.cells #[.int .i64 x.f0, .int .i64 x.f1, .int .i64 x.f2, .int .i64 x.f3, .slice p x.f4.length cap] 26)) := ⟨_, rfl⟩
  have HW0 : Hid ((w.alloc (.cells #[.int .i64 x.f0, .int .i64 x.f1, .int .i64 x.f2, .int .i64 x.f3, .slice p x.f4.length cap] 26)) = W0) := hW0.symm
  have HZ0 : Hid (W0.heap.size = w.heap.size + 1) := by show _ = _; rw [hW0]; simp
  have HB0 : Hid (Below w.heap.size w W0) := by rw [hW0]; exact (Below.refl _ _).alloc (Nat.le_refl _) _
  have HX : Hid (∀ W', Below W0.heap.size W0 W' → W'.cell? ⟨w.heap.size, 0, none⟩ = some (.int .i64 x.f0) ∧ W'.cell? ⟨w.heap.size, 1, none⟩ = some (.int .i64 x.f1) ∧ W'.cell? ⟨w.heap.size, 2, none⟩ = some (.int .i64 x.f2) ∧ W'.cell? ⟨w.heap.size, 3, none⟩ = some (.int .i64 x.f3) ∧ W'.cell? ⟨w.heap.size, 4, none⟩ = some (.slice p x.f4.length cap)) := fun W' hW => by
    have hk : W'.heap[w.heap.size]? = some (.cells #[.int .i64 x.f0, .int .i64 x.f1, .int .i64 x.f2, .int .i64 x.f3, .slice p x.f4.length cap] 26) := by rw [hW.block _ (by rw [HZ0.out]; exact Nat.lt_succ_self _), hW0]; exact alloc_last _ _
    exact box5 hk
  have HS : Hid (∀ y ∈ x.f4, sEntry y) := hs
  have HR : Hid (RowR w (.slice p x.f4.length cap) x.f4.length 2 (rEntry x.f4)) := hr
  have HN : Hid (x.f4.length ≤ 1048576) := hn
  have hn' : (x.f4.length : Int) ≤ 1048576 := by omega
  obtain ⟨d0, d1, d2, d3, d4⟩ := HX.out W0 (Below.refl _ _)
  clear hs hr hW0
  have HOK : Hid (okW x) := hok
  clear hok
  go_enter Tryd.func19, Tryd.ntmps19
  go_wp2_with fail
  rw [HW0.out]
  go_loopw [5, 6] (fun ov iv wr => ∃ k : Nat, bt ≤ k ∧ k ≤ x.f4.length ∧ iv = .int .i64 (k : Int) ∧ Hid (wr.ownsRow W0.heap.size 49 1 ov (k - bt) ((recP x bt (k - bt)).map recV)) ∧ Hid (Below W0.heap.size W0 wr)) (fun _ iv _ => x.f4.length - (intOf iv).toNat)
  case atStart => exact ⟨bt, Nat.le_refl _, hbt, rfl, ⟨by rw [Nat.sub_self]; rfl, .inl ⟨rfl, by rw [Nat.sub_self]⟩⟩, Below.refl _ _⟩
  case round =>
    obtain ⟨k, hbk, hk, rfl, HO, HBr⟩ := hrel
    have HBw : Hid (Below w.heap.size w wr) := HB0.out.trans (HBr.out.mono (by rw [HZ0.out]; omega))
    clear d0 d1 d2 d3 d4
    obtain ⟨d0, d1, d2, d3, d4⟩ := HX.out wr HBr.out
    by_cases hlt : k < x.f4.length
    · have hlt' : (k : Int) < x.f4.length := by omega
      obtain ⟨b, off, cap', hv, hb, hc⟩ := HR.out.some (by omega) (by decide)
      simp only [Value.slice.injEq, true_and] at hv
      obtain ⟨rfl, rfl⟩ := hv
      have HC : Hid (∀ j, j < x.f4.length * 2 → w.cell? ⟨b, off + j, none⟩ = (rEntry x.f4)[j]?) := hc
      clear hc
      have c : ∀ q, q < 2 → wr.cell? ⟨b, off + (k * 2 + q), none⟩ = (cEntry x.f4[k])[q]? := fun q hq => by
        rw [HBw.out.cell (by exact hb), HC.out (k * 2 + q) (by omega)]
        exact flat_at cEntry 2 cEntry_len x.f4 k q hlt hq
      have c0 : wr.cell? ⟨b, off + k * 2, none⟩ = some (.int .i64 (x.f4[k]).f0) := by have := c 0 (by decide); rw [← Nat.add_assoc] at this; exact this
      have c1 : wr.cell? ⟨b, off + k * 2 + 1, none⟩ = some (.string (x.f4[k]).f1) := by have := c 1 (by decide); rw [← Nat.add_assoc] at this; exact this
      clear c
      have HWR : Hid (IntKind.i64.wrap (x.f2 + (k : Int)) = x.f2 + (k : Int) ∧ IntKind.i64.wrap (x.f2 + (k : Int) + 1) = x.f2 + 1 + (k : Int)) := by
        have h2 := okW_base HOK.out
        exact ⟨IntWalk.i64_in _ (by omega), by rw [IntWalk.i64_in _ (by omega)]; omega⟩
      go_upto_region 5 with fail
      refine wp_region_L [⟨13, fun W => W.cell? ⟨w.heap.size, 2, none⟩ = some (.int .i64 x.f2)⟩, ⟨13, fun W => W.cell? ⟨w.heap.size, 4, none⟩ = some (.slice (some ⟨b, off, none⟩) x.f4.length cap)⟩, ⟨13, fun W => ∀ j u, ([.int .i64 x.f4[k].f0, .string x.f4[k].f1] : List Value)[j]? = some u → W.cell? ((⟨b, off + k * 2, none⟩ : Addr).add j) = some u⟩] (by kernel_rfl) (fun f hf => by
          simp only [List.mem_cons, List.not_mem_nil, or_false] at hf
          rcases hf with rfl | rfl | rfl
          · exact d2
          · exact d4
          · exact cells2W c0 c1
          ) ?_
      refine At.take 0 (some 15) (u5) rfl rfl (by kernel_rfl) (by kernel_rfl) (by kernel_rfl) (by kernel_rfl) (fun _ _ _ h => h) (yl_pure (by kernel_rfl) (fun _ => by kernel_rfl)) ?_
      refine At.take 1 (some 16) (.pointer (some ⟨w.heap.size, 2, none⟩)) rfl rfl (by kernel_rfl) (by kernel_rfl) (by kernel_rfl) (by kernel_rfl) (fun _ _ _ h => h) (yl_pure (by kernel_rfl) (fun _ => by kernel_rfl)) ?_
      refine At.take 2 (some 17) (.int .i64 x.f2) rfl rfl (by kernel_rfl) (by kernel_rfl) (by kernel_rfl) (by kernel_rfl) (fun _ _ _ h => h) (yl_load 13 ⟨w.heap.size, 2, none⟩ (.int .i64 x.f2) (List.mem_cons_self) [4, 5, 11, 12, 13] (by kernel_rfl) rfl (by kernel_rfl) (fun _ => by kernel_rfl)) ?_
      refine At.take 3 (some 18) (.int .i64 (k : Int)) rfl rfl (by kernel_rfl) (by kernel_rfl) (by kernel_rfl) (by kernel_rfl) (fun _ _ _ h => h) (yl_pure (by kernel_rfl) (fun _ => by kernel_rfl)) ?_
      refine At.take 4 (some 19) (.int .i64 (x.f2 + (k : Int))) rfl rfl (by kernel_rfl) (by kernel_rfl) (by kernel_rfl) (by kernel_rfl) (fun _ _ _ h => h) (yl_is (.int .i64 (IntKind.i64.wrap (x.f2 + (k : Int)))) (by rw [HWR.out.1]) (by kernel_rfl) (fun _ => by kernel_rfl)) ?_
      refine At.take 5 (some 20) (.int .i64 (x.f2 + 1 + (k : Int))) rfl rfl (by kernel_rfl) (by kernel_rfl) (by kernel_rfl) (by kernel_rfl) (fun _ _ _ h => h) (yl_is (.int .i64 (IntKind.i64.wrap (x.f2 + (k : Int) + 1))) (by rw [HWR.out.2]) (by kernel_rfl) (fun _ => by kernel_rfl)) ?_
      refine At.take 6 (some 21) (.pointer (some ⟨w.heap.size, 4, none⟩)) rfl rfl (by kernel_rfl) (by kernel_rfl) (by kernel_rfl) (by kernel_rfl) (fun _ _ _ h => h) (yl_pure (by kernel_rfl) (fun _ => by kernel_rfl)) ?_
      refine At.take 7 (some 22) (.slice (some ⟨b, off, none⟩) x.f4.length cap) rfl rfl (by kernel_rfl) (by kernel_rfl) (by kernel_rfl) (by kernel_rfl) (fun _ _ _ h => h) (yl_load 13 ⟨w.heap.size, 4, none⟩ (.slice (some ⟨b, off, none⟩) x.f4.length cap) (List.mem_cons_of_mem _ (List.mem_cons_self)) [9, 10, 11, 12, 13] (by kernel_rfl) rfl (by kernel_rfl) (fun _ => by kernel_rfl)) ?_
      refine At.take 8 (some 23) (.int .i64 (k : Int)) rfl rfl (by kernel_rfl) (by kernel_rfl) (by kernel_rfl) (by kernel_rfl) (fun _ _ _ h => h) (yl_pure (by kernel_rfl) (fun _ => by kernel_rfl)) ?_
      refine At.take 9 (some 24) (.pointer (some ⟨b, off + k * 2, none⟩)) rfl rfl (by kernel_rfl) (by kernel_rfl) (by kernel_rfl) (by kernel_rfl) (fun _ _ _ h => h) (yl_pure (by kernel_rfl) (fun w => by go_simp)) ?_
      refine At.take 10 (some 25) (.agg #[.int .i64 x.f4[k].f0, .string x.f4[k].f1]) rfl rfl (by kernel_rfl) (by kernel_rfl) (by kernel_rfl) (by kernel_rfl) (fun _ _ _ h => h) (yl_loads 13 ⟨b, off + k * 2, none⟩ [.int .i64 x.f4[k].f0, .string x.f4[k].f1] (List.mem_cons_of_mem _ (List.mem_cons_of_mem _ (List.mem_cons_self))) [11, 12, 13] (by kernel_rfl) rfl (by kernel_rfl) (fun _ => by kernel_rfl)) ?_
      refine At.take 11 (some 26) (.agg #[.int .i64 (x.f2 + 1 + (k : Int)), .int .i64 x.f4[k].f0, .string x.f4[k].f1]) rfl rfl (by kernel_rfl) (by kernel_rfl) (by kernel_rfl) (by kernel_rfl) (fun _ _ _ h => h) (yl_pure (by kernel_rfl) (fun _ => by kernel_rfl)) ?_
      refine At.take 12 (some 27) (.iface 85 (.agg #[.int .i64 (x.f2 + 1 + (k : Int)), .int .i64 x.f4[k].f0, .string x.f4[k].f1])) rfl rfl (by kernel_rfl) (by kernel_rfl) (by kernel_rfl) (by kernel_rfl) (fun _ _ _ h => h) (yl_pure (by kernel_rfl) (fun _ => by kernel_rfl)) ?_
      refine At.step 13 (some 28) rfl rfl (by kernel_rfl) (by kernel_rfl) (fun u W => u = .slice (some ⟨wr.drew.heap.size, 0, none⟩) 1 1 ∧ W = wr.drew.alloc (.cells #[.iface 85 (.agg #[.int .i64 (x.f2 + 1 + (k : Int)), .int .i64 x.f4[k].f0, .string x.f4[k].f1])] 49)) (gives_run (by kernel_rfl)) ?_
      rintro u WB ⟨rfl, hWB⟩
      refine ⟨by subst hWB; exact held_cons (.inl (by kernel_rfl)) (held_cons (.inl (by kernel_rfl)) (held_cons (.inl (by kernel_rfl)) (held_nil))), ?_⟩
      have HOB : Hid (WB.ownsRow W0.heap.size 49 1 u5 (k - bt) ((recP x bt (k - bt)).map recV)) := by rw [hWB]; exact (show wr.drew.ownsRow _ _ _ _ _ _ from HO.out).alloc _
      have HBB : Hid (Below W0.heap.size W0 WB) := by rw [hWB]; exact (HBr.out.drew).alloc HBr.out.size _
      obtain ⟨v', WC, hrunC, hownC, hgrowC, _⟩ := run_append_own (P := Tryd.prog) WB W0.heap.size 43 43 49 iR .nilIface 1 16 Tryd.underlying43 hiR hR0 hR1 hR2 rfl (by decide) u5 (k - bt) _ HOB.out ⟨wr.drew.heap.size, 0, none⟩ 1 1 [.iface 85 (.agg #[.int .i64 (x.f2 + 1 + (k : Int)), .int .i64 x.f4[k].f0, .string x.f4[k].f1])] rfl (by rw [hWB]; exact cells_newW wr.drew _ _) (by intro u hu; simp at hu; subst hu; rfl) (by unfold maxLen; omega) (by omega) HBB.out.size
      refine At.step 14 (some 29) rfl rfl (by kernel_rfl) (by kernel_rfl) (fun u W => u = v' ∧ W = WC) (gives_append (fun _ => by kernel_rfl) hrunC) ?_
      rintro u WC' ⟨rfl, hWC⟩
      subst hWC
      refine ⟨held_cons (.inl (by kernel_rfl)) (held_cons (.inl (by kernel_rfl)) (held_cons (.inl (by kernel_rfl)) (held_nil))), ?_⟩
      refine At.take 15 (some 5) (u) rfl rfl (by kernel_rfl) (by kernel_rfl) (by kernel_rfl) (by kernel_rfl) (fun _ _ _ h => h) (yl_pure (by kernel_rfl) (fun _ => by kernel_rfl)) ?_
      refine At.done (by kernel_rfl) ?_
      simp only [Act.put, List.setIfInBounds_toArray, List.set_cons_zero, List.set_cons_succ]
      have HOE := own_step hbk hlt hownC
      have HBE : Hid (Below W0.heap.size W0 WC') := HBB.out.grown hgrowC HBB.out.size (ownBlock_ge HOB.out)
      clear hownC hgrowC hrunC HOB HBB hWB d0 d1 d2 d3 d4 c0 c1 HWR HC
      go_wp2
      go_roundw
      case rel => exact ⟨k + 1, by omega, by omega, by go_num, HOE, HBE⟩
      case measure => simp [intOf]; omega
    · have hke : k = x.f4.length := by omega
      subst hke
      go_wp2
      go_ret
      exact ⟨_, rfl, own_lowW HO.out (by rw [HZ0.out]; omega), HBw.out⟩

end Go.Proofs.YthlokfcejojdhaaDoor

/- What leads from one Wal to another one. -/
namespace Go.Proofs.YthlokfcejojdhaaDoor
open Go.RowKit
set_option linter.unusedVariables false

def eqE (x y : S_Entry) : Prop := x.f0 = y.f0 ∧ x.f1 = y.f1

instance (x y : S_Entry) : Decidable (eqE x y) := by unfold eqE; infer_instance

/-- How many entries both begin with. -/
def al : List S_Entry → List S_Entry → Nat
  | x :: l, y :: m => if eqE x y then al l m + 1 else 0
  | _, _ => 0

theorem al_le : ∀ (l m : List S_Entry), al l m ≤ l.length ∧ al l m ≤ m.length
  | [], m => by simp [al]
  | x :: l, [] => by simp [al]
  | x :: l, y :: m => by
    have h := al_le l m
    simp only [al]
    split
    · simp only [List.length_cons]; omega
    · simp

theorem al_same : ∀ (l m : List S_Entry) (k : Nat) (h1 : k < l.length) (h2 : k < m.length), k < al l m → eqE l[k] m[k]
  | [], m, k, h1, _, _ => by simp at h1
  | x :: l, [], k, _, h2, _ => by simp at h2
  | x :: l, y :: m, k, h1, h2, h => by
    simp only [al] at h
    split at h
    · rename_i he
      rcases k with _ | k
      · exact he
      · simp only [List.getElem_cons_succ]
        exact al_same l m k (by simpa using h1) (by simpa using h2) (by omega)
    · omega

theorem al_diff : ∀ (l m : List S_Entry) (k : Nat) (h1 : k < l.length) (h2 : k < m.length), k = al l m → ¬ eqE l[k] m[k]
  | [], m, k, h1, _, _ => by simp at h1
  | x :: l, [], k, _, h2, _ => by simp at h2
  | x :: l, y :: m, k, h1, h2, h => by
    simp only [al] at h
    split at h
    · subst h
      simp only [List.getElem_cons_succ]
      exact al_diff l m _ (by simpa using h1) (by simpa using h2) rfl
    · rename_i he
      subst h
      exact he

theorem al_step {l m : List S_Entry} {k : Nat} (h : k ≤ al l m) (h1 : k < l.length) (h2 : k < m.length) (he : eqE l[k] m[k]) : k + 1 ≤ al l m := by
  rcases Nat.lt_or_ge k (al l m) with h3 | h3
  · exact h3
  · exact absurd he (al_diff l m k h1 h2 (by omega))

theorem al_stop {l m : List S_Entry} {k : Nat} (h : k ≤ al l m) (hs : ∀ (h1 : k < l.length) (h2 : k < m.length), ¬ eqE l[k] m[k]) : k = al l m := by
  have a := al_le l m
  rcases Nat.lt_or_ge k (al l m) with h3 | h3
  · exact absurd (al_same l m k (by omega) (by omega) h3) (hs _ _)
  · omega

/-- That a hard record fits. -/
def fitH (a b : S_Wal) : Prop := a.f0 < b.f0 ∨ (b.f0 = a.f0 ∧ (a.f1 = -1 ∨ a.f1 = b.f1))

instance (a b : S_Wal) : Decidable (fitH a b) := by unfold fitH; infer_instance

def sameH (a b : S_Wal) : Prop := a.f0 = b.f0 ∧ a.f1 = b.f1

instance (a b : S_Wal) : Decidable (sameH a b) := by unfold sameH; infer_instance

def chOk (a b : S_Wal) : Prop := (okW a ∧ okW b ∧ a.f2 = b.f2 ∧ a.f3 = b.f3) ∧ (sameH a b ∨ fitH a b)

def ctR (a : S_Wal) (k : Nat) : S_Rec := ⟨3, 0, a.f2 + k + 1, 0, ⟨#[]⟩⟩
def ch0 (a b : S_Wal) : List S_Rec := if sameH a b then [] else [hdRec b]
def ch1 (a b : S_Wal) : List S_Rec := ch0 a b ++ (if al a.f4 b.f4 < a.f4.length then [ctR a (al a.f4 b.f4)] else [])
def chP (a b : S_Wal) (j : Nat) : List S_Rec := ch1 a b ++ recP b (al a.f4 b.f4) j
def chL (a b : S_Wal) : List S_Rec := chP a b (b.f4.length - al a.f4 b.f4)

theorem ch0_len (a b : S_Wal) : (ch0 a b).length ≤ 1 := by unfold ch0; split <;> simp
theorem ch1_len (a b : S_Wal) : (ch1 a b).length ≤ 2 := by
  have := ch0_len a b
  unfold ch1
  rw [List.length_append]
  split <;> simp <;> omega
theorem chP_len (a b : S_Wal) (j : Nat) : (chP a b j).length ≤ 2 + j := by
  have := ch1_len a b
  unfold chP
  rw [List.length_append, recP_len]
  omega
theorem chP_zero (a b : S_Wal) : chP a b 0 = ch1 a b := by unfold chP recP; rw [List.append_nil]
theorem chP_succ (a b : S_Wal) (j : Nat) : chP a b (j + 1) = chP a b j ++ [enRec b (al a.f4 b.f4 + j)] := by
  unfold chP
  rw [show recP b (al a.f4 b.f4) (j + 1) = recP b (al a.f4 b.f4) j ++ [enRec b (al a.f4 b.f4 + j)] from rfl, List.append_assoc]

theorem rRec_snoc (L : List S_Rec) (r : S_Rec) : rRec (L ++ [r]) = rRec L ++ cRec r := by unfold rRec; rw [List.flatMap_append]; simp

theorem own_snocRec {w : World} {base : Nat} {v : Value} {L : List S_Rec} {r : S_Rec} (h : w.ownsRow base 57 5 v (L.length + 1) (rRec L ++ cRec r)) : w.ownsRow base 57 5 v (L ++ [r]).length (rRec (L ++ [r])) := by
  rw [rRec_snoc, List.length_append, List.length_singleton]
  exact h

theorem eqEE (x y : S_Entry) (W : World) : (binOp .eql 63 (.agg #[.int .i64 x.f0, .string x.f1]) (.agg #[.int .i64 y.f0, .string y.f1])).run Tryd.prog W = .ok (.bool (decide (eqE x y))) W := by
  have hs := txt_iff x.f1 y.f1
  unfold eqE
  go_simp
  by_cases h0 : x.f0 = y.f0
  · by_cases h1 : x.f1 = y.f1
    · simp [h0, h1]
    · simp [h0, h1]
  · simp [h0]

end Go.Proofs.YthlokfcejojdhaaDoor

/- That a hard record fits, and how many entries both begin with, by contracts. -/
namespace Go.Proofs.YthlokfcejojdhaaDoor
open Go.RowKit
set_option linter.unusedVariables false
set_option linter.unusedSimpArgs false

set_option maxRecDepth 20000 in
set_option maxHeartbeats 1000000 in
theorem specFits_c (a b : S_Wal) (p : Option Addr) (cap : Nat) (w : World) (hn : a.f4.length ≤ 1048576) (h2 : 0 ≤ a.f2 ∧ a.f2 ≤ 100000) :
    Calls Tryd.prog 58 #[.agg #[.int .i64 a.f0, .int .i64 a.f1, .int .i64 a.f2, .int .i64 a.f3, .slice p a.f4.length cap], .agg #[.int .i64 1, .int .i64 b.f0, .int .i64 0, .int .i64 b.f1, .string ⟨#[]⟩]] w fun e w' => e = .returned (.bool (decide (fitH a b))) ∧ Below w.heap.size w w' := by
  obtain ⟨h2a, h2b⟩ := h2
  have hn' : (a.f4.length : Int) ≤ 1048576 := by omega
  by_cases h1 : a.f0 < b.f0
  · have HF : Hid (fitH a b) := .inl h1
    go_enter Tryd.func58, Tryd.ntmps58
    go_wp2
    go_ret
    exact ⟨ret_t HF.out, by first | exact (((Below.refl _ _).alloc (Nat.le_refl _) _).alloc (by simp) _) | exact ((Below.refl _ _).alloc (Nat.le_refl _) _) | exact Below.refl _ _⟩
  by_cases h3 : b.f0 = a.f0
  rotate_left
  · have HF : Hid (¬ fitH a b) := fun h => h.elim h1 (fun h => h3 h.1)
    have b3 : (b.f0 == a.f0) = false := by simpa using h3
    clear h3
    go_enter Tryd.func58, Tryd.ntmps58
    go_wp2
    go_ret
    exact ⟨ret_f HF.out, by first | exact (((Below.refl _ _).alloc (Nat.le_refl _) _).alloc (by simp) _) | exact ((Below.refl _ _).alloc (Nat.le_refl _) _) | exact Below.refl _ _⟩
  have b3 : (b.f0 == a.f0) = true := by simpa using h3
  by_cases h4 : a.f1 = -1
  · have HF : Hid (fitH a b) := .inr ⟨h3, .inl h4⟩
    have b4 : (a.f1 == -1) = true := by simpa using h4
    clear h3 h4
    go_enter Tryd.func58, Tryd.ntmps58
    go_wp2
    go_ret
    exact ⟨ret_t HF.out, by first | exact (((Below.refl _ _).alloc (Nat.le_refl _) _).alloc (by simp) _) | exact ((Below.refl _ _).alloc (Nat.le_refl _) _) | exact Below.refl _ _⟩
  have b4 : (a.f1 == -1) = false := by simpa using h4
  by_cases h5 : a.f1 = b.f1
  · have HF : Hid (fitH a b) := .inr ⟨h3, .inr h5⟩
    have b5 : (a.f1 == b.f1) = true := by simpa using h5
    have b6 : (b.f1 == a.f1) = true := by simpa using h5.symm
    clear h3 h4 h5
    go_enter Tryd.func58, Tryd.ntmps58
    go_wp2
    go_ret
    exact ⟨ret_t HF.out, by first | exact (((Below.refl _ _).alloc (Nat.le_refl _) _).alloc (by simp) _) | exact ((Below.refl _ _).alloc (Nat.le_refl _) _) | exact Below.refl _ _⟩
  · have HF : Hid (¬ fitH a b) := fun h => h.elim h1 (fun h => h.2.elim h4 h5)
    have b5 : (a.f1 == b.f1) = false := by simpa using h5
    have b6 : (b.f1 == a.f1) = false := by simpa using fun h => h5 h.symm
    clear h3 h4 h5
    go_enter Tryd.func58, Tryd.ntmps58
    go_wp2
    go_ret
    exact ⟨ret_f HF.out, by first | exact (((Below.refl _ _).alloc (Nat.le_refl _) _).alloc (by simp) _) | exact ((Below.refl _ _).alloc (Nat.le_refl _) _) | exact Below.refl _ _⟩

set_option maxRecDepth 20000 in
set_option maxHeartbeats 1000000 in
theorem implFits_c (a b : S_Wal) (p : Option Addr) (cap : Nat) (w : World) (hn : a.f4.length ≤ 1048576) (h2 : 0 ≤ a.f2 ∧ a.f2 ≤ 100000) :
    Calls Tryd.prog 104 #[.agg #[.int .i64 b.f0, .int .i64 b.f1], .agg #[.int .i64 a.f0, .int .i64 a.f1, .int .i64 a.f2, .int .i64 a.f3, .slice p a.f4.length cap]] w fun e w' => e = .returned (.bool (decide (fitH a b))) ∧ Below w.heap.size w w' := by
  obtain ⟨h2a, h2b⟩ := h2
  have hn' : (a.f4.length : Int) ≤ 1048576 := by omega
  by_cases h1 : a.f0 < b.f0
  · have HF : Hid (fitH a b) := .inl h1
    go_enter Tryd.func104, Tryd.ntmps104
    go_wp2
    go_ret
    exact ⟨ret_t HF.out, by first | exact (((Below.refl _ _).alloc (Nat.le_refl _) _).alloc (by simp) _) | exact ((Below.refl _ _).alloc (Nat.le_refl _) _) | exact Below.refl _ _⟩
  by_cases h3 : b.f0 = a.f0
  rotate_left
  · have HF : Hid (¬ fitH a b) := fun h => h.elim h1 (fun h => h3 h.1)
    have b3 : (b.f0 == a.f0) = false := by simpa using h3
    clear h3
    go_enter Tryd.func104, Tryd.ntmps104
    go_wp2
    go_ret
    exact ⟨ret_f HF.out, by first | exact (((Below.refl _ _).alloc (Nat.le_refl _) _).alloc (by simp) _) | exact ((Below.refl _ _).alloc (Nat.le_refl _) _) | exact Below.refl _ _⟩
  have b3 : (b.f0 == a.f0) = true := by simpa using h3
  by_cases h4 : a.f1 = -1
  · have HF : Hid (fitH a b) := .inr ⟨h3, .inl h4⟩
    have b4 : (a.f1 == -1) = true := by simpa using h4
    clear h3 h4
    go_enter Tryd.func104, Tryd.ntmps104
    go_wp2
    go_ret
    exact ⟨ret_t HF.out, by first | exact (((Below.refl _ _).alloc (Nat.le_refl _) _).alloc (by simp) _) | exact ((Below.refl _ _).alloc (Nat.le_refl _) _) | exact Below.refl _ _⟩
  have b4 : (a.f1 == -1) = false := by simpa using h4
  by_cases h5 : a.f1 = b.f1
  · have HF : Hid (fitH a b) := .inr ⟨h3, .inr h5⟩
    have b5 : (a.f1 == b.f1) = true := by simpa using h5
    have b6 : (b.f1 == a.f1) = true := by simpa using h5.symm
    clear h3 h4 h5
    go_enter Tryd.func104, Tryd.ntmps104
    go_wp2
    go_ret
    exact ⟨ret_t HF.out, by first | exact (((Below.refl _ _).alloc (Nat.le_refl _) _).alloc (by simp) _) | exact ((Below.refl _ _).alloc (Nat.le_refl _) _) | exact Below.refl _ _⟩
  · have HF : Hid (¬ fitH a b) := fun h => h.elim h1 (fun h => h.2.elim h4 h5)
    have b5 : (a.f1 == b.f1) = false := by simpa using h5
    have b6 : (b.f1 == a.f1) = false := by simpa using fun h => h5 h.symm
    clear h3 h4 h5
    go_enter Tryd.func104, Tryd.ntmps104
    go_wp2
    go_ret
    exact ⟨ret_f HF.out, by first | exact (((Below.refl _ _).alloc (Nat.le_refl _) _).alloc (by simp) _) | exact ((Below.refl _ _).alloc (Nat.le_refl _) _) | exact Below.refl _ _⟩

end Go.Proofs.YthlokfcejojdhaaDoor

/- The steps of hard records and of cuts, by the program. -/
namespace Go.Proofs.YthlokfcejojdhaaDoor
open Go.RowKit
set_option linter.unusedVariables false
set_option linter.unusedSimpArgs false

/-- The log behind a record, or as it was. -/
def stG (x : S_Wal) (r : S_Rec) : S_Wal := if fitsR x r then stepF x r else x

/-- What a record's step answers, and what it makes of the log in block b. -/
def StR (x : S_Wal) (r : S_Rec) (b base B : Nat) (w : World) (e : Ending) (w' : World) : Prop :=
  e = .returned (.bool (decide (fitsR x r))) ∧ ∃ q c, w'.heap[b]? = some (.cells #[.int .i64 (stG x r).f0, .int .i64 (stG x r).f1, .int .i64 (stG x r).f2, .int .i64 (stG x r).f3, .slice q (stG x r).f4.length c] 26) ∧ w'.ownsRow base 63 2 (.slice q (stG x r).f4.length c) (stG x r).f4.length (rEntry (stG x r).f4) ∧ Below B w w'

theorem stR_no {x : S_Wal} {r : S_Rec} {b base B : Nat} {w w' : World} {q : Option Addr} {c : Nat} (h : ¬ fitsR x r) (h1 : w'.heap[b]? = some (.cells #[.int .i64 x.f0, .int .i64 x.f1, .int .i64 x.f2, .int .i64 x.f3, .slice q x.f4.length c] 26)) (h2 : w'.ownsRow base 63 2 (.slice q x.f4.length c) x.f4.length (rEntry x.f4)) (h3 : Below B w w') : StR x r b base B w (.returned (.bool false)) w' := by
  have e : stG x r = x := if_neg h
  unfold StR
  rw [e, decide_eq_false h]
  exact ⟨rfl, q, c, h1, h2, h3⟩

theorem stR_yes {x : S_Wal} {r : S_Rec} {b base B : Nat} {w w' : World} {q : Option Addr} {c : Nat} {y : S_Wal} (h : fitsR x r) (e : stepF x r = y) (h1 : w'.heap[b]? = some (.cells #[.int .i64 y.f0, .int .i64 y.f1, .int .i64 y.f2, .int .i64 y.f3, .slice q y.f4.length c] 26)) (h2 : w'.ownsRow base 63 2 (.slice q y.f4.length c) y.f4.length (rEntry y.f4)) (h3 : Below B w w') : StR x r b base B w (.returned (.bool true)) w' := by
  have e : stG x r = y := (if_pos h).trans e
  unfold StR
  rw [e, decide_eq_true h]
  exact ⟨rfl, q, c, h1, h2, h3⟩

/-- The row of entries does not lie in the log's own block. -/
theorem own_ne {w : World} {base b n : Nat} {v : Value} {xs : List Value} {cs : Array Value} (ho : w.ownsRow base 63 2 v n xs) (hx : w.heap[b]? = some (.cells cs 26)) : ∀ k, v.ownBlock = some k → k ≠ b := by
  intro k hk e
  subst e
  obtain ⟨_, ⟨rfl, _⟩ | ⟨g, cap, cur, rfl, _, hh, _⟩⟩ := ho
  · cases hk
  · simp only [Value.ownBlock, Option.some.injEq] at hk
    subst hk
    rw [hh] at hx
    simp only [Option.some.injEq, Obj.cells.injEq] at hx
    exact absurd hx.2.1 (by decide)

theorem own_setS {w : World} {base : Nat} {e : TypeId} {size n : Nat} {v : Value} {xs : List Value} {a : Addr} (ho : w.ownsRow base e size v n xs) (u : Value) (hne : ∀ k, v.ownBlock = some k → k ≠ a.block) : (w.setCell a u).ownsRow base e size v n xs := by
  obtain ⟨h1, ⟨rfl, h2⟩ | ⟨g, cap, cur, rfl, hg, hh, r⟩⟩ := ho
  · exact ⟨h1, .inl ⟨rfl, h2⟩⟩
  · exact ⟨h1, .inr ⟨g, cap, cur, rfl, hg, by rw [Below.heap_setCell _ _ _ _ (hne g rfl)]; exact hh, r⟩⟩

theorem cell_set_neS {w : World} {a p : Addr} {u v : Value} (h : w.cell? a = some u) (hn : a.block ≠ p.block) : (w.setCell p v).cell? a = some u := by
  unfold World.cell? at *
  rw [Below.heap_setCell _ _ _ _ hn]
  exact h

theorem cells2S {w W : World} {b : Nat} {c0 c1 : Value} {T : TypeId} (h : w.heap[b]? = some (.cells #[c0, c1] T)) (hS : Below w.heap.size w W) : ∀ j u, [c0, c1][j]? = some u → W.cell? ((⟨b, 0, none⟩ : Addr).add j) = some u := by
  have h' : W.heap[b]? = some (.cells #[c0, c1] T) := (hS.block _ (lt_of_some h)).trans h
  obtain ⟨a0, a1⟩ := box2S h'
  intro j u hj
  rw [Addr.add_mid, Nat.zero_add]
  rcases j with _ | _ | j
  · simp only [List.getElem?_cons_zero, Option.some.injEq] at hj; rw [← hj]; exact a0
  · simp only [List.getElem?_cons_succ, List.getElem?_cons_zero, Option.some.injEq] at hj; rw [← hj]; exact a1
  · simp at hj

theorem box3S {w : World} {b : Nat} {a0 a1 a2 : Value} {t : TypeId} (h : w.heap[b]? = some (.cells #[a0, a1, a2] t)) : w.cell? ⟨b, 0, none⟩ = some a0 ∧ w.cell? ⟨b, 1, none⟩ = some a1 ∧ w.cell? ⟨b, 2, none⟩ = some a2 := by
  simp [World.cell?, h]

theorem box1S {w : World} {b : Nat} {a0 : Value} {t : TypeId} (h : w.heap[b]? = some (.cells #[a0] t)) : w.cell? ⟨b, 0, none⟩ = some a0 := by
  simp [World.cell?, h]

theorem fitH_1 (x : S_Wal) (r : S_Rec) (h : r.f0 = 1) : fitH x ⟨r.f1, r.f3, 0, 0, []⟩ ↔ fitsR x r := by
  rw [fits_1 h]
  unfold fitH fit1
  constructor
  · rintro (h | ⟨h1, h2 | h2⟩)
    · exact .inl h
    · exact .inr ⟨h1, .inl h2⟩
    · exact .inr ⟨h1, .inr h2.symm⟩
  · rintro (h | ⟨h1, h2 | h2⟩)
    · exact .inl h
    · exact .inr ⟨h1, .inl h2⟩
    · exact .inr ⟨h1, .inr h2.symm⟩

theorem winS_yes (n a b : Int) (w : World) (h1 : a ≤ n) (h2 : n ≤ b) : Calls Tryd.prog 41 #[.int .i64 n, .int .i64 a, .int .i64 b] w fun e w' => e = .returned (.bool true) ∧ Below w.heap.size w w' :=
  (win_yes n a b w h1 h2).mono fun e w' ⟨he, hw⟩ => ⟨he, by rw [hw]; exact Below.refl _ _⟩

theorem winS_no (n a b : Int) (w : World) (h : ¬ (a ≤ n ∧ n ≤ b)) : Calls Tryd.prog 41 #[.int .i64 n, .int .i64 a, .int .i64 b] w fun e w' => e = .returned (.bool false) ∧ Below w.heap.size w w' :=
  (win_no n a b w h).mono fun e w' ⟨he, hw⟩ => ⟨he, by rw [hw]; exact Below.refl _ _⟩

set_option maxRecDepth 20000 in
set_option maxHeartbeats 4000000 in
theorem step_hard (x : S_Wal) (r : S_Rec) (p : Option Addr) (cap b base B : Nat) (w : World) (hk : r.f0 = 1) (hz : r.f4.size ≤ 1048576) (hr2 : 0 ≤ r.f2 ∧ r.f2 ≤ 1000000) (hL : x.f4.length ≤ 1048576 ∧ (0 ≤ x.f2 ∧ x.f2 ≤ 100000)) (hx : w.heap[b]? = some (.cells #[.int .i64 x.f0, .int .i64 x.f1, .int .i64 x.f2, .int .i64 x.f3, .slice p x.f4.length cap] 26)) (ho : w.ownsRow base 63 2 (.slice p x.f4.length cap) x.f4.length (rEntry x.f4)) (hB : B ≤ b ∧ B ≤ base) (hbw : base ≤ w.heap.size) :
    Calls Tryd.prog 105 #[.agg #[.int .i64 r.f1, .int .i64 r.f3], .pointer (some ⟨b, 0, none⟩)] w (StR x r b base B w) := by
  have HL : Hid (x.f4.length ≤ 1048576 ∧ (0 ≤ x.f2 ∧ x.f2 ≤ 100000)) := hL
  have HK : Hid (r.f0 = _) := hk
  have HRI : Hid (0 ≤ r.f2 ∧ r.f2 ≤ 1000000) := hr2
  have HZR : Hid (r.f4.size ≤ 1048576) := hz
  have HBB : Hid (b < w.heap.size ∧ base ≤ w.heap.size ∧ B ≤ b ∧ B ≤ base) := ⟨lt_of_some hx, hbw, hB.1, hB.2⟩
  have hbs := lt_of_some hx
  obtain ⟨W0, hW0⟩ : ∃ W, W = w.alloc (.cells #[.int .i64 r.f1, .int .i64 r.f3] 42) := ⟨_, rfl⟩
  have HW0 : Hid (w.alloc (.cells #[.int .i64 r.f1, .int .i64 r.f3] 42) = W0) := hW0.symm
  have HR0 : Hid (W0.heap[w.heap.size]? = some (.cells #[.int .i64 r.f1, .int .i64 r.f3] 42)) := by rw [hW0]; exact alloc_last _ _
  have HX0 : Hid (W0.heap[b]? = some (.cells #[.int .i64 x.f0, .int .i64 x.f1, .int .i64 x.f2, .int .i64 x.f3, .slice p x.f4.length cap] 26)) := by rw [hW0, Below.heap_alloc _ _ _ (by omega)]; exact hx
  have HO0 : Hid (W0.ownsRow base 63 2 (.slice p x.f4.length cap) x.f4.length (rEntry x.f4)) := by rw [hW0]; exact ho.alloc _
  have HB0 : Hid (Below w.heap.size w W0) := by rw [hW0]; exact (Below.refl _ _).alloc (Nat.le_refl _) _
  have hnn : (0 : Int) ≤ x.f4.length := by omega
  have hll : (x.f4.length : Int) ≤ 1048576 := by omega
  obtain ⟨hx2a, hx2b⟩ := hL.2
  have hwl : IntKind.i64.wrap (x.f2 + (x.f4.length : Int)) = x.f2 + (x.f4.length : Int) := IntWalk.i64_in _ (by omega)
  have hwl1 : IntKind.i64.wrap (x.f2 + (x.f4.length : Int) + 1) = x.f2 + (x.f4.length : Int) + 1 := IntWalk.i64_in _ (by omega)
  have hw1 : IntKind.i64.wrap (x.f2 + 1) = x.f2 + 1 := IntWalk.i64_in _ (by omega)
  obtain ⟨d0, d1, d2, d3, d4⟩ := box5 HX0.out
  clear hx ho hB hbw hz hr2 hk hL hW0 hbs
  by_cases hf : fitsR x r
  rotate_left
  · have HF : Hid (¬ fitsR x r) := hf
    have HFC : Hid (∀ W : World, Calls Tryd.prog 104 #[.agg #[.int .i64 r.f1, .int .i64 r.f3], .agg #[.int .i64 x.f0, .int .i64 x.f1, .int .i64 x.f2, .int .i64 x.f3, .slice p x.f4.length cap]] W fun e w' => e = .returned (.bool false) ∧ Below W.heap.size W w') := fun W => by
      have := implFits_c x ⟨r.f1, r.f3, 0, 0, []⟩ p cap W HL.out.1 HL.out.2
      rw [decide_eq_false (fun h => hf ((fitH_1 x r HK.out).1 h))] at this
      exact this
    clear hf
    go_enter Tryd.func105, Tryd.ntmps105
    go_upto_region 1 with fail
    rw [HW0.out]
    refine wp_region_told (fun W => Below W0.heap.size W0 W) (by kernel_rfl) (by kernel_rfl) ((Below.refl W0.heap.size W0).drew) ?_
    refine told_loads (some 5) ⟨w.heap.size, 0, none⟩ [.int .i64 r.f1, .int .i64 r.f3] rfl (by kernel_rfl) (fun _ => by kernel_rfl) (fun _ hS => cells2S HR0.out hS) ?_
    refine told_pure (some 6) (.pointer (some ⟨b, 0, none⟩)) rfl (by kernel_rfl) (fun _ => by kernel_rfl) ?_
    refine told_pure (some 7) (.pointer (some ⟨b, 0, none⟩)) rfl (by kernel_rfl) (fun _ => by kernel_rfl) ?_
    refine told_loads (some 8) ⟨b, 0, none⟩ [(.int .i64 x.f0), (.int .i64 x.f1), (.int .i64 x.f2), (.int .i64 x.f3), (.slice p x.f4.length cap)] rfl (by kernel_rfl) (fun _ => by kernel_rfl) (fun _ hS => cellsS HX0.out hS) ?_
    refine told_call (some 9) (.bool false) 104 #[.agg #[.int .i64 r.f1, .int .i64 r.f3], .agg #[.int .i64 x.f0, .int .i64 x.f1, .int .i64 x.f2, .int .i64 x.f3, .slice p x.f4.length cap]] rfl (by kernel_rfl) (fun _ => by kernel_rfl) (fun W hS => below_S (HFC.out W) hS) ?_
    refine told_pure (some 10) (.bool true) rfl (by kernel_rfl) (fun _ => by kernel_rfl) ?_
    refine told_nil ?_
    intro w1 hS
    simp only [Act.put, List.setIfInBounds_toArray, List.set_cons_zero, List.set_cons_succ]
    have HB1 : Hid (Below W0.heap.size W0 w1) := hS
    clear hS
    have HX9 : Hid (w1.heap[b]? = some (.cells #[.int .i64 x.f0, .int .i64 x.f1, .int .i64 x.f2, .int .i64 x.f3, .slice p x.f4.length cap] 26)) := (HB1.out.block _ (lt_of_some HX0.out)).trans HX0.out
    have HO9 : Hid (w1.ownsRow base 63 2 (.slice p x.f4.length cap) x.f4.length (rEntry x.f4)) := own_bel HO0.out HB1.out (Nat.le_refl _)
    have HB9 : Hid (Below B w w1) := (HB0.out.trans (HB1.out.mono HB0.out.size)).mono (by have := HBB.out; omega)
    go_wp2
    go_ret
    exact stR_no HF.out HX9.out HO9.out HB9.out
  have HF : Hid (fitsR x r) := hf
  have HE : Hid (stepF x r = ⟨r.f1, r.f3, x.f2, x.f3, x.f4⟩) := step_1 HK.out
  have HFC : Hid (∀ W : World, Calls Tryd.prog 104 #[.agg #[.int .i64 r.f1, .int .i64 r.f3], .agg #[.int .i64 x.f0, .int .i64 x.f1, .int .i64 x.f2, .int .i64 x.f3, .slice p x.f4.length cap]] W fun e w' => e = .returned (.bool true) ∧ Below W.heap.size W w') := fun W => by
    have := implFits_c x ⟨r.f1, r.f3, 0, 0, []⟩ p cap W HL.out.1 HL.out.2
    rw [decide_eq_true ((fitH_1 x r HK.out).2 hf)] at this
    exact this
  clear hf
  go_enter Tryd.func105, Tryd.ntmps105
  go_upto_region 1 with fail
  rw [HW0.out]
  refine wp_region_told (fun W => Below W0.heap.size W0 W) (by kernel_rfl) (by kernel_rfl) ((Below.refl W0.heap.size W0).drew) ?_
  refine told_loads (some 5) ⟨w.heap.size, 0, none⟩ [.int .i64 r.f1, .int .i64 r.f3] rfl (by kernel_rfl) (fun _ => by kernel_rfl) (fun _ hS => cells2S HR0.out hS) ?_
  refine told_pure (some 6) (.pointer (some ⟨b, 0, none⟩)) rfl (by kernel_rfl) (fun _ => by kernel_rfl) ?_
  refine told_pure (some 7) (.pointer (some ⟨b, 0, none⟩)) rfl (by kernel_rfl) (fun _ => by kernel_rfl) ?_
  refine told_loads (some 8) ⟨b, 0, none⟩ [(.int .i64 x.f0), (.int .i64 x.f1), (.int .i64 x.f2), (.int .i64 x.f3), (.slice p x.f4.length cap)] rfl (by kernel_rfl) (fun _ => by kernel_rfl) (fun _ hS => cellsS HX0.out hS) ?_
  refine told_call (some 9) (.bool true) 104 #[.agg #[.int .i64 r.f1, .int .i64 r.f3], .agg #[.int .i64 x.f0, .int .i64 x.f1, .int .i64 x.f2, .int .i64 x.f3, .slice p x.f4.length cap]] rfl (by kernel_rfl) (fun _ => by kernel_rfl) (fun W hS => below_S (HFC.out W) hS) ?_
  refine told_pure (some 10) (.bool false) rfl (by kernel_rfl) (fun _ => by kernel_rfl) ?_
  refine told_nil ?_
  intro w1 hS
  simp only [Act.put, List.setIfInBounds_toArray, List.set_cons_zero, List.set_cons_succ]
  have HB1 : Hid (Below W0.heap.size W0 w1) := hS
  clear hS
  have HX1 : Hid (w1.heap[b]? = some (.cells #[.int .i64 x.f0, .int .i64 x.f1, .int .i64 x.f2, .int .i64 x.f3, .slice p x.f4.length cap] 26)) := (HB1.out.block _ (lt_of_some HX0.out)).trans HX0.out
  have HR1 : Hid (w1.heap[w.heap.size]? = some (.cells #[.int .i64 r.f1, .int .i64 r.f3] 42)) := (HB1.out.block _ (lt_of_some HR0.out)).trans HR0.out
  have HO1 : Hid (w1.ownsRow base 63 2 (.slice p x.f4.length cap) x.f4.length (rEntry x.f4)) := own_bel HO0.out HB1.out (Nat.le_refl _)
  have HBw : Hid (Below w.heap.size w w1) := HB0.out.trans (HB1.out.mono HB0.out.size)
  clear d0 d1 d2 d3 d4
  go_upto_region 3 with fail
  have e0 : w1.drew.cell? ⟨w.heap.size, 0, none⟩ = some (.int .i64 r.f1) := (box2S HR1.out).1
  have e1 : w1.drew.cell? ⟨w.heap.size, 1, none⟩ = some (.int .i64 r.f3) := (box2S HR1.out).2
  have d0 : w1.drew.cell? ⟨b, 0, none⟩ = some (.int .i64 x.f0) := (box5 HX1.out).1
  have df : ∀ o, w1.drew.frozen? ⟨b, o, none⟩ = false := frz5 HX1.out
  refine wp_region_L [⟨8, fun W => W.cell? ⟨w.heap.size, 0, none⟩ = some (.int .i64 r.f1)⟩, ⟨11, fun W => W.cell? ⟨w.heap.size, 1, none⟩ = some (.int .i64 r.f3)⟩] (by kernel_rfl) (fun f hf => by
      simp only [List.mem_cons, List.not_mem_nil, or_false] at hf
      rcases hf with rfl | rfl
      · exact e0
      · exact e1
      ) ?_
  refine At.take 0 (some 11) (.pointer (some ⟨b, 0, none⟩)) rfl rfl (by kernel_rfl) (by kernel_rfl) (by kernel_rfl) (by kernel_rfl) (fun _ _ _ h => h) (yl_pure (by kernel_rfl) (fun _ => by kernel_rfl)) ?_
  refine At.take 1 (some 12) (.pointer (some ⟨b, 0, none⟩)) rfl rfl (by kernel_rfl) (by kernel_rfl) (by kernel_rfl) (by kernel_rfl) (fun _ _ _ h => h) (yl_pure (by kernel_rfl) (fun _ => by kernel_rfl)) ?_
  refine At.take 2 (some 13) (.pointer (some ⟨w.heap.size, 0, none⟩)) rfl rfl (by kernel_rfl) (by kernel_rfl) (by kernel_rfl) (by kernel_rfl) (fun _ _ _ h => h) (yl_pure (by kernel_rfl) (fun _ => by kernel_rfl)) ?_
  refine At.take 3 (some 14) (.int .i64 r.f1) rfl rfl (by kernel_rfl) (by kernel_rfl) (by kernel_rfl) (by kernel_rfl) (fun _ _ _ h => h) (yl_load 8 ⟨w.heap.size, 0, none⟩ (.int .i64 r.f1) (List.mem_cons_self) [6, 7, 8] (by kernel_rfl) rfl (by kernel_rfl) (fun _ => by kernel_rfl)) ?_
  refine At.take 4 (some 15) (.pointer (some ⟨w.heap.size, 1, none⟩)) rfl rfl (by kernel_rfl) (by kernel_rfl) (by kernel_rfl) (by kernel_rfl) (fun _ _ _ h => h) (yl_pure (by kernel_rfl) (fun _ => by kernel_rfl)) ?_
  refine At.take 5 (some 16) (.int .i64 r.f3) rfl rfl (by kernel_rfl) (by kernel_rfl) (by kernel_rfl) (by kernel_rfl) (fun _ _ _ h => h) (yl_load 11 ⟨w.heap.size, 1, none⟩ (.int .i64 r.f3) (List.mem_cons_of_mem _ (List.mem_cons_self)) [9, 10, 11] (by kernel_rfl) rfl (by kernel_rfl) (fun _ => by kernel_rfl)) ?_
  refine At.take 6 (some 17) (.pointer (some ⟨b, 0, none⟩)) rfl rfl (by kernel_rfl) (by kernel_rfl) (by kernel_rfl) (by kernel_rfl) (fun _ _ _ h => h) (yl_pure (by kernel_rfl) (fun _ => by kernel_rfl)) ?_
  refine At.take 7 (some 18) (.pointer (some ⟨b, 0, none⟩)) rfl rfl (by kernel_rfl) (by kernel_rfl) (by kernel_rfl) (by kernel_rfl) (fun _ _ _ h => h) (yl_pure (by kernel_rfl) (fun _ => by kernel_rfl)) ?_
  refine At.step 8 none rfl rfl (by kernel_rfl) (by kernel_rfl) (fun u W => u = undef ∧ W = w1.drew.setCell ⟨b, 0, none⟩ (.int .i64 r.f1)) (gives_store (p := ⟨b, 0, none⟩) (x := .int .i64 r.f1) (y := .int .i64 x.f0) (fun _ => by kernel_rfl) (by rfl) d0 (df 0)) ?_
  rintro u WA ⟨rfl, hWA⟩
  refine ⟨by rw [hWA]; exact held_cons (.inl (by kernel_rfl)) (held_cons (.inr (cell_set_neS (by exact e1) (by have := HBB.out; show w.heap.size ≠ b; omega))) (held_nil)), ?_⟩
  have HXA : Hid (WA.heap[b]? = some (.cells #[.int .i64 r.f1, .int .i64 x.f1, .int .i64 x.f2, .int .i64 x.f3, .slice p x.f4.length cap] 26)) := by rw [hWA]; exact heap_setCell_same w1.drew b 0 _ _ (.int .i64 r.f1) HX1.out
  have r1 := (box5 HXA.out).2.1
  have rf := frz5 HXA.out
  refine At.take 9 (some 19) (.pointer (some ⟨b, 0, none⟩)) rfl rfl (by kernel_rfl) (by kernel_rfl) (by kernel_rfl) (by kernel_rfl) (fun _ _ _ h => h) (yl_pure (by kernel_rfl) (fun _ => by kernel_rfl)) ?_
  refine At.take 10 (some 20) (.pointer (some ⟨b, 1, none⟩)) rfl rfl (by kernel_rfl) (by kernel_rfl) (by kernel_rfl) (by kernel_rfl) (fun _ _ _ h => h) (yl_pure (by kernel_rfl) (fun _ => by kernel_rfl)) ?_
  refine At.step 11 none rfl rfl (by kernel_rfl) (by kernel_rfl) (fun u W => u = undef ∧ W = WA.setCell ⟨b, 1, none⟩ (.int .i64 r.f3)) (gives_store (p := ⟨b, 1, none⟩) (x := .int .i64 r.f3) (y := .int .i64 x.f1) (fun _ => by kernel_rfl) (by rfl) r1 (rf 1)) ?_
  rintro u WE ⟨rfl, hWE⟩
  refine ⟨held_cons (.inl (by kernel_rfl)) (held_cons (.inl (by kernel_rfl)) (held_nil)), ?_⟩
  refine At.done (by kernel_rfl) ?_
  simp only [Act.put, List.setIfInBounds_toArray, List.set_cons_zero, List.set_cons_succ]
  have HXE : Hid (WE.heap[b]? = some (.cells #[.int .i64 r.f1, .int .i64 r.f3, .int .i64 x.f2, .int .i64 x.f3, .slice p x.f4.length cap] 26)) := by rw [hWE]; exact heap_setCell_same WA b 1 _ _ (.int .i64 r.f3) HXA.out
  have HOE : Hid (WE.ownsRow base 63 2 (.slice p x.f4.length cap) x.f4.length (rEntry x.f4)) := by rw [hWE, hWA]; exact own_setS (own_setS (show w1.drew.ownsRow _ _ _ _ _ _ from HO1.out) _ (own_ne HO1.out HX1.out)) _ (own_ne HO1.out HX1.out)
  have HBE : Hid (Below B w WE) := by rw [hWE, hWA]; exact ((((HBw.out.mono (by have := HBB.out; omega)) : Below B w w1).drew).setCell (by exact HBB.out.2.2.1) _).setCell (by exact HBB.out.2.2.1) _
  clear hWE hWA d0 df e0 e1 r1 rf
  go_wp2
  go_ret
  exact stR_yes HF.out HE.out HXE.out HOE.out HBE.out

set_option maxRecDepth 20000 in
set_option maxHeartbeats 4000000 in
theorem step_cut (x : S_Wal) (r : S_Rec) (p : Option Addr) (cap b base B : Nat) (w : World) (hk : r.f0 = 3) (hz : r.f4.size ≤ 1048576) (hr2 : 0 ≤ r.f2 ∧ r.f2 ≤ 1000000) (hL : x.f4.length ≤ 1048576 ∧ (0 ≤ x.f2 ∧ x.f2 ≤ 100000)) (hx : w.heap[b]? = some (.cells #[.int .i64 x.f0, .int .i64 x.f1, .int .i64 x.f2, .int .i64 x.f3, .slice p x.f4.length cap] 26)) (ho : w.ownsRow base 63 2 (.slice p x.f4.length cap) x.f4.length (rEntry x.f4)) (hB : B ≤ b ∧ B ≤ base) (hbw : base ≤ w.heap.size) :
    Calls Tryd.prog 109 #[.agg #[.int .i64 r.f2], .pointer (some ⟨b, 0, none⟩)] w (StR x r b base B w) := by
  have HL : Hid (x.f4.length ≤ 1048576 ∧ (0 ≤ x.f2 ∧ x.f2 ≤ 100000)) := hL
  have HK : Hid (r.f0 = _) := hk
  have HRI : Hid (0 ≤ r.f2 ∧ r.f2 ≤ 1000000) := hr2
  have HZR : Hid (r.f4.size ≤ 1048576) := hz
  have HBB : Hid (b < w.heap.size ∧ base ≤ w.heap.size ∧ B ≤ b ∧ B ≤ base) := ⟨lt_of_some hx, hbw, hB.1, hB.2⟩
  have hbs := lt_of_some hx
  obtain ⟨W0, hW0⟩ : ∃ W, W = w.alloc (.cells #[.int .i64 r.f2] 91) := ⟨_, rfl⟩
  have HW0 : Hid (w.alloc (.cells #[.int .i64 r.f2] 91) = W0) := hW0.symm
  have HR0 : Hid (W0.heap[w.heap.size]? = some (.cells #[.int .i64 r.f2] 91)) := by rw [hW0]; exact alloc_last _ _
  have HX0 : Hid (W0.heap[b]? = some (.cells #[.int .i64 x.f0, .int .i64 x.f1, .int .i64 x.f2, .int .i64 x.f3, .slice p x.f4.length cap] 26)) := by rw [hW0, Below.heap_alloc _ _ _ (by omega)]; exact hx
  have HO0 : Hid (W0.ownsRow base 63 2 (.slice p x.f4.length cap) x.f4.length (rEntry x.f4)) := by rw [hW0]; exact ho.alloc _
  have HB0 : Hid (Below w.heap.size w W0) := by rw [hW0]; exact (Below.refl _ _).alloc (Nat.le_refl _) _
  have hnn : (0 : Int) ≤ x.f4.length := by omega
  have hll : (x.f4.length : Int) ≤ 1048576 := by omega
  obtain ⟨hx2a, hx2b⟩ := hL.2
  have hwl : IntKind.i64.wrap (x.f2 + (x.f4.length : Int)) = x.f2 + (x.f4.length : Int) := IntWalk.i64_in _ (by omega)
  have hwl1 : IntKind.i64.wrap (x.f2 + (x.f4.length : Int) + 1) = x.f2 + (x.f4.length : Int) + 1 := IntWalk.i64_in _ (by omega)
  have hw1 : IntKind.i64.wrap (x.f2 + 1) = x.f2 + 1 := IntWalk.i64_in _ (by omega)
  obtain ⟨d0, d1, d2, d3, d4⟩ := box5 HX0.out
  clear hx ho hB hbw hz hr2 hk hL hW0 hbs
  have e0 := box1S HR0.out
  by_cases hf : fitsR x r
  rotate_left
  · have HF : Hid (¬ fitsR x r) := hf
    have HW : Hid (¬ (x.f2 + 1 ≤ r.f2 ∧ r.f2 ≤ x.f2 + (x.f4.length : Int))) := fun h => hf ((fits_3 HK.out).2 ⟨by omega, h.2⟩)
    clear hf
    go_enter Tryd.func109, Tryd.ntmps109
    go_upto_region 1 with fail
    rw [HW0.out]
    refine wp_region_told (fun W => Below W0.heap.size W0 W) (by kernel_rfl) (by kernel_rfl) ((Below.refl W0.heap.size W0).drew) ?_
    refine told_pure (some 5) (.pointer (some ⟨w.heap.size, 0, none⟩)) rfl (by kernel_rfl) (fun _ => by kernel_rfl) ?_
    refine told_load (some 6) ⟨w.heap.size, 0, none⟩ (.int .i64 r.f2) rfl (by kernel_rfl) (fun _ => by kernel_rfl) (fun _ hS => atB hS e0) ?_
    refine told_pure (some 7) (.pointer (some ⟨b, 0, none⟩)) rfl (by kernel_rfl) (fun _ => by kernel_rfl) ?_
    refine told_pure (some 8) (.pointer (some ⟨b, 0, none⟩)) rfl (by kernel_rfl) (fun _ => by kernel_rfl) ?_
    refine told_pure (some 9) (.pointer (some ⟨b, 2, none⟩)) rfl (by kernel_rfl) (fun _ => by kernel_rfl) ?_
    refine told_load (some 10) ⟨b, 2, none⟩ (.int .i64 x.f2) rfl (by kernel_rfl) (fun _ => by kernel_rfl) (fun _ hS => atB hS d2) ?_
    refine told_is (some 11) (.int .i64 (IntKind.i64.wrap (x.f2 + 1))) (.int .i64 (x.f2 + 1)) (by rw [hw1]) rfl (by kernel_rfl) (fun _ => by kernel_rfl) ?_
    refine told_pure (some 12) (.pointer (some ⟨b, 0, none⟩)) rfl (by kernel_rfl) (fun _ => by kernel_rfl) ?_
    refine told_pure (some 13) (.pointer (some ⟨b, 0, none⟩)) rfl (by kernel_rfl) (fun _ => by kernel_rfl) ?_
    refine told_pure (some 14) (.pointer (some ⟨b, 2, none⟩)) rfl (by kernel_rfl) (fun _ => by kernel_rfl) ?_
    refine told_load (some 15) ⟨b, 2, none⟩ (.int .i64 x.f2) rfl (by kernel_rfl) (fun _ => by kernel_rfl) (fun _ hS => atB hS d2) ?_
    refine told_pure (some 16) (.pointer (some ⟨b, 0, none⟩)) rfl (by kernel_rfl) (fun _ => by kernel_rfl) ?_
    refine told_pure (some 17) (.pointer (some ⟨b, 0, none⟩)) rfl (by kernel_rfl) (fun _ => by kernel_rfl) ?_
    refine told_pure (some 18) (.pointer (some ⟨b, 4, none⟩)) rfl (by kernel_rfl) (fun _ => by kernel_rfl) ?_
    refine told_load (some 19) ⟨b, 4, none⟩ (.slice p x.f4.length cap) rfl (by kernel_rfl) (fun _ => by kernel_rfl) (fun _ hS => atB hS d4) ?_
    refine told_pure (some 20) (.int .i64 x.f4.length) rfl (by kernel_rfl) (fun _ => by kernel_rfl) ?_
    refine told_is (some 21) (.int .i64 (IntKind.i64.wrap (x.f2 + (x.f4.length : Int)))) (.int .i64 (x.f2 + (x.f4.length : Int))) (by rw [hwl]) rfl (by kernel_rfl) (fun _ => by kernel_rfl) ?_
    refine told_call (some 22) (.bool false) 41 #[.int .i64 r.f2, .int .i64 (x.f2 + 1), .int .i64 (x.f2 + (x.f4.length : Int))] rfl (by kernel_rfl) (fun _ => by kernel_rfl) (fun W hS => below_S (winS_no r.f2 (x.f2 + 1) (x.f2 + (x.f4.length : Int)) W HW.out) hS) ?_
    refine told_pure (some 23) (.bool true) rfl (by kernel_rfl) (fun _ => by kernel_rfl) ?_
    refine told_nil ?_
    intro w1 hS
    simp only [Act.put, List.setIfInBounds_toArray, List.set_cons_zero, List.set_cons_succ]
    have HB1 : Hid (Below W0.heap.size W0 w1) := hS
    clear hS
    have HX9 : Hid (w1.heap[b]? = some (.cells #[.int .i64 x.f0, .int .i64 x.f1, .int .i64 x.f2, .int .i64 x.f3, .slice p x.f4.length cap] 26)) := (HB1.out.block _ (lt_of_some HX0.out)).trans HX0.out
    have HO9 : Hid (w1.ownsRow base 63 2 (.slice p x.f4.length cap) x.f4.length (rEntry x.f4)) := own_bel HO0.out HB1.out (Nat.le_refl _)
    have HB9 : Hid (Below B w w1) := (HB0.out.trans (HB1.out.mono HB0.out.size)).mono (by have := HBB.out; omega)
    go_wp2
    go_ret
    exact stR_no HF.out HX9.out HO9.out HB9.out
  have HF : Hid (fitsR x r) := hf
  have hf3 := (fits_3 HK.out).1 hf
  unfold fit3 at hf3
  have HW : Hid (x.f2 + 1 ≤ r.f2 ∧ r.f2 ≤ x.f2 + (x.f4.length : Int)) := ⟨by omega, hf3.2⟩
  obtain ⟨k, hk⟩ : ∃ k, k = (r.f2 - x.f2 - 1).toNat := ⟨_, rfl⟩
  have HKL : Hid (k ≤ x.f4.length) := by show _ ≤ _; omega
  have HE : Hid (stepF x r = ⟨x.f0, x.f1, x.f2, x.f3, x.f4.take k⟩) := by have := step_3 (x := x) HK.out; rw [← hk] at this; exact this
  have HWC : Hid (IntKind.i64.wrap (r.f2 - x.f2) = r.f2 - x.f2 ∧ IntKind.i64.wrap (r.f2 - x.f2 - 1) = (k : Int)) := ⟨IntWalk.i64_in _ (by have := HRI.out; omega), by rw [IntWalk.i64_in _ (by have := HRI.out; omega)]; omega⟩
  have hkc : k ≤ cap := by
    have h := HKL.out
    rcases HO0.out.2 with ⟨h1, h2⟩ | ⟨g, cap', _, hv, _, _, hle, _⟩
    · omega
    · simp only [Value.slice.injEq] at hv; omega
  have hkcI : (k : Int) ≤ (cap : Int) := by omega
  have HL7 : Hid ((x.f4.take k).length = k) := by have := HKL.out; show _ = _; rw [List.length_take]; omega
  clear hf hf3 hk hkc
  go_enter Tryd.func109, Tryd.ntmps109
  go_upto_region 1 with fail
  rw [HW0.out]
  refine wp_region_told (fun W => Below W0.heap.size W0 W) (by kernel_rfl) (by kernel_rfl) ((Below.refl W0.heap.size W0).drew) ?_
  refine told_pure (some 5) (.pointer (some ⟨w.heap.size, 0, none⟩)) rfl (by kernel_rfl) (fun _ => by kernel_rfl) ?_
  refine told_load (some 6) ⟨w.heap.size, 0, none⟩ (.int .i64 r.f2) rfl (by kernel_rfl) (fun _ => by kernel_rfl) (fun _ hS => atB hS e0) ?_
  refine told_pure (some 7) (.pointer (some ⟨b, 0, none⟩)) rfl (by kernel_rfl) (fun _ => by kernel_rfl) ?_
  refine told_pure (some 8) (.pointer (some ⟨b, 0, none⟩)) rfl (by kernel_rfl) (fun _ => by kernel_rfl) ?_
  refine told_pure (some 9) (.pointer (some ⟨b, 2, none⟩)) rfl (by kernel_rfl) (fun _ => by kernel_rfl) ?_
  refine told_load (some 10) ⟨b, 2, none⟩ (.int .i64 x.f2) rfl (by kernel_rfl) (fun _ => by kernel_rfl) (fun _ hS => atB hS d2) ?_
  refine told_is (some 11) (.int .i64 (IntKind.i64.wrap (x.f2 + 1))) (.int .i64 (x.f2 + 1)) (by rw [hw1]) rfl (by kernel_rfl) (fun _ => by kernel_rfl) ?_
  refine told_pure (some 12) (.pointer (some ⟨b, 0, none⟩)) rfl (by kernel_rfl) (fun _ => by kernel_rfl) ?_
  refine told_pure (some 13) (.pointer (some ⟨b, 0, none⟩)) rfl (by kernel_rfl) (fun _ => by kernel_rfl) ?_
  refine told_pure (some 14) (.pointer (some ⟨b, 2, none⟩)) rfl (by kernel_rfl) (fun _ => by kernel_rfl) ?_
  refine told_load (some 15) ⟨b, 2, none⟩ (.int .i64 x.f2) rfl (by kernel_rfl) (fun _ => by kernel_rfl) (fun _ hS => atB hS d2) ?_
  refine told_pure (some 16) (.pointer (some ⟨b, 0, none⟩)) rfl (by kernel_rfl) (fun _ => by kernel_rfl) ?_
  refine told_pure (some 17) (.pointer (some ⟨b, 0, none⟩)) rfl (by kernel_rfl) (fun _ => by kernel_rfl) ?_
  refine told_pure (some 18) (.pointer (some ⟨b, 4, none⟩)) rfl (by kernel_rfl) (fun _ => by kernel_rfl) ?_
  refine told_load (some 19) ⟨b, 4, none⟩ (.slice p x.f4.length cap) rfl (by kernel_rfl) (fun _ => by kernel_rfl) (fun _ hS => atB hS d4) ?_
  refine told_pure (some 20) (.int .i64 x.f4.length) rfl (by kernel_rfl) (fun _ => by kernel_rfl) ?_
  refine told_is (some 21) (.int .i64 (IntKind.i64.wrap (x.f2 + (x.f4.length : Int)))) (.int .i64 (x.f2 + (x.f4.length : Int))) (by rw [hwl]) rfl (by kernel_rfl) (fun _ => by kernel_rfl) ?_
  refine told_call (some 22) (.bool true) 41 #[.int .i64 r.f2, .int .i64 (x.f2 + 1), .int .i64 (x.f2 + (x.f4.length : Int))] rfl (by kernel_rfl) (fun _ => by kernel_rfl) (fun W hS => below_S (winS_yes r.f2 (x.f2 + 1) (x.f2 + (x.f4.length : Int)) W HW.out.1 HW.out.2) hS) ?_
  refine told_pure (some 23) (.bool false) rfl (by kernel_rfl) (fun _ => by kernel_rfl) ?_
  refine told_nil ?_
  intro w1 hS
  simp only [Act.put, List.setIfInBounds_toArray, List.set_cons_zero, List.set_cons_succ]
  have HB1 : Hid (Below W0.heap.size W0 w1) := hS
  clear hS
  have HX1 : Hid (w1.heap[b]? = some (.cells #[.int .i64 x.f0, .int .i64 x.f1, .int .i64 x.f2, .int .i64 x.f3, .slice p x.f4.length cap] 26)) := (HB1.out.block _ (lt_of_some HX0.out)).trans HX0.out
  have HR1 : Hid (w1.heap[w.heap.size]? = some (.cells #[.int .i64 r.f2] 91)) := (HB1.out.block _ (lt_of_some HR0.out)).trans HR0.out
  have HO1 : Hid (w1.ownsRow base 63 2 (.slice p x.f4.length cap) x.f4.length (rEntry x.f4)) := own_bel HO0.out HB1.out (Nat.le_refl _)
  have HBw : Hid (Below w.heap.size w w1) := HB0.out.trans (HB1.out.mono HB0.out.size)
  clear d0 d1 d2 d3 d4 e0
  go_upto_region 3 with fail
  have e0 : w1.drew.cell? ⟨w.heap.size, 0, none⟩ = some (.int .i64 r.f2) := box1S HR1.out
  have d2 : w1.drew.cell? ⟨b, 2, none⟩ = some (.int .i64 x.f2) := (box5 HX1.out).2.2.1
  have d4 : w1.drew.cell? ⟨b, 4, none⟩ = some (.slice p x.f4.length cap) := (box5 HX1.out).2.2.2.2
  have df : ∀ o, w1.drew.frozen? ⟨b, o, none⟩ = false := frz5 HX1.out
  refine wp_region_L [⟨16, fun W => W.cell? ⟨b, 4, none⟩ = some (.slice p x.f4.length cap)⟩, ⟨16, fun W => W.cell? ⟨w.heap.size, 0, none⟩ = some (.int .i64 r.f2)⟩, ⟨16, fun W => W.cell? ⟨b, 2, none⟩ = some (.int .i64 x.f2)⟩] (by kernel_rfl) (fun f hf => by
      simp only [List.mem_cons, List.not_mem_nil, or_false] at hf
      rcases hf with rfl | rfl | rfl
      · exact d4
      · exact e0
      · exact d2
      ) ?_
  refine At.take 0 (some 24) (.pointer (some ⟨b, 0, none⟩)) rfl rfl (by kernel_rfl) (by kernel_rfl) (by kernel_rfl) (by kernel_rfl) (fun _ _ _ h => h) (yl_pure (by kernel_rfl) (fun _ => by kernel_rfl)) ?_
  refine At.take 1 (some 25) (.pointer (some ⟨b, 0, none⟩)) rfl rfl (by kernel_rfl) (by kernel_rfl) (by kernel_rfl) (by kernel_rfl) (fun _ _ _ h => h) (yl_pure (by kernel_rfl) (fun _ => by kernel_rfl)) ?_
  refine At.take 2 (some 26) (.pointer (some ⟨b, 0, none⟩)) rfl rfl (by kernel_rfl) (by kernel_rfl) (by kernel_rfl) (by kernel_rfl) (fun _ _ _ h => h) (yl_pure (by kernel_rfl) (fun _ => by kernel_rfl)) ?_
  refine At.take 3 (some 27) (.pointer (some ⟨b, 4, none⟩)) rfl rfl (by kernel_rfl) (by kernel_rfl) (by kernel_rfl) (by kernel_rfl) (fun _ _ _ h => h) (yl_pure (by kernel_rfl) (fun _ => by kernel_rfl)) ?_
  refine At.take 4 (some 28) (.slice p x.f4.length cap) rfl rfl (by kernel_rfl) (by kernel_rfl) (by kernel_rfl) (by kernel_rfl) (fun _ _ _ h => h) (yl_load 16 ⟨b, 4, none⟩ (.slice p x.f4.length cap) (List.mem_cons_self) [13, 14, 15, 16] (by kernel_rfl) rfl (by kernel_rfl) (fun _ => by kernel_rfl)) ?_
  refine At.take 5 (some 29) (.pointer (some ⟨w.heap.size, 0, none⟩)) rfl rfl (by kernel_rfl) (by kernel_rfl) (by kernel_rfl) (by kernel_rfl) (fun _ _ _ h => h) (yl_pure (by kernel_rfl) (fun _ => by kernel_rfl)) ?_
  refine At.take 6 (some 30) (.int .i64 r.f2) rfl rfl (by kernel_rfl) (by kernel_rfl) (by kernel_rfl) (by kernel_rfl) (fun _ _ _ h => h) (yl_load 16 ⟨w.heap.size, 0, none⟩ (.int .i64 r.f2) (List.mem_cons_of_mem _ (List.mem_cons_self)) [11, 12, 13, 14, 15, 16] (by kernel_rfl) rfl (by kernel_rfl) (fun _ => by kernel_rfl)) ?_
  refine At.take 7 (some 31) (.pointer (some ⟨b, 0, none⟩)) rfl rfl (by kernel_rfl) (by kernel_rfl) (by kernel_rfl) (by kernel_rfl) (fun _ _ _ h => h) (yl_pure (by kernel_rfl) (fun _ => by kernel_rfl)) ?_
  refine At.take 8 (some 32) (.pointer (some ⟨b, 0, none⟩)) rfl rfl (by kernel_rfl) (by kernel_rfl) (by kernel_rfl) (by kernel_rfl) (fun _ _ _ h => h) (yl_pure (by kernel_rfl) (fun _ => by kernel_rfl)) ?_
  refine At.take 9 (some 33) (.pointer (some ⟨b, 2, none⟩)) rfl rfl (by kernel_rfl) (by kernel_rfl) (by kernel_rfl) (by kernel_rfl) (fun _ _ _ h => h) (yl_pure (by kernel_rfl) (fun _ => by kernel_rfl)) ?_
  refine At.take 10 (some 34) (.int .i64 x.f2) rfl rfl (by kernel_rfl) (by kernel_rfl) (by kernel_rfl) (by kernel_rfl) (fun _ _ _ h => h) (yl_load 16 ⟨b, 2, none⟩ (.int .i64 x.f2) (List.mem_cons_of_mem _ (List.mem_cons_of_mem _ (List.mem_cons_self))) [11, 12, 13, 14, 15, 16] (by kernel_rfl) rfl (by kernel_rfl) (fun _ => by kernel_rfl)) ?_
  refine At.take 11 (some 35) (.int .i64 (r.f2 - x.f2)) rfl rfl (by kernel_rfl) (by kernel_rfl) (by kernel_rfl) (by kernel_rfl) (fun _ _ _ h => h) (yl_is (.int .i64 (IntKind.i64.wrap (r.f2 - x.f2))) (by rw [HWC.out.1]) (by kernel_rfl) (fun _ => by kernel_rfl)) ?_
  refine At.take 12 (some 36) (.int .i64 (k : Int)) rfl rfl (by kernel_rfl) (by kernel_rfl) (by kernel_rfl) (by kernel_rfl) (fun _ _ _ h => h) (yl_is (.int .i64 (IntKind.i64.wrap (r.f2 - x.f2 - 1))) (by rw [HWC.out.2]) (by kernel_rfl) (fun _ => by kernel_rfl)) ?_
  refine At.take 13 (some 37) (.slice p k cap) rfl rfl (by kernel_rfl) (by kernel_rfl) (by kernel_rfl) (by kernel_rfl) (fun _ _ _ h => h) (yl_pure (by kernel_rfl) (fun W => by go_simp)) ?_
  refine At.take 14 (some 38) (.pointer (some ⟨b, 0, none⟩)) rfl rfl (by kernel_rfl) (by kernel_rfl) (by kernel_rfl) (by kernel_rfl) (fun _ _ _ h => h) (yl_pure (by kernel_rfl) (fun _ => by kernel_rfl)) ?_
  refine At.take 15 (some 39) (.pointer (some ⟨b, 4, none⟩)) rfl rfl (by kernel_rfl) (by kernel_rfl) (by kernel_rfl) (by kernel_rfl) (fun _ _ _ h => h) (yl_pure (by kernel_rfl) (fun _ => by kernel_rfl)) ?_
  refine At.step 16 none rfl rfl (by kernel_rfl) (by kernel_rfl) (fun u W => u = undef ∧ W = w1.drew.setCell ⟨b, 4, none⟩ (.slice p k cap)) (gives_store (p := ⟨b, 4, none⟩) (x := .slice p k cap) (y := .slice p x.f4.length cap) (fun _ => by kernel_rfl) (by rfl) d4 (df 4)) ?_
  rintro u WE ⟨rfl, hWE⟩
  refine ⟨held_cons (.inl (by kernel_rfl)) (held_cons (.inl (by kernel_rfl)) (held_cons (.inl (by kernel_rfl)) (held_nil))), ?_⟩
  refine At.done (by kernel_rfl) ?_
  simp only [Act.put, List.setIfInBounds_toArray, List.set_cons_zero, List.set_cons_succ]
  have HXE : Hid (WE.heap[b]? = some (.cells #[.int .i64 x.f0, .int .i64 x.f1, .int .i64 x.f2, .int .i64 x.f3, .slice p k cap] 26)) := by rw [hWE]; exact heap_setCell_same w1.drew b 4 _ _ (.slice p k cap) HX1.out
  have HOE : Hid (WE.ownsRow base 63 2 (.slice p k cap) (x.f4.take k).length (rEntry (x.f4.take k))) := by rw [hWE]; exact own_setS (show w1.drew.ownsRow _ _ _ _ _ _ from own_cutS HO1.out HKL.out) _ (own_ne (own_cutS HO1.out HKL.out) HX1.out)
  have HBE : Hid (Below B w WE) := by rw [hWE]; exact (((HBw.out.mono (by have := HBB.out; omega)) : Below B w w1).drew).setCell (by exact HBB.out.2.2.1) _
  clear hWE d2 d4 df e0
  go_wp2
  go_ret
  exact stR_yes (q := p) (c := cap) (y := ⟨x.f0, x.f1, x.f2, x.f3, x.f4.take k⟩) HF.out HE.out (by show WE.heap[b]? = some (Obj.cells #[.int .i64 x.f0, .int .i64 x.f1, .int .i64 x.f2, .int .i64 x.f3, .slice p (x.f4.take k).length cap] _); rw [HL7.out]; exact HXE.out) (by show WE.ownsRow _ _ _ (.slice p (x.f4.take k).length cap) _ _; rw [HL7.out]; have := HOE.out; rw [HL7.out] at this; exact this) HBE.out

end Go.Proofs.YthlokfcejojdhaaDoor
