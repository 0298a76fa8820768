/- Two symbols become one: the walk. -/
import Derived.Test.YtdggkcohidijcaaR8Rank
namespace Go.Proofs.Ytdggkcohidijcaa
open Go.RowKit
set_option linter.unusedVariables false
set_option linter.unusedSimpArgs false

/-- But for these blocks all is as it was. -/
structure OthK (K : Nat → Prop) (w W : World) : Prop where
  os : W.os = w.os
  tape : W.tape = w.tape
  output : W.output = w.output
  size : W.heap.size = w.heap.size
  block : ∀ k, ¬ K k → W.heap[k]? = w.heap[k]?

theorem OthK.refl (K : Nat → Prop) (w : World) : OthK K w w := ⟨rfl, rfl, rfl, rfl, fun _ _ => rfl⟩
theorem OthK.set {K : Nat → Prop} {w W : World} (h : OthK K w W) (a : Addr) (v : Value) (ha : K a.block) : OthK K w (W.setCell a v) :=
  ⟨h.os, h.tape, h.output, by rw [← h.size]; simp [World.setCell], fun k hk => by rw [Below.heap_setCell _ _ _ _ (fun e => hk (by rw [e]; exact ha))]; exact h.block k hk⟩
theorem OthK.drew {K : Nat → Prop} {w W : World} (h : OthK K w W) : OthK K w W.drew := ⟨h.os, h.tape, h.output, h.size, h.block⟩

theorem set_at {w : World} {b q : Nat} {cs : Array Value} {t : TypeId} (h : w.heap[b]? = some (.cells cs t)) (v : Value) : (w.setCell ⟨b, q, none⟩ v).heap[b]? = some (.cells (cs.setIfInBounds q v) t) := by
  simp only [World.setCell, Array.getElem?_modify, if_true, h]
  rfl
theorem set_off {w : World} {b q k : Nat} {o : Option Obj} (h : w.heap[k]? = o) (v : Value) (hk : k ≠ b) : (w.setCell ⟨b, q, none⟩ v).heap[k]? = o := by
  rw [Below.heap_setCell _ _ _ _ hk]; exact h
theorem frz_cells {w : World} {b : Nat} {cs : Array Value} {t : TypeId} (h : w.heap[b]? = some (.cells cs t)) (o : Nat) : w.frozen? ⟨b, o, none⟩ = false := by simp [World.frozen?, h]

theorem RowS.weak {w : World} {R B : Nat} {mp : Option Addr} {mc : Nat} {M : List S_Pair} {l : List Sy} {X : List Jt} {p : Option Addr} {n c : Nat} {C : Nat → Prop} {C' : Nat → Prop} (S : RowS w R B mp mc M l X p n c C) (h : ∀ j, C' j → C j) : RowS w R B mp mc M l X p n c C' :=
  ⟨S.q, S.live, S.mono, S.hp, S.jok, fun i y z r hi => S.cov i y z r (h i hi), S.mrow, S.bR, S.bl, S.bm⟩

set_option maxRecDepth 20000 in
set_option maxHeartbeats 8000000 in
theorem join_c {w : World} {R B : Nat} {mp : Option Addr} {mc : Nat} {M : List S_Pair} {l : List Sy} {X : List Jt} {p : Option Addr} {n c : Nat} {C : Nat → Prop} (S : RowS w R B mp mc M l X p n c C) (hM : M.length ≤ 1048576) (hn : n + 2 ≤ 4000) (hB : B ≤ w.heap.size) {i : Nat} {y z : Sy} {r : Int} (hC : ∀ j, j ≠ i → C j) (hy : l[i]? = some y) (hz : l[i + 1]? = some z) (h0 : 0 ≤ r) (h1 : r ≤ 1048576) :
    Calls Try.prog 76 #[.pointer (some ⟨R, 0, none⟩), .agg #[.int .i64 r, .pointer (some ⟨y.b, 0, none⟩)]] w fun e w' => e = .returned (.tuple #[]) ∧ Below B w w' ∧ ∃ l' X' p' n' c', Mrg8 l l' i y (256 + r) ∧ l'.length + 1 = l.length ∧ n' ≤ n + 2 ∧ RowS w' R B mp mc M l' X' p' n' c' (fun _ => True) := by
  have HY : Hid (l[i]? = some y) := hy
  have HZ : Hid (l[i + 1]? = some z) := hz
  have HM : Hid (M.length ≤ 1048576) := hM
  have ew : IntKind.i64.wrap (256 + r) = 256 + r := IntWalk.i64_in _ (by omega)
  obtain ⟨W0, hW0⟩ : ∃ W, W = w.alloc (.cells #[.int .i64 r, .pointer (some ⟨y.b, 0, none⟩)] 112) := ⟨_, rfl⟩
  have HW0 : Hid (w.alloc (.cells #[.int .i64 r, .pointer (some ⟨y.b, 0, none⟩)] 112) = W0) := hW0.symm
  have hb0 : Below w.heap.size w W0 := by rw [hW0]; exact (Below.refl _ _).alloc (Nat.le_refl _) _
  have HJ : Hid (W0.heap[w.heap.size]? = some (.cells #[.int .i64 r, .pointer (some ⟨y.b, 0, none⟩)] 112)) := by rw [hW0]; exact alloc_last _ _
  have S0 : Hid (RowS W0 R B mp mc M l X p n c C) := S.bel hb0
  have HB0 : Hid (Below B w W0) := hb0.mono hB
  have HBY : Hid (B ≤ y.b) := S.bl y (List.mem_of_getElem? hy)
  have HBZ : Hid (B ≤ z.b) := S.bl z (List.mem_of_getElem? hz)
  have HJN : Hid ((Value.slice p n c).ownBlock = some w.heap.size → False) := fun e => by have := (S.q.own.lt _ e).2; omega
  have HLL : Hid ((l.take i ++ ⟨y.b, 256 + r, y.pl⟩ :: l.drop (i + 2)).length + 1 = l.length) := by
    have := (List.getElem?_eq_some_iff.1 hz).1
    show _ = _
    rw [List.length_append, List.length_take, List.length_cons, List.length_drop]
    omega
  have HBO : Hid (∀ (K : Nat → Prop) (W : World), OthK K W0 W → (∀ k, K k → B ≤ k) → Below B W0 W) := fun K W h hk => ⟨h.os, h.tape, h.output, Nat.le_of_eq h.size.symm, fun k hkB => h.block k (fun hK => by have := hk k hK; omega)⟩
  have HCC : Hid (∀ j, j ≠ i → C j) := hC
  clear S hy hz hM hW0 hb0 hC
  rcases hu : l[i + 2]? with _ | u
  · have HU : Hid (l[i + 2]? = none) := hu
    clear hu
    have HYb : Hid (W0.heap[y.b]? = some (.cells #[.int .i64 y.tok, .int .i64 y.pl, prvV l i, .pointer (some ⟨z.b, 0, none⟩)] 109)) := by have h := S0.out.live i y HY.out; rw [ptrO_some HZ.out] at h; exact h
    have HZb : Hid (W0.heap[z.b]? = some (.cells #[.int .i64 z.tok, .int .i64 z.pl, .pointer (some ⟨y.b, 0, none⟩), .pointer none] 109)) := by
      have h := S0.out.live (i + 1) z HZ.out
      rw [show prvV l (i + 1) = .pointer (some ⟨y.b, 0, none⟩) from ptrO_some HY.out, show ptrO l[i + 1 + 1]? = .pointer none from ptrO_none HU.out] at h
      exact h
    have nyz : y.b ≠ z.b := fun e => by have := S0.out.mono.inj HY.out HZ.out e; omega
    have nyj : y.b ≠ w.heap.size := fun e => by have := HYb.out; rw [e, HJ.out] at this; simp at this
    have nzj : z.b ≠ w.heap.size := fun e => by have := HZb.out; rw [e, HJ.out] at this; simp at this
    obtain ⟨j0, j1⟩ := box2 HJ.out
    obtain ⟨y0, y1, y2, y3⟩ := cell4 HYb.out
    have yfz := frz_cells HYb.out
    go_enter Try.func76, Try.ntmps76
    go_upto_region 1 with fail
    rw [HW0.out]
    go_upto_region 3 with fail
    refine wp_genW (fun W => Hid (W.heap[y.b]? = some (.cells #[.int .i64 (256 + r), .int .i64 y.pl, prvV l i, .pointer (some ⟨z.b, 0, none⟩)] 109)) ∧ Hid (W.heap[z.b]? = some (.cells #[.int .i64 z.tok, .int .i64 z.pl, .pointer (some ⟨y.b, 0, none⟩), .pointer none] 109)) ∧ Hid (W.heap[w.heap.size]? = some (.cells #[.int .i64 r, .pointer (some ⟨y.b, 0, none⟩)] 112)) ∧ Hid (OthK (fun k => k = y.b ∨ k = z.b) W0 W)) ⟨set_at HYb.out _, set_off HZb.out _ (Ne.symm nyz), set_off HJ.out _ (Ne.symm nyj), (OthK.refl _ _).set _ _ (.inl rfl)⟩ ?_
    clear j0 j1 y0 y1 y2 y3 yfz
    rintro W1 ⟨GY, GZ, GJ, GO⟩
    obtain ⟨j0, j1⟩ := box2 GJ.out
    obtain ⟨y0, y1, y2, y3⟩ := cell4 GY.out
    obtain ⟨z0, z1, z2, z3⟩ := cell4 GZ.out
    have yfz := frz_cells GY.out
    refine wp_region_L [⟨8, fun W => W.cell? ⟨w.heap.size, 1, none⟩ = some (.pointer (some ⟨y.b, 0, none⟩))⟩, ⟨8, fun W => W.cell? ⟨z.b, 3, none⟩ = some (.pointer none)⟩] (by kernel_rfl) (fun f hf => by
        simp only [List.mem_cons, List.not_mem_nil, or_false] at hf
        rcases hf with rfl | rfl
        · exact j1
        · exact z3
        ) ?_
    refine At.take 0 (some 17) (.pointer (some ⟨w.heap.size, 1, none⟩)) rfl rfl (by kernel_rfl) (by kernel_rfl) (by kernel_rfl) (by kernel_rfl) (fun _ _ _ h => h) (yl_pure (by kernel_rfl) (fun _ => by kernel_rfl)) ?_
    refine At.take 1 (some 18) (.pointer (some ⟨y.b, 0, none⟩)) rfl rfl (by kernel_rfl) (by kernel_rfl) (by kernel_rfl) (by kernel_rfl) (fun _ _ _ h => h) (yl_load 8 ⟨w.heap.size, 1, none⟩ (.pointer (some ⟨y.b, 0, none⟩)) (List.mem_cons_self) [6, 7, 8] (by kernel_rfl) rfl (by kernel_rfl) (fun _ => by kernel_rfl)) ?_
    refine At.take 2 (some 19) (.pointer (some ⟨z.b, 0, none⟩)) rfl rfl (by kernel_rfl) (by kernel_rfl) (by kernel_rfl) (by kernel_rfl) (fun _ _ _ h => h) (yl_pure (by kernel_rfl) (fun _ => by kernel_rfl)) ?_
    refine At.take 3 (some 20) (.pointer (some ⟨z.b, 0, none⟩)) rfl rfl (by kernel_rfl) (by kernel_rfl) (by kernel_rfl) (by kernel_rfl) (fun _ _ _ h => h) (yl_pure (by kernel_rfl) (fun _ => by kernel_rfl)) ?_
    refine At.take 4 (some 21) (.pointer (some ⟨z.b, 3, none⟩)) rfl rfl (by kernel_rfl) (by kernel_rfl) (by kernel_rfl) (by kernel_rfl) (fun _ _ _ h => h) (yl_pure (by kernel_rfl) (fun _ => by kernel_rfl)) ?_
    refine At.take 5 (some 22) (.pointer none) rfl rfl (by kernel_rfl) (by kernel_rfl) (by kernel_rfl) (by kernel_rfl) (fun _ _ _ h => h) (yl_load 8 ⟨z.b, 3, none⟩ (.pointer none) (List.mem_cons_of_mem _ (List.mem_cons_self)) [6, 7, 8] (by kernel_rfl) rfl (by kernel_rfl) (fun _ => by kernel_rfl)) ?_
    refine At.take 6 (some 23) (.pointer (some ⟨y.b, 0, none⟩)) rfl rfl (by kernel_rfl) (by kernel_rfl) (by kernel_rfl) (by kernel_rfl) (fun _ _ _ h => h) (yl_pure (by kernel_rfl) (fun _ => by kernel_rfl)) ?_
    refine At.take 7 (some 24) (.pointer (some ⟨y.b, 3, none⟩)) rfl rfl (by kernel_rfl) (by kernel_rfl) (by kernel_rfl) (by kernel_rfl) (fun _ _ _ h => h) (yl_pure (by kernel_rfl) (fun _ => by kernel_rfl)) ?_
    refine At.step 8 none rfl rfl (by kernel_rfl) (by kernel_rfl) (fun vv W => vv = undef ∧ W = W1.drew.setCell ⟨y.b, 3, none⟩ (.pointer none)) (gives_store (p := ⟨y.b, 3, none⟩) (x := .pointer none) (y := .pointer (some ⟨z.b, 0, none⟩)) (fun _ => by kernel_rfl) (by rfl) y3 (yfz _)) ?_
    rintro uu WE ⟨rfl, hWE⟩
    refine ⟨held_cons (.inl (by kernel_rfl)) (held_cons (.inl (by kernel_rfl)) (held_nil)), ?_⟩
    refine At.done (by kernel_rfl) ?_
    simp only [Act.put, List.setIfInBounds_toArray, List.set_cons_zero, List.set_cons_succ]
    have FY : Hid (WE.heap[y.b]? = some (.cells #[.int .i64 (256 + r), .int .i64 y.pl, prvV l i, .pointer none] 109)) := by rw [hWE]; exact set_at GY.out _
    have FZ : Hid (WE.heap[z.b]? = some (.cells #[.int .i64 z.tok, .int .i64 z.pl, .pointer (some ⟨y.b, 0, none⟩), .pointer none] 109)) := by rw [hWE]; exact set_off GZ.out _ (Ne.symm nyz)
    have FJ : Hid (WE.heap[w.heap.size]? = some (.cells #[.int .i64 r, .pointer (some ⟨y.b, 0, none⟩)] 112)) := by rw [hWE]; exact set_off GJ.out _ (Ne.symm nyj)
    have FO : Hid (OthK (fun k => k = y.b ∨ k = z.b) W0 WE) := by rw [hWE]; exact GO.out.drew.set _ _ (.inl rfl)
    clear hWE j0 j1 y0 y1 y2 y3 z0 z1 z2 z3 yfz GY GZ GJ GO
    obtain ⟨z0, z1, z2, z3⟩ := cell4 FZ.out
    have zfz := frz_cells FZ.out
    go_upto_region 7 with fail
    refine wp_genW (fun W => Hid (RowS W R B mp mc M (l.take i ++ ⟨y.b, 256 + r, y.pl⟩ :: l.drop (i + 2)) X p n c (fun j => j ≠ i ∧ j + 1 ≠ i)) ∧ Hid (W.heap[w.heap.size]? = some (.cells #[.int .i64 r, .pointer (some ⟨y.b, 0, none⟩)] 112)) ∧ Hid (Below B w W)) ⟨?_, set_off FJ.out _ (Ne.symm nzj), ?_⟩ ?_
    · have hB2 : Below B W0 _ := HBO.out _ _ (FO.out.set ⟨z.b, 3, none⟩ (.pointer none) (.inr rfl)) (fun k hk => by rcases hk with rfl | rfl <;> first | exact HBY.out | exact HBZ.out)
      have hO := FO.out.set ⟨z.b, 3, none⟩ (.pointer none) (.inr rfl)
      refine join_row S0.out HCC.out HY.out HZ.out (mrg_is HY.out HZ.out _) (Nat.le_of_eq hO.size.symm) hB2 ?_ ⟨_, _, set_at FZ.out _⟩ (fun u' hu' => ?_) (fun k _ h1 h2 h3 => hO.block k (fun hk => ?_))
      · rw [show ptrO l[i + 2]? = .pointer none from ptrO_none HU.out]
        exact set_off FY.out _ nyz
      · rw [HU.out] at hu'; cases hu'
      · rcases hk with h | h
        · exact h1 h
        · exact h2 h
    · exact HB0.out.trans (HBO.out _ _ (FO.out.set ⟨z.b, 3, none⟩ (.pointer none) (.inr rfl)) (fun k hk => by rcases hk with rfl | rfl <;> first | exact HBY.out | exact HBZ.out))
    clear z0 z1 z2 z3 zfz
    rintro W2 ⟨S2, GJ, GB⟩
    have HM2 : Hid (Mrg8 l (l.take i ++ ⟨y.b, 256 + r, y.pl⟩ :: l.drop (i + 2)) i y (256 + r)) := mrg_is HY.out HZ.out _
    generalize l.take i ++ ⟨y.b, 256 + r, y.pl⟩ :: l.drop (i + 2) = l' at S2 HM2 HLL
    have HYI : Hid (l'[i]? = some ⟨y.b, 256 + r, y.pl⟩) := by have := HM2.out i; rw [if_neg (by omega), if_pos rfl] at this; exact this
    obtain ⟨j0, j1⟩ := box2 GJ.out
    obtain ⟨y0, y1, y2, y3⟩ := cell4 (S2.out.live i _ HYI.out)
    rcases i with _ | k
    · have y2' : W2.cell? ⟨y.b, 2, none⟩ = some (.pointer none) := y2
      clear y2
      go_wp2_with fail
      refine (offer_nil R W2).mono ?_
      rintro e wz ⟨rfl, hw⟩
      replace hw := hw.symm
      subst hw
      have Sx := S2
      have GJx := GJ
      have GBx := GB
      have hnx : n + 1 ≤ 4000 := by omega
      clear j0 j1 y0 y1 y2' y3
      have HB2 : Hid (B ≤ W2.heap.size) := Nat.le_trans hB GBx.out.size
      obtain ⟨j0, j1⟩ := box2 GJx.out
      go_wp2_with fail
      refine (offer_c Sx.out HM.out hnx HB2.out HYI.out).mono ?_
      rintro e W4 ⟨rfl, X4, p4, n4, c4, hS4, hn4, hf4⟩
      have HB4 : Hid (Below B w W4) := GBx.out.trans (hf4.below Sx.out.bR (fun k hk => (Sx.out.q.own.lt k hk).1) HB2.out)
      have S4 : Hid (RowS W4 R B mp mc M l' X4 p4 n4 c4 (fun _ => True)) := hS4.weak (fun j _ => by {first | omega | (by_cases h : j = 0 <;> by_cases h2 : j = k <;> omega)})
      have HN4 : Hid (n4 ≤ n + 2) := by show _ ≤ _; omega
      clear hS4 hn4 hf4 j0 j1
      go_wp2
      go_end0
      exact ⟨rfl, HB4.out, l', X4, p4, n4, c4, HM2.out, HLL.out, HN4.out, S4.out⟩
    · obtain ⟨v, hv⟩ : ∃ v, l'[k]? = some v := ⟨_, List.getElem?_eq_getElem (by have := (List.getElem?_eq_some_iff.1 HYI.out).1; omega)⟩
      have y2' : W2.cell? ⟨y.b, 2, none⟩ = some (.pointer (some ⟨v.b, 0, none⟩)) := by
        have h := y2
        rw [show prvV l' (k + 1) = .pointer (some ⟨v.b, 0, none⟩) from ptrO_some hv] at h
        exact h
      have HV : Hid (l'[k]? = some v) := hv
      clear y2 hv
      go_wp2_with fail
      refine (offer_c S2.out HM.out (by omega) (Nat.le_trans hB GB.out.size) HV.out).mono ?_
      rintro e W3 ⟨rfl, X3, p3, n3, c3, hS3, hn3, hf3⟩
      have Sx : Hid (RowS W3 R B mp mc M l' X3 p3 n3 c3 (fun j => (j ≠ k + 1 ∧ j + 1 ≠ k + 1) ∨ j = k)) := hS3
      have hnx : n3 + 1 ≤ 4000 := by omega
      have GBx : Hid (Below B w W3) := GB.out.trans (hf3.below S2.out.bR (fun q hq => (S2.out.q.own.lt q hq).1) (Nat.le_trans hB GB.out.size))
      have GJx : Hid (W3.heap[w.heap.size]? = some (.cells #[.int .i64 r, .pointer (some ⟨y.b, 0, none⟩)] 112)) := by
        refine (hf3.block _ (lt_of_some GJ.out) (fun e => ?_) (fun e => ?_)).trans GJ.out
        · have := S2.out.q.row
          rw [← e, GJ.out] at this
          simp at this
        · have := (HJN.out e)
          exact this
      clear hS3 hf3 j0 j1 y0 y1 y2' y3
      have HB2 : Hid (B ≤ W3.heap.size) := Nat.le_trans hB GBx.out.size
      obtain ⟨j0, j1⟩ := box2 GJx.out
      go_wp2_with fail
      refine (offer_c Sx.out HM.out hnx HB2.out HYI.out).mono ?_
      rintro e W4 ⟨rfl, X4, p4, n4, c4, hS4, hn4, hf4⟩
      have HB4 : Hid (Below B w W4) := GBx.out.trans (hf4.below Sx.out.bR (fun k hk => (Sx.out.q.own.lt k hk).1) HB2.out)
      have S4 : Hid (RowS W4 R B mp mc M l' X4 p4 n4 c4 (fun _ => True)) := hS4.weak (fun j _ => by {first | omega | (by_cases h : j = k + 1 <;> by_cases h2 : j = k <;> omega)})
      have HN4 : Hid (n4 ≤ n + 2) := by show _ ≤ _; omega
      clear hS4 hn4 hf4 j0 j1
      go_wp2
      go_end0
      exact ⟨rfl, HB4.out, l', X4, p4, n4, c4, HM2.out, HLL.out, HN4.out, S4.out⟩
  · have HU : Hid (l[i + 2]? = some u) := hu
    clear hu
    have HYb : Hid (W0.heap[y.b]? = some (.cells #[.int .i64 y.tok, .int .i64 y.pl, prvV l i, .pointer (some ⟨z.b, 0, none⟩)] 109)) := by have h := S0.out.live i y HY.out; rw [ptrO_some HZ.out] at h; exact h
    have HZb : Hid (W0.heap[z.b]? = some (.cells #[.int .i64 z.tok, .int .i64 z.pl, .pointer (some ⟨y.b, 0, none⟩), .pointer (some ⟨u.b, 0, none⟩)] 109)) := by
      have h := S0.out.live (i + 1) z HZ.out
      rw [show prvV l (i + 1) = .pointer (some ⟨y.b, 0, none⟩) from ptrO_some HY.out, show ptrO l[i + 1 + 1]? = .pointer (some ⟨u.b, 0, none⟩) from ptrO_some HU.out] at h
      exact h
    have HUb : Hid (W0.heap[u.b]? = some (.cells #[.int .i64 u.tok, .int .i64 u.pl, .pointer (some ⟨z.b, 0, none⟩), ptrO l[i + 3]?] 109)) := by
      have h := S0.out.live (i + 2) u HU.out
      rw [show prvV l (i + 2) = .pointer (some ⟨z.b, 0, none⟩) from ptrO_some HZ.out] at h
      exact h
    have nyu : y.b ≠ u.b := fun e => by have := S0.out.mono.inj HY.out HU.out e; omega
    have nzu : z.b ≠ u.b := fun e => by have := S0.out.mono.inj HZ.out HU.out e; omega
    have nju : u.b ≠ w.heap.size := fun e => by have := HUb.out; rw [e, HJ.out] at this; simp at this
    have nyz : y.b ≠ z.b := fun e => by have := S0.out.mono.inj HY.out HZ.out e; omega
    have nyj : y.b ≠ w.heap.size := fun e => by have := HYb.out; rw [e, HJ.out] at this; simp at this
    have nzj : z.b ≠ w.heap.size := fun e => by have := HZb.out; rw [e, HJ.out] at this; simp at this
    obtain ⟨j0, j1⟩ := box2 HJ.out
    obtain ⟨y0, y1, y2, y3⟩ := cell4 HYb.out
    have yfz := frz_cells HYb.out
    go_enter Try.func76, Try.ntmps76
    go_upto_region 1 with fail
    rw [HW0.out]
    go_upto_region 3 with fail
    refine wp_genW (fun W => Hid (W.heap[y.b]? = some (.cells #[.int .i64 (256 + r), .int .i64 y.pl, prvV l i, .pointer (some ⟨z.b, 0, none⟩)] 109)) ∧ Hid (W.heap[z.b]? = some (.cells #[.int .i64 z.tok, .int .i64 z.pl, .pointer (some ⟨y.b, 0, none⟩), .pointer (some ⟨u.b, 0, none⟩)] 109)) ∧ Hid (W.heap[u.b]? = some (.cells #[.int .i64 u.tok, .int .i64 u.pl, .pointer (some ⟨z.b, 0, none⟩), ptrO l[i + 3]?] 109)) ∧ Hid (W.heap[w.heap.size]? = some (.cells #[.int .i64 r, .pointer (some ⟨y.b, 0, none⟩)] 112)) ∧ Hid (OthK (fun k => k = y.b ∨ k = z.b ∨ k = u.b) W0 W)) ⟨set_at HYb.out _, set_off HZb.out _ (Ne.symm nyz), set_off HUb.out _ (Ne.symm nyu), set_off HJ.out _ (Ne.symm nyj), (OthK.refl _ _).set _ _ (.inl rfl)⟩ ?_
    clear j0 j1 y0 y1 y2 y3 yfz
    rintro W1 ⟨GY, GZ, GU, GJ, GO⟩
    obtain ⟨j0, j1⟩ := box2 GJ.out
    obtain ⟨y0, y1, y2, y3⟩ := cell4 GY.out
    obtain ⟨z0, z1, z2, z3⟩ := cell4 GZ.out
    have yfz := frz_cells GY.out
    refine wp_region_L [⟨8, fun W => W.cell? ⟨w.heap.size, 1, none⟩ = some (.pointer (some ⟨y.b, 0, none⟩))⟩, ⟨8, fun W => W.cell? ⟨z.b, 3, none⟩ = some (.pointer (some ⟨u.b, 0, none⟩))⟩] (by kernel_rfl) (fun f hf => by
        simp only [List.mem_cons, List.not_mem_nil, or_false] at hf
        rcases hf with rfl | rfl
        · exact j1
        · exact z3
        ) ?_
    refine At.take 0 (some 17) (.pointer (some ⟨w.heap.size, 1, none⟩)) rfl rfl (by kernel_rfl) (by kernel_rfl) (by kernel_rfl) (by kernel_rfl) (fun _ _ _ h => h) (yl_pure (by kernel_rfl) (fun _ => by kernel_rfl)) ?_
    refine At.take 1 (some 18) (.pointer (some ⟨y.b, 0, none⟩)) rfl rfl (by kernel_rfl) (by kernel_rfl) (by kernel_rfl) (by kernel_rfl) (fun _ _ _ h => h) (yl_load 8 ⟨w.heap.size, 1, none⟩ (.pointer (some ⟨y.b, 0, none⟩)) (List.mem_cons_self) [6, 7, 8] (by kernel_rfl) rfl (by kernel_rfl) (fun _ => by kernel_rfl)) ?_
    refine At.take 2 (some 19) (.pointer (some ⟨z.b, 0, none⟩)) rfl rfl (by kernel_rfl) (by kernel_rfl) (by kernel_rfl) (by kernel_rfl) (fun _ _ _ h => h) (yl_pure (by kernel_rfl) (fun _ => by kernel_rfl)) ?_
    refine At.take 3 (some 20) (.pointer (some ⟨z.b, 0, none⟩)) rfl rfl (by kernel_rfl) (by kernel_rfl) (by kernel_rfl) (by kernel_rfl) (fun _ _ _ h => h) (yl_pure (by kernel_rfl) (fun _ => by kernel_rfl)) ?_
    refine At.take 4 (some 21) (.pointer (some ⟨z.b, 3, none⟩)) rfl rfl (by kernel_rfl) (by kernel_rfl) (by kernel_rfl) (by kernel_rfl) (fun _ _ _ h => h) (yl_pure (by kernel_rfl) (fun _ => by kernel_rfl)) ?_
    refine At.take 5 (some 22) (.pointer (some ⟨u.b, 0, none⟩)) rfl rfl (by kernel_rfl) (by kernel_rfl) (by kernel_rfl) (by kernel_rfl) (fun _ _ _ h => h) (yl_load 8 ⟨z.b, 3, none⟩ (.pointer (some ⟨u.b, 0, none⟩)) (List.mem_cons_of_mem _ (List.mem_cons_self)) [6, 7, 8] (by kernel_rfl) rfl (by kernel_rfl) (fun _ => by kernel_rfl)) ?_
    refine At.take 6 (some 23) (.pointer (some ⟨y.b, 0, none⟩)) rfl rfl (by kernel_rfl) (by kernel_rfl) (by kernel_rfl) (by kernel_rfl) (fun _ _ _ h => h) (yl_pure (by kernel_rfl) (fun _ => by kernel_rfl)) ?_
    refine At.take 7 (some 24) (.pointer (some ⟨y.b, 3, none⟩)) rfl rfl (by kernel_rfl) (by kernel_rfl) (by kernel_rfl) (by kernel_rfl) (fun _ _ _ h => h) (yl_pure (by kernel_rfl) (fun _ => by kernel_rfl)) ?_
    refine At.step 8 none rfl rfl (by kernel_rfl) (by kernel_rfl) (fun vv W => vv = undef ∧ W = W1.drew.setCell ⟨y.b, 3, none⟩ (.pointer (some ⟨u.b, 0, none⟩))) (gives_store (p := ⟨y.b, 3, none⟩) (x := .pointer (some ⟨u.b, 0, none⟩)) (y := .pointer (some ⟨z.b, 0, none⟩)) (fun _ => by kernel_rfl) (by rfl) y3 (yfz _)) ?_
    rintro uu WE ⟨rfl, hWE⟩
    refine ⟨held_cons (.inl (by kernel_rfl)) (held_cons (.inl (by kernel_rfl)) (held_nil)), ?_⟩
    refine At.done (by kernel_rfl) ?_
    simp only [Act.put, List.setIfInBounds_toArray, List.set_cons_zero, List.set_cons_succ]
    have FY : Hid (WE.heap[y.b]? = some (.cells #[.int .i64 (256 + r), .int .i64 y.pl, prvV l i, .pointer (some ⟨u.b, 0, none⟩)] 109)) := by rw [hWE]; exact set_at GY.out _
    have FZ : Hid (WE.heap[z.b]? = some (.cells #[.int .i64 z.tok, .int .i64 z.pl, .pointer (some ⟨y.b, 0, none⟩), .pointer (some ⟨u.b, 0, none⟩)] 109)) := by rw [hWE]; exact set_off GZ.out _ (Ne.symm nyz)
    have FU : Hid (WE.heap[u.b]? = some (.cells #[.int .i64 u.tok, .int .i64 u.pl, .pointer (some ⟨z.b, 0, none⟩), ptrO l[i + 3]?] 109)) := by rw [hWE]; exact set_off GU.out _ (Ne.symm nyu)
    have FJ : Hid (WE.heap[w.heap.size]? = some (.cells #[.int .i64 r, .pointer (some ⟨y.b, 0, none⟩)] 112)) := by rw [hWE]; exact set_off GJ.out _ (Ne.symm nyj)
    have FO : Hid (OthK (fun k => k = y.b ∨ k = z.b ∨ k = u.b) W0 WE) := by rw [hWE]; exact GO.out.drew.set _ _ (.inl rfl)
    clear hWE j0 j1 y0 y1 y2 y3 z0 z1 z2 z3 yfz GY GZ GU GJ GO
    obtain ⟨z0, z1, z2, z3⟩ := cell4 FZ.out
    go_upto_region 5 with fail
    obtain ⟨j0, j1⟩ := box2 FJ.out
    obtain ⟨u0, u1, u2, u3⟩ := cell4 FU.out
    have ufz := frz_cells FU.out
    refine wp_region_L [⟨8, fun W => W.cell? ⟨z.b, 3, none⟩ = some (.pointer (some ⟨u.b, 0, none⟩))⟩, ⟨8, fun W => W.cell? ⟨w.heap.size, 1, none⟩ = some (.pointer (some ⟨y.b, 0, none⟩))⟩] (by kernel_rfl) (fun f hf => by
        simp only [List.mem_cons, List.not_mem_nil, or_false] at hf
        rcases hf with rfl | rfl
        · exact z3
        · exact j1
        ) ?_
    refine At.take 0 (some 30) (.pointer (some ⟨z.b, 0, none⟩)) rfl rfl (by kernel_rfl) (by kernel_rfl) (by kernel_rfl) (by kernel_rfl) (fun _ _ _ h => h) (yl_pure (by kernel_rfl) (fun _ => by kernel_rfl)) ?_
    refine At.take 1 (some 31) (.pointer (some ⟨z.b, 0, none⟩)) rfl rfl (by kernel_rfl) (by kernel_rfl) (by kernel_rfl) (by kernel_rfl) (fun _ _ _ h => h) (yl_pure (by kernel_rfl) (fun _ => by kernel_rfl)) ?_
    refine At.take 2 (some 32) (.pointer (some ⟨z.b, 3, none⟩)) rfl rfl (by kernel_rfl) (by kernel_rfl) (by kernel_rfl) (by kernel_rfl) (fun _ _ _ h => h) (yl_pure (by kernel_rfl) (fun _ => by kernel_rfl)) ?_
    refine At.take 3 (some 33) (.pointer (some ⟨u.b, 0, none⟩)) rfl rfl (by kernel_rfl) (by kernel_rfl) (by kernel_rfl) (by kernel_rfl) (fun _ _ _ h => h) (yl_load 8 ⟨z.b, 3, none⟩ (.pointer (some ⟨u.b, 0, none⟩)) (List.mem_cons_self) [6, 7, 8] (by kernel_rfl) rfl (by kernel_rfl) (fun _ => by kernel_rfl)) ?_
    refine At.take 4 (some 34) (.pointer (some ⟨w.heap.size, 1, none⟩)) rfl rfl (by kernel_rfl) (by kernel_rfl) (by kernel_rfl) (by kernel_rfl) (fun _ _ _ h => h) (yl_pure (by kernel_rfl) (fun _ => by kernel_rfl)) ?_
    refine At.take 5 (some 35) (.pointer (some ⟨y.b, 0, none⟩)) rfl rfl (by kernel_rfl) (by kernel_rfl) (by kernel_rfl) (by kernel_rfl) (fun _ _ _ h => h) (yl_load 8 ⟨w.heap.size, 1, none⟩ (.pointer (some ⟨y.b, 0, none⟩)) (List.mem_cons_of_mem _ (List.mem_cons_self)) [6, 7, 8] (by kernel_rfl) rfl (by kernel_rfl) (fun _ => by kernel_rfl)) ?_
    refine At.take 6 (some 36) (.pointer (some ⟨u.b, 0, none⟩)) rfl rfl (by kernel_rfl) (by kernel_rfl) (by kernel_rfl) (by kernel_rfl) (fun _ _ _ h => h) (yl_pure (by kernel_rfl) (fun _ => by kernel_rfl)) ?_
    refine At.take 7 (some 37) (.pointer (some ⟨u.b, 2, none⟩)) rfl rfl (by kernel_rfl) (by kernel_rfl) (by kernel_rfl) (by kernel_rfl) (fun _ _ _ h => h) (yl_pure (by kernel_rfl) (fun _ => by kernel_rfl)) ?_
    refine At.step 8 none rfl rfl (by kernel_rfl) (by kernel_rfl) (fun vv W => vv = undef ∧ W = WE.drew.setCell ⟨u.b, 2, none⟩ (.pointer (some ⟨y.b, 0, none⟩))) (gives_store (p := ⟨u.b, 2, none⟩) (x := .pointer (some ⟨y.b, 0, none⟩)) (y := .pointer (some ⟨z.b, 0, none⟩)) (fun _ => by kernel_rfl) (by rfl) u2 (ufz _)) ?_
    rintro uu WF ⟨rfl, hWF⟩
    refine ⟨held_cons (.inl (by kernel_rfl)) (held_cons (.inl (by kernel_rfl)) (held_nil)), ?_⟩
    refine At.done (by kernel_rfl) ?_
    simp only [Act.put, List.setIfInBounds_toArray, List.set_cons_zero, List.set_cons_succ]
    have EY : Hid (WF.heap[y.b]? = some (.cells #[.int .i64 (256 + r), .int .i64 y.pl, prvV l i, .pointer (some ⟨u.b, 0, none⟩)] 109)) := by rw [hWF]; exact set_off FY.out _ nyu
    have EZ : Hid (WF.heap[z.b]? = some (.cells #[.int .i64 z.tok, .int .i64 z.pl, .pointer (some ⟨y.b, 0, none⟩), .pointer (some ⟨u.b, 0, none⟩)] 109)) := by rw [hWF]; exact set_off FZ.out _ nzu
    have EU : Hid (WF.heap[u.b]? = some (.cells #[.int .i64 u.tok, .int .i64 u.pl, .pointer (some ⟨y.b, 0, none⟩), ptrO l[i + 3]?] 109)) := by rw [hWF]; exact set_at FU.out _
    have EJ : Hid (WF.heap[w.heap.size]? = some (.cells #[.int .i64 r, .pointer (some ⟨y.b, 0, none⟩)] 112)) := by rw [hWF]; exact set_off FJ.out _ (Ne.symm nju)
    have EO : Hid (OthK (fun k => k = y.b ∨ k = z.b ∨ k = u.b) W0 WF) := by rw [hWF]; exact FO.out.drew.set _ _ (.inr (.inr rfl))
    clear hWF j0 j1 u0 u1 u2 u3 ufz z0 z1 z2 z3 FY FZ FU FJ FO
    obtain ⟨z0, z1, z2, z3⟩ := cell4 EZ.out
    have zfz := frz_cells EZ.out
    go_upto_region 7 with fail
    refine wp_genW (fun W => Hid (RowS W R B mp mc M (l.take i ++ ⟨y.b, 256 + r, y.pl⟩ :: l.drop (i + 2)) X p n c (fun j => j ≠ i ∧ j + 1 ≠ i)) ∧ Hid (W.heap[w.heap.size]? = some (.cells #[.int .i64 r, .pointer (some ⟨y.b, 0, none⟩)] 112)) ∧ Hid (Below B w W)) ⟨?_, set_off EJ.out _ (Ne.symm nzj), ?_⟩ ?_
    · have hB2 : Below B W0 _ := HBO.out _ _ (EO.out.set ⟨z.b, 3, none⟩ (.pointer none) (.inr (.inl rfl))) (fun k hk => by rcases hk with rfl | rfl | rfl <;> first | exact HBY.out | exact HBZ.out | exact S0.out.bl u (List.mem_of_getElem? HU.out))
      have hO := EO.out.set ⟨z.b, 3, none⟩ (.pointer none) (.inr (.inl rfl))
      refine join_row S0.out HCC.out HY.out HZ.out (mrg_is HY.out HZ.out _) (Nat.le_of_eq hO.size.symm) hB2 ?_ ⟨_, _, set_at EZ.out _⟩ (fun u' hu' => ?_) (fun k _ h1 h2 h3 => hO.block k (fun hk => ?_))
      · rw [show ptrO l[i + 2]? = .pointer (some ⟨u.b, 0, none⟩) from ptrO_some HU.out]
        exact set_off EY.out _ nyz
      · rw [HU.out] at hu'; cases hu'
        exact set_off EU.out _ (Ne.symm nzu)
      · rcases hk with h | h | h
        · exact h1 h
        · exact h2 h
        · exact h3 u HU.out h
    · exact HB0.out.trans (HBO.out _ _ (EO.out.set ⟨z.b, 3, none⟩ (.pointer none) (.inr (.inl rfl))) (fun k hk => by rcases hk with rfl | rfl | rfl <;> first | exact HBY.out | exact HBZ.out | exact S0.out.bl u (List.mem_of_getElem? HU.out)))
    clear z0 z1 z2 z3 zfz
    rintro W2 ⟨S2, GJ, GB⟩
    have HM2 : Hid (Mrg8 l (l.take i ++ ⟨y.b, 256 + r, y.pl⟩ :: l.drop (i + 2)) i y (256 + r)) := mrg_is HY.out HZ.out _
    generalize l.take i ++ ⟨y.b, 256 + r, y.pl⟩ :: l.drop (i + 2) = l' at S2 HM2 HLL
    have HYI : Hid (l'[i]? = some ⟨y.b, 256 + r, y.pl⟩) := by have := HM2.out i; rw [if_neg (by omega), if_pos rfl] at this; exact this
    obtain ⟨j0, j1⟩ := box2 GJ.out
    obtain ⟨y0, y1, y2, y3⟩ := cell4 (S2.out.live i _ HYI.out)
    rcases i with _ | k
    · have y2' : W2.cell? ⟨y.b, 2, none⟩ = some (.pointer none) := y2
      clear y2
      go_wp2_with fail
      refine (offer_nil R W2).mono ?_
      rintro e wz ⟨rfl, hw⟩
      replace hw := hw.symm
      subst hw
      have Sx := S2
      have GJx := GJ
      have GBx := GB
      have hnx : n + 1 ≤ 4000 := by omega
      clear j0 j1 y0 y1 y2' y3
      have HB2 : Hid (B ≤ W2.heap.size) := Nat.le_trans hB GBx.out.size
      obtain ⟨j0, j1⟩ := box2 GJx.out
      go_wp2_with fail
      refine (offer_c Sx.out HM.out hnx HB2.out HYI.out).mono ?_
      rintro e W4 ⟨rfl, X4, p4, n4, c4, hS4, hn4, hf4⟩
      have HB4 : Hid (Below B w W4) := GBx.out.trans (hf4.below Sx.out.bR (fun k hk => (Sx.out.q.own.lt k hk).1) HB2.out)
      have S4 : Hid (RowS W4 R B mp mc M l' X4 p4 n4 c4 (fun _ => True)) := hS4.weak (fun j _ => by {first | omega | (by_cases h : j = 0 <;> by_cases h2 : j = k <;> omega)})
      have HN4 : Hid (n4 ≤ n + 2) := by show _ ≤ _; omega
      clear hS4 hn4 hf4 j0 j1
      go_wp2
      go_end0
      exact ⟨rfl, HB4.out, l', X4, p4, n4, c4, HM2.out, HLL.out, HN4.out, S4.out⟩
    · obtain ⟨v, hv⟩ : ∃ v, l'[k]? = some v := ⟨_, List.getElem?_eq_getElem (by have := (List.getElem?_eq_some_iff.1 HYI.out).1; omega)⟩
      have y2' : W2.cell? ⟨y.b, 2, none⟩ = some (.pointer (some ⟨v.b, 0, none⟩)) := by
        have h := y2
        rw [show prvV l' (k + 1) = .pointer (some ⟨v.b, 0, none⟩) from ptrO_some hv] at h
        exact h
      have HV : Hid (l'[k]? = some v) := hv
      clear y2 hv
      go_wp2_with fail
      refine (offer_c S2.out HM.out (by omega) (Nat.le_trans hB GB.out.size) HV.out).mono ?_
      rintro e W3 ⟨rfl, X3, p3, n3, c3, hS3, hn3, hf3⟩
      have Sx : Hid (RowS W3 R B mp mc M l' X3 p3 n3 c3 (fun j => (j ≠ k + 1 ∧ j + 1 ≠ k + 1) ∨ j = k)) := hS3
      have hnx : n3 + 1 ≤ 4000 := by omega
      have GBx : Hid (Below B w W3) := GB.out.trans (hf3.below S2.out.bR (fun q hq => (S2.out.q.own.lt q hq).1) (Nat.le_trans hB GB.out.size))
      have GJx : Hid (W3.heap[w.heap.size]? = some (.cells #[.int .i64 r, .pointer (some ⟨y.b, 0, none⟩)] 112)) := by
        refine (hf3.block _ (lt_of_some GJ.out) (fun e => ?_) (fun e => ?_)).trans GJ.out
        · have := S2.out.q.row
          rw [← e, GJ.out] at this
          simp at this
        · have := (HJN.out e)
          exact this
      clear hS3 hf3 j0 j1 y0 y1 y2' y3
      have HB2 : Hid (B ≤ W3.heap.size) := Nat.le_trans hB GBx.out.size
      obtain ⟨j0, j1⟩ := box2 GJx.out
      go_wp2_with fail
      refine (offer_c Sx.out HM.out hnx HB2.out HYI.out).mono ?_
      rintro e W4 ⟨rfl, X4, p4, n4, c4, hS4, hn4, hf4⟩
      have HB4 : Hid (Below B w W4) := GBx.out.trans (hf4.below Sx.out.bR (fun k hk => (Sx.out.q.own.lt k hk).1) HB2.out)
      have S4 : Hid (RowS W4 R B mp mc M l' X4 p4 n4 c4 (fun _ => True)) := hS4.weak (fun j _ => by {first | omega | (by_cases h : j = k + 1 <;> by_cases h2 : j = k <;> omega)})
      have HN4 : Hid (n4 ≤ n + 2) := by show _ ≤ _; omega
      clear hS4 hn4 hf4 j0 j1
      go_wp2
      go_end0
      exact ⟨rfl, HB4.out, l', X4, p4, n4, c4, HM2.out, HLL.out, HN4.out, S4.out⟩

end Go.Proofs.Ytdggkcohidijcaa
