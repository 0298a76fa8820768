/- The program's own disk: its files taken in. -/
import Derived.Test.YtmknplpcpmkhiaaGreatDiGive
import Derived.Test.YtmknplpcpmkhiaaGreatHaOpen
import Derived.Test.YtmknplpcpmkhiaaGreatJD
import Derived.Deep.RegionHeld3
namespace Go.Proofs.YtmknplpcpmkhiaaGreat
open Go.RowKit Go.Maps
set_option linter.unusedVariables false

/-- The number ahead of the k-th. -/
def lastI (L : List S_Inode) (k : Nat) : Int := if k = 0 then 0 else ((L[k - 1]?).map (·.f0)).getD 0

/-- Is it right behind that number? -/
def iOk (next last : Int) (x : S_Inode) : Prop := last < x.f0 ∧ x.f0 < next ∧ 0 ≤ x.f2 ∧ x.f2 ≤ x.f1.size

def okI (next : Int) (L : List S_Inode) : Prop := ∀ k (hk : k < L.length), iOk next (lastI L k) L[k]

theorem lastI_succ (L : List S_Inode) (k : Nat) (h : k < L.length) : lastI L (k + 1) = L[k].f0 := by simp [lastI, List.getElem?_eq_getElem h]

/-- The bytes of all inodes. -/
def totI : List S_Inode → Nat
  | [] => 0
  | x :: xs => x.f1.size + totI xs

theorem cell_alloc {w : World} {a : Addr} {u : Value} {o : Obj} (h : w.cell? a = some u) : (w.alloc o).cell? a = some u := (World.grownBy_alloc w o none).cell h (by simp)

theorem step_mapUpdate {P : Program} {ops : Array Oper} {o : Oper} {a : Act} {w : World} {K : Act → World → Prop} {Q : Exit → Act → World → Prop} {E : Prop} (hg : o.guard = none) (m x v : Operand) (t : TypeId) (hop : o.op = Op.mapUpdate t m x v)
    (b : Nat) (key val : Value) (hm : a.eval m = .map (some b)) (hx : a.eval x = key) (hv : a.eval v = val) (w' : World) (hrun : (Instr.mapUpdate t (.map (some b)) key val).run P w = .ok () w') (hK : K (a.put o.dst undef) w') :
    if Region.wanted o (yielded ops a.tmps) = true then Oper.wp P o a w K Q else E := by
  have hw : Region.wanted o (yielded ops a.tmps) = true := by simp [Region.wanted, hg]
  rw [if_pos hw]
  unfold Oper.wp
  simp [execOp, hop, hm, hx, hv, hrun, Result.andThen]
  exact hK

theorem turned_at {w w' : World} {b i : Nat} (h : w.mapTurned w' b) (hi : i < w.heap.size) (hne : i ≠ b) : w'.heap[i]? = w.heap[i]? := h.grown.block i hi (by simpa using hne)

/-- One file more. -/
theorem Fls.add {B : Nat} {w w3 : World} {bf : Nat} {fs : List (S_Inode × Nat)} {h : Int → Bool} {x : S_Inode} (F : Fls B w bf fs h) (hlt : ∀ p ∈ fs, p.1.f0 < x.f0) (hw : (Lit.int .i64 x.f0).wf = true ∧ (Lit.int .i64 x.f2).wf = true ∧ x.f1.size ≤ 1048576) (hB : B ≤ w.heap.size)
    (hown : w3.ownsMap Tryz.prog 3 ptrElem bf (fs.length + 1) ((encF fs).put (.int .i64 x.f0) (.lit (.int .i64 w.heap.size)))) (ht : (w.alloc (fObj x (h x.f0))).mapTurned w3 bf) : Fls B w3 bf (fs ++ [(x, w.heap.size)]) h ∧ Fr (fun i => i = bf) w w3 := by
  have hbf := F.own.lt
  have hfr : Fr (fun i => i = bf) w w3 := ((Fr.refl _ _).alloc _).grown ht.grown (fun j hj => by cases hj; exact Or.inl rfl)
  refine ⟨⟨?_, fun p hp => ?_, ⟨F.low.1, fun p hp => ?_⟩, ?_, ?_, fun p hp => ?_⟩, hfr⟩
  · rw [encF_put fs (x, w.heap.size) hlt] at hown
    simpa using hown
  · rcases List.mem_append.1 hp with hp | hp
    · exact hfr.at (F.blk p hp) (fun e => map_ne F.own (F.blk p hp) e)
    · simp only [List.mem_singleton] at hp
      subst hp
      rw [turned_at ht (by simp) (by simp only; omega)]
      exact (MapKept.heap_alloc w _).1
  · rcases List.mem_append.1 hp with hp | hp
    · exact F.low.2 p hp
    · simp only [List.mem_singleton] at hp
      subst hp
      exact hB
  · rw [List.map_append, List.nodup_append]
    refine ⟨F.apart, by simp, ?_⟩
    intro a ha b hb
    obtain ⟨p, hp, rfl⟩ := List.mem_map.1 ha
    simp only [List.map_cons, List.map_nil, List.mem_singleton] at hb
    have := lt_of_some (F.blk p hp)
    omega
  · rw [List.pairwise_append]
    refine ⟨F.ris, by simp, fun p hp q hq => ?_⟩
    simp only [List.mem_singleton] at hq
    subst hq
    exact hlt p hp
  · rcases List.mem_append.1 hp with hp | hp
    · exact F.wf p hp
    · simp only [List.mem_singleton] at hp
      subst hp
      exact hw

theorem pre_le {next : Int} {L : List S_Inode} : ∀ k, k ≤ L.length → (∀ j (hj : j < L.length), j < k → iOk next (lastI L j) L[j]) → ∀ j (hj : j < L.length), j < k → L[j].f0 ≤ lastI L k
  | 0, _, _, j, _, h => by omega
  | k + 1, hk, hO, j, hj, hjk => by
    have hkl : k < L.length := by omega
    rw [lastI_succ L k hkl]
    by_cases e : j = k
    · subst e; exact Int.le_refl _
    · have ih := pre_le k (by omega) (fun j hj h => hO j hj (by omega)) j hj (by omega)
      have := (hO k hkl (by omega)).1
      omega

theorem totF_zip : ∀ (L : List S_Inode) (bs : List Nat), bs.length = L.length → totF (L.zip bs) = totI L
  | [], _, _ => by simp [totF, totI]
  | x :: xs, [], h => by simp at h
  | x :: xs, b :: bs, h => by
    have := totF_zip xs bs (by simpa using h)
    simp [totF, totI, this]

theorem totI_mem : ∀ {L : List S_Inode} {x : S_Inode}, x ∈ L → x.f1.size ≤ totI L
  | [], _, h => by simp at h
  | y :: ys, x, h => by
    simp only [totI]
    rcases List.mem_cons.1 h with rfl | h
    · omega
    · have := totI_mem h
      omega

theorem Fls.drewN {B : Nat} {w : World} {bf : Nat} {fs : List (S_Inode × Nat)} {h : Int → Bool} (F : Fls B w bf fs h) (n : Nat) : Fls B (w.drewN n) bf fs h := F.keep (S := fun _ => False) ((Fr.refl _ _).drewN n) (by simp) (by simp)

theorem Fls.drew {B : Nat} {w : World} {bf : Nat} {fs : List (S_Inode × Nat)} {h : Int → Bool} (F : Fls B w bf fs h) : Fls B w.drew bf fs h := F.keep (S := fun _ => False) (Fr.refl _ _).drew (by simp) (by simp)

theorem bel_undrew {B : Nat} {w w' : World} (h : Below B w.drew w') : Below B w w' := ⟨h.os, h.tape, h.output, h.size, h.block⟩

theorem fr_undrew {S : Nat → Prop} {w w' : World} (h : Fr S w.drew w') : Fr S w w' := ⟨h.os, h.tape, h.output, h.size, h.block⟩

theorem wp_genD {P : Program} {c : Code} {Q : Exit → Act → World → Prop} {a : Act} (F : World → Prop) {W0 : World} (h0 : F W0) (h : ∀ W, F W → Code.wp P c Q a W) : Code.wp P c Q a W0 := h W0 h0

/-- Files that were taken in from the first inodes. -/
def TkI (B m : Nat) (room next : Int) (bf bd : Nat) (vn vm : Value) (L : List S_Inode) (w : World) (k : Nat) (wr : World) : Prop :=
  (∃ bs : List Nat, bs.length = k ∧ Fls B wr bf ((L.take k).zip bs) (fun _ => false)) ∧ Fr (fun i => i = bf) w wr ∧ wr.heap[m]? = some (mObj room next bf bd vn vm) ∧ B ≤ wr.heap.size

def TiR (B m : Nat) (room next : Int) (bf bd : Nat) (vn vm : Value) (L : List S_Inode) (w : World) (e : Ending) (w' : World) : Prop :=
  (okI next L ∧ (totI L : Int) ≤ room ∧ e = .returned (.bool true) ∧ TkI B m room next bf bd vn vm L w L.length w') ∨ (¬ (okI next L ∧ (totI L : Int) ≤ room) ∧ e = .returned (.bool false) ∧ Below B w w')

set_option maxRecDepth 20000 in
set_option maxHeartbeats 2000000 in
theorem takeI_c (B m : Nat) (room next : Int) (bf bd : Nat) (vn vm : Value) (L : List S_Inode) (p : Option Addr) (cap : Nat) (W w : World) (hm : w.heap[m]? = some (mObj room next bf bd vn vm)) (F : Fls B w bf [] (fun _ => false))
    (hW : W.heap.size ≤ B) (hB : B ≤ w.heap.size) (hbW : Below W.heap.size W w) (hr : RowR W (.slice p L.length cap) L.length 3 (rInode L)) (hn : L.length ≤ 10) (hg : ∀ x ∈ L, gInode x) (hT : totI L ≤ 1048576) :
    Calls Tryz.prog 98 #[.pointer (some ⟨m, 0, none⟩), .slice p L.length cap] w (TiR B m room next bf bd vn vm L w) := by
  have hn' : (L.length : Int) ≤ 10 := by omega
  have HI0 : Hid (TkI B m room next bf bd vn vm L w 0 w) := ⟨⟨[], rfl, F⟩, Fr.refl _ _, hm, hB⟩
  have HR : Hid (RowR W (.slice p L.length cap) L.length 3 (rInode L)) := hr
  have HBW : Hid (Below W.heap.size W w) := hbW
  have HG : Hid (∀ x ∈ L, gInode x) := hg
  have HT : Hid (totI L ≤ 1048576) := hT
  have HBB : Hid (W.heap.size ≤ B ∧ B ≤ w.heap.size) := ⟨hW, hB⟩
  clear F hr hbW hg hT hm hW hB
  go_enter Tryz.func98, Tryz.ntmps98
  go_wp2
  go_loopw [5, 10] (fun lv iv wr => ∃ k : Nat, k ≤ L.length ∧ iv = .int .i64 (k : Int) ∧ lv = .int .i64 (lastI L k) ∧ Hid (TkI B m room next bf bd vn vm L w k wr) ∧ Hid (∀ j (hj : j < L.length), j < k → iOk next (lastI L j) L[j])) (fun _ iv _ => L.length - (intOf iv).toNat)
  case atStart => exact ⟨0, Nat.zero_le _, rfl, rfl, HI0, fun j _ hj => by omega⟩
  case round =>
    obtain ⟨k, hk, rfl, rfl, HTk, HOk⟩ := hrel
    by_cases hlt : k < L.length
    · have hlt' : (k : Int) < L.length := by omega
      obtain ⟨⟨bs, hbs, hF⟩, hfr, hmr, hBr⟩ := HTk.out
      have hbel : Below W.heap.size W wr := HBW.out.trans (hfr.below (fun i e => by subst e; exact Nat.le_trans HBB.out.1 hF.low.1) HBW.out.size)
      obtain ⟨b, off, cap', hv, hb, hc⟩ := inode_cells (HR.out.keep hbel (Nat.le_refl _)) (by omega)
      simp only [Value.slice.injEq, true_and] at hv
      obtain ⟨rfl, rfl⟩ := hv
      obtain ⟨c0, c1, c2⟩ := hc k hlt
      obtain ⟨m0, m1, m2, _⟩ := mount_cell hmr
      have HMR : Hid (wr.heap[m]? = some (mObj room next bf bd vn vm)) := hmr
      have HF : Hid (Fls B wr bf ((L.take k).zip bs) (fun _ => false)) := hF
      have HFR : Hid (Fr (fun i => i = bf) w wr) := hfr
      have hml := lt_of_some hmr
      have hgk : gInode L[k] := HG.out _ (List.getElem_mem hlt)
      have HGK : Hid (gInode L[k]) := hgk
      have HLS : Hid (lastI L (k + 1) = L[k].f0) := lastI_succ L k hlt
      clear hc hF hfr hmr hbel HTk hgk
      generalize hX : L[k] = X at c0 c1 c2 HGK HLS
      have HBL : Hid (∀ W', Fr (fun i => i = bf) wr W' → Below B w W') := fun W' hf => (HFR.out.trans hf).below (fun i e => by subst e; exact HF.out.low.1) HBB.out.2
      go_wp2_with fail
      refine wp_genD (fun W1 => W1.cell? ⟨wr.heap.size, 0, none⟩ = some (.int .i64 X.f0) ∧ W1.cell? ⟨wr.heap.size, 1, none⟩ = some (.string X.f1) ∧ W1.cell? ⟨wr.heap.size, 2, none⟩ = some (.int .i64 X.f2) ∧ W1.cell? ⟨m, 0, none⟩ = some (.int .i64 room) ∧ W1.cell? ⟨m, 1, none⟩ = some (.int .i64 next) ∧ W1.cell? ⟨m, 2, none⟩ = some (.map (some bf)) ∧ Hid (Fr (fun i => i = bf) wr W1) ∧ Hid (Fls B W1 bf ((L.take k).zip bs) (fun _ => false)) ∧ Hid (wr.heap.size < W1.heap.size)) ?_ ?_
      · have fr0 : Fr (fun _ => False) wr (wr.alloc (.cells #[.int .i64 X.f0, .string X.f1, .int .i64 X.f2] 47)) := (Fr.refl _ _).alloc _
        have hmm := fr0.at HMR.out (by simp)
        obtain ⟨d0, d1, d2, _⟩ := mount_cell hmm
        exact ⟨box_cell _ _ _ _, box_cell _ _ _ _, box_cell _ _ _ _, d0, d1, d2, fr0.mono (fun _ h => h.elim), HF.out.keep fr0 (by simp) (by simp), by show _ < _; simp⟩
      intro W1 ⟨n0, n1, n2, d0, d1, d2, HFR1, HF1, HS1⟩
      clear c0 c1 c2 m0 m1 m2
      have HNO : Hid (¬ iOk next (lastI L k) X → ¬ (okI next L ∧ (totI L : Int) ≤ room)) := fun h1 h2 => h1 (by rw [← hX]; exact h2.1 k hlt)
      by_cases g1 : X.f0 ≤ lastI L k
      · have HE : Hid (¬ (okI next L ∧ (totI L : Int) ≤ room)) := HNO.out (fun h => by unfold iOk at h; omega)
        go_quiet (fail)
        go_wp2
        go_ret
        exact .inr ⟨HE.out, rfl, HBL.out _ (HFR1.out.drewN _)⟩
      by_cases g2 : next ≤ X.f0
      · have HE : Hid (¬ (okI next L ∧ (totI L : Int) ≤ room)) := HNO.out (fun h => by unfold iOk at h; omega)
        go_quiet (fail)
        go_wp2
        go_ret
        exact .inr ⟨HE.out, rfl, HBL.out _ (HFR1.out.drewN _)⟩
      by_cases g3 : X.f2 < 0
      · have HE : Hid (¬ (okI next L ∧ (totI L : Int) ≤ room)) := HNO.out (fun h => by unfold iOk at h; omega)
        go_quiet (fail)
        go_wp2
        go_ret
        exact .inr ⟨HE.out, rfl, HBL.out _ (HFR1.out.drewN _)⟩
      by_cases g4 : (X.f1.size : Int) < X.f2
      · have HE : Hid (¬ (okI next L ∧ (totI L : Int) ≤ room)) := HNO.out (fun h => by unfold iOk at h; omega)
        go_quiet (fail)
        go_wp2
        go_ret
        exact .inr ⟨HE.out, rfl, HBL.out _ (HFR1.out.drewN _)⟩
      have HIK : Hid (iOk next (lastI L k) X) := by show iOk _ _ _; unfold iOk; omega
      have HTX : Hid (X.f1.size ≤ 1048576) := by show _ ≤ _; rw [← hX]; exact Nat.le_trans (totI_mem (List.getElem_mem hlt)) HT.out
      go_quiet (fail)
      go_wp2
      refine wp_genD (fun W2 => W2.cell? ⟨wr.heap.size, 0, none⟩ = some (.int .i64 X.f0) ∧ W2.cell? ⟨wr.heap.size, 1, none⟩ = some (.string X.f1) ∧ W2.cell? ⟨wr.heap.size, 2, none⟩ = some (.int .i64 X.f2) ∧ W2.cell? ⟨m, 2, none⟩ = some (.map (some bf)) ∧ Hid (Fr (fun i => i = bf) wr W2) ∧ Hid (Fls B W2 bf ((L.take k).zip bs) (fun _ => false)) ∧ Hid (wr.heap.size < W2.heap.size)) ⟨n0, n1, n2, d2, HFR1.out.drewN _, HF1.out.drewN _, HS1.out⟩ ?_
      clear n0 n1 n2 d0 d1 d2 HFR1 HF1 HS1 g1 g2 g3 g4
      intro W2 ⟨n0, n1, n2, d2, HFR2, HF2, HS2⟩
      have hbl : bs.length ≤ 10 := by omega
      have hzl : ((L.take k).zip bs).length ≤ 10 := by rw [List.length_zip]; omega
      obtain ⟨w3, hrun, hown3, hturn⟩ := World.ownsMap.store (w := W2.drew.alloc (fObj X false)) (World.ownsMap.alloc (World.ownsMap.drew HF2.out.own) (fObj X false)) kInt Tryz.underlying93 (by unfold maxLen; omega) (keyOf_int_mk Tryz.underlying3 HGK.out.1) (ptrElem_some W2.heap.size)
      have HN1 : Hid (some wr.heap.size ≠ some bf) := by
        intro e
        have := HF.out.own.lt
        simp only [Option.some.injEq] at e
        omega
      have HN2 : Hid (some m ≠ some bf) := by
        intro e
        simp only [Option.some.injEq] at e
        exact map_ne HF.out.own HMR.out e
      refine wp_region_held_drew (S := (fun w' => w'.cell? ⟨wr.heap.size, 0, none⟩ = some (.int .i64 X.f0) ∧ w'.cell? ⟨wr.heap.size, 1, none⟩ = some (.string X.f1) ∧ w'.cell? ⟨wr.heap.size, 2, none⟩ = some (.int .i64 X.f2) ∧ w'.cell? ⟨m, 2, none⟩ = some (.map (some bf)))) (by kernel_rfl) ⟨n0, n1, n2, d2⟩ (fun hHeld => ?_)
      refine wpAnyH_take (i := 0) (v := ?_) rfl (by kernel_rfl) (by kernel_rfl) (by kernel_rfl) (fun _ _ _ h => h) (Or.inl ⟨by rfl, ?_⟩) hHeld ?_
      rotate_left
      · (intro W hSW; obtain ⟨q0, q1, q2, q3⟩ := hSW; go_simp; try with_reducible rfl)
      simp only [Act.put, List.setIfInBounds_toArray, List.set_cons_zero, List.set_cons_succ, List.getElem_toArray, List.getElem_cons_zero]
      refine wpAnyH_take (i := 1) (v := ?_) rfl (by kernel_rfl) (by kernel_rfl) (by kernel_rfl) (fun _ _ _ h => h) (Or.inl ⟨by rfl, ?_⟩) hHeld ?_
      rotate_left
      · (intro W hSW; obtain ⟨q0, q1, q2, q3⟩ := hSW; go_simp; try with_reducible rfl)
      simp only [Act.put, List.setIfInBounds_toArray, List.set_cons_zero, List.set_cons_succ, List.getElem_toArray, List.getElem_cons_zero, List.getElem_cons_succ]
      refine wpAnyH_take (i := 2) (v := ?_) rfl (by kernel_rfl) (by kernel_rfl) (by kernel_rfl) (fun _ _ _ h => h) (Or.inl ⟨by rfl, ?_⟩) hHeld ?_
      rotate_left
      · (intro W hSW; obtain ⟨q0, q1, q2, q3⟩ := hSW; go_simp; try with_reducible rfl)
      simp only [Act.put, List.setIfInBounds_toArray, List.set_cons_zero, List.set_cons_succ, List.getElem_toArray, List.getElem_cons_zero, List.getElem_cons_succ]
      refine wpAnyH_take (i := 4) (v := ?_) rfl (by kernel_rfl) (by kernel_rfl) (by kernel_rfl) (fun _ _ _ h => h) (Or.inl ⟨by rfl, ?_⟩) hHeld ?_
      rotate_left
      · (intro W hSW; obtain ⟨q0, q1, q2, q3⟩ := hSW; go_simp; try with_reducible rfl)
      simp only [Act.put, List.setIfInBounds_toArray, List.set_cons_zero, List.set_cons_succ, List.getElem_toArray, List.getElem_cons_zero, List.getElem_cons_succ]
      refine wpAnyH_take (i := 6) (v := ?_) rfl (by kernel_rfl) (by kernel_rfl) (by kernel_rfl) (fun _ _ _ h => h) (Or.inl ⟨by rfl, ?_⟩) hHeld ?_
      rotate_left
      · (intro W hSW; obtain ⟨q0, q1, q2, q3⟩ := hSW; go_simp; try with_reducible rfl)
      simp only [Act.put, List.setIfInBounds_toArray, List.set_cons_zero, List.set_cons_succ, List.getElem_toArray, List.getElem_cons_zero, List.getElem_cons_succ]
      refine wpAnyH_take (i := 8) (v := ?_) rfl (by kernel_rfl) (by kernel_rfl) (by kernel_rfl) (fun _ _ _ h => h) (Or.inl ⟨by rfl, ?_⟩) hHeld ?_
      rotate_left
      · (intro W hSW; obtain ⟨q0, q1, q2, q3⟩ := hSW; go_simp; try with_reducible rfl)
      simp only [Act.put, List.setIfInBounds_toArray, List.set_cons_zero, List.set_cons_succ, List.getElem_toArray, List.getElem_cons_zero, List.getElem_cons_succ]
      refine wpAnyH_take (i := 3) (v := ?_) rfl (by kernel_rfl) (by kernel_rfl) (by kernel_rfl) (fun _ _ _ h => h) (Or.inl ⟨by rfl, ?_⟩) hHeld ?_
      rotate_left
      · (intro W hSW; obtain ⟨q0, q1, q2, q3⟩ := hSW; go_simp; try with_reducible rfl)
      simp only [Act.put, List.setIfInBounds_toArray, List.set_cons_zero, List.set_cons_succ, List.getElem_toArray, List.getElem_cons_zero, List.getElem_cons_succ]
      refine wpAnyH_take (i := 5) (v := ?_) rfl (by kernel_rfl) (by kernel_rfl) (by kernel_rfl) (fun _ _ _ h => h) (Or.inl ⟨by rfl, ?_⟩) hHeld ?_
      rotate_left
      · (intro W hSW; obtain ⟨q0, q1, q2, q3⟩ := hSW; go_simp; try with_reducible rfl)
      simp only [Act.put, List.setIfInBounds_toArray, List.set_cons_zero, List.set_cons_succ, List.getElem_toArray, List.getElem_cons_zero, List.getElem_cons_succ]
      refine wpAnyH_take (i := 7) (v := ?_) rfl (by kernel_rfl) (by kernel_rfl) (by kernel_rfl) (fun _ _ _ h => h) (Or.inl ⟨by rfl, ?_⟩) hHeld ?_
      rotate_left
      · (intro W hSW; obtain ⟨q0, q1, q2, q3⟩ := hSW; go_simp; try with_reducible rfl)
      simp only [Act.put, List.setIfInBounds_toArray, List.set_cons_zero, List.set_cons_succ, List.getElem_toArray, List.getElem_cons_zero, List.getElem_cons_succ]
      refine wpAnyH_take (i := 9) (v := ?_) rfl (by kernel_rfl) (by kernel_rfl) (by kernel_rfl) (fun _ _ _ h => h) (Or.inl ⟨by rfl, ?_⟩) hHeld ?_
      rotate_left
      · (intro W hSW; obtain ⟨q0, q1, q2, q3⟩ := hSW; go_simp; try with_reducible rfl)
      simp only [Act.put, List.setIfInBounds_toArray, List.set_cons_zero, List.set_cons_succ, List.getElem_toArray, List.getElem_cons_zero, List.getElem_cons_succ]
      refine wpAnyH_take (i := 10) (v := ?_) rfl (by kernel_rfl) (by kernel_rfl) (by kernel_rfl) (fun _ _ _ h => h) (Or.inl ⟨by rfl, ?_⟩) hHeld ?_
      rotate_left
      · (intro W hSW; obtain ⟨q0, q1, q2, q3⟩ := hSW; go_simp; try with_reducible rfl)
      simp only [Act.put, List.setIfInBounds_toArray, List.set_cons_zero, List.set_cons_succ, List.getElem_toArray, List.getElem_cons_zero, List.getElem_cons_succ]
      refine wpAnyH_ready (rs := [11]) (by kernel_rfl) (by simp) ?_
      refine AllReadyH.cons rfl (fun K hK => ?_) AllReadyH.nil
      go_simp
      refine hK.out _ _ ⟨cell_alloc n0, cell_alloc n1, cell_alloc n2, cell_alloc d2⟩ (fun hHeld => ?_)
      clear hK K
      refine wpAnyH_ready (rs := [12]) (by kernel_rfl) (by simp) ?_
      refine AllReadyH.cons rfl (fun K hK => ?_) AllReadyH.nil
      refine step_mapUpdate rfl _ _ _ 93 rfl bf _ _ rfl rfl rfl w3 hrun ?_
      refine hK.out _ _ ⟨hturn.grown.cell (cell_alloc n0) HN1.out, hturn.grown.cell (cell_alloc n1) HN1.out, hturn.grown.cell (cell_alloc n2) HN1.out, hturn.grown.cell (cell_alloc d2) HN2.out⟩ (fun hHeld => ?_)
      clear hK K
      refine wpAnyH_done (by kernel_rfl) ?_ _
      have HA : Hid (Fls B w3 bf ((L.take k).zip bs ++ [(X, W2.heap.size)]) (fun _ => false) ∧ Fr (fun i => i = bf) W2 w3) := (fun z => ⟨z.1, fr_undrew z.2⟩) (Fls.add HF2.out.drew (fun q hq => by
        obtain ⟨i, hi, hqi⟩ := List.getElem_of_mem hq
        rw [List.getElem_zip] at hqi
        rw [← hqi]
        simp only [List.getElem_take]
        rw [List.length_zip, List.length_take] at hi
        have h1 := pre_le k (by omega) HOk.out i (by omega) (by omega)
        have h2 := HIK.out.1
        omega) ⟨HGK.out.1, HGK.out.2, HTX.out⟩ (by have := HFR2.out.size; have := HFR.out.size; have := HBB.out.2; show B ≤ W2.heap.size; omega) hown3 hturn)
      have HZ : Hid ((L.take (k + 1)).zip (bs ++ [W2.heap.size]) = (L.take k).zip bs ++ [(X, W2.heap.size)]) := by
        show _ = _
        rw [List.take_add_one, List.getElem?_eq_getElem hlt, hX]
        rw [List.zip_append (by rw [List.length_take]; omega)]
        rfl
      have HTN : Hid (TkI B m room next bf bd vn vm L w (k + 1) w3) := ⟨⟨bs ++ [W2.heap.size], by simp [hbs], by rw [HZ.out]; exact HA.out.1⟩, (HFR.out.trans HFR2.out).trans HA.out.2, (HFR2.out.trans HA.out.2).at HMR.out (fun e => HN2.out (by rw [e])), by have := HFR2.out.size; have := HFR.out.size; have := HBB.out.2; have := HA.out.2.size; omega⟩
      have HON : Hid (∀ j (hj : j < L.length), j < k + 1 → iOk next (lastI L j) L[j]) := fun j hj hjk => by
        by_cases e : j = k
        · subst e; rw [hX]; exact HIK.out
        · exact HOk.out j hj (by omega)
      clear n0 n1 n2 d2 hrun hown3 hturn HA HZ hzl hbl
      go_wp2
      go_roundw
      case rel => exact ⟨k + 1, by omega, by go_num, by rw [HLS.out], HTN, HON⟩
      case measure => simp [intOf]; omega
    · have hke : k = L.length := by omega
      subst hke
      have HOI : Hid (okI next L) := fun j hj => HOk.out j hj hj
      obtain ⟨⟨bs, hbs, hF⟩, hfr, hmr, hBr⟩ := HTk.out
      rw [List.take_length] at hF
      obtain ⟨m0, _⟩ := mount_cell hmr
      have HMR : Hid (wr.heap[m]? = some (mObj room next bf bd vn vm)) := hmr
      have HF : Hid (Fls B wr bf (L.zip bs) (fun _ => false)) := hF
      have HTE : Hid (totF (L.zip bs) = totI L) := totF_zip L bs hbs
      have HTF : Hid (totF (L.zip bs) ≤ 1048576) := by show _ ≤ _; rw [HTE.out]; exact HT.out
      have HML : Hid (m < wr.heap.size) := lt_of_some hmr
      have HBS : Hid (bs.length = L.length) := hbs
      have HFR : Hid (Fr (fun i => i = bf) w wr) := hfr
      clear hF hfr hmr HTk HOk hbs hBr
      have hT := HTF.out
      go_wp2
      refine wp_region_held_drew (S := (fun w' => w'.cell? ⟨m, 0, none⟩ = some (.int .i64 room) ∧ True)) (by kernel_rfl) ⟨m0, trivial⟩ (fun hHeld => ?_)
      refine wpAnyH_take (i := 0) (v := ?_) rfl (by kernel_rfl) (by kernel_rfl) (by kernel_rfl) (fun _ _ _ h => h) (Or.inl ⟨by rfl, ?_⟩) hHeld ?_
      rotate_left
      · (intro W hSW; obtain ⟨q0, _⟩ := hSW; go_simp; try with_reducible rfl)
      simp only [Act.put, List.setIfInBounds_toArray, List.set_cons_zero, List.set_cons_succ, List.getElem_toArray, List.getElem_cons_zero]
      refine wpAnyH_take (i := 2) (v := ?_) rfl (by kernel_rfl) (by kernel_rfl) (by kernel_rfl) (fun _ _ _ h => h) (Or.inl ⟨by rfl, ?_⟩) hHeld ?_
      rotate_left
      · (intro W hSW; obtain ⟨q0, _⟩ := hSW; go_simp; try with_reducible rfl)
      simp only [Act.put, List.setIfInBounds_toArray, List.set_cons_zero, List.set_cons_succ, List.getElem_toArray, List.getElem_cons_zero, List.getElem_cons_succ]
      refine wpAnyH_take (i := 3) (v := ?_) rfl (by kernel_rfl) (by kernel_rfl) (by kernel_rfl) (fun _ _ _ h => h) (Or.inl ⟨by rfl, ?_⟩) hHeld ?_
      rotate_left
      · (intro W hSW; obtain ⟨q0, _⟩ := hSW; go_simp; try with_reducible rfl)
      simp only [Act.put, List.setIfInBounds_toArray, List.set_cons_zero, List.set_cons_succ, List.getElem_toArray, List.getElem_cons_zero, List.getElem_cons_succ]
      refine wpAnyH_take (i := 4) (v := ?_) rfl (by kernel_rfl) (by kernel_rfl) (by kernel_rfl) (fun _ _ _ h => h) (Or.inl ⟨by rfl, ?_⟩) hHeld ?_
      rotate_left
      · (intro W hSW; obtain ⟨q0, _⟩ := hSW; go_simp; try with_reducible rfl)
      simp only [Act.put, List.setIfInBounds_toArray, List.set_cons_zero, List.set_cons_succ, List.getElem_toArray, List.getElem_cons_zero, List.getElem_cons_succ]
      refine wpAnyH_take (i := 5) (v := ?_) rfl (by kernel_rfl) (by kernel_rfl) (by kernel_rfl) (fun _ _ _ h => h) (Or.inl ⟨by rfl, ?_⟩) hHeld ?_
      rotate_left
      · (intro W hSW; obtain ⟨q0, _⟩ := hSW; go_simp; try with_reducible rfl)
      simp only [Act.put, List.setIfInBounds_toArray, List.set_cons_zero, List.set_cons_succ, List.getElem_toArray, List.getElem_cons_zero, List.getElem_cons_succ]
      refine wpAnyH_ready (rs := [1]) (by kernel_rfl) (by simp) ?_
      refine AllReadyH.cons rfl (fun K hK => ?_) AllReadyH.nil
      go_simp
      go_at_call 89
      refine (used_c B m room next bf bd vn vm (L.zip bs) (fun _ => false) wr.drew HMR.out HF.out.drew HTF.out).mono ?_
      rintro e w1 ⟨rfl, b1⟩
      go_simp
      refine hK.out _ _ ⟨(b1.cell (by exact HML.out)).trans m0, trivial⟩ (fun hHeld => ?_)
      clear hK K
      refine wpAnyH_take (i := 6) (v := ?_) rfl (by kernel_rfl) (by kernel_rfl) (by kernel_rfl) (fun _ _ _ h => h) (Or.inl ⟨by rfl, ?_⟩) hHeld ?_
      rotate_left
      · (intro W hSW; obtain ⟨q0, _⟩ := hSW; go_simp; try with_reducible rfl)
      simp only [Act.put, List.setIfInBounds_toArray, List.set_cons_zero, List.set_cons_succ, List.getElem_toArray, List.getElem_cons_zero, List.getElem_cons_succ]
      refine wpAnyH_take (i := 7) (v := ?_) rfl (by kernel_rfl) (by kernel_rfl) (by kernel_rfl) (fun _ _ _ h => h) (Or.inl ⟨by rfl, ?_⟩) hHeld ?_
      rotate_left
      · (intro W hSW; obtain ⟨q0, _⟩ := hSW; go_simp; try with_reducible rfl)
      simp only [Act.put, List.setIfInBounds_toArray, List.set_cons_zero, List.set_cons_succ, List.getElem_toArray, List.getElem_cons_zero, List.getElem_cons_succ]
      refine wpAnyH_done (by kernel_rfl) ?_ _
      go_wp2
      go_ret
      replace b1 := bel_undrew b1
      have hfr1 : Fr (fun i => i = bf) w w1 := HFR.out.bel b1
      have hfr2 : Fr (fun i => i = bf) wr w1 := (Fr.refl _ _).bel b1
      by_cases hc : (totI L : Int) ≤ room
      · refine .inl ⟨HOI.out, hc, by rw [HTE.out]; simp [hc], ⟨⟨bs, HBS.out, ?_⟩, hfr1, ?_, ?_⟩⟩
        · rw [List.take_length]
          exact HF.out.keep (S := fun _ => False) ((Fr.refl _ _).bel b1) (by simp) (by simp)
        · exact ((Fr.refl (fun _ => False) _).bel b1).at HMR.out (by simp)
        · have := hfr1.size; have := HBB.out.2; omega
      · exact .inr ⟨fun h => hc h.2, by rw [HTE.out]; simp [hc], hfr1.below (fun i e => by subst e; exact HF.out.low.1) HBB.out.2⟩

end Go.Proofs.YtmknplpcpmkhiaaGreat
