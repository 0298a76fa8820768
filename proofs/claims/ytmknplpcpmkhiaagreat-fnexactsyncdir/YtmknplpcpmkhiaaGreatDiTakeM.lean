/- The program's own disk: its moves taken in. -/
import Derived.Test.YtmknplpcpmkhiaaGreatDiMove
import Derived.Test.YtmknplpcpmkhiaaGreatDiCloneS
namespace Go.Proofs.YtmknplpcpmkhiaaGreat
open Go.RowKit Go.Maps
set_option linter.unusedVariables false

theorem isYes (s : ByteArray) (w : World) (hm : s.size ≤ maxLen) (h : nameB s = true) : Calls Tryz.prog 88 #[.string s] w fun e w' => e = .returned (.bool true) ∧ w' = w := by
  have := isName_c s w hm
  rw [h] at this
  exact this

theorem isNo (s : ByteArray) (w : World) (hm : s.size ≤ maxLen) (h : nameB s = false) : Calls Tryz.prog 88 #[.string s] w fun e w' => e = .returned (.bool false) ∧ w' = w := by
  have := isName_c s w hm
  rw [h] at this
  exact this

theorem fr_cell {S : Nat → Prop} {w w' : World} (f : Fr S w w') {a : Addr} {u : Value} (h : w.cell? a = some u) (hne : ¬ S a.block) : w'.cell? a = some u := by
  have hlt := World.block_lt_of_cell? w a h
  have := f.block a.block hlt hne
  simpa [World.cell?, this] using h

theorem mObj_set4 {w : World} {m : Nat} {room next : Int} {bf bd : Nat} {vn vm : Value} (hb : w.heap[m]? = some (mObj room next bf bd vn vm)) (u : Value) : (w.setCell ⟨m, 4, none⟩ u).heap[m]? = some (mObj room next bf bd u vm) := by
  simp [World.setCell, Array.getElem?_modify, hb, mObj]

theorem mObj_set5 {w : World} {m : Nat} {room next : Int} {bf bd : Nat} {vn vm : Value} (hb : w.heap[m]? = some (mObj room next bf bd vn vm)) (u : Value) : (w.setCell ⟨m, 5, none⟩ u).heap[m]? = some (mObj room next bf bd vn u) := by
  simp [World.setCell, Array.getElem?_modify, hb, mObj]

theorem own_base {w : World} {base base' : Nat} {e : TypeId} {size : Nat} {v : Value} {n : Nat} {xs : List Value} (h : w.ownsRow base e size v n xs) (hb : base' ≤ base) : w.ownsRow base' e size v n xs := by
  obtain ⟨h1, h2⟩ := h
  refine ⟨h1, ?_⟩
  rcases h2 with h2 | ⟨g, cap, cur, hv, hg, r⟩
  · exact Or.inl h2
  · exact Or.inr ⟨g, cap, cur, hv, Nat.le_trans hb hg, r⟩

theorem fr_own {S : Nat → Prop} {w w' : World} (f : Fr S w w') {base : Nat} {e : TypeId} {size : Nat} {v : Value} {n : Nat} {xs : List Value} (h : w.ownsRow base e size v n xs) (hS : ∀ g, base ≤ g → ¬ S g) : w'.ownsRow base e size v n xs := by
  obtain ⟨h1, h2⟩ := h
  refine ⟨h1, ?_⟩
  rcases h2 with h2 | ⟨g, cap, cur, hv, hg, hh, r⟩
  · exact Or.inl h2
  · exact Or.inr ⟨g, cap, cur, hv, hg, (f.block g (lt_of_some hh) (hS g hg)).trans hh, r⟩

/-- Was this number made? -/
def mad (M : List S_Move) (i : Int) : Bool := M.any (mk4 i)

theorem mad_take (M : List S_Move) (k : Nat) (h : k < M.length) (i : Int) : mad (M.take (k + 1)) i = (mad (M.take k) i || mk4 i M[k]) := by
  have e : M.take (k + 1) = M.take k ++ [M[k]] := by rw [List.take_add_one, List.getElem?_eq_getElem h]; rfl
  unfold mad
  rw [e, List.any_append]
  simp

def mOk (fs : List (S_Inode × Nat)) (D : List S_Link) (M : List S_Move) (k : Nat) (x : S_Move) : Prop :=
  (ap (nms D (M.take k)) x).2 = true ∧ (x.f0 = 1 → hasF fs x.f3 = true ∧ (lnk D x.f3 || mad (M.take k) x.f3) = false)

def okM (fs : List (S_Inode × Nat)) (D : List S_Link) (M : List S_Move) : Prop := ∀ k (hk : k < M.length), mOk fs D M k M[k]

/-- Moves that were taken in. -/
def TkM (B m : Nat) (room next : Int) (bf bd : Nat) (vm : Value) (fs : List (S_Inode × Nat)) (D : List S_Link) (M : List S_Move) (w : World) (k bn : Nat) (wr : World) : Prop :=
  Fls B wr bf fs (fun i => lnk D i || mad (M.take k) i) ∧ wr.ownsMap Tryz.prog 9 (plainElem Tryz.prog 3) bd D.length (encL D) ∧ wr.ownsMap Tryz.prog 9 (plainElem Tryz.prog 3) bn (nms D (M.take k)).length (encL (nms D (M.take k))) ∧ Fr (fun i => i = m ∨ ofF fs i) w wr ∧ wr.heap[m]? = some (mObj room next bf bd (.map (some bn)) vm)

def TmR (B m : Nat) (room next : Int) (bf bd : Nat) (fs : List (S_Inode × Nat)) (D : List S_Link) (M : List S_Move) (w : World) (e : Ending) (w' : World) : Prop :=
  (okM fs D M ∧ e = .returned (.bool true) ∧ ∃ vm, TkM B m room next bf bd vm fs D M w M.length w.heap.size w' ∧ w'.ownsRow B 51 4 vm M.length (rMove M)) ∨ (¬ okM fs D M ∧ e = .returned (.bool false) ∧ Below B w w')

set_option maxRecDepth 20000 in
set_option maxHeartbeats 2000000 in
theorem takeM_c (B m : Nat) (room next : Int) (bf bd : Nat) (vn vm : Value) (fs : List (S_Inode × Nat)) (D : List S_Link) (M : List S_Move) (p : Option Addr) (cap : Nat) (W w : World) (hm : w.heap[m]? = some (mObj room next bf bd vn vm)) (F : Fls B w bf fs (lnk D)) (hd : w.ownsMap Tryz.prog 9 (plainElem Tryz.prog 3) bd D.length (encL D))
    (hBm : B ≤ m) (hBd : B ≤ bd) (hW : W.heap.size ≤ B) (hB : B ≤ w.heap.size) (hbW : Below W.heap.size W w) (hr : RowR W (.slice p M.length cap) M.length 4 (rMove M)) (hp : p = none → cap = 0) (hn : M.length ≤ 20) (hD : D.length ≤ 1000000) (hg : ∀ x ∈ M, gMove x) (hs : ∀ x ∈ M, sMove x) :
    Calls Tryz.prog 100 #[.pointer (some ⟨m, 0, none⟩), .slice p M.length cap] w (TmR B m room next bf bd fs D M w) := by
  have hn' : (M.length : Int) ≤ 20 := by omega
  obtain ⟨_, _, _, m3, _, _⟩ := mount_cell hm
  have HM : Hid (w.heap[m]? = some (mObj room next bf bd vn vm)) := hm
  have HF0 : Hid (Fls B w bf fs (lnk D)) := F
  have HR : Hid (RowR W (.slice p M.length cap) M.length 4 (rMove M)) := hr
  have HBW : Hid (Below W.heap.size W w) := hbW
  have HG : Hid (∀ x ∈ M, gMove x) := hg
  have HS : Hid (∀ x ∈ M, sMove x) := hs
  have HBB : Hid (W.heap.size ≤ B ∧ B ≤ w.heap.size ∧ B ≤ bd ∧ B ≤ m) := ⟨hW, hB, hBd, hBm⟩
  have HP : Hid (p = none → cap = 0) := hp
  have HLO : Hid (∀ i, (i = m ∨ ofF fs i) → B ≤ i) := fun i h => by
    rcases h with rfl | ⟨q, hq, rfl⟩
    · exact hBm
    · exact F.low.2 q hq
  have HD0 : Hid (w.ownsMap Tryz.prog 9 (plainElem Tryz.prog 3) bd D.length (encL D)) := hd
  clear F hr hbW hg hW hB hBd hs hBm hp hm hd
  go_enter Tryz.func100, Tryz.ntmps100
  go_wp2_with fail
  refine (cloneMap_c bd D.length (encL D) w HD0.out).mono ?_
  rintro e w1 ⟨rfl, hcl, hd1, bel1, hsz⟩
  have fr1 : Fr (fun _ => False) w w1 := (Fr.refl _ _).bel bel1
  have hm1 := fr1.at HM.out (by simp)
  obtain ⟨_, _, _, _, d4, _⟩ := mount_cell hm1
  have f4 := mount_frozen hm1 4
  have hmb : m ≠ bd := map_ne HD0.out HM.out
  have hmn : m ≠ w.heap.size := by have := lt_of_some HM.out; omega
  have HI0 : Hid (TkM B m room next bf bd vm fs D M w 0 w.heap.size (w1.setCell ⟨m, 4, none⟩ (.map (some w.heap.size)))) := by
    have frS : Fr (fun i => i = m) w1 (w1.setCell ⟨m, 4, none⟩ (.map (some w.heap.size))) := (Fr.refl _ _).setCell _ (Or.inl rfl)
    have e : (fun i => lnk D i || mad (M.take 0) i) = lnk D := by funext i; simp [mad]
    refine ⟨?_, frS.map hd1 (fun e => hmb e.symm), frS.map hcl (fun e => hmn e.symm), (fr1.mono (fun _ h => h.elim)).setCell _ (Or.inl (Or.inl rfl)), mObj_set4 hm1 _⟩
    rw [e]
    exact (HF0.out.keep fr1 (by simp) (by simp)).keep frS (fun e => map_ne HF0.out.own HM.out e.symm) (fun q hq e => map_fresh HF0.out HM.out ⟨q, hq, e⟩)
  clear hcl hd1 bel1 hsz fr1 hm1 m3
  go_wp2
  generalize hW0 : w1.setCell ⟨m, 4, none⟩ (.map (some w.heap.size)) = W0 at HI0
  clear hW0
  go_loopw [17] (fun iv wr => ∃ k : Nat, k ≤ M.length ∧ iv = .int .i64 (k : Int) ∧ Hid (TkM B m room next bf bd vm fs D M w k w.heap.size wr) ∧ Hid (∀ j (hj : j < M.length), j < k → mOk fs D M j M[j])) (fun iv _ => M.length - (intOf iv).toNat)
  case atStart => exact ⟨0, Nat.zero_le _, rfl, HI0, fun j _ hj => by omega⟩
  case round =>
    clear d4 f4
    obtain ⟨k, hk, rfl, HTk, HOk⟩ := hrel
    by_cases hlt : k < M.length
    · have hlt' : (k : Int) < M.length := by omega
      obtain ⟨hF, hdr, hnr, hfr, hmr⟩ := HTk.out
      have hbel : Below W.heap.size W wr := HBW.out.trans (hfr.below (fun i e => Nat.le_trans HBB.out.1 (HLO.out i e)) HBW.out.size)
      obtain ⟨b, off, cap', hv, hb, hc⟩ := move_cells (HR.out.keep hbel (Nat.le_refl _)) (by omega)
      simp only [Value.slice.injEq, true_and] at hv
      obtain ⟨rfl, rfl⟩ := hv
      obtain ⟨c0, c1, c2, c3⟩ := hc k hlt
      have HMR : Hid (wr.heap[m]? = some (mObj room next bf bd (.map (some w.heap.size)) vm)) := hmr
      have HF : Hid (Fls B wr bf fs (fun i => lnk D i || mad (M.take k) i)) := hF
      have HD : Hid (wr.ownsMap Tryz.prog 9 (plainElem Tryz.prog 3) bd D.length (encL D)) := hdr
      have HN : Hid (wr.ownsMap Tryz.prog 9 (plainElem Tryz.prog 3) w.heap.size (nms D (M.take k)).length (encL (nms D (M.take k)))) := hnr
      have HFR : Hid (Fr (fun i => i = m ∨ ofF fs i) w wr) := hfr
      have HGK : Hid (gMove M[k]) := HG.out _ (List.getElem_mem hlt)
      have HSK : Hid (sMove M[k]) := HS.out _ (List.getElem_mem hlt)
      have HMT : Hid (∀ i, mad (M.take (k + 1)) i = (mad (M.take k) i || mk4 i M[k])) := mad_take M k hlt
      have HNT : Hid (nms D (M.take (k + 1)) = (ap (nms D (M.take k)) M[k]).1) := nms_take D M k hlt
      have HBL : Hid (∀ W', Fr (fun i => i = m ∨ ofF fs i ∨ i = w.heap.size) wr W' → Below B w W') := fun W' hf => (HFR.out.trans' hf (fun i h => by
        rcases h with h | h | h
        · exact .inl (.inl h)
        · exact .inl (.inr h)
        · exact .inr (by omega))).below HLO.out HBB.out.2.1
      have HNO : Hid (¬ mOk fs D M k M[k] → ¬ okM fs D M) := fun h1 h2 => h1 (h2 k hlt)
      have HOO : Hid (mOk fs D M k M[k] → ∀ j (hj : j < M.length), j < k + 1 → mOk fs D M j M[j]) := fun h j hj hjk => by
        by_cases e : j = k
        · subst e; exact h
        · exact HOk.out j hj (by omega)
      have hnl := nms_len D (M.take k)
      rw [List.length_take] at hnl
      have HNL : Hid ((nms D (M.take k)).length ≤ 1048576) := by show _ ≤ _; omega
      clear hc hF hfr hmr hbel HTk hdr hnr hnl
      generalize M[k] = X at c0 c1 c2 c3 HGK HSK HMT HNT HNO HOO
      generalize hA : nms D (M.take k) = A at HN HNT HNL
      have hx1 : X.f1.size ≤ maxLen := HSK.out.1
      go_wp2_with fail
      refine wp_genD (fun W1 => W1.cell? ⟨wr.heap.size, 0, none⟩ = some (.int .i64 X.f0) ∧ W1.cell? ⟨wr.heap.size, 1, none⟩ = some (.string X.f1) ∧ W1.cell? ⟨wr.heap.size, 2, none⟩ = some (.string X.f2) ∧ W1.cell? ⟨wr.heap.size, 3, none⟩ = some (.int .i64 X.f3) ∧ W1.cell? ⟨m, 4, none⟩ = some (.map (some w.heap.size)) ∧ Hid (W1.heap[m]? = some (mObj room next bf bd (.map (some w.heap.size)) vm)) ∧ Hid (Fr (fun _ => False) wr W1) ∧ Hid (wr.heap.size < W1.heap.size)) ?_ ?_
      · have fr0 : Fr (fun _ => False) wr (wr.alloc (.cells #[.int .i64 X.f0, .string X.f1, .string X.f2, .int .i64 X.f3] 51)) := (Fr.refl _ _).alloc _
        have hmm := fr0.at HMR.out (by simp)
        obtain ⟨_, _, _, _, d4, _⟩ := mount_cell hmm
        exact ⟨box_cell _ _ _ _, box_cell _ _ _ _, box_cell _ _ _ _, box_cell _ _ _ _, d4, hmm, fr0, by show _ < _; simp⟩
      intro W1 ⟨n0, n1, n2, n3, d4, HM1, HFR1, HS1⟩
      clear c0 c1 c2 c3
      have HFF : Hid (Fr (fun i => i = m ∨ ofF fs i ∨ i = w.heap.size) wr W1) := HFR1.out.mono (fun _ h => h.elim)
      cases hN : nameB X.f1
      · have HE : Hid (¬ okM fs D M) := HNO.out (fun h => by
          have := h.1
          simp [ap, hN] at this)
        have HNB : Hid (nameB X.f1 = false) := hN
        clear hN
        go_quiet ((go_at_call 88; exact Calls.quiet_of_same (isNo _ _ hx1 HNB.out)))
        go_wp2
        go_ret
        exact .inr ⟨HE.out, rfl, HBL.out _ (HFF.out.drewN _)⟩
      have HNB : Hid (nameB X.f1 = true) := hN
      have HN1 : Hid (W1.drew.ownsMap Tryz.prog 9 (plainElem Tryz.prog 3) w.heap.size A.length (encL A)) := HFR1.out.map HN.out (by simp)
      have HNE : Hid (wr.heap.size ≠ w.heap.size ∧ m ≠ w.heap.size) := ⟨by have := HN.out.lt; omega, hmn⟩
      clear hN
      refine wp_region_held_drew (S := (fun w' => w'.cell? ⟨wr.heap.size, 0, none⟩ = some (.int .i64 X.f0) ∧ w'.cell? ⟨wr.heap.size, 1, none⟩ = some (.string X.f1) ∧ w'.cell? ⟨wr.heap.size, 2, none⟩ = some (.string X.f2) ∧ w'.cell? ⟨wr.heap.size, 3, none⟩ = some (.int .i64 X.f3) ∧ w'.cell? ⟨m, 4, none⟩ = some (.map (some w.heap.size)))) (by kernel_rfl) ⟨n0, n1, n2, n3, d4⟩ (fun hHeld => ?_)
      refine wpAnyH_take (i := 0) (v := ?_) rfl (by kernel_rfl) (by kernel_rfl) (by kernel_rfl) (fun _ _ _ h => h) (Or.inl ⟨by rfl, ?_⟩) hHeld ?_
      rotate_left
      · (intro W hSW; obtain ⟨q0, q1, q2, q3, q4⟩ := hSW; go_simp; try with_reducible rfl)
      simp only [Act.put, List.setIfInBounds_toArray, List.set_cons_zero, List.set_cons_succ, List.getElem_toArray, List.getElem_cons_zero]
      refine wpAnyH_take (i := 1) (v := ?_) rfl (by kernel_rfl) (by kernel_rfl) (by kernel_rfl) (fun _ _ _ h => h) (Or.inl ⟨by rfl, ?_⟩) hHeld ?_
      rotate_left
      · (intro W hSW; obtain ⟨q0, q1, q2, q3, q4⟩ := hSW; go_simp; try with_reducible rfl)
      simp only [Act.put, List.setIfInBounds_toArray, List.set_cons_zero, List.set_cons_succ, List.getElem_toArray, List.getElem_cons_zero, List.getElem_cons_succ]
      refine wpAnyH_ready (rs := [2]) (by kernel_rfl) (by simp) ?_
      refine AllReadyH.cons rfl (fun K hK => ?_) AllReadyH.nil
      go_simp
      go_at_call 88
      refine (isYes _ _ hx1 HNB.out).mono ?_
      rintro e w2 ⟨rfl, hw2⟩
      subst hw2
      go_simp
      refine hK.out _ _ ⟨n0, n1, n2, n3, d4⟩ (fun hHeld => ?_)
      clear hK K
      refine wpAnyH_take (i := 3) (v := ?_) rfl (by kernel_rfl) (by kernel_rfl) (by kernel_rfl) (fun _ _ _ h => h) (Or.inl ⟨by rfl, ?_⟩) hHeld ?_
      rotate_left
      · (intro W hSW; obtain ⟨q0, q1, q2, q3, q4⟩ := hSW; go_simp; try with_reducible rfl)
      simp only [Act.put, List.setIfInBounds_toArray, List.set_cons_zero, List.set_cons_succ, List.getElem_toArray, List.getElem_cons_zero, List.getElem_cons_succ]
      refine wpAnyH_take (i := 4) (v := ?_) rfl (by kernel_rfl) (by kernel_rfl) (by kernel_rfl) (fun _ _ _ h => h) (Or.inl ⟨by rfl, ?_⟩) hHeld ?_
      rotate_left
      · (intro W hSW; obtain ⟨q0, q1, q2, q3, q4⟩ := hSW; go_simp; try with_reducible rfl)
      simp only [Act.put, List.setIfInBounds_toArray, List.set_cons_zero, List.set_cons_succ, List.getElem_toArray, List.getElem_cons_zero, List.getElem_cons_succ]
      refine wpAnyH_take (i := 5) (v := ?_) rfl (by kernel_rfl) (by kernel_rfl) (by kernel_rfl) (fun _ _ _ h => h) (Or.inl ⟨by rfl, ?_⟩) hHeld ?_
      rotate_left
      · (intro W hSW; obtain ⟨q0, q1, q2, q3, q4⟩ := hSW; go_simp; try with_reducible rfl)
      simp only [Act.put, List.setIfInBounds_toArray, List.set_cons_zero, List.set_cons_succ, List.getElem_toArray, List.getElem_cons_zero, List.getElem_cons_succ]
      refine wpAnyH_take (i := 6) (v := ?_) rfl (by kernel_rfl) (by kernel_rfl) (by kernel_rfl) (fun _ _ _ h => h) (Or.inl ⟨by rfl, ?_⟩) hHeld ?_
      rotate_left
      · (intro W hSW; obtain ⟨q0, q1, q2, q3, q4⟩ := hSW; go_simp; try with_reducible rfl)
      simp only [Act.put, List.setIfInBounds_toArray, List.set_cons_zero, List.set_cons_succ, List.getElem_toArray, List.getElem_cons_zero, List.getElem_cons_succ]
      refine wpAnyH_take (i := 7) (v := ?_) rfl (by kernel_rfl) (by kernel_rfl) (by kernel_rfl) (fun _ _ _ h => h) (Or.inl ⟨by rfl, ?_⟩) hHeld ?_
      rotate_left
      · (intro W hSW; obtain ⟨q0, q1, q2, q3, q4⟩ := hSW; go_simp; try with_reducible rfl)
      simp only [Act.put, List.setIfInBounds_toArray, List.set_cons_zero, List.set_cons_succ, List.getElem_toArray, List.getElem_cons_zero, List.getElem_cons_succ]
      refine wpAnyH_take (i := 8) (v := ?_) rfl (by kernel_rfl) (by kernel_rfl) (by kernel_rfl) (fun _ _ _ h => h) (Or.inl ⟨by rfl, ?_⟩) hHeld ?_
      rotate_left
      · (intro W hSW; obtain ⟨q0, q1, q2, q3, q4⟩ := hSW; go_simp; try with_reducible rfl)
      simp only [Act.put, List.setIfInBounds_toArray, List.set_cons_zero, List.set_cons_succ, List.getElem_toArray, List.getElem_cons_zero, List.getElem_cons_succ]
      refine wpAnyH_take (i := 9) (v := ?_) rfl (by kernel_rfl) (by kernel_rfl) (by kernel_rfl) (fun _ _ _ h => h) (Or.inl ⟨by rfl, ?_⟩) hHeld ?_
      rotate_left
      · (intro W hSW; obtain ⟨q0, q1, q2, q3, q4⟩ := hSW; go_simp; try with_reducible rfl)
      simp only [Act.put, List.setIfInBounds_toArray, List.set_cons_zero, List.set_cons_succ, List.getElem_toArray, List.getElem_cons_zero, List.getElem_cons_succ]
      refine wpAnyH_ready (rs := [10]) (by kernel_rfl) (by simp) ?_
      refine AllReadyH.cons rfl (fun K hK => ?_) AllReadyH.nil
      go_simp
      go_at_call 104
      refine (am_c w.heap.size A X W1.drew HN1.out HNL.out HSK.out HGK.out HNB.out).mono ?_
      rintro e W2 ⟨rfl, hown2, hfr2⟩
      go_simp
      refine hK.out _ _ ⟨fr_cell hfr2 n0 HNE.out.1, fr_cell hfr2 n1 HNE.out.1, fr_cell hfr2 n2 HNE.out.1, fr_cell hfr2 n3 HNE.out.1, fr_cell hfr2 d4 HNE.out.2⟩ (fun hHeld => ?_)
      clear hK K
      refine wpAnyH_take (i := 11) (v := ?_) rfl (by kernel_rfl) (by kernel_rfl) (by kernel_rfl) (fun _ _ _ h => h) (Or.inl ⟨by rfl, ?_⟩) hHeld ?_
      rotate_left
      · (intro W hSW; obtain ⟨q0, q1, q2, q3, q4⟩ := hSW; go_simp; try with_reducible rfl)
      simp only [Act.put, List.setIfInBounds_toArray, List.set_cons_zero, List.set_cons_succ, List.getElem_toArray, List.getElem_cons_zero, List.getElem_cons_succ]
      refine wpAnyH_take (i := 12) (v := ?_) rfl (by kernel_rfl) (by kernel_rfl) (by kernel_rfl) (fun _ _ _ h => h) (Or.inl ⟨by rfl, ?_⟩) hHeld ?_
      rotate_left
      · (intro W hSW; obtain ⟨q0, q1, q2, q3, q4⟩ := hSW; go_simp; try with_reducible rfl)
      simp only [Act.put, List.setIfInBounds_toArray, List.set_cons_zero, List.set_cons_succ, List.getElem_toArray, List.getElem_cons_zero, List.getElem_cons_succ]
      refine wpAnyH_done (by kernel_rfl) ?_ _
      obtain ⟨n0', n1', n2', n3', d4'⟩ := hHeld
      have hfr2' := fr_undrew hfr2
      have HFG : Hid (Fr (fun i => i = m ∨ ofF fs i ∨ i = w.heap.size) wr W2) := HFF.out.trans (hfr2'.mono (fun i h => .inr (.inr h)))
      have HFN : Hid (Fr (fun i => i = w.heap.size) wr W2) := (HFR1.out.mono (fun _ h => h.elim)).trans hfr2'
      have HM2 : Hid (W2.heap[m]? = some (mObj room next bf bd (.map (some w.heap.size)) vm)) := HFN.out.at HMR.out hmn
      have HF2 : Hid (Fls B W2 bf fs (fun i => lnk D i || mad (M.take k) i)) := HF.out.keep HFN.out (fun e => by have := HF0.out.own.lt; omega) (fun q hq e => by have := lt_of_some (HF0.out.blk q hq); omega)
      have HD2 : Hid (W2.ownsMap Tryz.prog 9 (plainElem Tryz.prog 3) bd D.length (encL D)) := HFN.out.map HD.out (fun e => by have := HD0.out.lt; omega)
      have HO2 : Hid (W2.ownsMap Tryz.prog 9 (plainElem Tryz.prog 3) w.heap.size (nms D (M.take (k + 1))).length (encL (nms D (M.take (k + 1))))) := by rw [HNT.out]; exact hown2
      have HCL : Hid (wr.heap.size < W2.heap.size) := by have := HS1.out; have := hfr2'.size; show _ < _; omega
      clear n0 n1 n2 n3 d4 hown2 hfr2 hfr2'
      cases hap : (ap A X).2
      · have HE : Hid (¬ okM fs D M) := HNO.out (fun h => by
          have := h.1
          rw [hA, hap] at this
          cases this)
        go_wp2
        go_ret
        exact .inr ⟨HE.out, rfl, HBL.out _ HFG.out⟩
      have HAP : Hid ((ap A X).2 = true) := hap
      by_cases k1 : X.f0 = 1
      · have e1 : (X.f0 == 1) = true := by simpa using k1
        have HK1 : Hid (X.f0 = 1) := k1
        clear k1
        go_wp2_with fail
        refine (give_c B m room next bf bd (.map (some w.heap.size)) vm fs (fun i => lnk D i || mad (M.take k) i) X.f3 W2 HM2.out HF2.out HGK.out.2).mono ?_
        rintro e W3 (⟨hg, rfl, hF3, hfr3⟩ | ⟨hg, rfl, hW3⟩)
        · have HDK : Hid (mOk fs D M k X) := by
            simp only [Bool.and_eq_true, Bool.not_eq_true'] at hg
            exact ⟨by rw [hA]; exact HAP.out, fun _ => ⟨hg.1, hg.2⟩⟩
          have HON : Hid (∀ j (hj : j < M.length), j < k + 1 → mOk fs D M j M[j]) := HOO.out HDK.out
          have ef : (fun i => (lnk D i || mad (M.take k) i) || decide (i = X.f3)) = fun i => lnk D i || mad (M.take (k + 1)) i := by
            funext i
            rw [HMT.out i, Bool.or_assoc]
            congr 2
            simp [mk4, HK1.out, eq_comm]
          have hnm : ¬ ofF fs m := map_fresh HF2.out HM2.out
          have hnd : ¬ ofF fs bd := by
            rintro ⟨q, hq, e⟩
            exact map_ne HD2.out (HF2.out.blk q hq) e
          have hnn : ¬ ofF fs w.heap.size := by
            rintro ⟨q, hq, e⟩
            exact map_ne HO2.out (HF2.out.blk q hq) e
          have HTN : Hid (TkM B m room next bf bd vm fs D M w (k + 1) w.heap.size W3) := by
            refine ⟨by rw [← ef]; exact hF3, hfr3.map HD2.out hnd, hfr3.map HO2.out hnn, ?_, hfr3.at HM2.out hnm⟩
            have fa : Fr (fun i => i = m ∨ ofF fs i) w W2 := HFR.out.trans' HFN.out (fun i h => .inr (by omega))
            exact fa.trans (hfr3.mono (fun i h => .inr h))
          clear hg hF3 hfr3 ef hnm hnd hnn
          go_wp2
          go_roundw
          case rel => exact ⟨k + 1, by omega, by go_num, HTN, HON⟩
          case measure => simp [intOf]; omega
        · replace hW3 := hW3.symm
          subst hW3
          have HE : Hid (¬ okM fs D M) := HNO.out (fun h => by
            have := h.2 HK1.out
            dsimp only at hg
            rw [this.1, this.2] at hg
            cases hg)
          clear hg
          go_wp2
          go_ret
          exact .inr ⟨HE.out, rfl, HBL.out _ HFG.out⟩
      · have e1 : (X.f0 == 1) = false := by simpa using k1
        have HDK : Hid (mOk fs D M k X) := ⟨by rw [hA]; exact HAP.out, fun h => absurd h k1⟩
        have HON : Hid (∀ j (hj : j < M.length), j < k + 1 → mOk fs D M j M[j]) := HOO.out HDK.out
        have ef : (fun i => lnk D i || mad (M.take k) i) = fun i => lnk D i || mad (M.take (k + 1)) i := by
          funext i
          rw [HMT.out i]
          simp [mk4, k1]
        have HTN : Hid (TkM B m room next bf bd vm fs D M w (k + 1) w.heap.size W2) := by
          refine ⟨by rw [← ef]; exact HF2.out, HD2.out, HO2.out, ?_, HM2.out⟩
          exact HFR.out.trans' HFN.out (fun i h => .inr (by omega))
        clear ef k1
        go_wp2
        go_roundw
        case rel => exact ⟨k + 1, by omega, by go_num, HTN, HON⟩
        case measure => simp [intOf]; omega
    · have hke : k = M.length := by omega
      subst hke
      have HOI : Hid (okM fs D M) := fun j hj => HOk.out j hj hj
      obtain ⟨hF, hdr, hnr, hfr, hmr⟩ := HTk.out
      have hbel : Below W.heap.size W wr := HBW.out.trans (hfr.below (fun i e => Nat.le_trans HBB.out.1 (HLO.out i e)) HBW.out.size)
      have HRW : Hid (RowR wr (.slice p M.length cap) M.length 4 (rMove M)) := HR.out.keep hbel (Nat.le_refl _)
      have HMR : Hid (wr.heap[m]? = some (mObj room next bf bd (.map (some w.heap.size)) vm)) := hmr
      clear hF hdr hnr hfr hmr hbel
      go_wp2_with fail
      refine (cloneS_c p M cap wr (by omega) HRW.out HP.out).mono ?_
      rintro e W2 ⟨v', rfl, hown2, bel2⟩
      have fr2 : Fr (fun _ => False) wr W2 := (Fr.refl _ _).bel bel2
      have hm2 := fr2.at HMR.out (by simp)
      obtain ⟨_, _, _, _, _, d5⟩ := mount_cell hm2
      have f5 := mount_frozen hm2 5
      have HO2 : Hid (W2.ownsRow wr.heap.size 51 4 v' M.length (rMove M)) := hown2
      have HF2 : Hid (Fr (fun _ => False) wr W2) := fr2
      have HM2 : Hid (W2.heap[m]? = some (mObj room next bf bd (.map (some w.heap.size)) vm)) := hm2
      obtain ⟨_, p', cap', hv', _⟩ := RowR.own hown2
      subst hv'
      clear hown2 bel2 fr2 hm2
      go_wp2
      go_ret
      have frS : Fr (fun i => i = m) W2 (W2.setCell ⟨m, 5, none⟩ (.slice p' M.length cap')) := (Fr.refl _ _).setCell _ (Or.inl rfl)
      have fa : Fr (fun i => i = m) wr (W2.setCell ⟨m, 5, none⟩ (.slice p' M.length cap')) := (HF2.out.mono (fun _ h => h.elim)).trans frS
      obtain ⟨hF, hdr, hnr, hfr, hmr⟩ := HTk.out
      refine .inl ⟨HOI.out, rfl, _, ⟨hF.keep fa (fun e => map_ne hF.own hmr e.symm) (fun q hq e => map_fresh hF hmr ⟨q, hq, e⟩), fa.map hdr (fun e => hmb e.symm), fa.map hnr (fun e => hmn e.symm), hfr.trans (fa.mono (fun i h => .inl h)), mObj_set5 HM2.out _⟩, ?_⟩
      have hml := lt_of_some hmr
      exact own_base (fr_own frS HO2.out (fun g hg e => by omega)) (by have := hfr.size; have := HBB.out.2.1; omega)

end Go.Proofs.YtmknplpcpmkhiaaGreat
