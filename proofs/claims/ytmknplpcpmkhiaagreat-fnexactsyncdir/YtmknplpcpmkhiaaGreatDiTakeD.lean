/- The program's own disk: its safe names taken in. -/
import Derived.Test.YtmknplpcpmkhiaaGreatDiTakeI
namespace Go.Proofs.YtmknplpcpmkhiaaGreat
open Go.RowKit Go.Maps
set_option linter.unusedVariables false

theorem less_irr : ∀ a : List UInt8, Op.bytesLess a a = false
  | [] => rfl
  | a :: r => by simp [Op.bytesLess, less_irr r]

theorem less_trans : ∀ a b c : List UInt8, Op.bytesLess a b = true → Op.bytesLess b c = true → Op.bytesLess a c = true
  | [], _, [], h1, h2 => by simp [Op.bytesLess] at h2
  | [], _, _ :: _, _, _ => rfl
  | a :: x, [], c, h1, _ => by simp [Op.bytesLess] at h1
  | a :: x, b :: y, [], _, h2 => by simp [Op.bytesLess] at h2
  | a :: x, b :: y, c :: z, h1, h2 => by
    simp only [Op.bytesLess, Bool.or_eq_true, Bool.and_eq_true, decide_eq_true_eq, beq_iff_eq] at h1 h2 ⊢
    rcases h1 with h1 | ⟨rfl, h1⟩
    · rcases h2 with h2 | ⟨rfl, _⟩
      · exact .inl (UInt8.lt_trans h1 h2)
      · exact .inl h1
    · rcases h2 with h2 | ⟨rfl, h2⟩
      · exact .inl h2
      · exact .inr ⟨rfl, less_trans x y z h1 h2⟩

theorem less_tri : ∀ a b : List UInt8, Op.bytesLess a b = !(Op.bytesLess b a || b == a)
  | [], [] => rfl
  | [], _ :: _ => rfl
  | _ :: _, [] => rfl
  | a :: x, b :: y => by
    have ih := less_tri x y
    simp only [Op.bytesLess]
    have tri : a < b ∨ a = b ∨ b < a := by
      rcases Nat.lt_trichotomy a.toNat b.toNat with h | h | h
      · exact .inl (UInt8.lt_iff_toNat_lt.2 h)
      · exact .inr (.inl (UInt8.toNat_inj.1 h))
      · exact .inr (.inr (UInt8.lt_iff_toNat_lt.2 h))
    rcases tri with h | h | h
    · have h1 : ¬ b < a := fun h' => absurd (UInt8.lt_trans h h') (UInt8.lt_irrefl _)
      have h2 : ¬ b = a := fun e => by subst e; exact absurd h (UInt8.lt_irrefl _)
      simp [h, h1, h2]
    · subst h
      simp [ih]
    · have h1 : ¬ a < b := fun h' => absurd (UInt8.lt_trans h h') (UInt8.lt_irrefl _)
      have h2 : ¬ a = b := fun e => by subst e; exact absurd h (UInt8.lt_irrefl _)
      simp [h, h1, h2]

theorem wp_genC {P : Program} {f : FuncId} {args : Array Value} {R : Ending → World → Prop} (F : World → Prop) {W0 : World} (h0 : F W0) (h : ∀ W, F W → Calls P f args W R) : Calls P f args W0 R := h W0 h0

/-- Has a link this number? -/
def lnk (L : List S_Link) (i : Int) : Bool := L.any fun x => decide (x.f1 = i)

theorem lnk_take (L : List S_Link) (k : Nat) (h : k < L.length) (i : Int) : lnk (L.take (k + 1)) i = (lnk (L.take k) i || decide (i = L[k].f1)) := by
  have e : L.take (k + 1) = L.take k ++ [L[k]] := by rw [List.take_add_one, List.getElem?_eq_getElem h]; rfl
  unfold lnk
  rw [e, List.any_append]
  simp [eq_comm]

/-- The name ahead of the k-th. -/
def lastD (L : List S_Link) (k : Nat) : ByteArray := if k = 0 then ⟨#[]⟩ else ((L[k - 1]?).map (·.f0)).getD ⟨#[]⟩

theorem lastD_succ (L : List S_Link) (k : Nat) (h : k < L.length) : lastD L (k + 1) = L[k].f0 := by simp [lastD, List.getElem?_eq_getElem h]

def dOk (fs : List (S_Inode × Nat)) (L : List S_Link) (k : Nat) (x : S_Link) : Prop := nameB x.f0 = true ∧ (0 < k → Op.bytesLess (lastD L k).toList x.f0.toList = true) ∧ hasF fs x.f1 = true ∧ lnk (L.take k) x.f1 = false

def okD (fs : List (S_Inode × Nat)) (L : List S_Link) : Prop := ∀ k (hk : k < L.length), dOk fs L k L[k]

theorem pre_lt4 {fs : List (S_Inode × Nat)} {L : List S_Link} : ∀ k (hk : k < L.length), (∀ j (hj : j < L.length), j < k + 1 → 0 < j → Op.bytesLess (lastD L j).toList L[j].f0.toList = true) → ∀ j (hj : j < L.length), j < k → lt4 L[j] L[k] = true
  | 0, _, _, j, _, h => by omega
  | k + 1, hk, hO, j, hj, hjk => by
    have hkl : k < L.length := by omega
    have h1 := hO (k + 1) hk (by omega) (by omega)
    rw [lastD_succ L k hkl] at h1
    by_cases e : j = k
    · subst e; exact h1
    · have ih := pre_lt4 (fs := fs) k hkl (fun j hj h h0 => hO j hj (by omega) h0) j hj (by omega)
      exact less_trans _ _ _ ih h1

theorem wo_none (nm : ByteArray) (L : List S_Link) (h : ∀ y ∈ L, y.f0 ≠ nm) : wo nm L = L := List.filter_eq_self.2 fun y hy => by simp [h y hy]

/-- One link more, behind all. -/
theorem encL_snoc (L : List S_Link) (x : S_Link) (h : ∀ y ∈ L, lt4 y x = true) : (encL L).put (.string x.f0.data.toList) (.lit (.int .i64 x.f1)) = encL (L ++ [x]) := by
  have hne : ∀ y ∈ L, y.f0 ≠ x.f0 := fun y hy e => by
    have := h y hy
    unfold lt4 at this
    rw [e, less_irr] at this
    cases this
  have hnl : ∀ y ∈ L, lt4 x y = false := fun y hy => by
    have := h y hy
    unfold lt4 at this ⊢
    rw [less_tri, this]
    rfl
  rw [encL_put, wi, wo_none _ _ hne, insF_last _ _ hnl]

theorem map_fresh {w : World} {fs : List (S_Inode × Nat)} {B bf : Nat} {h : Int → Bool} (F : Fls B w bf fs h) {m : Nat} {room next : Int} {bd : Nat} {vn vm : Value} (hm : w.heap[m]? = some (mObj room next bf bd vn vm)) : ¬ ofF fs m := by
  rintro ⟨p, hp, rfl⟩
  rw [F.blk p hp] at hm
  simp [fObj, mObj] at hm

theorem ofF_lt {w : World} {fs : List (S_Inode × Nat)} {B bf : Nat} {h : Int → Bool} (F : Fls B w bf fs h) {k : Nat} (hk : ofF fs k) : k < w.heap.size := by
  obtain ⟨p, hp, rfl⟩ := hk
  exact lt_of_some (F.blk p hp)

/-- The safe names that were taken in. -/
def TkD (B m : Nat) (room next : Int) (bf bd : Nat) (vn vm : Value) (fs : List (S_Inode × Nat)) (L : List S_Link) (w : World) (k : Nat) (wr : World) : Prop :=
  Fls B wr bf fs (lnk (L.take k)) ∧ wr.ownsMap Tryz.prog 9 (plainElem Tryz.prog 3) bd k (encL (L.take k)) ∧ Fr (fun i => i = bd ∨ ofF fs i) w wr ∧ wr.heap[m]? = some (mObj room next bf bd vn vm)

def TdR (B m : Nat) (room next : Int) (bf bd : Nat) (vn vm : Value) (fs : List (S_Inode × Nat)) (L : List S_Link) (w : World) (e : Ending) (w' : World) : Prop :=
  (okD fs L ∧ e = .returned (.bool true) ∧ TkD B m room next bf bd vn vm fs L w L.length w') ∨ (¬ okD fs L ∧ e = .returned (.bool false) ∧ Below B w w')

set_option maxRecDepth 20000 in
set_option maxHeartbeats 2000000 in
theorem takeD_c (B m : Nat) (room next : Int) (bf bd : Nat) (vn vm : Value) (fs : List (S_Inode × Nat)) (L : List S_Link) (p : Option Addr) (cap : Nat) (W w : World) (hm : w.heap[m]? = some (mObj room next bf bd vn vm)) (F : Fls B w bf fs (fun _ => false)) (hd : w.ownsMap Tryz.prog 9 (plainElem Tryz.prog 3) bd 0 (encL []))
    (hne : bd ≠ bf) (hBd : B ≤ bd) (hW : W.heap.size ≤ B) (hB : B ≤ w.heap.size) (hbW : Below W.heap.size W w) (hr : RowR W (.slice p L.length cap) L.length 2 (rLink L)) (hn : L.length ≤ 1048576) (hg : ∀ x ∈ L, gLink x) (hs : ∀ x ∈ L, sLink x) :
    Calls Tryz.prog 99 #[.pointer (some ⟨m, 0, none⟩), .slice p L.length cap] w (TdR B m room next bf bd vn vm fs L w) := by
  have hn' : (L.length : Int) ≤ 1048576 := by omega
  have HI0 : Hid (TkD B m room next bf bd vn vm fs L w 0 w) := ⟨F, hd, Fr.refl _ _, hm⟩
  have HR : Hid (RowR W (.slice p L.length cap) L.length 2 (rLink L)) := hr
  have HBW : Hid (Below W.heap.size W w) := hbW
  have HG : Hid (∀ x ∈ L, gLink x) := hg
  have HS : Hid (∀ x ∈ L, sLink x) := hs
  have HBB : Hid (W.heap.size ≤ B ∧ B ≤ w.heap.size ∧ B ≤ bd ∧ bd ≠ bf) := ⟨hW, hB, hBd, hne⟩
  have HLO : Hid (∀ i, (i = bd ∨ ofF fs i) → B ≤ i) := fun i h => by
    rcases h with rfl | ⟨q, hq, rfl⟩
    · exact hBd
    · exact F.low.2 q hq
  clear F hr hbW hg hm hW hB hd hne hBd hs
  go_enter Tryz.func99, Tryz.ntmps99
  go_wp2
  go_loopw [5, 10] (fun lv iv wr => ∃ k : Nat, k ≤ L.length ∧ iv = .int .i64 (k : Int) ∧ lv = .string (lastD L k) ∧ Hid (TkD B m room next bf bd vn vm fs L w k wr) ∧ Hid (∀ j (hj : j < L.length), j < k → dOk fs L j L[j])) (fun _ iv _ => L.length - (intOf iv).toNat)
  case atStart => exact ⟨0, Nat.zero_le _, rfl, rfl, HI0, fun j _ hj => by omega⟩
  case round =>
    obtain ⟨k, hk, rfl, rfl, HTk, HOk⟩ := hrel
    by_cases hlt : k < L.length
    · have hlt' : (k : Int) < L.length := by omega
      obtain ⟨hF, hdr, hfr, hmr⟩ := HTk.out
      have hbel : Below W.heap.size W wr := HBW.out.trans (hfr.below (fun i e => Nat.le_trans HBB.out.1 (HLO.out i e)) HBW.out.size)
      obtain ⟨b, off, cap', hv, hb, hc⟩ := link_cells (HR.out.keep hbel (Nat.le_refl _)) (by omega)
      simp only [Value.slice.injEq, true_and] at hv
      obtain ⟨rfl, rfl⟩ := hv
      obtain ⟨c0, c1⟩ := hc k hlt
      have HMR : Hid (wr.heap[m]? = some (mObj room next bf bd vn vm)) := hmr
      have HF : Hid (Fls B wr bf fs (lnk (L.take k))) := hF
      have HD : Hid (wr.ownsMap Tryz.prog 9 (plainElem Tryz.prog 3) bd k (encL (L.take k))) := hdr
      have HFR : Hid (Fr (fun i => i = bd ∨ ofF fs i) w wr) := hfr
      have HGK : Hid (gLink L[k]) := HG.out _ (List.getElem_mem hlt)
      have HSK : Hid (sLink L[k]) := HS.out _ (List.getElem_mem hlt)
      have HLS : Hid (lastD L (k + 1) = L[k].f0) := lastD_succ L k hlt
      have HLN : Hid (∀ i, lnk (L.take (k + 1)) i = (lnk (L.take k) i || decide (i = L[k].f1))) := lnk_take L k hlt
      have HBL : Hid (∀ W', Fr (fun i => i = bd ∨ ofF fs i) wr W' → Below B w W') := fun W' hf => (HFR.out.trans hf).below HLO.out HBB.out.2.1
      have HNO : Hid (¬ dOk fs L k L[k] → ¬ okD fs L) := fun h1 h2 => h1 (h2 k hlt)
      clear hc hF hfr hmr hbel HTk hdr
      generalize hX : L[k] = X at c0 c1 HGK HSK HLS HLN HNO
      have hxl : X.f0.size ≤ maxLen := HSK.out
      go_wp2_with fail
      refine wp_genC (fun W1 => W1.cell? ⟨wr.heap.size, 0, none⟩ = some (.string X.f0) ∧ W1.cell? ⟨wr.heap.size, 1, none⟩ = some (.int .i64 X.f1) ∧ Hid (W1.heap[m]? = some (mObj room next bf bd vn vm)) ∧ Hid (Fr (fun _ => False) wr W1) ∧ Hid (wr.heap.size < W1.heap.size)) ?_ ?_
      · have fr0 : Fr (fun _ => False) wr (wr.alloc (.cells #[.string X.f0, .int .i64 X.f1] 49)) := (Fr.refl _ _).alloc _
        exact ⟨box_cell _ _ _ _, box_cell _ _ _ _, fr0.at HMR.out (by simp), fr0, by show _ < _; simp⟩
      intro W1 ⟨n0, n1, HM1, HFR1, HS1⟩
      clear c0 c1
      refine (isName_c X.f0 W1 hxl).mono ?_
      rintro e w1 ⟨rfl, rfl⟩
      have HFW : Hid (Fls B w1 bf fs (lnk (L.take k))) := HF.out.keep HFR1.out (by simp) (by simp)
      have HDW : Hid (w1.ownsMap Tryz.prog 9 (plainElem Tryz.prog 3) bd k (encL (L.take k))) := HFR1.out.map HD.out (by simp)
      have HFF : Hid (Fr (fun i => i = bd ∨ ofF fs i) wr w1) := HFR1.out.mono (fun _ h => h.elim)
      have HOO : Hid (dOk fs L k X → ∀ j (hj : j < L.length), j < k + 1 → dOk fs L j L[j]) := fun h j hj hjk => by
        by_cases e : j = k
        · subst e; rw [hX]; exact h
        · exact HOk.out j hj (by omega)
      cases hN : nameB X.f0
      · have HE : Hid (¬ okD fs L) := HNO.out (fun h => by rw [h.1] at hN; cases hN)
        go_wp2
        go_ret
        exact .inr ⟨HE.out, rfl, HBL.out _ HFF.out⟩
      cases h1 : Op.bytesLess X.f0.toList (lastD L k).toList
      case true =>
        have HE : Hid (¬ okD fs L) := HNO.out (fun h => by
          by_cases h0 : 0 < k
          · have := h.2.1 h0
            rw [less_tri, h1] at this
            cases this
          · have hk0 : k = 0 := by omega
            subst hk0
            have e0 : (lastD L 0).toList = [] := by rw [ByteArray.toList_eq]; rfl
            rw [e0] at h1
            cases hx : X.f0.toList <;> simp [hx, Op.bytesLess] at h1)
        go_wp2
        go_ret
        exact .inr ⟨HE.out, rfl, HBL.out _ HFF.out⟩
      case false =>
      cases h2 : (X.f0.toList == (lastD L k).toList)
      case true =>
        have HE : Hid (¬ okD fs L) := HNO.out (fun h => by
          by_cases h0 : 0 < k
          · have := h.2.1 h0
            rw [less_tri, h1, h2] at this
            cases this
          · have hk0 : k = 0 := by omega
            subst hk0
            have e0 : (lastD L 0).toList = [] := by rw [ByteArray.toList_eq]; rfl
            rw [e0] at h2
            have h3 := h.1
            have h4 : X.f0.size = 0 := by
              rw [ByteArray.toList_eq] at h2
              have : X.f0.data.toList = [] := by simpa using h2
              have := congrArg List.length this
              simpa using this
            rw [name_long (by omega)] at h3
            cases h3)
        go_wp2
        go_ret
        exact .inr ⟨HE.out, rfl, HBL.out _ HFF.out⟩
      case false =>
        have HLL : Hid (Op.bytesLess (lastD L k).toList X.f0.toList = true) := by show _ = _; rw [less_tri, h1, h2]; rfl
        go_wp2_with fail
        refine (give_c B m room next bf bd vn vm fs (lnk (L.take k)) X.f1 w1 HM1.out HFW.out HGK.out).mono ?_
        rintro e W2 (⟨hg, rfl, hF2, hfr2⟩ | ⟨hg, rfl, hW2⟩)
        · have HDK : Hid (dOk fs L k X) := by
            simp only [Bool.and_eq_true, Bool.not_eq_true'] at hg
            exact ⟨hN, fun _ => HLL.out, hg.1, hg.2⟩
          have hnf : ¬ ofF fs wr.heap.size := fun h => by have := ofF_lt HF.out h; omega
          have hnm : ¬ ofF fs m := map_fresh HFW.out HM1.out
          have hnd : ¬ ofF fs bd := by
            rintro ⟨q, hq, e⟩
            exact map_ne HDW.out (HFW.out.blk q hq) e
          have hlt2 : wr.heap.size < w1.heap.size := HS1.out
          have n0' := n0
          have n1' := n1
          replace n0 : W2.cell? ⟨wr.heap.size, 0, none⟩ = some (.string X.f0) := by
            have : W2.heap[wr.heap.size]? = w1.heap[wr.heap.size]? := hfr2.block _ hlt2 hnf
            simpa [World.cell?, this] using n0'
          replace n1 : W2.cell? ⟨wr.heap.size, 1, none⟩ = some (.int .i64 X.f1) := by
            have : W2.heap[wr.heap.size]? = w1.heap[wr.heap.size]? := hfr2.block _ hlt2 hnf
            simpa [World.cell?, this] using n1'
          have HM2 : Hid (W2.heap[m]? = some (mObj room next bf bd vn vm)) := hfr2.at HM1.out hnm
          obtain ⟨_, _, _, d3, _⟩ := mount_cell HM2.out
          have HD2 : Hid (W2.ownsMap Tryz.prog 9 (plainElem Tryz.prog 3) bd k (encL (L.take k))) := hfr2.map HDW.out hnd
          have HF2 : Hid (Fls B W2 bf fs (lnk (L.take (k + 1)))) := by
            have e : (fun j => lnk (L.take k) j || decide (j = X.f1)) = lnk (L.take (k + 1)) := by funext j; exact (HLN.out j).symm
            rw [← e]; exact hF2
          have HFR2 : Hid (Fr (fun i => i = bd ∨ ofF fs i) wr W2) := HFF.out.trans (hfr2.mono (fun i h => .inr h))
          have hnb : bd ≠ wr.heap.size := by have := HD.out.lt; omega
          have HN1 : Hid (some wr.heap.size ≠ some bd) := fun e => hnb (Option.some.inj e).symm
          have HN2 : Hid (some m ≠ some bd) := fun e => map_ne HD2.out HM2.out (Option.some.inj e)
          obtain ⟨w3, hrun, hown3, hturn⟩ := World.ownsMap.store (w := W2.drew) (World.ownsMap.drew HD2.out) kStr Tryz.underlying95 (by unfold maxLen; omega) (Go.WideMaps.keyOf_string_mk Tryz.underlying9 HSK.out) (plainElem_int Tryz.underlying3 HGK.out)
          clear n0' n1' hF2 hfr2 hg hnf hnm hnd hlt2 h1 h2 hN
          go_wp2
          refine wp_region_held_drew (S := (fun w' => w'.cell? ⟨wr.heap.size, 0, none⟩ = some (.string X.f0) ∧ w'.cell? ⟨wr.heap.size, 1, none⟩ = some (.int .i64 X.f1) ∧ w'.cell? ⟨m, 3, none⟩ = some (.map (some bd)))) (by kernel_rfl) ⟨n0, n1, d3⟩ (fun hHeld => ?_)
          refine wpAnyH_take (i := 0) (v := ?_) rfl (by kernel_rfl) (by kernel_rfl) (by kernel_rfl) (fun _ _ _ h => h) (Or.inl ⟨by rfl, ?_⟩) hHeld ?_
          rotate_left
          · (intro W hSW; obtain ⟨q0, q1, q2⟩ := hSW; go_simp; try with_reducible rfl)
          simp only [Act.put, List.setIfInBounds_toArray, List.set_cons_zero, List.set_cons_succ, List.getElem_toArray, List.getElem_cons_zero]
          refine wpAnyH_take (i := 1) (v := ?_) rfl (by kernel_rfl) (by kernel_rfl) (by kernel_rfl) (fun _ _ _ h => h) (Or.inl ⟨by rfl, ?_⟩) hHeld ?_
          rotate_left
          · (intro W hSW; obtain ⟨q0, q1, q2⟩ := hSW; go_simp; try with_reducible rfl)
          simp only [Act.put, List.setIfInBounds_toArray, List.set_cons_zero, List.set_cons_succ, List.getElem_toArray, List.getElem_cons_zero, List.getElem_cons_succ]
          refine wpAnyH_take (i := 2) (v := ?_) rfl (by kernel_rfl) (by kernel_rfl) (by kernel_rfl) (fun _ _ _ h => h) (Or.inl ⟨by rfl, ?_⟩) hHeld ?_
          rotate_left
          · (intro W hSW; obtain ⟨q0, q1, q2⟩ := hSW; go_simp; try with_reducible rfl)
          simp only [Act.put, List.setIfInBounds_toArray, List.set_cons_zero, List.set_cons_succ, List.getElem_toArray, List.getElem_cons_zero, List.getElem_cons_succ]
          refine wpAnyH_take (i := 4) (v := ?_) rfl (by kernel_rfl) (by kernel_rfl) (by kernel_rfl) (fun _ _ _ h => h) (Or.inl ⟨by rfl, ?_⟩) hHeld ?_
          rotate_left
          · (intro W hSW; obtain ⟨q0, q1, q2⟩ := hSW; go_simp; try with_reducible rfl)
          simp only [Act.put, List.setIfInBounds_toArray, List.set_cons_zero, List.set_cons_succ, List.getElem_toArray, List.getElem_cons_zero, List.getElem_cons_succ]
          refine wpAnyH_take (i := 6) (v := ?_) rfl (by kernel_rfl) (by kernel_rfl) (by kernel_rfl) (fun _ _ _ h => h) (Or.inl ⟨by rfl, ?_⟩) hHeld ?_
          rotate_left
          · (intro W hSW; obtain ⟨q0, q1, q2⟩ := hSW; go_simp; try with_reducible rfl)
          simp only [Act.put, List.setIfInBounds_toArray, List.set_cons_zero, List.set_cons_succ, List.getElem_toArray, List.getElem_cons_zero, List.getElem_cons_succ]
          refine wpAnyH_take (i := 3) (v := ?_) rfl (by kernel_rfl) (by kernel_rfl) (by kernel_rfl) (fun _ _ _ h => h) (Or.inl ⟨by rfl, ?_⟩) hHeld ?_
          rotate_left
          · (intro W hSW; obtain ⟨q0, q1, q2⟩ := hSW; go_simp; try with_reducible rfl)
          simp only [Act.put, List.setIfInBounds_toArray, List.set_cons_zero, List.set_cons_succ, List.getElem_toArray, List.getElem_cons_zero, List.getElem_cons_succ]
          refine wpAnyH_take (i := 5) (v := ?_) rfl (by kernel_rfl) (by kernel_rfl) (by kernel_rfl) (fun _ _ _ h => h) (Or.inl ⟨by rfl, ?_⟩) hHeld ?_
          rotate_left
          · (intro W hSW; obtain ⟨q0, q1, q2⟩ := hSW; go_simp; try with_reducible rfl)
          simp only [Act.put, List.setIfInBounds_toArray, List.set_cons_zero, List.set_cons_succ, List.getElem_toArray, List.getElem_cons_zero, List.getElem_cons_succ]
          refine wpAnyH_take (i := 7) (v := ?_) rfl (by kernel_rfl) (by kernel_rfl) (by kernel_rfl) (fun _ _ _ h => h) (Or.inl ⟨by rfl, ?_⟩) hHeld ?_
          rotate_left
          · (intro W hSW; obtain ⟨q0, q1, q2⟩ := hSW; go_simp; try with_reducible rfl)
          simp only [Act.put, List.setIfInBounds_toArray, List.set_cons_zero, List.set_cons_succ, List.getElem_toArray, List.getElem_cons_zero, List.getElem_cons_succ]
          refine wpAnyH_ready (rs := [8]) (by kernel_rfl) (by simp) ?_
          refine AllReadyH.cons rfl (fun K hK => ?_) AllReadyH.nil
          refine step_mapUpdate rfl _ _ _ 95 rfl bd _ _ rfl rfl rfl w3 hrun ?_
          refine hK.out _ _ ⟨hturn.grown.cell n0 HN1.out, hturn.grown.cell n1 HN1.out, hturn.grown.cell d3 HN2.out⟩ (fun hHeld => ?_)
          clear hK K
          refine wpAnyH_done (by kernel_rfl) ?_ _
          have HON : Hid (∀ j (hj : j < L.length), j < k + 1 → dOk fs L j L[j]) := HOO.out HDK.out
          have HT1 : Hid (L.take (k + 1) = L.take k ++ [X]) := by show _ = _; rw [List.take_add_one, List.getElem?_eq_getElem hlt, hX]; rfl
          have HO3 : Hid (w3.ownsMap Tryz.prog 9 (plainElem Tryz.prog 3) bd (k + 1) (encL (L.take (k + 1)))) := by
            rw [encL_snoc (L.take k) X (fun y hy => by
              obtain ⟨i, hi, hyi⟩ := List.getElem_of_mem hy
              rw [List.getElem_take] at hyi
              rw [List.length_take] at hi
              have := pre_lt4 (fs := fs) k hlt (fun j hj hjk h0 => (HON.out j hj hjk).2.1 h0) i (by omega) (by omega)
              rw [hX, hyi] at this
              exact this)] at hown3
            show World.ownsMap _ _ _ _ _ _ _
            rw [HT1.out]
            exact hown3
          have hfr3 : Fr (fun i => i = bd) W2 w3 := fr_undrew ((Fr.refl _ _).grown hturn.grown (fun j hj => by cases hj; exact Or.inl rfl))
          have HTN : Hid (TkD B m room next bf bd vn vm fs L w (k + 1) w3) := ⟨HF2.out.keep hfr3 (fun e => HBB.out.2.2.2 e.symm) (fun q hq e => map_ne HD2.out (HF2.out.blk q hq) e), HO3.out, (HFR.out.trans HFR2.out).trans (hfr3.mono (fun i h => .inl h)), hfr3.at HM2.out (fun e => HN2.out (by rw [e]))⟩
          clear n0 n1 d3 hrun hown3 hturn hfr3
          go_wp2
          go_roundw
          case rel => exact ⟨k + 1, by omega, by go_num, by rw [HLS.out], HTN, HON⟩
          case measure => simp [intOf]; omega
        · replace hW2 := hW2.symm
          subst hW2
          have HE : Hid (¬ okD fs L) := HNO.out (fun h => by rw [h.2.2.1, h.2.2.2] at hg; cases hg)
          clear hg
          go_wp2
          go_ret
          exact .inr ⟨HE.out, rfl, HBL.out _ HFF.out⟩
    · have hke : k = L.length := by omega
      subst hke
      have HOI : Hid (okD fs L) := fun j hj => HOk.out j hj hj
      go_wp2
      go_ret
      exact .inl ⟨HOI.out, rfl, HTk.out⟩

end Go.Proofs.YtmknplpcpmkhiaaGreat
