/- Plain facts on the blocks of a text; no program is named here. -/
import Derived.Test.YtdhbhifgmbppjaaDoorJSa
import Derived.Test.YtdhbhifgmbppjaaDoorShaMix
import Derived.Test.YtdhbhifgmbppjaaDoorFixMath
import Derived.Laws.BytesArg
import Derived.Test.YtdhbhifgmbppjaaDoorOwnLaws
import Derived.OpenShut
import Derived.Deep.WholeRow
namespace Go.Proofs.YtdhbhifgmbppjaaDoor

/-- What the first n blocks of p come to. -/
def shaN (ks : List Int) (h0 : V8) (p : List Int) : Nat → V8
  | 0 => h0
  | n + 1 => blk ks (shaN ks h0 p n) ((p.drop (64 * n)).take 64)

/-- The bytes of a text as numbers. -/
def nums (s : ByteArray) : List Int := s.data.toList.map fun c => ((c.toNat : Nat) : Int)

theorem nums_length (s : ByteArray) : (nums s).length = s.size := by
  unfold nums; rw [List.length_map, Array.length_toList]; rfl

theorem nums_take_succ (s : ByteArray) (k : Nat) (h : k < s.size) : (nums s).take (k + 1) = (nums s).take k ++ [((s[k]).toNat : Int)] := by
  rw [List.take_succ_eq_append_getElem (by rw [nums_length]; exact h)]
  simp [nums]
  rfl

theorem shaN_append (ks : List Int) (h0 : V8) (p q : List Int) : ∀ n, 64 * n ≤ p.length → shaN ks h0 (p ++ q) n = shaN ks h0 p n
  | 0, _ => rfl
  | n + 1, h => by
    simp only [shaN]
    rw [shaN_append ks h0 p q n (by omega), List.drop_append_of_le_length (by omega), List.take_append_of_le_length (by simp; omega)]

theorem shaN_ok (ks : List Int) (h0 : V8) (p : List Int) (h : h0.ok) : ∀ n, (shaN ks h0 p n).ok
  | 0 => h
  | _ + 1 => blk_ok _ _ _

theorem step_part (p wt : List Int) (x : Int) (r n : Nat) (hw : wt.length = 64) (hp : p.length = 64 * n + r) (hr : r + 1 < 64) (h : wt.take r = p.drop (64 * n)) :
    (wt.set r x).take (r + 1) = (p ++ [x]).drop (64 * n) := by
  rw [List.drop_append_of_le_length (by omega), ← h]
  apply List.ext_getElem?
  intro i
  by_cases h1 : i < r
  · rw [List.getElem?_take_of_lt (by omega), List.getElem?_append_left (by simp; omega), List.getElem?_take_of_lt h1, List.getElem?_set_ne (by omega)]
  · by_cases h2 : i = r
    · subst h2
      rw [List.getElem?_take_of_lt (by omega), List.getElem?_append_right (by simp; omega)]
      simp [hw, show i < 64 by omega]
      rw [show i - min i 64 = 0 by omega]
      rfl
    · rw [List.getElem?_eq_none (by simp; omega), List.getElem?_eq_none (by simp; omega)]

theorem step_full (p wt : List Int) (x : Int) (n : Nat) (hw : wt.length = 64) (hp : p.length = 64 * n + 63) (h : wt.take 63 = p.drop (64 * n)) :
    wt.set 63 x = ((p ++ [x]).drop (64 * n)).take 64 := by
  rw [List.drop_append_of_le_length (by omega), ← h]
  apply List.ext_getElem?
  intro i
  by_cases h1 : i < 63
  · rw [List.getElem?_take_of_lt (by omega), List.getElem?_append_left (by simp; omega), List.getElem?_take_of_lt h1, List.getElem?_set_ne (by omega)]
  · by_cases h2 : i = 63
    · subst h2
      rw [List.getElem?_take_of_lt (by omega), List.getElem?_append_right (by simp; omega)]
      simp [hw]
    · rw [List.getElem?_eq_none (by simp; omega), List.getElem?_eq_none (by simp; omega)]

theorem set_range (wt : List Int) (x : Int) (r : Nat) (hx : 0 ≤ x ∧ x ≤ 255) (h : ∀ j, 0 ≤ wt.getD j 0 ∧ wt.getD j 0 ≤ 255) (j : Nat) : 0 ≤ (wt.set r x).getD j 0 ∧ (wt.set r x).getD j 0 ≤ 255 := by
  have hj := h j
  by_cases e : r = j
  · subst e
    by_cases hl : r < wt.length
    · simpa [List.getD, hl] using hx
    · rw [List.set_eq_of_length_le (by omega)]; exact hj
  · simp only [List.getD, List.getElem?_set_ne e] at hj ⊢
    exact hj

end Go.Proofs.YtdhbhifgmbppjaaDoor

/- The walk of what takes bytes (the program's own). -/
namespace Go.Proofs.YtdhbhifgmbppjaaDoor
open Go.RowKit
set_option linter.unusedVariables false
attribute [local go_sem ↓] Go.wp_at_zero Go.wp_at_succ

/-- In block B lies the sum under way behind the bytes p. -/
structure ShaAt (w : World) (B : Nat) (ks : List Int) (h0 : V8) (p wt : List Int) : Prop where
  len : wt.length = 64
  range : ∀ j, 0 ≤ wt.getD j 0 ∧ wt.getD j 0 ≤ 255
  wait : wt.take (p.length % 64) = p.drop (64 * (p.length / 64))
  own : w.ownsRow B 78 1 (.slice (some ⟨B, 0, none⟩) 73 73) 73 (sCells (shaN ks h0 p (p.length / 64)).l wt p.length)

/-- The table lies in its place. -/
def Tab (w : World) (ks : List Int) : Prop := ∀ j, j < 64 → w.cell? ⟨0, j, none⟩ = some (.int .u32 (ks.getD j 0))

theorem Tab.below {w w' : World} {B : Nat} {ks : List Int} (h : Tab w ks) (hb : Below B w w') (hB : 0 < B) : Tab w' ks := fun j hj => by
  rw [hb.cell (p := ⟨0, j, none⟩) hB]; exact h j hj

/-- Behind one byte more, before the block is brought in where it is whole. -/
theorem ShaAt.put {w : World} {B : Nat} {ks : List Int} {h0 : V8} {p wt : List Int} (h : ShaAt w B ks h0 p wt) (x : Int) :
    (((w.setCell ⟨B, 8 + p.length % 64, none⟩ (.int .u8 x)).setCell ⟨B, 72, none⟩ (.int .i64 ((p.length : Int) + 1))).drew).ownsRow B 78 1 (.slice (some ⟨B, 0, none⟩) 73 73) 73 (sCells (shaN ks h0 p (p.length / 64)).l (wt.set (p.length % 64) x) ((p.length : Int) + 1)) := by
  have h1 := (h.own.stored (8 + p.length % 64) (.int .u8 x)).1
  rw [sCells_set_wt _ _ _ _ _ rfl (by rw [h.len]; omega)] at h1
  have h2 := (h1.stored 72 (.int .i64 ((p.length : Int) + 1))).1
  rw [sCells_set_sz _ _ _ _ rfl (by rw [List.length_set, h.len])] at h2
  exact h2.drew

theorem ShaAt.next {w : World} {B : Nat} {ks : List Int} {h0 : V8} {p wt : List Int} (h : ShaAt w B ks h0 p wt) (x : Int) (hx : 0 ≤ x ∧ x ≤ 255) (hr : (p.length + 1) % 64 ≠ 0) :
    ShaAt (((w.setCell ⟨B, 8 + p.length % 64, none⟩ (.int .u8 x)).setCell ⟨B, 72, none⟩ (.int .i64 ((p.length : Int) + 1))).drew) B ks h0 (p ++ [x]) (wt.set (p.length % 64) x) := by
  have e1 : (p ++ [x]).length = p.length + 1 := by simp
  have e2 : (p.length + 1) / 64 = p.length / 64 := by omega
  have e3 : (p.length + 1) % 64 = p.length % 64 + 1 := by omega
  refine ⟨by rw [List.length_set, h.len], set_range wt x _ hx h.range, ?_, ?_⟩
  · rw [e1, e2, e3]
    exact step_part p wt x _ _ h.len (by omega) (by omega) h.wait
  · rw [e1, e2, shaN_append _ _ _ _ _ (by omega)]
    have := h.put x
    rw [show ((p.length + 1 : Nat) : Int) = (p.length : Int) + 1 by omega]
    exact this

theorem ShaAt.whole {w' : World} {B : Nat} {ks : List Int} {h0 : V8} {p wt : List Int} (x : Int) (hx : 0 ≤ x ∧ x ≤ 255) (hr : (p.length + 1) % 64 = 0)
    (hl : wt.length = 64) (hrg : ∀ j, 0 ≤ wt.getD j 0 ∧ wt.getD j 0 ≤ 255) (hw : wt.take (p.length % 64) = p.drop (64 * (p.length / 64)))
    (ho : w'.ownsRow B 78 1 (.slice (some ⟨B, 0, none⟩) 73 73) 73 (sCells (blk ks (shaN ks h0 p (p.length / 64)) (wt.set (p.length % 64) x)).l (wt.set (p.length % 64) x) ((p.length : Int) + 1))) :
    ShaAt w' B ks h0 (p ++ [x]) (wt.set (p.length % 64) x) := by
  have e1 : (p ++ [x]).length = p.length + 1 := by simp
  have e2 : (p.length + 1) / 64 = p.length / 64 + 1 := by omega
  have e3 : p.length % 64 = 63 := by omega
  refine ⟨by rw [List.length_set, hl], set_range wt x _ hx hrg, ?_, ?_⟩
  · rw [e1, e2, hr, List.drop_eq_nil_of_le (by rw [e1]; omega)]
    rfl
  · rw [e3] at ho hw
    rw [e1, e2, e3, show ((p.length + 1 : Nat) : Int) = (p.length : Int) + 1 by omega]
    have e4 : shaN ks h0 (p ++ [x]) (p.length / 64 + 1) = blk ks (shaN ks h0 p (p.length / 64)) (wt.set 63 x) := by
      show blk ks (shaN ks h0 (p ++ [x]) (p.length / 64)) _ = _
      rw [shaN_append _ _ _ _ _ (by omega), ← step_full p wt x (p.length / 64) hl (by omega) hw]
    rw [e4]
    exact ho

set_option maxRecDepth 20000 in
set_option maxHeartbeats 2000000 in
theorem take_any (w : World) (B : Nat) (ks : List Int) (h0 : V8) (p wt : List Int) (s : ByteArray) (hB0 : 0 < B) (hA : ShaAt w B ks h0 p wt) (hT : Tab w ks) (hkr : ∀ j, 0 ≤ ks.getD j 0 ∧ ks.getD j 0 ≤ 4294967295) (hok : h0.ok) (hsz : p.length + s.size ≤ 4611686018427387904) :
    Calls Tryd.prog 44 #[.pointer (some ⟨B, 0, none⟩), .string s] w fun e w' => e = .returned (.tuple #[]) ∧ (∃ wt', ShaAt w' B ks h0 (p ++ nums s) wt') ∧ Below B w w' := by
  have HA : Hid (ShaAt w B ks h0 p wt) := hA
  have HT : Hid (Tab w ks) := hT
  have HK : Hid (∀ j, 0 ≤ ks.getD j 0 ∧ ks.getD j 0 ≤ 4294967295) := hkr
  clear hA hT hkr
  go_enter Tryd.func44, Tryd.ntmps44
  go_wp2
  go_loopw [7] (fun i wr => ∃ k : Nat, k ≤ s.size ∧ i = .int .i64 k ∧ Hid (∃ wt', ShaAt wr B ks h0 (p ++ (nums s).take k) wt') ∧ Below B w wr) (fun i _ => s.size - (intOf i).toNat)
  case atStart => exact ⟨0, Nat.zero_le _, rfl, ⟨wt, by simpa using HA.out⟩, Below.refl _ _⟩
  case round =>
    obtain ⟨k, hk, rfl, HS, hbel⟩ := hrel
    by_cases hlt : k < s.size
    · obtain ⟨wt', hS⟩ := HS.out
      have hq := nums_take_succ s k hlt
      have hpl : (p ++ (nums s).take k).length = p.length + k := by rw [List.length_append, List.length_take, nums_length]; omega
      have HQ : Hid (p ++ (nums s).take (k + 1) = (p ++ (nums s).take k) ++ [((s[k]).toNat : Int)]) := by show _ = _; rw [hq, List.append_assoc]
      clear hq HS
      obtain ⟨q, hqq⟩ : ∃ q, p ++ (nums s).take k = q := ⟨_, rfl⟩
      rw [hqq] at hS hpl HQ
      obtain ⟨N, hN⟩ : ∃ N, q.length = N := ⟨_, rfl⟩
      have hby : ((s[k]).toNat : Int) < 256 := by have := (s[k]).toNat_lt; omega
      have hc72 : wr.cell? ⟨B, 72, none⟩ = some (.int .i64 N) := by rw [hS.own.cellAt 72 (by omega), sCells_sz _ _ _ rfl hS.len, hN]
      have hcr : wr.cell? ⟨B, 8 + N % 64, none⟩ = some (.int .u8 (wt'.getD (N % 64) 0)) := by rw [hS.own.cellAt (8 + N % 64) (by omega), sCells_wt _ _ _ rfl hS.len _ (by omega)]
      have hf72 := hS.own.frozenAt 72
      have hfr := hS.own.frozenAt (8 + N % 64)
      have hput := hS.put ((s[k]).toNat : Int)
      have hnext := hS.next ((s[k]).toNat : Int) (by omega)
      rw [hN] at hput hnext
      have HSS : Hid (ShaAt wr B ks h0 q wt') := hS
      have HPUT : Hid ((((wr.setCell ⟨B, 8 + N % 64, none⟩ (.int .u8 ((s[k]).toNat : Int))).setCell ⟨B, 72, none⟩ (.int .i64 ((N : Int) + 1))).drew).ownsRow B 78 1 (.slice (some ⟨B, 0, none⟩) 73 73) 73 (sCells (shaN ks h0 q (N / 64)).l (wt'.set (N % 64) ((s[k]).toNat : Int)) ((N : Int) + 1))) := hput
      have HNX : Hid ((N + 1) % 64 ≠ 0 → ShaAt (((wr.setCell ⟨B, 8 + N % 64, none⟩ (.int .u8 ((s[k]).toNat : Int))).setCell ⟨B, 72, none⟩ (.int .i64 ((N : Int) + 1))).drew) B ks h0 (q ++ [((s[k]).toNat : Int)]) (wt'.set (N % 64) ((s[k]).toNat : Int))) := hnext
      have HB2 : Hid (Below B w (((wr.setCell ⟨B, 8 + N % 64, none⟩ (.int .u8 ((s[k]).toNat : Int))).setCell ⟨B, 72, none⟩ (.int .i64 ((N : Int) + 1))).drew)) := ((hbel.setCell (Nat.le_refl _) _).setCell (Nat.le_refl _) _).drew
      have HNN : Hid (q.length = N) := hN
      have hNb : (N : Int) ≤ 4611686018427387904 := by omega
      clear hS hput hnext hqq hN hpl
      have i0 : (0 : Int) ≤ (N : Int) % 64 := by omega
      have i1 : (N : Int) % 64 < 64 := by omega
      go_wp2
      go_region
      by_cases hm : ((N : Int) + 1) % 64 = 0
      · have hm1 : (((N : Int) + 1) % 64 == 0) = true := by rw [hm]; rfl
        have HM : Hid ((N + 1) % 64 = 0) := by show _ = _; omega
        clear hm
        go_wp2_with fail
        refine (mix_any _ B ks (shaN ks h0 q (N / 64)) _ ((N : Int) + 1) (by rw [List.length_set]; exact HSS.out.len) (set_range wt' _ _ (by omega) HSS.out.range) (shaN_ok ks h0 q hok _) hB0 (HT.out.below HB2.out hB0) HK.out HPUT.out).mono ?_
        rintro e w1 ⟨rfl, ho1, hb1⟩
        have HF : Hid (ShaAt w1 B ks h0 (q ++ [((s[k]).toNat : Int)]) (wt'.set (N % 64) ((s[k]).toNat : Int))) := by
          have hS := HSS.out
          have hN := HNN.out
          show ShaAt w1 B ks h0 (q ++ [((s[k]).toNat : Int)]) (wt'.set (N % 64) ((s[k]).toNat : Int))
          rw [← hN]
          refine ShaAt.whole ((s[k]).toNat : Int) (by omega) (by rw [hN]; exact HM.out) hS.len hS.range hS.wait ?_
          rw [hN]
          exact ho1
        have HB3 : Hid (Below B w w1) := HB2.out.trans hb1
        clear ho1 hb1
        go_wp2
        exact ⟨⟨k + 1, by omega, by go_num, ⟨_, by rw [HQ.out]; exact HF.out⟩, HB3.out⟩, by simp [intOf]; omega⟩
      · have hm1 : (((N : Int) + 1) % 64 == 0) = false := by simp [hm]
        have HM : Hid ((N + 1) % 64 ≠ 0) := by show _ ≠ _; omega
        clear hm
        go_wp2
        exact ⟨⟨k + 1, by omega, by go_num, ⟨_, by rw [HQ.out]; exact HNX.out HM.out⟩, HB2.out⟩, by simp [intOf]; omega⟩
    · have : k = s.size := by omega
      subst this
      have HF : Hid (∃ wt', ShaAt wr B ks h0 (p ++ nums s) wt') := by
        obtain ⟨wt', h⟩ := HS.out
        refine ⟨wt', ?_⟩
        rw [List.take_of_length_le (by rw [nums_length]; exact Nat.le_refl _)] at h
        exact h
      clear HS
      go_wp2
      go_end0
      exact ⟨rfl, HF.out, hbel⟩

end Go.Proofs.YtdhbhifgmbppjaaDoor

/- Plain facts on what is put behind a text, and on how a sum is told. -/
namespace Go.Proofs.YtdhbhifgmbppjaaDoor

/-- How many noughts follow the first byte behind a text of n bytes. -/
def zs (n : Nat) : Nat := (119 - n % 64) % 64

theorem zs_at (n : Nat) : (n + 1 + zs n) % 64 = 56 := by unfold zs; omega

theorem zs_lt (n : Nat) : zs n < 64 := by unfold zs; omega

theorem zs_before (n k : Nat) (h : k < zs n) : (n + 1 + k) % 64 ≠ 56 := by unfold zs at h; omega

/-- The whole text with what is put behind it. -/
def padL (p : List Int) : List Int := (p ++ [128] ++ List.replicate (zs p.length) 0) ++ (0 :: beL (8 * (p.length : Int)) 7)

theorem padL_length (p : List Int) : (padL p).length = p.length + 1 + zs p.length + 8 := by
  unfold padL; simp [beL_length]; omega

/-- The words of l told in four bytes each, the first k of them. -/
def outL (l : List Int) : Nat → List Int
  | 0 => []
  | k + 1 => outL l k ++ beL (l.getD k 0) 4

theorem outL_length (l : List Int) : ∀ k, (outL l k).length = 4 * k
  | 0 => rfl
  | k + 1 => by simp [outL, outL_length l k, beL_length]; omega

theorem beL_range (n : Int) : ∀ k, ∀ x ∈ beL n k, 0 ≤ x ∧ x ≤ 255
  | 0, x, h => by simp [beL] at h
  | k + 1, x, h => by
    simp only [beL, List.mem_cons] at h
    rcases h with rfl | h
    · omega
    · exact beL_range n k x h

theorem nums_strOf (xs : List Int) (h : ∀ x ∈ xs, 0 ≤ x ∧ x ≤ 255) : nums (strOfNums xs) = xs := by
  unfold nums
  rw [strOfNums_data, List.map_map]
  conv => rhs; rw [← List.map_id xs]
  refine List.map_congr_left fun x hx => ?_
  have := h x hx
  simp only [Function.comp, id]
  rw [UInt8.toNat_ofNat']
  omega

theorem fq_small (n : Int) (W : Nat) (h0 : 0 ≤ n) (h : n < 2 ^ (8 * W)) : fq n W ≤ 0 := by
  rw [fq_eq, Int.ediv_eq_zero_of_lt h0 h]; exact Int.le_refl _

end Go.Proofs.YtdhbhifgmbppjaaDoor

/- The walks of the two that tell a number in so many bytes, the highest first. -/
namespace Go.Proofs.YtdhbhifgmbppjaaDoor
open Go.RowKit
set_option linter.unusedVariables false

theorem add_be (n : Int) (k : Nat) (hk : k ≤ 7) : ∀ w, (Op.stringOp .add (strOfNums [fq n k % 256]) (strOfNums (beL n k))).run Tryd.prog w = .ok (.string (strOfNums (beL n (k + 1)))) w := fun w =>
  run_add_nums [fq n k % 256] (beL n k) (by rw [beL_length]; simp; omega) w

theorem be_cell (n : Int) (W k : Nat) (h : k < W) : ((List.replicate (W - k) 0 ++ beL n k).map (Value.int .u8))[W - 1 - k]? = some (.int .u8 0) := by
  rw [List.map_append, List.getElem?_append_left (by simp; omega), List.map_replicate, List.getElem?_replicate_of_lt (by omega)]

set_option maxRecDepth 20000 in
set_option maxHeartbeats 400000 in
theorem specFix_yes (n : Int) (W : Nat) (w : World) (h0 : 0 ≤ n) (h1 : n ≤ 9223372036854775807) (hW1 : 1 ≤ W) (hW7 : W ≤ 7) (hq : fq n W ≤ 0) :
    Calls Tryd.prog 28 #[.int .i64 n, .int .i64 W] w fun e w' => e = .returned (.string (strOfNums (beL n W))) ∧ Below w.heap.size w w' := by
  have HQ : Hid (fq n W ≤ 0) := hq
  clear hq
  go_enter Tryd.func28, Tryd.ntmps28
  go_wp2
  go_loopw [0, 5, 6] (fun m v i wr => ∃ k : Nat, k ≤ W ∧ i = .int .i64 k ∧ m = .int .i64 (fq n k) ∧ v = .string (strOfNums (beL n k)) ∧ Below w.heap.size w wr) (fun _ _ i _ => W - (intOf i).toNat)
  case atStart => exact ⟨0, Nat.zero_le _, rfl, rfl, rfl, Below.refl _ _⟩
  case round =>
    obtain ⟨k, hk, rfl, rfl, rfl, hbel⟩ := hrel
    have hsz := hbel.size
    have f0 := fq_nonneg n h0 k
    have f1 := fq_le n h0 k
    by_cases hlt : k < W
    · have hco := conv_one wr
      have had := add_be n k (by omega)
      go_wp2
      go_roundw
      case rel => exact ⟨k + 1, by omega, by go_num, rfl, rfl, hbel.alloc (by omega) _⟩
      case measure => simp [intOf]; omega
    · have : k = W := by omega
      subst this
      have hz := HQ.out
      go_wp2
      go_ret
      exact ⟨rfl, hbel⟩

set_option maxRecDepth 20000 in
set_option maxHeartbeats 400000 in
theorem implFix_yes (n : Int) (W : Nat) (w : World) (h0 : 0 ≤ n) (h1 : n ≤ 9223372036854775807) (hW1 : 1 ≤ W) (hW7 : W ≤ 7) (hq : fq n W ≤ 0) :
    Calls Tryd.prog 55 #[.int .i64 n, .int .i64 W] w fun e w' => e = .returned (.string (strOfNums (beL n W))) ∧ Below w.heap.size w w' := by
  have hne := fq_ne n W h0 hq
  clear hq
  obtain ⟨i0, hi, hz0, hz1, hz2⟩ := info_parts info5
  go_enter Tryd.func55, Tryd.ntmps55
  go_wp2_with (first | (at_make; refine wpList_make_full _ rfl _ _ 22 rfl w.heap.size 5 i0 (.int .u8 0) 1 Tryd.underlying22 hi hz0 hz1 .i64 .i64 W W W rfl rfl rfl rfl (by rw [hz2]; omega) (by unfold maxLen; omega) (Nat.le_refl _) ?_) | go_in)
  intro w0 hown0 hgrow0
  have hbel0 : Below w.heap.size w w0 := (Below.refl _ _).grown hgrow0 (Nat.le_refl _) (by simp)
  clear hgrow0
  have hown1 : w0.ownsRow w.heap.size 5 1 (.slice (some ⟨w.heap.size, 0, none⟩) W W) W ((List.replicate (W - 0) 0 ++ beL n 0).map (Value.int .u8)) := by
    simpa [toList_madeCells_one, beL] using hown0
  clear hown0
  go_wp2
  go_loopw [24] (fun i wr => ∃ k : Nat, k ≤ W ∧ i = .int .i64 k ∧ wr.ownsRow w.heap.size 5 1 (.slice (some ⟨w.heap.size, 0, none⟩) W W) W ((List.replicate (W - k) 0 ++ beL n k).map (Value.int .u8)) ∧ Below w.heap.size w wr) (fun i _ => W - (intOf i).toNat)
  case atStart => exact ⟨0, Nat.zero_le _, rfl, hown1, hbel0⟩
  case round =>
    obtain ⟨k, hk, rfl, hown, hbel⟩ := hrel
    have hsz := hbel.size
    by_cases hlt : k < W
    · have hcl : wr.cell? ⟨w.heap.size, W - 1 - k, none⟩ = some (.int .u8 0) := by
        rw [hown.cellAt (W - 1 - k) (by omega)]
        exact be_cell n W k hlt
      have hfz := hown.frozenAt (W - 1 - k)
      go_wp2
      have hst := hown.stored (W - 1 - k) (.int .u8 (n / 2 ^ (8 * k) % 256))
      have R1 : (wr.setCell ⟨w.heap.size, W - 1 - k, none⟩ (.int .u8 (n / 2 ^ (8 * k) % 256))).ownsRow w.heap.size 5 1 (.slice (some ⟨w.heap.size, 0, none⟩) W W) W ((List.replicate (W - (k + 1)) 0 ++ beL n (k + 1)).map (Value.int .u8)) := by
        rw [← be_set n W k hlt, List.map_set, fq_eq n k]
        exact hst.1
      have R2 : Below w.heap.size w (wr.setCell ⟨w.heap.size, W - 1 - k, none⟩ (.int .u8 (n / 2 ^ (8 * k) % 256))) := hbel.setCell (Nat.le_refl _) _
      go_roundw
      case rel => first | exact ⟨k + 1, by omega, by go_num, R1, R2⟩ | ((repeat apply Exists.intro); exact ⟨⟨k + 1, by omega, by go_num, R1, R2⟩, rfl⟩)
      case measure => simp [intOf]; omega
    · have hkW : k = W := by omega
      subst hkW
      have hown2 : wr.ownsRow w.heap.size 5 1 (.slice (some ⟨w.heap.size, 0, none⟩) k k) k ((beL n k).map (Value.int .u8)) := by
        simpa using hown
      have hconv := run_string_of_own (beL n k) (by rw [beL_length]) hown2
      clear hown hown1 hown2
      go_wp2
      go_ret
      exact ⟨rfl, hbel⟩

set_option maxRecDepth 20000 in
set_option maxHeartbeats 400000 in
theorem specFix_out (n v : Int) (w : World) (h : v < 1 ∨ 7 < v ∨ n < 0) :
    Calls Tryd.prog 28 #[.int .i64 n, .int .i64 v] w fun e w' => e = .returned (.string ⟨#[]⟩) ∧ Below w.heap.size w w' := by
  by_cases h1 : v < 1
  · go_enter Tryd.func28, Tryd.ntmps28
    go_wp2
    go_ret
    exact ⟨rfl, Below.refl _ _⟩
  · by_cases h7 : 7 < v
    · go_enter Tryd.func28, Tryd.ntmps28
      go_wp2
      go_ret
      exact ⟨rfl, Below.refl _ _⟩
    · have hn : n < 0 := by omega
      go_enter Tryd.func28, Tryd.ntmps28
      go_wp2
      go_ret
      exact ⟨rfl, Below.refl _ _⟩

set_option maxRecDepth 20000 in
set_option maxHeartbeats 400000 in
theorem implFix_out (n v : Int) (w : World) (h : v < 1 ∨ 7 < v ∨ n < 0) :
    Calls Tryd.prog 55 #[.int .i64 n, .int .i64 v] w fun e w' => e = .returned (.string ⟨#[]⟩) ∧ Below w.heap.size w w' := by
  by_cases h1 : v < 1
  · go_enter Tryd.func55, Tryd.ntmps55
    go_wp2
    go_ret
    exact ⟨rfl, Below.refl _ _⟩
  · by_cases h7 : 7 < v
    · go_enter Tryd.func55, Tryd.ntmps55
      go_wp2
      go_ret
      exact ⟨rfl, Below.refl _ _⟩
    · have hn : n < 0 := by omega
      go_enter Tryd.func55, Tryd.ntmps55
      go_wp2
      go_ret
      exact ⟨rfl, Below.refl _ _⟩

set_option maxRecDepth 20000 in
set_option maxHeartbeats 400000 in
theorem specFix_no (n : Int) (W : Nat) (w : World) (h0 : 0 ≤ n) (h1 : n ≤ 9223372036854775807) (hW1 : 1 ≤ W) (hW7 : W ≤ 7) (hq : 0 < fq n W) :
    Calls Tryd.prog 28 #[.int .i64 n, .int .i64 W] w fun e w' => e = .returned (.string ⟨#[]⟩) ∧ Below w.heap.size w w' := by
  have HQ : Hid (0 < fq n W) := hq
  clear hq
  go_enter Tryd.func28, Tryd.ntmps28
  go_wp2
  go_loopw [0, 5, 6] (fun m v i wr => ∃ k : Nat, k ≤ W ∧ i = .int .i64 k ∧ m = .int .i64 (fq n k) ∧ v = .string (strOfNums (beL n k)) ∧ Below w.heap.size w wr) (fun _ _ i _ => W - (intOf i).toNat)
  case atStart => exact ⟨0, Nat.zero_le _, rfl, rfl, rfl, Below.refl _ _⟩
  case round =>
    obtain ⟨k, hk, rfl, rfl, rfl, hbel⟩ := hrel
    have hsz := hbel.size
    have f0 := fq_nonneg n h0 k
    have f1 := fq_le n h0 k
    by_cases hlt : k < W
    · have hco := conv_one wr
      have had := add_be n k (by omega)
      go_wp2
      go_roundw
      case rel => exact ⟨k + 1, by omega, by go_num, rfl, rfl, hbel.alloc (by omega) _⟩
      case measure => simp [intOf]; omega
    · have : k = W := by omega
      subst this
      have hz := HQ.out
      go_wp2
      go_ret
      exact ⟨rfl, hbel⟩

set_option maxRecDepth 20000 in
set_option maxHeartbeats 400000 in
theorem implFix_no (n : Int) (W : Nat) (w : World) (h0 : 0 ≤ n) (hW1 : 1 ≤ W) (hW7 : W ≤ 7) (hq : 0 < fq n W) :
    Calls Tryd.prog 55 #[.int .i64 n, .int .i64 W] w fun e w' => e = .returned (.string ⟨#[]⟩) ∧ Below w.heap.size w w' := by
  have hne := fq_ne' n W hq
  clear hq
  go_enter Tryd.func55, Tryd.ntmps55
  go_wp2
  go_ret
  exact ⟨rfl, Below.refl _ _⟩

end Go.Proofs.YtdhbhifgmbppjaaDoor

/- The walk of what tells the sum (the program's own). -/
namespace Go.Proofs.YtdhbhifgmbppjaaDoor
open Go.RowKit
set_option linter.unusedVariables false
attribute [local go_sem ↓] Go.wp_at_zero Go.wp_at_succ

/-- How many bytes the sum in block B has taken. -/
def sizeAt (w : World) (B : Nat) : Int := match w.cell? ⟨B, 72, none⟩ with | some (.int _ n) => n | _ => 0

theorem ShaAt.size {w : World} {B : Nat} {ks : List Int} {h0 : V8} {p wt : List Int} (h : ShaAt w B ks h0 p wt) : w.cell? ⟨B, 72, none⟩ = some (.int .i64 p.length) := by
  rw [h.own.cellAt 72 (by omega), sCells_sz _ _ _ rfl h.len]

set_option maxRecDepth 20000 in
set_option maxHeartbeats 2000000 in
theorem tell_any (w : World) (ks : List Int) (h0 : V8) (p wt : List Int) (hB0 : 0 < w.heap.size) (hT : Tab w ks) (hkr : ∀ j, 0 ≤ ks.getD j 0 ∧ ks.getD j 0 ≤ 4294967295) (hok : h0.ok) (hsz : p.length ≤ 1048576)
    (hl : wt.length = 64) (hrg : ∀ j, 0 ≤ wt.getD j 0 ∧ wt.getD j 0 ≤ 255) (hw : wt.take (p.length % 64) = p.drop (64 * (p.length / 64))) :
    Calls Tryd.prog 45 #[.agg (sCells (shaN ks h0 p (p.length / 64)).l wt p.length).toArray] w fun e w' => e = .returned (.string (strOfNums (outL (shaN ks h0 (padL p) ((padL p).length / 64)).l 8))) ∧ Below w.heap.size w w' := by
  have HT : Hid (Tab w ks) := hT
  have HK : Hid (∀ j, 0 ≤ ks.getD j 0 ∧ ks.getD j 0 ≤ 4294967295) := hkr
  have hcl : (sCells (shaN ks h0 p (p.length / 64)).l wt p.length).length = 73 := by simp [sCells, V8.l, hl]
  have HA : Hid (ShaAt (w.alloc (.cells (sCells (shaN ks h0 p (p.length / 64)).l wt p.length).toArray 78)) w.heap.size ks h0 p wt) :=
    ⟨hl, hrg, hw, World.ownsRow_lit w (sCells (shaN ks h0 p (p.length / 64)).l wt p.length).toArray 73 (Nat.le_refl _) (by decide) (by rw [List.size_toArray, hcl])⟩
  have HB : Hid (Below w.heap.size w (w.alloc (.cells (sCells (shaN ks h0 p (p.length / 64)).l wt p.length).toArray 78))) := (Below.refl _ _).alloc (Nat.le_refl _) _
  have hc72 := HA.out.size
  generalize (sCells (shaN ks h0 p (p.length / 64)).l wt p.length) = C at *
  have HC : Hid (C.length = 73) := hcl
  clear hT hkr hl hrg hw hcl
  go_enter Tryd.func45, Tryd.ntmps45
  go_wp2_with fail
  refine (take_any _ w.heap.size ks h0 p wt ⟨#[128]⟩ hB0 HA.out (HT.out.below HB.out hB0) HK.out hok (by show p.length + 1 ≤ _; omega)).mono ?_
  rintro e w1 ⟨rfl, hA1, hb1⟩
  have HA1 : Hid (∃ wt', ShaAt w1 w.heap.size ks h0 (p ++ [128] ++ List.replicate 0 0) wt') := by
    obtain ⟨wt', h⟩ := hA1
    refine ⟨wt', ?_⟩
    rw [List.replicate_zero, List.append_nil]
    exact h
  have HB1 : Hid (Below w.heap.size w w1) := HB.out.trans hb1
  clear hA1 hb1 HA HB hc72
  go_wp2_with fail
  go_loopw [] (fun wr => ∃ k : Nat, k ≤ zs p.length ∧ Hid (∃ wt', ShaAt wr w.heap.size ks h0 (p ++ [128] ++ List.replicate k 0) wt') ∧ Below w.heap.size w wr) (fun wr => (p.length + 65 - sizeAt wr w.heap.size).toNat)
  case atStart => exact ⟨0, Nat.zero_le _, HA1.out, HB1.out⟩
  case round =>
    obtain ⟨k, hk, HS, hbel⟩ := hrel
    clear HA1 HB1
    have hk64 := zs_lt p.length
    obtain ⟨N, hN⟩ : ∃ N, p.length + 1 + k = N := ⟨_, rfl⟩
    have hc72 : wr.cell? ⟨w.heap.size, 72, none⟩ = some (.int .i64 N) := by
      obtain ⟨wt', h⟩ := HS.out
      rw [h.size, ← hN]
      simp
      omega
    have hsa : sizeAt wr w.heap.size = N := by unfold sizeAt; rw [hc72]
    have HSA : Hid (sizeAt wr w.heap.size = N) := hsa
    clear hsa
    by_cases hlt : k < zs p.length
    · have hz := zs_before p.length k hlt
      rw [hN] at hz
      have hne : ((N : Int) % 64 != 56) = true := by simp; omega
      clear hz
      obtain ⟨wt', hS⟩ := HS.out
      have HSS : Hid (ShaAt wr w.heap.size ks h0 (p ++ [128] ++ List.replicate k 0) wt') := hS
      have HN : Hid (p.length + 1 + k = N) := hN
      clear hS HS hN
      go_wp2_with fail
      refine (take_any _ w.heap.size ks h0 _ wt' ⟨#[0]⟩ hB0 HSS.out (HT.out.below hbel hB0) HK.out hok (by show _ + 1 ≤ _; simp; omega)).mono ?_
      rintro e w2 ⟨rfl, hA2, hb2⟩
      have HA2 : Hid (∃ wt', ShaAt w2 w.heap.size ks h0 (p ++ [128] ++ List.replicate (k + 1) 0) wt') := by
        obtain ⟨wt', h⟩ := hA2
        refine ⟨wt', ?_⟩
        rw [List.replicate_succ', ← List.append_assoc]
        exact h
      have hsb : sizeAt w2 w.heap.size = (N : Int) + 1 := by
        obtain ⟨wt', h⟩ := HA2.out
        have := HN.out
        unfold sizeAt
        rw [h.size]
        simp
        omega
      have HSB : Hid (sizeAt w2 w.heap.size = (N : Int) + 1) := hsb
      have HB2 : Hid (Below w.heap.size w w2) := hbel.trans hb2
      clear hA2 hb2 hsb
      go_wp2
      exact ⟨⟨k + 1, by omega, HA2.out, HB2.out⟩, by rw [HSB.out, HSA.out]; have := HN.out; omega⟩
    · have : k = zs p.length := by omega
      subst this
      have hz := zs_at p.length
      rw [hN] at hz
      have hne : ((N : Int) % 64 != 56) = false := by simp; omega
      obtain ⟨wt', hS⟩ := HS.out
      have HSS : Hid (ShaAt wr w.heap.size ks h0 (p ++ [128] ++ List.replicate (zs p.length) 0) wt') := hS
      clear hS HS hN hz HSA
      go_wp2_with fail
      refine (implFix_yes (8 * (p.length : Int)) 7 _ (by omega) (by omega) (by omega) (by omega) (fq_small _ _ (by omega) (by show _ < (2 : Int) ^ 56; omega))).mono ?_
      rintro e w2 ⟨rfl, hb2⟩
      have HSS2 : Hid (ShaAt w2 w.heap.size ks h0 (p ++ [128] ++ List.replicate (zs p.length) 0) wt') := by
        have h := HSS.out
        exact ⟨h.len, h.range, h.wait, own_below h.own hb2 (h.own.lt w.heap.size rfl).2⟩
      have hbw : Below w.heap.size w w2 := hbel.trans (hb2.mono hbel.size)
      have had : ∀ w, (Op.stringOp .add ⟨#[0]⟩ (strOfNums (beL (8 * (p.length : Int)) 7))).run Tryd.prog w = .ok (.string (strOfNums (0 :: beL (8 * (p.length : Int)) 7))) w := fun w =>
        run_add_nums [0] (beL (8 * (p.length : Int)) 7) (by rw [beL_length]; simp) w
      clear hb2 HSS
      go_wp2_with fail
      refine (take_any _ w.heap.size ks h0 _ wt' (strOfNums (0 :: beL (8 * (p.length : Int)) 7)) hB0 HSS2.out (HT.out.below hbw hB0) HK.out hok (by rw [strOfNums_size]; simp [beL_length]; omega)).mono ?_
      rintro e w3 ⟨rfl, hA3, hb3⟩
      rw [nums_strOf _ (by intro x hx; simp only [List.mem_cons] at hx; rcases hx with rfl | hx; omega; exact beL_range _ _ x hx)] at hA3
      have hbw3 : Below w.heap.size w w3 := hbw.trans hb3
      obtain ⟨wt3, hA3⟩ := hA3
      have hown3 := hA3.own
      have HV : Hid ((shaN ks h0 (padL p) ((padL p).length / 64)).ok) := shaN_ok ks h0 _ hok _
      have hra : w3.rangeAt w.heap.size 0 ((shaN ks h0 (padL p) ((padL p).length / 64)).l.map (Value.int .u32)) := by
        intro j v hv
        have hj : j < 8 := (List.getElem?_eq_some_iff.1 hv).1
        rw [Nat.zero_add, hown3.cellAt j (by omega), sCells_st _ _ _ rfl j hj, ← hv, l_cell _ j hj]
        rfl
      clear hA3 hown3 HSS2 hbw hb3 hbel had
      generalize hV : shaN ks h0 (padL p) ((padL p).length / 64) = V at *
      have HE : Hid (shaN ks h0 (padL p) ((padL p).length / 64) = V) := hV
      have HRA : Hid (w3.rangeAt w.heap.size 0 (V.l.map (Value.int .u32))) := hra
      clear hra hV
      go_wp2_with (first
        | (refine wpList_load_mid (by rfl) 75 (.tmp 20) (by rfl) w.heap.size 0 (by rfl) (V.l.map (Value.int .u32)) _ HRA.out Tryd.underlying75 rfl (by kernel_rfl) ?_)
        | fail)
      go_loopw [4, 22] (fun o i wr => ∃ k : Nat, k ≤ 8 ∧ i = .int .i64 k ∧ o = .string (strOfNums (outL V.l k)) ∧ Below w.heap.size w wr) (fun _ i _ => 8 - (intOf i).toNat)
      case atStart => exact ⟨0, by omega, rfl, rfl, hbw3⟩
      case round =>
        obtain ⟨m, hm, rfl, rfl, hbr⟩ := hrel
        by_cases hl8 : m < 8
        · have hix := index8 _ m _ hl8 (l_cell V m hl8)
          obtain ⟨x0, x1⟩ := l_getD_range V HV.out m
          have had : ∀ w, (Op.stringOp .add (strOfNums (outL V.l m)) (strOfNums (beL (V.l.getD m 0) 4))).run Tryd.prog w = .ok (.string (strOfNums (outL V.l (m + 1)))) w := fun w =>
            run_add_nums (outL V.l m) (beL (V.l.getD m 0) 4) (by rw [beL_length, outL_length]; omega) w
          obtain ⟨x, hx⟩ : ∃ x, V.l.getD m 0 = x := ⟨_, rfl⟩
          rw [hx] at hix x0 x1 had
          clear hx
          have i0 : (0 : Int) ≤ (m : Int) := by omega
          have i1 : (m : Int) < 8 := by omega
          go_wp2_with fail
          refine (implFix_yes x 4 _ x0 (by omega) (by omega) (by omega) (fq_small _ _ x0 (by show _ < (2 : Int) ^ 32; omega))).mono ?_
          rintro e w4 ⟨rfl, hb4⟩
          have hb5 : Below w.heap.size w w4 := hbr.trans (hb4.mono hbr.size)
          clear hb4
          go_wp2
          exact ⟨⟨m + 1, by omega, by go_num, rfl, hb5⟩, by simp [intOf]; omega⟩
        · have : m = 8 := by omega
          subst this
          go_wp2
          go_ret
          refine ⟨?_, hbr⟩
          rw [HE.out]
          rfl

end Go.Proofs.YtdhbhifgmbppjaaDoor

/- The walk of what begins the program's own sum. -/
namespace Go.Proofs.YtdhbhifgmbppjaaDoor
open Go.RowKit
set_option linter.unusedVariables false
attribute [local go_sem ↓] Go.wp_at_zero Go.wp_at_succ

/-- Where the sum begins. -/
def H0 : V8 := ⟨1779033703, 3144134277, 1013904242, 2773480762, 1359893119, 2600822924, 528734635, 1541459225⟩

/-- The cells at the beginning. -/
def cells0 : List Value := sCells H0.l (List.replicate 64 0) 0

def zero73 : Array Value := (sCells (List.replicate 8 0) (List.replicate 64 0) 0).toArray

theorem info_sum : (Tryd.prog.info? 78).map (fun i => (i.zero, i.size)) = some (some (.agg zero73), 73) := by kernel_rfl

set_option maxRecDepth 20000 in
set_option maxHeartbeats 2000000 in
theorem new_any (w : World) :
    Calls Tryd.prog 43 #[] w fun e w' => e = .returned (.agg cells0.toArray) ∧ Below w.heap.size w w' := by
  obtain ⟨hz, hi⟩ := zero_of_info info_sum
  go_enter Tryd.func43, Tryd.ntmps43
  have hz73 : zero73.size = 73 := by kernel_rfl
  have hset : (((((((zero73.setIfInBounds 0 (.int .u32 1779033703)).setIfInBounds 1 (.int .u32 3144134277)).setIfInBounds 2 (.int .u32 1013904242)).setIfInBounds 3 (.int .u32 2773480762)).setIfInBounds 4 (.int .u32 1359893119)).setIfInBounds 5 (.int .u32 2600822924)).setIfInBounds 6 (.int .u32 528734635)).setIfInBounds 7 (.int .u32 1541459225) = cells0.toArray := by kernel_rfl
  have H1 : Hid (cells0.toArray.size = 73) := by show _ = _; kernel_rfl
  have H2 : Hid ((Tryd.prog.info? 78).map (·.size) = some cells0.toArray.size) := by show _ = _; rw [H1.out]; exact hi
  have H3 : Hid (cells0.toArray.all (·.oneCell') = true) := by show _ = _; kernel_rfl
  have H4 : Hid (zero73.size = cells0.toArray.size) := by show _ = _; rw [H1.out, hz73]
  have H5 : Hid ((Tryd.prog.info? 78).map (·.size) = some cells0.length) := by show _ = _; rw [← List.size_toArray]; exact H2.out
  clear hi
  go_wp2_with (first
    | (refine wpList_store_mid (by rfl) 78 (.tmp 0) (.tmp 2) (by rfl) w.heap.size 0 cells0.toArray (by rfl) (by rfl) (new_there _ _ _ _ H4.out) H2.out H3.out ?_)
    | fail)
  have hrs := World.rangeAt_setCells_same (w.alloc (.cells zero73 78)) w.heap.size 0 cells0 (new_there _ _ _ _ (by rw [H4.out, List.size_toArray]))
  have hld := run_loadVar_mid (P := Tryd.prog) ((w.alloc (.cells zero73 78)).setCells w.heap.size 0 cells0) w.heap.size 0 78 cells0 _ hrs Tryd.underlying78 rfl H5.out
  refine bodyPost_ret (v := .agg cells0.toArray) ?_ rfl ⟨rfl, below_setCells _ (Nat.le_refl _) _ _ _ ((Below.refl _ _).alloc (Nat.le_refl _) _)⟩
  rw [results_one_cell rfl]
  show ((asAddr (.pointer (some ⟨w.heap.size, 0, none⟩))).run Tryd.prog ((w.alloc (.cells zero73 78)).setCells w.heap.size 0 cells0)).andThen _ = _
  simp only [asAddr, Sem.run_pure, Result.andThen_ok, hld]

end Go.Proofs.YtdhbhifgmbppjaaDoor

/- The walk of the program's own sum, whole. -/
namespace Go.Proofs.YtdhbhifgmbppjaaDoor
open Go.RowKit
set_option linter.unusedVariables false
attribute [local go_sem ↓] Go.wp_at_zero Go.wp_at_succ

/-- At the beginning. -/
theorem ShaAt.start {w : World} {B : Nat} (ks : List Int) (h : w.ownsRow B 78 1 (.slice (some ⟨B, 0, none⟩) 73 73) 73 cells0) : ShaAt w B ks H0 [] (List.replicate 64 0) :=
  ⟨by simp, fun j => by simp only [List.getD, List.getElem?_replicate]; split <;> simp, by simp, h⟩

theorem H0_ok : H0.ok := by unfold V8.ok H0; simp

theorem own_setCells_from {base : Nat} {e : TypeId} {g n cap : Nat} : ∀ (vs : List Value) (o : Nat) (w : World) (xs : List Value), w.ownsRow base e 1 (.slice (some ⟨g, 0, none⟩) n cap) n xs → o + vs.length ≤ xs.length →
    (w.setCells g o vs).ownsRow base e 1 (.slice (some ⟨g, 0, none⟩) n cap) n (xs.take o ++ vs ++ xs.drop (o + vs.length))
  | [], o, w, xs, h, hl => by
    simp only [World.setCells, List.append_nil, List.length_nil, Nat.add_zero, List.take_append_drop]
    exact h
  | v :: r, o, w, xs, h, hl => by
    simp only [List.length_cons] at hl
    have h1 := own_setCells_from r (o + 1) _ _ (h.stored o v).1 (by rw [List.length_set]; omega)
    have e1 : (xs.set o v).take (o + 1) = xs.take o ++ [v] := by
      rw [List.take_succ_eq_append_getElem (by rw [List.length_set]; omega), List.take_set, List.set_eq_of_length_le (by rw [List.length_take]; omega)]
      simp
    have e2 : (xs.set o v).drop (o + 1 + r.length) = xs.drop (o + (r.length + 1)) := by
      rw [List.drop_set_of_lt (by omega)]
      congr 1
      omega
    rw [e1, e2] at h1
    simpa [World.setCells] using h1

/-- A whole row of the call's own, written anew. -/
theorem own_setCellsS {w : World} {base : Nat} {e : TypeId} {g n cap : Nat} {xs : List Value} (vs : List Value) (h : w.ownsRow base e 1 (.slice (some ⟨g, 0, none⟩) n cap) n xs) (hl : vs.length = n) :
    (w.setCells g 0 vs).ownsRow base e 1 (.slice (some ⟨g, 0, none⟩) n cap) n vs := by
  have h0 := h.1
  have h1 := own_setCells_from vs 0 w xs h (by omega)
  rw [List.take_zero, List.nil_append, List.drop_eq_nil_of_le (by omega), List.append_nil] at h1
  exact h1

set_option maxRecDepth 20000 in
set_option maxHeartbeats 2000000 in
theorem implSha (s : ByteArray) (w : World) (ks : List Int) (hs : s.size ≤ 1048576) (hB0 : 0 < w.heap.size) (hT : Tab w ks) (hkr : ∀ j, 0 ≤ ks.getD j 0 ∧ ks.getD j 0 ≤ 4294967295) :
    Calls Tryd.prog 25 #[.string s] w fun e w' => e = .returned (.string (strOfNums (outL (shaN ks H0 (padL (nums s)) ((padL (nums s)).length / 64)).l 8))) ∧ Below w.heap.size w w' := by
  obtain ⟨hz, hi⟩ := zero_of_info info_sum
  have hz73 : zero73.size = 73 := by kernel_rfl
  have H1 : Hid (cells0.toArray.size = 73) := by show _ = _; kernel_rfl
  have H2 : Hid ((Tryd.prog.info? 78).map (·.size) = some cells0.toArray.size) := by show _ = _; rw [H1.out]; exact hi
  have H3 : Hid (cells0.toArray.all (·.oneCell') = true) := by show _ = _; kernel_rfl
  have H4 : Hid (zero73.size = cells0.toArray.size) := by show _ = _; rw [H1.out, hz73]
  have HI : Hid ((Tryd.prog.info? 78).map (·.size) = some 73) := hi
  have HT : Hid (Tab w ks) := hT
  have HK : Hid (∀ j, 0 ≤ ks.getD j 0 ∧ ks.getD j 0 ≤ 4294967295) := hkr
  clear hi hz73 hT hkr
  go_enter Tryd.func25, Tryd.ntmps25
  go_wp2_with fail
  refine (new_any _).mono ?_
  rintro e w1 ⟨rfl, hb1⟩
  generalize hC : cells0 = C at *
  have HC : Hid (cells0 = C) := hC
  clear hC
  generalize zero73 = Z at *
  go_wp2_with (first
    | (refine wpList_store_mid (by rfl) 78 (.tmp 3) (.tmp 4) (by rfl) w1.heap.size 0 C.toArray (by rfl) (by rfl) (new_there _ _ _ _ H4.out) H2.out H3.out ?_)
    | fail)
  have hZ : Z.size = 73 := by rw [H4.out, H1.out]
  have hown1 := World.ownsRow_lit (base := w1.heap.size) (size := 1) (e := 78) w1 Z 73 (Nat.le_refl _) (by decide) (by rw [hZ])
  have hown2 := own_setCellsS C hown1 (by rw [← List.size_toArray, H1.out])
  rw [← HC.out] at hown2
  have hA := ShaAt.start ks hown2
  have hbA : Below w1.heap.size w1 ((w1.alloc (.cells Z 78)).setCells w1.heap.size 0 C) := below_setCells _ (Nat.le_refl _) _ _ _ ((Below.refl _ _).alloc (Nat.le_refl _) _)
  have hT1 := HT.out.below hb1 hB0
  have hs1 := hb1.size
  rw [HC.out] at hA
  refine (take_any _ w1.heap.size ks H0 [] _ s (by omega) hA (hT1.below hbA (by omega)) HK.out H0_ok (by simp; omega)).mono ?_
  rintro e w2 ⟨rfl, hA2, hb2⟩
  obtain ⟨wt2, hA2⟩ := hA2
  rw [List.nil_append] at hA2
  have hb3 : Below w1.heap.size w1 w2 := hbA.trans hb2
  have hT2 := hT1.below hb3 (by omega)
  have hs2 := hb3.size
  have H5 : Hid (w2.rangeAt w1.heap.size 0 (sCells (shaN ks H0 (nums s) ((nums s).length / 64)).l wt2 (nums s).length)) := own_range hA2.own
  have hcl : (sCells (shaN ks H0 (nums s) ((nums s).length / 64)).l wt2 (nums s).length).length = 73 := by simp [sCells, V8.l, hA2.len]
  have H6 : Hid ((Tryd.prog.info? 78).map (·.size) = some (sCells (shaN ks H0 (nums s) ((nums s).length / 64)).l wt2 (nums s).length).length) := by show _ = _; rw [hcl]; exact HI.out
  have HA2 : Hid (ShaAt w2 w1.heap.size ks H0 (nums s) wt2) := hA2
  have HT2 : Hid (Tab w2 ks) := hT2
  have HB : Hid (Below w.heap.size w w2) := hb1.trans (hb3.mono hs1)
  have hnl := nums_length s
  clear hZ hown1 hown2 hA hbA hT1 hb2 hA2 hb3 hT2 hcl hz
  generalize hD : sCells (shaN ks H0 (nums s) ((nums s).length / 64)).l wt2 (nums s).length = D at *
  have HD : Hid (sCells (shaN ks H0 (nums s) ((nums s).length / 64)).l wt2 (nums s).length = D) := hD
  have HNL : Hid ((nums s).length = s.size) := hnl
  clear hD hnl
  go_wp2_with (first
    | (refine wpList_load_mid (by rfl) 78 (.tmp 3) (by rfl) w1.heap.size 0 (by rfl) D _ H5.out Tryd.underlying78 rfl H6.out ?_)
    | fail)
  have ht := tell_any w2 ks H0 (nums s) wt2 (by omega) HT2.out HK.out H0_ok (by rw [HNL.out]; exact hs) HA2.out.len HA2.out.range HA2.out.wait
  rw [HD.out] at ht
  refine ht.mono ?_
  clear ht
  rintro e w3 ⟨rfl, hb4⟩
  have HB3 : Hid (Below w.heap.size w w3) := HB.out.trans (hb4.mono (by omega))
  clear hb4
  go_wp2
  go_ret
  exact ⟨rfl, HB3.out⟩

end Go.Proofs.YtdhbhifgmbppjaaDoor

/- The walks of the two tables of the specification. -/
namespace Go.Proofs.YtdhbhifgmbppjaaDoor
open Go.RowKit
set_option linter.unusedVariables false

theorem info29 : (Tryd.prog.info? 63).map (fun i => (i.zero, i.size, i.bytes)) = some (some (.int .u32 0), 1, 4) := by kernel_rfl

/-- A row of words that lies in a block. -/
def RowAt (w : World) (b : Nat) (l : List Int) : Prop := ∀ j, j < l.length → w.cell? ⟨b, j, none⟩ = some (.int .u32 (l.getD j 0))

theorem RowAt.below {w w' : World} {B b : Nat} {l : List Int} (h : RowAt w b l) (hb : Below B w w') (hB : b < B) : RowAt w' b l := fun j hj => by
  rw [hb.cell (p := ⟨b, j, none⟩) hB]; exact h j hj

theorem RowAt.new (w : World) (l : List Int) (t : TypeId) : RowAt (w.alloc (.cells (l.map (Value.int .u32)).toArray t)) w.heap.size l := fun j hj => by
  have hg : (w.alloc (.cells (l.map (Value.int .u32)).toArray t)).heap[w.heap.size]? = some (.cells (l.map (Value.int .u32)).toArray t) := by
    show (w.heap.push _)[w.heap.size]? = _
    simp
  rw [cell_of_row _ _ j _ t (0, 0) hg]
  simp [List.getD, List.getElem?_eq_getElem hj]

/-- The table of the rounds. -/
def kL : List Int := [1116352408, 1899447441, 3049323471, 3921009573, 961987163, 1508970993, 2453635748, 2870763221, 3624381080, 310598401, 607225278, 1426881987, 1925078388, 2162078206, 2614888103, 3248222580, 3835390401, 4022224774, 264347078, 604807628, 770255983, 1249150122, 1555081692, 1996064986, 2554220882, 2821834349, 2952996808, 3210313671, 3336571891, 3584528711, 113926993, 338241895, 666307205, 773529912, 1294757372, 1396182291, 1695183700, 1986661051, 2177026350, 2456956037, 2730485921, 2820302411, 3259730800, 3345764771, 3516065817, 3600352804, 4094571909, 275423344, 430227734, 506948616, 659060556, 883997877, 958139571, 1322822218, 1537002063, 1747873779, 1955562222, 2024104815, 2227730452, 2361852424, 2428436474, 2756734187, 3204031479, 3329325298]

def hL : List Int := [1779033703, 3144134277, 1013904242, 2773480762, 1359893119, 2600822924, 528734635, 1541459225]

set_option maxRecDepth 20000 in
set_option maxHeartbeats 2000000 in
theorem begin_any (w : World) :
    Calls Tryd.prog 26 #[] w fun e w' => e = .returned (.slice (some ⟨w.heap.size, 0, none⟩) 8 8) ∧ w' = w.alloc (.cells (hL.map (Value.int .u32)).toArray 63) := by
  go_enter Tryd.func26, Tryd.ntmps26
  go_wp2
  go_ret
  exact ⟨rfl, rfl⟩

set_option maxRecDepth 20000 in
set_option maxHeartbeats 2000000 in
theorem table_any (w : World) :
    Calls Tryd.prog 27 #[] w fun e w' => e = .returned (.slice (some ⟨w.heap.size, 0, none⟩) 64 64) ∧ w' = w.alloc (.cells (kL.map (Value.int .u32)).toArray 63) := by
  go_enter Tryd.func27, Tryd.ntmps27
  go_wp2
  go_ret
  exact ⟨rfl, rfl⟩

end Go.Proofs.YtdhbhifgmbppjaaDoor

/- Plain facts on pieces of texts as numbers. -/
namespace Go.Proofs.YtdhbhifgmbppjaaDoor

theorem nums_extract (s : ByteArray) (i j : Nat) : nums (s.extract i j) = ((nums s).take j).drop i := by
  unfold nums
  rw [ByteArray.data_extract, Array.toList_extract, List.extract_eq_take_drop, List.map_take, List.map_drop, List.drop_take]

theorem strOf_nums (s : ByteArray) : strOfNums (nums s) = s := by
  unfold strOfNums nums
  rw [List.map_map]
  have e : (fun n : Int => UInt8.ofNat n.toNat) ∘ (fun c : UInt8 => ((c.toNat : Nat) : Int)) = id := by
    funext c
    simp
  rw [e, List.map_id]

theorem extract_strOf (s : ByteArray) (i : Nat) : s.extract i s.size = strOfNums ((nums s).drop i) := by
  rw [← strOf_nums (s.extract i s.size), nums_extract, List.take_of_length_le (by rw [nums_length]; exact Nat.le_refl _)]

theorem extract_size (s : ByteArray) (j : Nat) (h : j + 64 ≤ s.size) : (s.extract j (j + 64)).size = 64 := by
  rw [ByteArray.size_extract]; omega

theorem extract_block (s : ByteArray) (j : Nat) : nums (s.extract j (j + 64)) = ((nums s).drop j).take 64 := by
  rw [nums_extract, List.drop_take]
  congr 1
  omega

/-- What stands behind the whole blocks of p, with what is put behind it. -/
def restL (p : List Int) : List Int := p.drop (p.length / 64 * 64) ++ (128 :: List.replicate (zs p.length) 0 ++ 0 :: beL (8 * (p.length : Int)) 7)

theorem padL_split (p : List Int) : padL p = p.take (p.length / 64 * 64) ++ restL p := by
  unfold restL
  rw [← List.append_assoc, List.take_append_drop]
  unfold padL
  simp

theorem restL_length (p : List Int) : (restL p).length = p.length % 64 + 1 + zs p.length + 8 := by
  unfold restL
  simp [beL_length]
  omega

theorem restL_mod (p : List Int) : (restL p).length % 64 = 0 := by
  rw [restL_length]
  have := zs_at p.length
  omega

theorem restL_range (p : List Int) (hp : ∀ x ∈ p, 0 ≤ x ∧ x ≤ 255) : ∀ x ∈ restL p, 0 ≤ x ∧ x ≤ 255 := by
  intro x hx
  unfold restL at hx
  simp only [List.mem_append, List.mem_cons, List.mem_replicate] at hx
  rcases hx with hx | ((hx | ⟨_, hx⟩) | hx | hx)
  · exact hp x (List.mem_of_mem_drop hx)
  · omega
  · omega
  · omega
  · exact beL_range _ _ x hx

theorem nums_mem (s : ByteArray) : ∀ x ∈ nums s, 0 ≤ x ∧ x ≤ 255 := by
  intro x hx
  unfold nums at hx
  obtain ⟨c, _, rfl⟩ := List.mem_map.1 hx
  have := c.toNat_lt
  omega

/-- The block behind the whole blocks of p, and behind n more. -/
theorem shaN_rest (ks : List Int) (h0 : V8) (p : List Int) (n : Nat) : shaN ks h0 (padL p) (p.length / 64 + n + 1) = blk ks (shaN ks h0 (padL p) (p.length / 64 + n)) (((restL p).drop (64 * n)).take 64) := by
  show blk ks _ (((padL p).drop (64 * (p.length / 64 + n))).take 64) = _
  have e : (padL p).drop (64 * (p.length / 64 + n)) = (restL p).drop (64 * n) := by
    rw [padL_split]
    rw [show 64 * (p.length / 64 + n) = (p.take (p.length / 64 * 64)).length + 64 * n by rw [List.length_take]; omega]
    rw [List.drop_append]
    simp
  rw [e]

theorem shaN_whole (ks : List Int) (h0 : V8) (p : List Int) : shaN ks h0 (padL p) (p.length / 64) = shaN ks h0 p (p.length / 64) := by
  have e : padL p = p ++ ([128] ++ List.replicate (zs p.length) 0 ++ (0 :: beL (8 * (p.length : Int)) 7)) := by unfold padL; simp
  rw [e, shaN_append ks h0 p _ _ (by omega)]

theorem padL_blocks (p : List Int) : (padL p).length / 64 = p.length / 64 + (restL p).length / 64 := by
  rw [padL_length, restL_length]
  have := zs_at p.length
  omega

end Go.Proofs.YtdhbhifgmbppjaaDoor
