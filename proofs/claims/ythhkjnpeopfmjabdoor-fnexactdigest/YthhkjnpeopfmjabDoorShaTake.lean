/- The walk of what takes bytes (the program's own). -/
import Derived.Test.YthhkjnpeopfmjabDoorShaMix
import Derived.Test.YthhkjnpeopfmjabDoorShaPMath
namespace Go.Proofs.YthhkjnpeopfmjabDoor
open Go.RowKit
set_option linter.unusedVariables false
attribute [local go_sem ↓] Go.wp_at_zero Go.wp_at_succ

/-- In block B lies the sum under way behind the bytes p. -/
structure ShaAt (w : World) (B : Nat) (ks : List Int) (h0 : V8) (p wt : List Int) : Prop where
  len : wt.length = 64
  range : ∀ j, 0 ≤ wt.getD j 0 ∧ wt.getD j 0 ≤ 255
  wait : wt.take (p.length % 64) = p.drop (64 * (p.length / 64))
  own : w.ownsRow B 63 1 (.slice (some ⟨B, 0, none⟩) 73 73) 73 (sCells (shaN ks h0 p (p.length / 64)).l wt p.length)

/-- The table lies in its place. -/
def Tab (w : World) (ks : List Int) : Prop := ∀ j, j < 64 → w.cell? ⟨0, j, none⟩ = some (.int .u32 (ks.getD j 0))

theorem Tab.below {w w' : World} {B : Nat} {ks : List Int} (h : Tab w ks) (hb : Below B w w') (hB : 0 < B) : Tab w' ks := fun j hj => by
  rw [hb.cell (p := ⟨0, j, none⟩) hB]; exact h j hj

/-- Behind one byte more, before the block is brought in where it is whole. -/
theorem ShaAt.put {w : World} {B : Nat} {ks : List Int} {h0 : V8} {p wt : List Int} (h : ShaAt w B ks h0 p wt) (x : Int) :
    (((w.setCell ⟨B, 8 + p.length % 64, none⟩ (.int .u8 x)).setCell ⟨B, 72, none⟩ (.int .i64 ((p.length : Int) + 1))).drew).ownsRow B 63 1 (.slice (some ⟨B, 0, none⟩) 73 73) 73 (sCells (shaN ks h0 p (p.length / 64)).l (wt.set (p.length % 64) x) ((p.length : Int) + 1)) := by
  have h1 := (h.own.stored (8 + p.length % 64) (.int .u8 x)).1
  rw [sCells_set_wt _ _ _ _ _ rfl (by rw [h.len]; omega)] at h1
  have h2 := (h1.stored 72 (.int .i64 ((p.length : Int) + 1))).1
  rw [sCells_set_sz _ _ _ _ rfl (by rw [List.length_set, h.len])] at h2
  exact h2.drew

theorem ShaAt.next {w : World} {B : Nat} {ks : List Int} {h0 : V8} {p wt : List Int} (h : ShaAt w B ks h0 p wt) (x : Int) (hx : 0 ≤ x ∧ x ≤ 255) (hr : (p.length + 1) % 64 ≠ 0) :
    ShaAt (((w.setCell ⟨B, 8 + p.length % 64, none⟩ (.int .u8 x)).setCell ⟨B, 72, none⟩ (.int .i64 ((p.length : Int) + 1))).drew) B ks h0 (p ++ [x]) (wt.set (p.length % 64) x) := by
  have e1 : (p ++ [x]).length = p.length + 1 := by simp
  have e2 : (p.length + 1) / 64 = p.length / 64 := by omega
  have e3 : (p.length + 1) % 64 = p.length % 64 + 1 := by omega
  refine ⟨by rw [List.length_set, h.len], set_range wt x _ hx h.range, ?_, ?_⟩
  · rw [e1, e2, e3]
    exact step_part p wt x _ _ h.len (by omega) (by omega) h.wait
  · rw [e1, e2, shaN_append _ _ _ _ _ (by omega)]
    have := h.put x
    rw [show ((p.length + 1 : Nat) : Int) = (p.length : Int) + 1 by omega]
    exact this

theorem ShaAt.whole {w' : World} {B : Nat} {ks : List Int} {h0 : V8} {p wt : List Int} (x : Int) (hx : 0 ≤ x ∧ x ≤ 255) (hr : (p.length + 1) % 64 = 0)
    (hl : wt.length = 64) (hrg : ∀ j, 0 ≤ wt.getD j 0 ∧ wt.getD j 0 ≤ 255) (hw : wt.take (p.length % 64) = p.drop (64 * (p.length / 64)))
    (ho : w'.ownsRow B 63 1 (.slice (some ⟨B, 0, none⟩) 73 73) 73 (sCells (blk ks (shaN ks h0 p (p.length / 64)) (wt.set (p.length % 64) x)).l (wt.set (p.length % 64) x) ((p.length : Int) + 1))) :
    ShaAt w' B ks h0 (p ++ [x]) (wt.set (p.length % 64) x) := by
  have e1 : (p ++ [x]).length = p.length + 1 := by simp
  have e2 : (p.length + 1) / 64 = p.length / 64 + 1 := by omega
  have e3 : p.length % 64 = 63 := by omega
  refine ⟨by rw [List.length_set, hl], set_range wt x _ hx hrg, ?_, ?_⟩
  · rw [e1, e2, hr, List.drop_eq_nil_of_le (by rw [e1]; omega)]
    rfl
  · rw [e3] at ho hw
    rw [e1, e2, e3, show ((p.length + 1 : Nat) : Int) = (p.length : Int) + 1 by omega]
    have e4 : shaN ks h0 (p ++ [x]) (p.length / 64 + 1) = blk ks (shaN ks h0 p (p.length / 64)) (wt.set 63 x) := by
      show blk ks (shaN ks h0 (p ++ [x]) (p.length / 64)) _ = _
      rw [shaN_append _ _ _ _ _ (by omega), ← step_full p wt x (p.length / 64) hl (by omega) hw]
    rw [e4]
    exact ho

set_option maxRecDepth 20000 in
set_option maxHeartbeats 2000000 in
theorem take_any (w : World) (B : Nat) (ks : List Int) (h0 : V8) (p wt : List Int) (s : ByteArray) (hB0 : 0 < B) (hA : ShaAt w B ks h0 p wt) (hT : Tab w ks) (hkr : ∀ j, 0 ≤ ks.getD j 0 ∧ ks.getD j 0 ≤ 4294967295) (hok : h0.ok) (hsz : p.length + s.size ≤ 4611686018427387904) :
    Calls Tryd.prog 29 #[.pointer (some ⟨B, 0, none⟩), .string s] w fun e w' => e = .returned (.tuple #[]) ∧ (∃ wt', ShaAt w' B ks h0 (p ++ nums s) wt') ∧ Below B w w' := by
  have HA : Hid (ShaAt w B ks h0 p wt) := hA
  have HT : Hid (Tab w ks) := hT
  have HK : Hid (∀ j, 0 ≤ ks.getD j 0 ∧ ks.getD j 0 ≤ 4294967295) := hkr
  clear hA hT hkr
  go_enter Tryd.func29, Tryd.ntmps29
  go_wp2
  go_loopw [7] (fun i wr => ∃ k : Nat, k ≤ s.size ∧ i = .int .i64 k ∧ Hid (∃ wt', ShaAt wr B ks h0 (p ++ (nums s).take k) wt') ∧ Below B w wr) (fun i _ => s.size - (intOf i).toNat)
  case atStart => exact ⟨0, Nat.zero_le _, rfl, ⟨wt, by simpa using HA.out⟩, Below.refl _ _⟩
  case round =>
    obtain ⟨k, hk, rfl, HS, hbel⟩ := hrel
    by_cases hlt : k < s.size
    · obtain ⟨wt', hS⟩ := HS.out
      have hq := nums_take_succ s k hlt
      have hpl : (p ++ (nums s).take k).length = p.length + k := by rw [List.length_append, List.length_take, nums_length]; omega
      have HQ : Hid (p ++ (nums s).take (k + 1) = (p ++ (nums s).take k) ++ [((s[k]).toNat : Int)]) := by show _ = _; rw [hq, List.append_assoc]
      clear hq HS
      obtain ⟨q, hqq⟩ : ∃ q, p ++ (nums s).take k = q := ⟨_, rfl⟩
      rw [hqq] at hS hpl HQ
      obtain ⟨N, hN⟩ : ∃ N, q.length = N := ⟨_, rfl⟩
      have hby : ((s[k]).toNat : Int) < 256 := by have := (s[k]).toNat_lt; omega
      have hc72 : wr.cell? ⟨B, 72, none⟩ = some (.int .i64 N) := by rw [hS.own.cellAt 72 (by omega), sCells_sz _ _ _ rfl hS.len, hN]
      have hcr : wr.cell? ⟨B, 8 + N % 64, none⟩ = some (.int .u8 (wt'.getD (N % 64) 0)) := by rw [hS.own.cellAt (8 + N % 64) (by omega), sCells_wt _ _ _ rfl hS.len _ (by omega)]
      have hf72 := hS.own.frozenAt 72
      have hfr := hS.own.frozenAt (8 + N % 64)
      have hput := hS.put ((s[k]).toNat : Int)
      have hnext := hS.next ((s[k]).toNat : Int) (by omega)
      rw [hN] at hput hnext
      have HSS : Hid (ShaAt wr B ks h0 q wt') := hS
      have HPUT : Hid ((((wr.setCell ⟨B, 8 + N % 64, none⟩ (.int .u8 ((s[k]).toNat : Int))).setCell ⟨B, 72, none⟩ (.int .i64 ((N : Int) + 1))).drew).ownsRow B 63 1 (.slice (some ⟨B, 0, none⟩) 73 73) 73 (sCells (shaN ks h0 q (N / 64)).l (wt'.set (N % 64) ((s[k]).toNat : Int)) ((N : Int) + 1))) := hput
      have HNX : Hid ((N + 1) % 64 ≠ 0 → ShaAt (((wr.setCell ⟨B, 8 + N % 64, none⟩ (.int .u8 ((s[k]).toNat : Int))).setCell ⟨B, 72, none⟩ (.int .i64 ((N : Int) + 1))).drew) B ks h0 (q ++ [((s[k]).toNat : Int)]) (wt'.set (N % 64) ((s[k]).toNat : Int))) := hnext
      have HB2 : Hid (Below B w (((wr.setCell ⟨B, 8 + N % 64, none⟩ (.int .u8 ((s[k]).toNat : Int))).setCell ⟨B, 72, none⟩ (.int .i64 ((N : Int) + 1))).drew)) := ((hbel.setCell (Nat.le_refl _) _).setCell (Nat.le_refl _) _).drew
      have HNN : Hid (q.length = N) := hN
      have hNb : (N : Int) ≤ 4611686018427387904 := by omega
      clear hS hput hnext hqq hN hpl
      have i0 : (0 : Int) ≤ (N : Int) % 64 := by omega
      have i1 : (N : Int) % 64 < 64 := by omega
      go_wp2
      go_region
      by_cases hm : ((N : Int) + 1) % 64 = 0
      · have hm1 : (((N : Int) + 1) % 64 == 0) = true := by rw [hm]; rfl
        have HM : Hid ((N + 1) % 64 = 0) := by show _ = _; omega
        clear hm
        go_wp2_with fail
        refine (mix_any _ B ks (shaN ks h0 q (N / 64)) _ ((N : Int) + 1) (by rw [List.length_set]; exact HSS.out.len) (set_range wt' _ _ (by omega) HSS.out.range) (shaN_ok ks h0 q hok _) hB0 (HT.out.below HB2.out hB0) HK.out HPUT.out).mono ?_
        rintro e w1 ⟨rfl, ho1, hb1⟩
        have HF : Hid (ShaAt w1 B ks h0 (q ++ [((s[k]).toNat : Int)]) (wt'.set (N % 64) ((s[k]).toNat : Int))) := by
          have hS := HSS.out
          have hN := HNN.out
          show ShaAt w1 B ks h0 (q ++ [((s[k]).toNat : Int)]) (wt'.set (N % 64) ((s[k]).toNat : Int))
          rw [← hN]
          refine ShaAt.whole ((s[k]).toNat : Int) (by omega) (by rw [hN]; exact HM.out) hS.len hS.range hS.wait ?_
          rw [hN]
          exact ho1
        have HB3 : Hid (Below B w w1) := HB2.out.trans hb1
        clear ho1 hb1
        go_wp2
        exact ⟨⟨k + 1, by omega, by go_num, ⟨_, by rw [HQ.out]; exact HF.out⟩, HB3.out⟩, by simp [intOf]; omega⟩
      · have hm1 : (((N : Int) + 1) % 64 == 0) = false := by simp [hm]
        have HM : Hid ((N + 1) % 64 ≠ 0) := by show _ ≠ _; omega
        clear hm
        go_wp2
        exact ⟨⟨k + 1, by omega, by go_num, ⟨_, by rw [HQ.out]; exact HNX.out HM.out⟩, HB2.out⟩, by simp [intOf]; omega⟩
    · have : k = s.size := by omega
      subst this
      have HF : Hid (∃ wt', ShaAt wr B ks h0 (p ++ nums s) wt') := by
        obtain ⟨wt', h⟩ := HS.out
        refine ⟨wt', ?_⟩
        rw [List.take_of_length_le (by rw [nums_length]; exact Nat.le_refl _)] at h
        exact h
      clear HS
      go_wp2
      go_end0
      exact ⟨rfl, HF.out, hbel⟩

end Go.Proofs.YthhkjnpeopfmjabDoor
