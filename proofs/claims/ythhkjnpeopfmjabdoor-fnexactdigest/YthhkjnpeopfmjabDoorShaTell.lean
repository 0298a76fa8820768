/- The walk of what tells the sum (the program's own). -/
import Derived.Test.YthhkjnpeopfmjabDoorShaTake
import Derived.Test.YthhkjnpeopfmjabDoorShaTMath
import Derived.Test.YthhkjnpeopfmjabDoorFixWalk
namespace Go.Proofs.YthhkjnpeopfmjabDoor
open Go.RowKit
set_option linter.unusedVariables false
attribute [local go_sem ↓] Go.wp_at_zero Go.wp_at_succ

/-- How many bytes the sum in block B has taken. -/
def sizeAt (w : World) (B : Nat) : Int := match w.cell? ⟨B, 72, none⟩ with | some (.int _ n) => n | _ => 0

theorem ShaAt.size {w : World} {B : Nat} {ks : List Int} {h0 : V8} {p wt : List Int} (h : ShaAt w B ks h0 p wt) : w.cell? ⟨B, 72, none⟩ = some (.int .i64 p.length) := by
  rw [h.own.cellAt 72 (by omega), sCells_sz _ _ _ rfl h.len]

set_option maxRecDepth 20000 in
set_option maxHeartbeats 2000000 in
theorem tell_any (w : World) (ks : List Int) (h0 : V8) (p wt : List Int) (hB0 : 0 < w.heap.size) (hT : Tab w ks) (hkr : ∀ j, 0 ≤ ks.getD j 0 ∧ ks.getD j 0 ≤ 4294967295) (hok : h0.ok) (hsz : p.length ≤ 1048576)
    (hl : wt.length = 64) (hrg : ∀ j, 0 ≤ wt.getD j 0 ∧ wt.getD j 0 ≤ 255) (hw : wt.take (p.length % 64) = p.drop (64 * (p.length / 64))) :
    Calls Tryd.prog 30 #[.agg (sCells (shaN ks h0 p (p.length / 64)).l wt p.length).toArray] w fun e w' => e = .returned (.string (strOfNums (outL (shaN ks h0 (padL p) ((padL p).length / 64)).l 8))) ∧ Below w.heap.size w w' := by
  have HT : Hid (Tab w ks) := hT
  have HK : Hid (∀ j, 0 ≤ ks.getD j 0 ∧ ks.getD j 0 ≤ 4294967295) := hkr
  have hcl : (sCells (shaN ks h0 p (p.length / 64)).l wt p.length).length = 73 := by simp [sCells, V8.l, hl]
  have HA : Hid (ShaAt (w.alloc (.cells (sCells (shaN ks h0 p (p.length / 64)).l wt p.length).toArray 63)) w.heap.size ks h0 p wt) :=
    ⟨hl, hrg, hw, World.ownsRow_lit w (sCells (shaN ks h0 p (p.length / 64)).l wt p.length).toArray 73 (Nat.le_refl _) (by decide) (by rw [List.size_toArray, hcl])⟩
  have HB : Hid (Below w.heap.size w (w.alloc (.cells (sCells (shaN ks h0 p (p.length / 64)).l wt p.length).toArray 63))) := (Below.refl _ _).alloc (Nat.le_refl _) _
  have hc72 := HA.out.size
  generalize (sCells (shaN ks h0 p (p.length / 64)).l wt p.length) = C at *
  have HC : Hid (C.length = 73) := hcl
  clear hT hkr hl hrg hw hcl
  go_enter Tryd.func30, Tryd.ntmps30
  go_wp2_with fail
  refine (take_any _ w.heap.size ks h0 p wt ⟨#[128]⟩ hB0 HA.out (HT.out.below HB.out hB0) HK.out hok (by show p.length + 1 ≤ _; omega)).mono ?_
  rintro e w1 ⟨rfl, hA1, hb1⟩
  have HA1 : Hid (∃ wt', ShaAt w1 w.heap.size ks h0 (p ++ [128] ++ List.replicate 0 0) wt') := by
    obtain ⟨wt', h⟩ := hA1
    refine ⟨wt', ?_⟩
    rw [List.replicate_zero, List.append_nil]
    exact h
  have HB1 : Hid (Below w.heap.size w w1) := HB.out.trans hb1
  clear hA1 hb1 HA HB hc72
  go_wp2_with fail
  go_loopw [] (fun wr => ∃ k : Nat, k ≤ zs p.length ∧ Hid (∃ wt', ShaAt wr w.heap.size ks h0 (p ++ [128] ++ List.replicate k 0) wt') ∧ Below w.heap.size w wr) (fun wr => (p.length + 65 - sizeAt wr w.heap.size).toNat)
  case atStart => exact ⟨0, Nat.zero_le _, HA1.out, HB1.out⟩
  case round =>
    obtain ⟨k, hk, HS, hbel⟩ := hrel
    clear HA1 HB1
    have hk64 := zs_lt p.length
    obtain ⟨N, hN⟩ : ∃ N, p.length + 1 + k = N := ⟨_, rfl⟩
    have hc72 : wr.cell? ⟨w.heap.size, 72, none⟩ = some (.int .i64 N) := by
      obtain ⟨wt', h⟩ := HS.out
      rw [h.size, ← hN]
      simp
      omega
    have hsa : sizeAt wr w.heap.size = N := by unfold sizeAt; rw [hc72]
    have HSA : Hid (sizeAt wr w.heap.size = N) := hsa
    clear hsa
    by_cases hlt : k < zs p.length
    · have hz := zs_before p.length k hlt
      rw [hN] at hz
      have hne : ((N : Int) % 64 != 56) = true := by simp; omega
      clear hz
      obtain ⟨wt', hS⟩ := HS.out
      have HSS : Hid (ShaAt wr w.heap.size ks h0 (p ++ [128] ++ List.replicate k 0) wt') := hS
      have HN : Hid (p.length + 1 + k = N) := hN
      clear hS HS hN
      go_wp2_with fail
      refine (take_any _ w.heap.size ks h0 _ wt' ⟨#[0]⟩ hB0 HSS.out (HT.out.below hbel hB0) HK.out hok (by show _ + 1 ≤ _; simp; omega)).mono ?_
      rintro e w2 ⟨rfl, hA2, hb2⟩
      have HA2 : Hid (∃ wt', ShaAt w2 w.heap.size ks h0 (p ++ [128] ++ List.replicate (k + 1) 0) wt') := by
        obtain ⟨wt', h⟩ := hA2
        refine ⟨wt', ?_⟩
        rw [List.replicate_succ', ← List.append_assoc]
        exact h
      have hsb : sizeAt w2 w.heap.size = (N : Int) + 1 := by
        obtain ⟨wt', h⟩ := HA2.out
        have := HN.out
        unfold sizeAt
        rw [h.size]
        simp
        omega
      have HSB : Hid (sizeAt w2 w.heap.size = (N : Int) + 1) := hsb
      have HB2 : Hid (Below w.heap.size w w2) := hbel.trans hb2
      clear hA2 hb2 hsb
      go_wp2
      exact ⟨⟨k + 1, by omega, HA2.out, HB2.out⟩, by rw [HSB.out, HSA.out]; have := HN.out; omega⟩
    · have : k = zs p.length := by omega
      subst this
      have hz := zs_at p.length
      rw [hN] at hz
      have hne : ((N : Int) % 64 != 56) = false := by simp; omega
      obtain ⟨wt', hS⟩ := HS.out
      have HSS : Hid (ShaAt wr w.heap.size ks h0 (p ++ [128] ++ List.replicate (zs p.length) 0) wt') := hS
      clear hS HS hN hz HSA
      go_wp2_with fail
      refine (implFix_yes (8 * (p.length : Int)) 7 _ (by omega) (by omega) (by omega) (by omega) (fq_small _ _ (by omega) (by show _ < (2 : Int) ^ 56; omega))).mono ?_
      rintro e w2 ⟨rfl, hb2⟩
      have HSS2 : Hid (ShaAt w2 w.heap.size ks h0 (p ++ [128] ++ List.replicate (zs p.length) 0) wt') := by
        have h := HSS.out
        exact ⟨h.len, h.range, h.wait, own_below h.own hb2 (h.own.lt w.heap.size rfl).2⟩
      have hbw : Below w.heap.size w w2 := hbel.trans (hb2.mono hbel.size)
      have had : ∀ w, (Op.stringOp .add ⟨#[0]⟩ (strOfNums (beL (8 * (p.length : Int)) 7))).run Tryd.prog w = .ok (.string (strOfNums (0 :: beL (8 * (p.length : Int)) 7))) w := fun w =>
        run_add_nums [0] (beL (8 * (p.length : Int)) 7) (by rw [beL_length]; simp) w
      clear hb2 HSS
      go_wp2_with fail
      refine (take_any _ w.heap.size ks h0 _ wt' (strOfNums (0 :: beL (8 * (p.length : Int)) 7)) hB0 HSS2.out (HT.out.below hbw hB0) HK.out hok (by rw [strOfNums_size]; simp [beL_length]; omega)).mono ?_
      rintro e w3 ⟨rfl, hA3, hb3⟩
      rw [nums_strOf _ (by intro x hx; simp only [List.mem_cons] at hx; rcases hx with rfl | hx; omega; exact beL_range _ _ x hx)] at hA3
      have hbw3 : Below w.heap.size w w3 := hbw.trans hb3
      obtain ⟨wt3, hA3⟩ := hA3
      have hown3 := hA3.own
      have HV : Hid ((shaN ks h0 (padL p) ((padL p).length / 64)).ok) := shaN_ok ks h0 _ hok _
      have hra : w3.rangeAt w.heap.size 0 ((shaN ks h0 (padL p) ((padL p).length / 64)).l.map (Value.int .u32)) := by
        intro j v hv
        have hj : j < 8 := (List.getElem?_eq_some_iff.1 hv).1
        rw [Nat.zero_add, hown3.cellAt j (by omega), sCells_st _ _ _ rfl j hj, ← hv, l_cell _ j hj]
        rfl
      clear hA3 hown3 HSS2 hbw hb3 hbel had
      generalize hV : shaN ks h0 (padL p) ((padL p).length / 64) = V at *
      have HE : Hid (shaN ks h0 (padL p) ((padL p).length / 64) = V) := hV
      have HRA : Hid (w3.rangeAt w.heap.size 0 (V.l.map (Value.int .u32))) := hra
      clear hra hV
      go_wp2_with (first
        | (refine wpList_load_mid (by rfl) 60 (.tmp 20) (by rfl) w.heap.size 0 (by rfl) (V.l.map (Value.int .u32)) _ HRA.out Tryd.underlying60 rfl (by kernel_rfl) ?_)
        | fail)
      go_loopw [4, 22] (fun o i wr => ∃ k : Nat, k ≤ 8 ∧ i = .int .i64 k ∧ o = .string (strOfNums (outL V.l k)) ∧ Below w.heap.size w wr) (fun _ i _ => 8 - (intOf i).toNat)
      case atStart => exact ⟨0, by omega, rfl, rfl, hbw3⟩
      case round =>
        obtain ⟨m, hm, rfl, rfl, hbr⟩ := hrel
        by_cases hl8 : m < 8
        · have hix := index8 _ m _ hl8 (l_cell V m hl8)
          obtain ⟨x0, x1⟩ := l_getD_range V HV.out m
          have had : ∀ w, (Op.stringOp .add (strOfNums (outL V.l m)) (strOfNums (beL (V.l.getD m 0) 4))).run Tryd.prog w = .ok (.string (strOfNums (outL V.l (m + 1)))) w := fun w =>
            run_add_nums (outL V.l m) (beL (V.l.getD m 0) 4) (by rw [beL_length, outL_length]; omega) w
          obtain ⟨x, hx⟩ : ∃ x, V.l.getD m 0 = x := ⟨_, rfl⟩
          rw [hx] at hix x0 x1 had
          clear hx
          have i0 : (0 : Int) ≤ (m : Int) := by omega
          have i1 : (m : Int) < 8 := by omega
          go_wp2_with fail
          refine (implFix_yes x 4 _ x0 (by omega) (by omega) (by omega) (fq_small _ _ x0 (by show _ < (2 : Int) ^ 32; omega))).mono ?_
          rintro e w4 ⟨rfl, hb4⟩
          have hb5 : Below w.heap.size w w4 := hbr.trans (hb4.mono hbr.size)
          clear hb4
          go_wp2
          exact ⟨⟨m + 1, by omega, by go_num, rfl, hb5⟩, by simp [intOf]; omega⟩
        · have : m = 8 := by omega
          subst this
          go_wp2
          go_ret
          refine ⟨?_, hbr⟩
          rw [HE.out]
          rfl

end Go.Proofs.YthhkjnpeopfmjabDoor
