/- The walk of the specification's own sum, whole. -/
import Derived.Test.YtdhbhifgmbppjaaDoorJSb
import Derived.Test.YtdhbhifgmbppjaaDoorJSa
import Derived.Deep.QuietTactic
import Derived.BigQuiet
import Derived.Deep.DrawnRows
import Derived.Deep.CutRange
import Derived.Deep.RegionLaw
import Derived.Deep.AppendLies
namespace Go.Proofs.YtdhbhifgmbppjaaDoor
open Go.RowKit
set_option linter.unusedVariables false
attribute [local go_sem ↓] Go.wp_at_zero Go.wp_at_succ

/-- What is asked of the one that brings a block in. -/
def BlockSays : Prop := ∀ (w : World) (hb hcap kb kcap : Nat) (st : V8) (ks : List Int) (b : ByteArray), b.size = 64 → st.ok → ks.length = 64 → (∀ j, 0 ≤ ks.getD j 0 ∧ ks.getD j 0 ≤ 4294967295) →
    RowAt w hb st.l → RowAt w kb ks → hb < w.heap.size → kb < w.heap.size →
    Calls Tryd.prog 29 #[.slice (some ⟨hb, 0, none⟩) 8 hcap, .slice (some ⟨kb, 0, none⟩) 64 kcap, .string b] w fun e w' => ∃ g cap, e = .returned (.slice (some ⟨g, 0, none⟩) 8 cap) ∧ RowAt w' g (blk ks st (nums b)).l ∧ g < w'.heap.size ∧ Below w.heap.size w w'

/-- The first byte behind the text and k noughts. -/
def pad1 (k : Nat) : List Int := 128 :: List.replicate k 0

theorem pad1_length (k : Nat) : (pad1 k).length = 1 + k := by simp [pad1]; omega

theorem pad1_snoc (k : Nat) : (pad1 k).map (Value.int .u8) ++ [.int .u8 0] = (pad1 (k + 1)).map (Value.int .u8) := by
  simp [pad1, List.replicate_succ']

theorem step_conv {P : Program} {ops : Array Oper} {o : Oper} {a : Act} {w : World} {K : Act → World → Prop} {Q : Exit → Act → World → Prop} {E : Prop} (hg : o.guard = none) (x : Operand)
    (hop : o.op = .convert 22 9 x) (v : Value) (hx : a.eval x = v) (r : Value) (hrun : (convert 22 9 v).run P w = .ok r w) (hK : K (a.put o.dst r) w) :
    if Region.wanted o (yielded ops a.tmps) = true then Oper.wp P o a w K Q else E := by
  have hw : Region.wanted o (yielded ops a.tmps) = true := by simp [Region.wanted, hg]
  rw [if_pos hw]
  unfold Oper.wp
  simp [execOp, hop, hx, hrun, Result.andThen]
  exact hK

theorem own_keep {w w' : World} {N base : Nat} {e : TypeId} {size : Nat} {g n cap k : Nat} {xs : List Value} (h : w.ownsRow base e size (.slice (some ⟨g, 0, none⟩) n cap) k xs) (hb : Below N w w') (hg : g < N) : w'.ownsRow base e size (.slice (some ⟨g, 0, none⟩) n cap) k xs := by
  obtain ⟨h1, h2⟩ := h
  refine ⟨h1, ?_⟩
  rcases h2 with ⟨h2, _⟩ | ⟨g', cap', cur, hv, hg', hh, r⟩
  · simp at h2
  · have hv' := hv
    simp only [Value.slice.injEq, Option.some.injEq, Addr.mk.injEq, and_true] at hv'
    obtain ⟨rfl, _⟩ := hv'
    exact Or.inr ⟨g, cap', cur, hv, hg', by rw [hb.block g hg]; exact hh, r⟩

theorem any_gen {P : Program} {md : Region.Mode} {ops : Array Oper} {Q : Exit → Act → World → Prop} {fuel : Nat} {listed : Array Bool} {a : Act} (F : World → Prop) {W0 : World} (h0 : F W0) (h : ∀ W, F W → wpAny P md ops Q fuel listed a W) : wpAny P md ops Q fuel listed a W0 := h W0 h0

theorem step_build {ops : Array Oper} {o : Oper} {a : Act} {w : World} {K : Act → World → Prop} {Q : Exit → Act → World → Prop} {E : Prop} (hg : o.guard = none)
    (hop : o.op = .buildSlice 22 1 #[(0, .const (.int .u8 0))]) (hK : K (a.put o.dst (.slice (some ⟨w.heap.size, 0, none⟩) 1 1)) (w.alloc (.cells #[.int .u8 0] 5))) :
    if Region.wanted o (yielded ops a.tmps) = true then Oper.wp Tryd.prog o a w K Q else E := by
  have hw : Region.wanted o (yielded ops a.tmps) = true := by simp [Region.wanted, hg]
  rw [if_pos hw]
  unfold Oper.wp
  simp [execOp, hop, go_sem, Result.andThen, Act.eval]
  exact hK

theorem kL_range (j : Nat) : 0 ≤ kL.getD j 0 ∧ kL.getD j 0 ≤ 4294967295 := by
  have h : ∀ x ∈ kL, 0 ≤ x ∧ x ≤ 4294967295 := by decide
  by_cases hj : j < kL.length
  · rw [List.getD, List.getElem?_eq_getElem hj]
    exact h _ (List.getElem_mem hj)
  · rw [List.getD, List.getElem?_eq_none (by omega)]
    simp

theorem v8_range (x : V8) (h : x.ok) (k : Nat) : 0 ≤ x.l.getD k 0 ∧ x.l.getD k 0 ≤ 4294967295 := by
  obtain ⟨h1, h2, h3, h4, h5, h6, h7, h8⟩ := h
  rcases k with _ | _ | _ | _ | _ | _ | _ | _ | k
  · exact h1
  · exact h2
  · exact h3
  · exact h4
  · exact h5
  · exact h6
  · exact h7
  · exact h8
  · simp [V8.l]

def lenIn : Value → Nat
  | .slice _ n _ => n
  | _ => 0

set_option maxRecDepth 20000 in
set_option maxHeartbeats 4000000 in
theorem specSha (HBLK : Hid BlockSays) (s : ByteArray) (w : World) (hs : s.size ≤ 1048576) :
    Calls Tryd.prog 11 #[.string s] w fun e w' => e = .returned (.string (strOfNums (outL (shaN kL ⟨1779033703, 3144134277, 1013904242, 2773480762, 1359893119, 2600822924, 528734635, 1541459225⟩ (padL (nums s)) ((padL (nums s)).length / 64)).l 8))) ∧ Below w.heap.size w w' := by
  obtain ⟨i0, hi, hz0, hz1, hz2⟩ := info_parts info5
  go_enter Tryd.func11, Tryd.ntmps11
  go_wp2_with fail
  refine (begin_any _).mono ?_
  rintro e w1 ⟨rfl, rfl⟩
  have hr1 := RowAt.new w hL 63
  have hb1 : Below w.heap.size w (w.alloc (.cells (hL.map (Value.int .u32)).toArray 63)) := (Below.refl _ _).alloc (Nat.le_refl _) _
  have hs1 : (w.alloc (.cells (hL.map (Value.int .u32)).toArray 63)).heap.size = w.heap.size + 1 := by simp
  generalize w.alloc (.cells (hL.map (Value.int .u32)).toArray 63) = w1 at *
  go_wp2_with fail
  refine (table_any _).mono ?_
  rintro e w2 ⟨rfl, rfl⟩
  have hr2 := RowAt.new w1 kL 63
  have hb2 : Below w1.heap.size w1 (w1.alloc (.cells (kL.map (Value.int .u32)).toArray 63)) := (Below.refl _ _).alloc (Nat.le_refl _) _
  have hs2 : (w1.alloc (.cells (kL.map (Value.int .u32)).toArray 63)).heap.size = w.heap.size + 2 := by simp [hs1]
  generalize w1.alloc (.cells (kL.map (Value.int .u32)).toArray 63) = w2 at *
  rw [hs1] at hr2 hb2
  have HR1 : Hid (RowAt w2 w.heap.size hL) := hr1.below hb2 (by omega)
  have HR2 : Hid (RowAt w2 (w.heap.size + 1) kL) := hr2
  have HB2 : Hid (Below w.heap.size w w2) := hb1.trans (hb2.mono (by omega))
  rw [hs1]
  have HS2 : Hid (w2.heap.size = w.heap.size + 2) := hs2
  clear hr1 hr2 hb1 hb2 hs1
  clear w1
  go_wp2_with fail
  go_loopw [5] (fun v wr => ∃ k g cap : Nat, k ≤ zs s.size ∧ v = .slice (some ⟨g, 0, none⟩) (1 + k) cap ∧ wr.ownsRow (w.heap.size + 2) 5 1 (.slice (some ⟨g, 0, none⟩) (1 + k) cap) (1 + k) ((pad1 k).map (Value.int .u8)) ∧ Below (w.heap.size + 2) w2 wr) (fun v _ => 65 - lenIn v)
  case atStart =>
    refine ⟨0, w.heap.size + 2, 1, Nat.zero_le _, rfl, ?_, (Below.refl _ _).alloc (by omega) _⟩
    have h := World.ownsRow_lit (base := w.heap.size + 2) (size := 1) (e := 5) w2 #[.int .u8 128] 1 (by omega) (by decide) rfl
    rw [hs2] at h
    exact h
  case round =>
    obtain ⟨k, g, cap, hk, rfl, hown, hbel⟩ := hrel
    have hsz := hbel.size
    have hk64 := zs_lt s.size
    by_cases hlt : k < zs s.size
    · have hz := zs_before s.size k hlt
      have hne : (((s.size : Int) + ((1 + k : Nat) : Int)) % 64 != 56) = true := by simp; omega
      have hne2 : (((s.size : Int) + (1 + (k : Int))) % 64 != 56) = true := by simp; omega
      clear hz
      go_wp2_with (first
        | (at_builtin; refine wpList_append_lies _ (by rfl) _ _ 22 (by rfl) (w.heap.size + 2) 5 i0 (.int .u8 0) 1 1 Tryd.underlying22 hi hz0 hz1 hz2 rfl (by decide) _ _ _ (by rfl) (hown.alloc _) ⟨wr.heap.size, 0, none⟩ 1 1 [.int .u8 0] (by rfl) rfl (cell_one_new _ _ _) (by intro u hu; simp at hu; subst hu; rfl) (by decide) (by unfold maxLen; omega) (by omega) (by simp; omega) _ rfl ?_; intro g2 cap2 w3 hown3 hgrow hat hlt3)
        | fail)
      rw [pad1_snoc k] at hown3
      have hb3 := below_append hbel (by omega) hown hgrow
      exact ⟨⟨k + 1, g2, cap2, by omega, rfl, hown3, hb3⟩, by simp [lenIn]; omega⟩
    · have : k = zs s.size := by omega
      subst this
      have hz := zs_at s.size
      have hne : (((s.size : Int) + ((1 + zs s.size : Nat) : Int)) % 64 != 56) = false := by simp; omega
      have hne2 : (((s.size : Int) + (1 + (zs s.size : Int))) % 64 != 56) = false := by simp; omega
      clear hz
      have hgl := (hown.lt g rfl).2
      go_upto_region 6 with fail
      go_cut [6] from 26 to 35 (fun t wx => t = .string (strOfNums (pad1 (zs s.size) ++ 0 :: beL (8 * (s.size : Int)) 7)) ∧ Below (w.heap.size + 2) w2 wx)
      case first =>
        have had0 : ∀ w, (Op.stringOp .add (strOfNums (pad1 (zs s.size))) (strOfNums [0])).run Tryd.prog w = .ok (.string (strOfNums (pad1 (zs s.size) ++ [0]))) w := fun w =>
          run_add_nums (pad1 (zs s.size)) [0] (by rw [pad1_length]; simp; omega) w
        have had1 : ∀ w, (Op.stringOp .add (strOfNums (pad1 (zs s.size) ++ [0])) (strOfNums (beL (8 * (s.size : Int)) 7))).run Tryd.prog w = .ok (.string (strOfNums (pad1 (zs s.size) ++ 0 :: beL (8 * (s.size : Int)) 7))) w := fun w => by
          rw [run_add_nums (pad1 (zs s.size) ++ [0]) (beL (8 * (s.size : Int)) 7) (by rw [List.length_append, pad1_length, beL_length]; simp; omega) w, List.append_assoc]
          rfl
        have r8 : IntKind.i64.wrap (8 * (s.size : Int)) = 8 * (s.size : Int) := wrap_i64_in _ (by omega)
        refine wp_region_any (by kernel_rfl) ?_
        refine wpAny_take (i := 0) (v := ?_) rfl (by kernel_rfl) (by kernel_rfl) (by kernel_rfl) (fun _ _ _ h => h) (Or.inl ⟨by rfl, ?_⟩) ?_
        rotate_left
        · (intro W; go_simp; try with_reducible rfl)
        simp only [Act.put, List.setIfInBounds_toArray, List.set_cons_zero, List.set_cons_succ, List.getElem_toArray, List.getElem_cons_zero]
        refine wpAny_take (i := 5) (v := ?_) rfl (by kernel_rfl) (by kernel_rfl) (by kernel_rfl) (fun _ _ _ h => h) (Or.inl ⟨by rfl, ?_⟩) ?_
        rotate_left
        · (intro W; go_simp; try with_reducible rfl)
        simp only [Act.put, List.setIfInBounds_toArray, List.set_cons_zero, List.set_cons_succ, List.getElem_toArray, List.getElem_cons_zero, List.getElem_cons_succ]
        refine wpAny_take (i := 6) (v := ?_) rfl (by kernel_rfl) (by kernel_rfl) (by kernel_rfl) (fun _ _ _ h => h) (Or.inl ⟨by rfl, ?_⟩) ?_
        rotate_left
        · (intro W; go_simp; try with_reducible rfl)
        simp only [Act.put, List.setIfInBounds_toArray, List.set_cons_zero, List.set_cons_succ, List.getElem_toArray, List.getElem_cons_zero, List.getElem_cons_succ]
        refine wpAny_take (i := 7) (v := ?_) rfl (by kernel_rfl) (by kernel_rfl) (by kernel_rfl) (fun _ _ _ h => h) (Or.inl ⟨by rfl, ?_⟩) ?_
        rotate_left
        · (intro W; go_simp; try with_reducible rfl)
        simp only [Act.put, List.setIfInBounds_toArray, List.set_cons_zero, List.set_cons_succ, List.getElem_toArray, List.getElem_cons_zero, List.getElem_cons_succ]
        refine any_gen (fun W => W.ownsRow (w.heap.size + 2) 5 1 (.slice (some ⟨g, 0, none⟩) (1 + zs s.size) cap) (1 + zs s.size) ((pad1 (zs s.size)).map (Value.int .u8)) ∧ Below (w.heap.size + 2) w2 W) ⟨hown, hbel.drew⟩ ?_
        clear hown hbel hgl
        rintro W0 ⟨own0, bel0⟩
        refine wpAny_ready (rs := [1, 2, 8]) (by kernel_rfl) (by simp) ?_
        refine AllReady.cons rfl (fun K hK => ?_) (AllReady.cons rfl (fun K hK => ?_) (AllReady.cons rfl (fun K hK => ?_) AllReady.nil))
        · refine step_conv (by rfl) (.tmp 26) (by rfl) (.slice (some ⟨g, 0, none⟩) (1 + zs s.size) cap) (by rfl) _ (by exact run_string_of_own (pad1 (zs s.size)) (pad1_length _).symm (by exact own0)) ?_
          refine hK _ _ ?_
          clear hK K
          simp only [Act.put, List.setIfInBounds_toArray, List.set_cons_zero, List.set_cons_succ, List.getElem_toArray, List.getElem_cons_zero, List.getElem_cons_succ]
          refine wpAny_ready (rs := [2, 8]) (by kernel_rfl) (by simp) ?_
          refine AllReady.cons rfl (fun K hK => ?_) (AllReady.cons rfl (fun K hK => ?_) AllReady.nil)
          · refine step_build (by rfl) (by rfl) ?_
            refine hK _ _ ?_
            clear hK K
            simp only [Act.put, List.setIfInBounds_toArray, List.set_cons_zero, List.set_cons_succ, List.getElem_toArray, List.getElem_cons_zero, List.getElem_cons_succ]
            have bs0 : w.heap.size + 2 ≤ W0.heap.size := by rw [← hs2]; exact bel0.size
            refine any_gen (fun W => W.ownsRow (w.heap.size + 2) 5 1 (.slice (some ⟨g, 0, none⟩) (1 + zs s.size) cap) (1 + zs s.size) ((pad1 (zs s.size)).map (Value.int .u8)) ∧ W.ownsRow (w.heap.size + 2) 5 1 (.slice (some ⟨W0.heap.size, 0, none⟩) 1 1) 1 [.int .u8 0] ∧ Below (w.heap.size + 2) w2 W) ⟨own0.alloc _, World.ownsRow_lit W0 #[.int .u8 0] 1 bs0 (by decide) rfl, bel0.alloc bs0 _⟩ ?_
            rintro W1 ⟨own1, one1, bel1⟩
            refine wpAny_ready (rs := [3, 8]) (by kernel_rfl) (by simp) ?_
            refine AllReady.cons rfl (fun K hK => ?_) (AllReady.cons rfl (fun K hK => ?_) AllReady.nil)
            · refine step_conv (by rfl) (.tmp 28) (by rfl) (.slice (some ⟨W0.heap.size, 0, none⟩) 1 1) (by rfl) _ (by exact run_string_of_own [0] rfl (by exact one1)) ?_
              refine hK _ _ ?_
              clear hK K
              simp only [Act.put, List.setIfInBounds_toArray, List.set_cons_zero, List.set_cons_succ, List.getElem_toArray, List.getElem_cons_zero, List.getElem_cons_succ]
              refine wpAny_take (i := 4) (v := ?_) rfl (by kernel_rfl) (by kernel_rfl) (by kernel_rfl) (fun _ _ _ h => h) (Or.inl ⟨by rfl, ?_⟩) ?_
              rotate_left
              · (intro W; go_simp; try with_reducible rfl)
              simp only [Act.put, List.setIfInBounds_toArray, List.set_cons_zero, List.set_cons_succ, List.getElem_toArray, List.getElem_cons_zero, List.getElem_cons_succ]
              refine wpAny_ready (rs := [8]) (by kernel_rfl) (by simp) ?_
              refine AllReady.cons rfl (fun K hK => ?_) AllReady.nil
              · go_simp
                refine (specFix_yes (8 * (s.size : Int)) 7 W1 (by omega) (by omega) (by omega) (by omega) (fq_small _ _ (by omega) (by show _ < (2 : Int) ^ 56; omega))).mono ?_
                rintro e W2 ⟨rfl, hb1⟩
                have bs1 : w.heap.size + 2 ≤ W1.heap.size := by rw [← hs2]; exact bel1.size
                have own2 := own_keep own1 hb1 (own1.lt g rfl).2
                have bel2 := bel1.trans (hb1.mono bs1)
                have one2 := own_keep one1 hb1 (one1.lt _ rfl).2
                refine hK _ _ ?_
                clear hK K
                try simp only [Act.put, List.setIfInBounds_toArray, List.set_cons_zero, List.set_cons_succ, List.getElem_toArray, List.getElem_cons_zero, List.getElem_cons_succ]
                refine wpAny_take (i := 9) (v := ?_) rfl (by kernel_rfl) (by kernel_rfl) (by kernel_rfl) (fun _ _ _ h => h) (Or.inl ⟨by rfl, ?_⟩) ?_
                rotate_left
                · (intro W; go_simp; try with_reducible rfl)
                simp only [Act.put, List.setIfInBounds_toArray, List.set_cons_zero, List.set_cons_succ, List.getElem_toArray, List.getElem_cons_zero, List.getElem_cons_succ]
                refine wpAny_take (i := 10) (v := ?_) rfl (by kernel_rfl) (by kernel_rfl) (by kernel_rfl) (fun _ _ _ h => h) (Or.inl ⟨by rfl, ?_⟩) ?_
                rotate_left
                · (intro W; go_simp; try with_reducible rfl)
                simp only [Act.put, List.setIfInBounds_toArray, List.set_cons_zero, List.set_cons_succ, List.getElem_toArray, List.getElem_cons_zero, List.getElem_cons_succ]
                refine wpAny_done (by kernel_rfl) ?_ _
                go_wp2
                go_meet
                case rel => exact ⟨rfl, bel2⟩
            · go_simp
              refine (specFix_yes (8 * (s.size : Int)) 7 W1 (by omega) (by omega) (by omega) (by omega) (fq_small _ _ (by omega) (by show _ < (2 : Int) ^ 56; omega))).mono ?_
              rintro e W2 ⟨rfl, hb1⟩
              have bs1 : w.heap.size + 2 ≤ W1.heap.size := by rw [← hs2]; exact bel1.size
              have own2 := own_keep own1 hb1 (own1.lt g rfl).2
              have bel2 := bel1.trans (hb1.mono bs1)
              have one2 := own_keep one1 hb1 (one1.lt _ rfl).2
              refine hK _ _ ?_
              clear hK K
              try simp only [Act.put, List.setIfInBounds_toArray, List.set_cons_zero, List.set_cons_succ, List.getElem_toArray, List.getElem_cons_zero, List.getElem_cons_succ]
              refine wpAny_ready (rs := [3]) (by kernel_rfl) (by simp) ?_
              refine AllReady.cons rfl (fun K hK => ?_) AllReady.nil
              · refine step_conv (by rfl) (.tmp 28) (by rfl) (.slice (some ⟨W0.heap.size, 0, none⟩) 1 1) (by rfl) _ (by exact run_string_of_own [0] rfl (by exact one2)) ?_
                refine hK _ _ ?_
                clear hK K
                simp only [Act.put, List.setIfInBounds_toArray, List.set_cons_zero, List.set_cons_succ, List.getElem_toArray, List.getElem_cons_zero, List.getElem_cons_succ]
                refine wpAny_take (i := 4) (v := ?_) rfl (by kernel_rfl) (by kernel_rfl) (by kernel_rfl) (fun _ _ _ h => h) (Or.inl ⟨by rfl, ?_⟩) ?_
                rotate_left
                · (intro W; go_simp; try with_reducible rfl)
                simp only [Act.put, List.setIfInBounds_toArray, List.set_cons_zero, List.set_cons_succ, List.getElem_toArray, List.getElem_cons_zero, List.getElem_cons_succ]
                refine wpAny_take (i := 9) (v := ?_) rfl (by kernel_rfl) (by kernel_rfl) (by kernel_rfl) (fun _ _ _ h => h) (Or.inl ⟨by rfl, ?_⟩) ?_
                rotate_left
                · (intro W; go_simp; try with_reducible rfl)
                simp only [Act.put, List.setIfInBounds_toArray, List.set_cons_zero, List.set_cons_succ, List.getElem_toArray, List.getElem_cons_zero, List.getElem_cons_succ]
                refine wpAny_take (i := 10) (v := ?_) rfl (by kernel_rfl) (by kernel_rfl) (by kernel_rfl) (fun _ _ _ h => h) (Or.inl ⟨by rfl, ?_⟩) ?_
                rotate_left
                · (intro W; go_simp; try with_reducible rfl)
                simp only [Act.put, List.setIfInBounds_toArray, List.set_cons_zero, List.set_cons_succ, List.getElem_toArray, List.getElem_cons_zero, List.getElem_cons_succ]
                refine wpAny_done (by kernel_rfl) ?_ _
                go_wp2
                go_meet
                case rel => exact ⟨rfl, bel2⟩
          · go_simp
            refine (specFix_yes (8 * (s.size : Int)) 7 W0 (by omega) (by omega) (by omega) (by omega) (fq_small _ _ (by omega) (by show _ < (2 : Int) ^ 56; omega))).mono ?_
            rintro e W1 ⟨rfl, hb0⟩
            have bs0 : w.heap.size + 2 ≤ W0.heap.size := by rw [← hs2]; exact bel0.size
            have own1 := own_keep own0 hb0 (own0.lt g rfl).2
            have bel1 := bel0.trans (hb0.mono bs0)
            refine hK _ _ ?_
            clear hK K
            try simp only [Act.put, List.setIfInBounds_toArray, List.set_cons_zero, List.set_cons_succ, List.getElem_toArray, List.getElem_cons_zero, List.getElem_cons_succ]
            refine wpAny_ready (rs := [2]) (by kernel_rfl) (by simp) ?_
            refine AllReady.cons rfl (fun K hK => ?_) AllReady.nil
            · refine step_build (by rfl) (by rfl) ?_
              refine hK _ _ ?_
              clear hK K
              simp only [Act.put, List.setIfInBounds_toArray, List.set_cons_zero, List.set_cons_succ, List.getElem_toArray, List.getElem_cons_zero, List.getElem_cons_succ]
              have bs1 : w.heap.size + 2 ≤ W1.heap.size := by rw [← hs2]; exact bel1.size
              refine any_gen (fun W => W.ownsRow (w.heap.size + 2) 5 1 (.slice (some ⟨g, 0, none⟩) (1 + zs s.size) cap) (1 + zs s.size) ((pad1 (zs s.size)).map (Value.int .u8)) ∧ W.ownsRow (w.heap.size + 2) 5 1 (.slice (some ⟨W1.heap.size, 0, none⟩) 1 1) 1 [.int .u8 0] ∧ Below (w.heap.size + 2) w2 W) ⟨own1.alloc _, World.ownsRow_lit W1 #[.int .u8 0] 1 bs1 (by decide) rfl, bel1.alloc bs1 _⟩ ?_
              rintro W2 ⟨own2, one2, bel2⟩
              refine wpAny_ready (rs := [3]) (by kernel_rfl) (by simp) ?_
              refine AllReady.cons rfl (fun K hK => ?_) AllReady.nil
              · refine step_conv (by rfl) (.tmp 28) (by rfl) (.slice (some ⟨W1.heap.size, 0, none⟩) 1 1) (by rfl) _ (by exact run_string_of_own [0] rfl (by exact one2)) ?_
                refine hK _ _ ?_
                clear hK K
                simp only [Act.put, List.setIfInBounds_toArray, List.set_cons_zero, List.set_cons_succ, List.getElem_toArray, List.getElem_cons_zero, List.getElem_cons_succ]
                refine wpAny_take (i := 4) (v := ?_) rfl (by kernel_rfl) (by kernel_rfl) (by kernel_rfl) (fun _ _ _ h => h) (Or.inl ⟨by rfl, ?_⟩) ?_
                rotate_left
                · (intro W; go_simp; try with_reducible rfl)
                simp only [Act.put, List.setIfInBounds_toArray, List.set_cons_zero, List.set_cons_succ, List.getElem_toArray, List.getElem_cons_zero, List.getElem_cons_succ]
                refine wpAny_take (i := 9) (v := ?_) rfl (by kernel_rfl) (by kernel_rfl) (by kernel_rfl) (fun _ _ _ h => h) (Or.inl ⟨by rfl, ?_⟩) ?_
                rotate_left
                · (intro W; go_simp; try with_reducible rfl)
                simp only [Act.put, List.setIfInBounds_toArray, List.set_cons_zero, List.set_cons_succ, List.getElem_toArray, List.getElem_cons_zero, List.getElem_cons_succ]
                refine wpAny_take (i := 10) (v := ?_) rfl (by kernel_rfl) (by kernel_rfl) (by kernel_rfl) (fun _ _ _ h => h) (Or.inl ⟨by rfl, ?_⟩) ?_
                rotate_left
                · (intro W; go_simp; try with_reducible rfl)
                simp only [Act.put, List.setIfInBounds_toArray, List.set_cons_zero, List.set_cons_succ, List.getElem_toArray, List.getElem_cons_zero, List.getElem_cons_succ]
                refine wpAny_done (by kernel_rfl) ?_ _
                go_wp2
                go_meet
                case rel => exact ⟨rfl, bel2⟩
        · refine step_build (by rfl) (by rfl) ?_
          refine hK _ _ ?_
          clear hK K
          simp only [Act.put, List.setIfInBounds_toArray, List.set_cons_zero, List.set_cons_succ, List.getElem_toArray, List.getElem_cons_zero, List.getElem_cons_succ]
          have bs0 : w.heap.size + 2 ≤ W0.heap.size := by rw [← hs2]; exact bel0.size
          refine any_gen (fun W => W.ownsRow (w.heap.size + 2) 5 1 (.slice (some ⟨g, 0, none⟩) (1 + zs s.size) cap) (1 + zs s.size) ((pad1 (zs s.size)).map (Value.int .u8)) ∧ W.ownsRow (w.heap.size + 2) 5 1 (.slice (some ⟨W0.heap.size, 0, none⟩) 1 1) 1 [.int .u8 0] ∧ Below (w.heap.size + 2) w2 W) ⟨own0.alloc _, World.ownsRow_lit W0 #[.int .u8 0] 1 bs0 (by decide) rfl, bel0.alloc bs0 _⟩ ?_
          rintro W1 ⟨own1, one1, bel1⟩
          refine wpAny_ready (rs := [1, 3, 8]) (by kernel_rfl) (by simp) ?_
          refine AllReady.cons rfl (fun K hK => ?_) (AllReady.cons rfl (fun K hK => ?_) (AllReady.cons rfl (fun K hK => ?_) AllReady.nil))
          · refine step_conv (by rfl) (.tmp 26) (by rfl) (.slice (some ⟨g, 0, none⟩) (1 + zs s.size) cap) (by rfl) _ (by exact run_string_of_own (pad1 (zs s.size)) (pad1_length _).symm (by exact own1)) ?_
            refine hK _ _ ?_
            clear hK K
            simp only [Act.put, List.setIfInBounds_toArray, List.set_cons_zero, List.set_cons_succ, List.getElem_toArray, List.getElem_cons_zero, List.getElem_cons_succ]
            refine wpAny_ready (rs := [3, 8]) (by kernel_rfl) (by simp) ?_
            refine AllReady.cons rfl (fun K hK => ?_) (AllReady.cons rfl (fun K hK => ?_) AllReady.nil)
            · refine step_conv (by rfl) (.tmp 28) (by rfl) (.slice (some ⟨W0.heap.size, 0, none⟩) 1 1) (by rfl) _ (by exact run_string_of_own [0] rfl (by exact one1)) ?_
              refine hK _ _ ?_
              clear hK K
              simp only [Act.put, List.setIfInBounds_toArray, List.set_cons_zero, List.set_cons_succ, List.getElem_toArray, List.getElem_cons_zero, List.getElem_cons_succ]
              refine wpAny_take (i := 4) (v := ?_) rfl (by kernel_rfl) (by kernel_rfl) (by kernel_rfl) (fun _ _ _ h => h) (Or.inl ⟨by rfl, ?_⟩) ?_
              rotate_left
              · (intro W; go_simp; try with_reducible rfl)
              simp only [Act.put, List.setIfInBounds_toArray, List.set_cons_zero, List.set_cons_succ, List.getElem_toArray, List.getElem_cons_zero, List.getElem_cons_succ]
              refine wpAny_ready (rs := [8]) (by kernel_rfl) (by simp) ?_
              refine AllReady.cons rfl (fun K hK => ?_) AllReady.nil
              · go_simp
                refine (specFix_yes (8 * (s.size : Int)) 7 W1 (by omega) (by omega) (by omega) (by omega) (fq_small _ _ (by omega) (by show _ < (2 : Int) ^ 56; omega))).mono ?_
                rintro e W2 ⟨rfl, hb1⟩
                have bs1 : w.heap.size + 2 ≤ W1.heap.size := by rw [← hs2]; exact bel1.size
                have own2 := own_keep own1 hb1 (own1.lt g rfl).2
                have bel2 := bel1.trans (hb1.mono bs1)
                have one2 := own_keep one1 hb1 (one1.lt _ rfl).2
                refine hK _ _ ?_
                clear hK K
                try simp only [Act.put, List.setIfInBounds_toArray, List.set_cons_zero, List.set_cons_succ, List.getElem_toArray, List.getElem_cons_zero, List.getElem_cons_succ]
                refine wpAny_take (i := 9) (v := ?_) rfl (by kernel_rfl) (by kernel_rfl) (by kernel_rfl) (fun _ _ _ h => h) (Or.inl ⟨by rfl, ?_⟩) ?_
                rotate_left
                · (intro W; go_simp; try with_reducible rfl)
                simp only [Act.put, List.setIfInBounds_toArray, List.set_cons_zero, List.set_cons_succ, List.getElem_toArray, List.getElem_cons_zero, List.getElem_cons_succ]
                refine wpAny_take (i := 10) (v := ?_) rfl (by kernel_rfl) (by kernel_rfl) (by kernel_rfl) (fun _ _ _ h => h) (Or.inl ⟨by rfl, ?_⟩) ?_
                rotate_left
                · (intro W; go_simp; try with_reducible rfl)
                simp only [Act.put, List.setIfInBounds_toArray, List.set_cons_zero, List.set_cons_succ, List.getElem_toArray, List.getElem_cons_zero, List.getElem_cons_succ]
                refine wpAny_done (by kernel_rfl) ?_ _
                go_wp2
                go_meet
                case rel => exact ⟨rfl, bel2⟩
            · go_simp
              refine (specFix_yes (8 * (s.size : Int)) 7 W1 (by omega) (by omega) (by omega) (by omega) (fq_small _ _ (by omega) (by show _ < (2 : Int) ^ 56; omega))).mono ?_
              rintro e W2 ⟨rfl, hb1⟩
              have bs1 : w.heap.size + 2 ≤ W1.heap.size := by rw [← hs2]; exact bel1.size
              have own2 := own_keep own1 hb1 (own1.lt g rfl).2
              have bel2 := bel1.trans (hb1.mono bs1)
              have one2 := own_keep one1 hb1 (one1.lt _ rfl).2
              refine hK _ _ ?_
              clear hK K
              try simp only [Act.put, List.setIfInBounds_toArray, List.set_cons_zero, List.set_cons_succ, List.getElem_toArray, List.getElem_cons_zero, List.getElem_cons_succ]
              refine wpAny_ready (rs := [3]) (by kernel_rfl) (by simp) ?_
              refine AllReady.cons rfl (fun K hK => ?_) AllReady.nil
              · refine step_conv (by rfl) (.tmp 28) (by rfl) (.slice (some ⟨W0.heap.size, 0, none⟩) 1 1) (by rfl) _ (by exact run_string_of_own [0] rfl (by exact one2)) ?_
                refine hK _ _ ?_
                clear hK K
                simp only [Act.put, List.setIfInBounds_toArray, List.set_cons_zero, List.set_cons_succ, List.getElem_toArray, List.getElem_cons_zero, List.getElem_cons_succ]
                refine wpAny_take (i := 4) (v := ?_) rfl (by kernel_rfl) (by kernel_rfl) (by kernel_rfl) (fun _ _ _ h => h) (Or.inl ⟨by rfl, ?_⟩) ?_
                rotate_left
                · (intro W; go_simp; try with_reducible rfl)
                simp only [Act.put, List.setIfInBounds_toArray, List.set_cons_zero, List.set_cons_succ, List.getElem_toArray, List.getElem_cons_zero, List.getElem_cons_succ]
                refine wpAny_take (i := 9) (v := ?_) rfl (by kernel_rfl) (by kernel_rfl) (by kernel_rfl) (fun _ _ _ h => h) (Or.inl ⟨by rfl, ?_⟩) ?_
                rotate_left
                · (intro W; go_simp; try with_reducible rfl)
                simp only [Act.put, List.setIfInBounds_toArray, List.set_cons_zero, List.set_cons_succ, List.getElem_toArray, List.getElem_cons_zero, List.getElem_cons_succ]
                refine wpAny_take (i := 10) (v := ?_) rfl (by kernel_rfl) (by kernel_rfl) (by kernel_rfl) (fun _ _ _ h => h) (Or.inl ⟨by rfl, ?_⟩) ?_
                rotate_left
                · (intro W; go_simp; try with_reducible rfl)
                simp only [Act.put, List.setIfInBounds_toArray, List.set_cons_zero, List.set_cons_succ, List.getElem_toArray, List.getElem_cons_zero, List.getElem_cons_succ]
                refine wpAny_done (by kernel_rfl) ?_ _
                go_wp2
                go_meet
                case rel => exact ⟨rfl, bel2⟩
          · refine step_conv (by rfl) (.tmp 28) (by rfl) (.slice (some ⟨W0.heap.size, 0, none⟩) 1 1) (by rfl) _ (by exact run_string_of_own [0] rfl (by exact one1)) ?_
            refine hK _ _ ?_
            clear hK K
            simp only [Act.put, List.setIfInBounds_toArray, List.set_cons_zero, List.set_cons_succ, List.getElem_toArray, List.getElem_cons_zero, List.getElem_cons_succ]
            refine wpAny_ready (rs := [1, 8]) (by kernel_rfl) (by simp) ?_
            refine AllReady.cons rfl (fun K hK => ?_) (AllReady.cons rfl (fun K hK => ?_) AllReady.nil)
            · refine step_conv (by rfl) (.tmp 26) (by rfl) (.slice (some ⟨g, 0, none⟩) (1 + zs s.size) cap) (by rfl) _ (by exact run_string_of_own (pad1 (zs s.size)) (pad1_length _).symm (by exact own1)) ?_
              refine hK _ _ ?_
              clear hK K
              simp only [Act.put, List.setIfInBounds_toArray, List.set_cons_zero, List.set_cons_succ, List.getElem_toArray, List.getElem_cons_zero, List.getElem_cons_succ]
              refine wpAny_take (i := 4) (v := ?_) rfl (by kernel_rfl) (by kernel_rfl) (by kernel_rfl) (fun _ _ _ h => h) (Or.inl ⟨by rfl, ?_⟩) ?_
              rotate_left
              · (intro W; go_simp; try with_reducible rfl)
              simp only [Act.put, List.setIfInBounds_toArray, List.set_cons_zero, List.set_cons_succ, List.getElem_toArray, List.getElem_cons_zero, List.getElem_cons_succ]
              refine wpAny_ready (rs := [8]) (by kernel_rfl) (by simp) ?_
              refine AllReady.cons rfl (fun K hK => ?_) AllReady.nil
              · go_simp
                refine (specFix_yes (8 * (s.size : Int)) 7 W1 (by omega) (by omega) (by omega) (by omega) (fq_small _ _ (by omega) (by show _ < (2 : Int) ^ 56; omega))).mono ?_
                rintro e W2 ⟨rfl, hb1⟩
                have bs1 : w.heap.size + 2 ≤ W1.heap.size := by rw [← hs2]; exact bel1.size
                have own2 := own_keep own1 hb1 (own1.lt g rfl).2
                have bel2 := bel1.trans (hb1.mono bs1)
                have one2 := own_keep one1 hb1 (one1.lt _ rfl).2
                refine hK _ _ ?_
                clear hK K
                try simp only [Act.put, List.setIfInBounds_toArray, List.set_cons_zero, List.set_cons_succ, List.getElem_toArray, List.getElem_cons_zero, List.getElem_cons_succ]
                refine wpAny_take (i := 9) (v := ?_) rfl (by kernel_rfl) (by kernel_rfl) (by kernel_rfl) (fun _ _ _ h => h) (Or.inl ⟨by rfl, ?_⟩) ?_
                rotate_left
                · (intro W; go_simp; try with_reducible rfl)
                simp only [Act.put, List.setIfInBounds_toArray, List.set_cons_zero, List.set_cons_succ, List.getElem_toArray, List.getElem_cons_zero, List.getElem_cons_succ]
                refine wpAny_take (i := 10) (v := ?_) rfl (by kernel_rfl) (by kernel_rfl) (by kernel_rfl) (fun _ _ _ h => h) (Or.inl ⟨by rfl, ?_⟩) ?_
                rotate_left
                · (intro W; go_simp; try with_reducible rfl)
                simp only [Act.put, List.setIfInBounds_toArray, List.set_cons_zero, List.set_cons_succ, List.getElem_toArray, List.getElem_cons_zero, List.getElem_cons_succ]
                refine wpAny_done (by kernel_rfl) ?_ _
                go_wp2
                go_meet
                case rel => exact ⟨rfl, bel2⟩
            · go_simp
              refine (specFix_yes (8 * (s.size : Int)) 7 W1 (by omega) (by omega) (by omega) (by omega) (fq_small _ _ (by omega) (by show _ < (2 : Int) ^ 56; omega))).mono ?_
              rintro e W2 ⟨rfl, hb1⟩
              have bs1 : w.heap.size + 2 ≤ W1.heap.size := by rw [← hs2]; exact bel1.size
              have own2 := own_keep own1 hb1 (own1.lt g rfl).2
              have bel2 := bel1.trans (hb1.mono bs1)
              have one2 := own_keep one1 hb1 (one1.lt _ rfl).2
              refine hK _ _ ?_
              clear hK K
              try simp only [Act.put, List.setIfInBounds_toArray, List.set_cons_zero, List.set_cons_succ, List.getElem_toArray, List.getElem_cons_zero, List.getElem_cons_succ]
              refine wpAny_ready (rs := [1]) (by kernel_rfl) (by simp) ?_
              refine AllReady.cons rfl (fun K hK => ?_) AllReady.nil
              · refine step_conv (by rfl) (.tmp 26) (by rfl) (.slice (some ⟨g, 0, none⟩) (1 + zs s.size) cap) (by rfl) _ (by exact run_string_of_own (pad1 (zs s.size)) (pad1_length _).symm (by exact own2)) ?_
                refine hK _ _ ?_
                clear hK K
                simp only [Act.put, List.setIfInBounds_toArray, List.set_cons_zero, List.set_cons_succ, List.getElem_toArray, List.getElem_cons_zero, List.getElem_cons_succ]
                refine wpAny_take (i := 4) (v := ?_) rfl (by kernel_rfl) (by kernel_rfl) (by kernel_rfl) (fun _ _ _ h => h) (Or.inl ⟨by rfl, ?_⟩) ?_
                rotate_left
                · (intro W; go_simp; try with_reducible rfl)
                simp only [Act.put, List.setIfInBounds_toArray, List.set_cons_zero, List.set_cons_succ, List.getElem_toArray, List.getElem_cons_zero, List.getElem_cons_succ]
                refine wpAny_take (i := 9) (v := ?_) rfl (by kernel_rfl) (by kernel_rfl) (by kernel_rfl) (fun _ _ _ h => h) (Or.inl ⟨by rfl, ?_⟩) ?_
                rotate_left
                · (intro W; go_simp; try with_reducible rfl)
                simp only [Act.put, List.setIfInBounds_toArray, List.set_cons_zero, List.set_cons_succ, List.getElem_toArray, List.getElem_cons_zero, List.getElem_cons_succ]
                refine wpAny_take (i := 10) (v := ?_) rfl (by kernel_rfl) (by kernel_rfl) (by kernel_rfl) (fun _ _ _ h => h) (Or.inl ⟨by rfl, ?_⟩) ?_
                rotate_left
                · (intro W; go_simp; try with_reducible rfl)
                simp only [Act.put, List.setIfInBounds_toArray, List.set_cons_zero, List.set_cons_succ, List.getElem_toArray, List.getElem_cons_zero, List.getElem_cons_succ]
                refine wpAny_done (by kernel_rfl) ?_ _
                go_wp2
                go_meet
                case rel => exact ⟨rfl, bel2⟩
          · go_simp
            refine (specFix_yes (8 * (s.size : Int)) 7 W1 (by omega) (by omega) (by omega) (by omega) (fq_small _ _ (by omega) (by show _ < (2 : Int) ^ 56; omega))).mono ?_
            rintro e W2 ⟨rfl, hb1⟩
            have bs1 : w.heap.size + 2 ≤ W1.heap.size := by rw [← hs2]; exact bel1.size
            have own2 := own_keep own1 hb1 (own1.lt g rfl).2
            have bel2 := bel1.trans (hb1.mono bs1)
            have one2 := own_keep one1 hb1 (one1.lt _ rfl).2
            refine hK _ _ ?_
            clear hK K
            try simp only [Act.put, List.setIfInBounds_toArray, List.set_cons_zero, List.set_cons_succ, List.getElem_toArray, List.getElem_cons_zero, List.getElem_cons_succ]
            refine wpAny_ready (rs := [1, 3]) (by kernel_rfl) (by simp) ?_
            refine AllReady.cons rfl (fun K hK => ?_) (AllReady.cons rfl (fun K hK => ?_) AllReady.nil)
            · refine step_conv (by rfl) (.tmp 26) (by rfl) (.slice (some ⟨g, 0, none⟩) (1 + zs s.size) cap) (by rfl) _ (by exact run_string_of_own (pad1 (zs s.size)) (pad1_length _).symm (by exact own2)) ?_
              refine hK _ _ ?_
              clear hK K
              simp only [Act.put, List.setIfInBounds_toArray, List.set_cons_zero, List.set_cons_succ, List.getElem_toArray, List.getElem_cons_zero, List.getElem_cons_succ]
              refine wpAny_ready (rs := [3]) (by kernel_rfl) (by simp) ?_
              refine AllReady.cons rfl (fun K hK => ?_) AllReady.nil
              · refine step_conv (by rfl) (.tmp 28) (by rfl) (.slice (some ⟨W0.heap.size, 0, none⟩) 1 1) (by rfl) _ (by exact run_string_of_own [0] rfl (by exact one2)) ?_
                refine hK _ _ ?_
                clear hK K
                simp only [Act.put, List.setIfInBounds_toArray, List.set_cons_zero, List.set_cons_succ, List.getElem_toArray, List.getElem_cons_zero, List.getElem_cons_succ]
                refine wpAny_take (i := 4) (v := ?_) rfl (by kernel_rfl) (by kernel_rfl) (by kernel_rfl) (fun _ _ _ h => h) (Or.inl ⟨by rfl, ?_⟩) ?_
                rotate_left
                · (intro W; go_simp; try with_reducible rfl)
                simp only [Act.put, List.setIfInBounds_toArray, List.set_cons_zero, List.set_cons_succ, List.getElem_toArray, List.getElem_cons_zero, List.getElem_cons_succ]
                refine wpAny_take (i := 9) (v := ?_) rfl (by kernel_rfl) (by kernel_rfl) (by kernel_rfl) (fun _ _ _ h => h) (Or.inl ⟨by rfl, ?_⟩) ?_
                rotate_left
                · (intro W; go_simp; try with_reducible rfl)
                simp only [Act.put, List.setIfInBounds_toArray, List.set_cons_zero, List.set_cons_succ, List.getElem_toArray, List.getElem_cons_zero, List.getElem_cons_succ]
                refine wpAny_take (i := 10) (v := ?_) rfl (by kernel_rfl) (by kernel_rfl) (by kernel_rfl) (fun _ _ _ h => h) (Or.inl ⟨by rfl, ?_⟩) ?_
                rotate_left
                · (intro W; go_simp; try with_reducible rfl)
                simp only [Act.put, List.setIfInBounds_toArray, List.set_cons_zero, List.set_cons_succ, List.getElem_toArray, List.getElem_cons_zero, List.getElem_cons_succ]
                refine wpAny_done (by kernel_rfl) ?_ _
                go_wp2
                go_meet
                case rel => exact ⟨rfl, bel2⟩
            · refine step_conv (by rfl) (.tmp 28) (by rfl) (.slice (some ⟨W0.heap.size, 0, none⟩) 1 1) (by rfl) _ (by exact run_string_of_own [0] rfl (by exact one2)) ?_
              refine hK _ _ ?_
              clear hK K
              simp only [Act.put, List.setIfInBounds_toArray, List.set_cons_zero, List.set_cons_succ, List.getElem_toArray, List.getElem_cons_zero, List.getElem_cons_succ]
              refine wpAny_ready (rs := [1]) (by kernel_rfl) (by simp) ?_
              refine AllReady.cons rfl (fun K hK => ?_) AllReady.nil
              · refine step_conv (by rfl) (.tmp 26) (by rfl) (.slice (some ⟨g, 0, none⟩) (1 + zs s.size) cap) (by rfl) _ (by exact run_string_of_own (pad1 (zs s.size)) (pad1_length _).symm (by exact own2)) ?_
                refine hK _ _ ?_
                clear hK K
                simp only [Act.put, List.setIfInBounds_toArray, List.set_cons_zero, List.set_cons_succ, List.getElem_toArray, List.getElem_cons_zero, List.getElem_cons_succ]
                refine wpAny_take (i := 4) (v := ?_) rfl (by kernel_rfl) (by kernel_rfl) (by kernel_rfl) (fun _ _ _ h => h) (Or.inl ⟨by rfl, ?_⟩) ?_
                rotate_left
                · (intro W; go_simp; try with_reducible rfl)
                simp only [Act.put, List.setIfInBounds_toArray, List.set_cons_zero, List.set_cons_succ, List.getElem_toArray, List.getElem_cons_zero, List.getElem_cons_succ]
                refine wpAny_take (i := 9) (v := ?_) rfl (by kernel_rfl) (by kernel_rfl) (by kernel_rfl) (fun _ _ _ h => h) (Or.inl ⟨by rfl, ?_⟩) ?_
                rotate_left
                · (intro W; go_simp; try with_reducible rfl)
                simp only [Act.put, List.setIfInBounds_toArray, List.set_cons_zero, List.set_cons_succ, List.getElem_toArray, List.getElem_cons_zero, List.getElem_cons_succ]
                refine wpAny_take (i := 10) (v := ?_) rfl (by kernel_rfl) (by kernel_rfl) (by kernel_rfl) (fun _ _ _ h => h) (Or.inl ⟨by rfl, ?_⟩) ?_
                rotate_left
                · (intro W; go_simp; try with_reducible rfl)
                simp only [Act.put, List.setIfInBounds_toArray, List.set_cons_zero, List.set_cons_succ, List.getElem_toArray, List.getElem_cons_zero, List.getElem_cons_succ]
                refine wpAny_done (by kernel_rfl) ?_ _
                go_wp2
                go_meet
                case rel => exact ⟨rfl, bel2⟩
        · go_simp
          refine (specFix_yes (8 * (s.size : Int)) 7 W0 (by omega) (by omega) (by omega) (by omega) (fq_small _ _ (by omega) (by show _ < (2 : Int) ^ 56; omega))).mono ?_
          rintro e W1 ⟨rfl, hb0⟩
          have bs0 : w.heap.size + 2 ≤ W0.heap.size := by rw [← hs2]; exact bel0.size
          have own1 := own_keep own0 hb0 (own0.lt g rfl).2
          have bel1 := bel0.trans (hb0.mono bs0)
          refine hK _ _ ?_
          clear hK K
          try simp only [Act.put, List.setIfInBounds_toArray, List.set_cons_zero, List.set_cons_succ, List.getElem_toArray, List.getElem_cons_zero, List.getElem_cons_succ]
          refine wpAny_ready (rs := [1, 2]) (by kernel_rfl) (by simp) ?_
          refine AllReady.cons rfl (fun K hK => ?_) (AllReady.cons rfl (fun K hK => ?_) AllReady.nil)
          · refine step_conv (by rfl) (.tmp 26) (by rfl) (.slice (some ⟨g, 0, none⟩) (1 + zs s.size) cap) (by rfl) _ (by exact run_string_of_own (pad1 (zs s.size)) (pad1_length _).symm (by exact own1)) ?_
            refine hK _ _ ?_
            clear hK K
            simp only [Act.put, List.setIfInBounds_toArray, List.set_cons_zero, List.set_cons_succ, List.getElem_toArray, List.getElem_cons_zero, List.getElem_cons_succ]
            refine wpAny_ready (rs := [2]) (by kernel_rfl) (by simp) ?_
            refine AllReady.cons rfl (fun K hK => ?_) AllReady.nil
            · refine step_build (by rfl) (by rfl) ?_
              refine hK _ _ ?_
              clear hK K
              simp only [Act.put, List.setIfInBounds_toArray, List.set_cons_zero, List.set_cons_succ, List.getElem_toArray, List.getElem_cons_zero, List.getElem_cons_succ]
              have bs1 : w.heap.size + 2 ≤ W1.heap.size := by rw [← hs2]; exact bel1.size
              refine any_gen (fun W => W.ownsRow (w.heap.size + 2) 5 1 (.slice (some ⟨g, 0, none⟩) (1 + zs s.size) cap) (1 + zs s.size) ((pad1 (zs s.size)).map (Value.int .u8)) ∧ W.ownsRow (w.heap.size + 2) 5 1 (.slice (some ⟨W1.heap.size, 0, none⟩) 1 1) 1 [.int .u8 0] ∧ Below (w.heap.size + 2) w2 W) ⟨own1.alloc _, World.ownsRow_lit W1 #[.int .u8 0] 1 bs1 (by decide) rfl, bel1.alloc bs1 _⟩ ?_
              rintro W2 ⟨own2, one2, bel2⟩
              refine wpAny_ready (rs := [3]) (by kernel_rfl) (by simp) ?_
              refine AllReady.cons rfl (fun K hK => ?_) AllReady.nil
              · refine step_conv (by rfl) (.tmp 28) (by rfl) (.slice (some ⟨W1.heap.size, 0, none⟩) 1 1) (by rfl) _ (by exact run_string_of_own [0] rfl (by exact one2)) ?_
                refine hK _ _ ?_
                clear hK K
                simp only [Act.put, List.setIfInBounds_toArray, List.set_cons_zero, List.set_cons_succ, List.getElem_toArray, List.getElem_cons_zero, List.getElem_cons_succ]
                refine wpAny_take (i := 4) (v := ?_) rfl (by kernel_rfl) (by kernel_rfl) (by kernel_rfl) (fun _ _ _ h => h) (Or.inl ⟨by rfl, ?_⟩) ?_
                rotate_left
                · (intro W; go_simp; try with_reducible rfl)
                simp only [Act.put, List.setIfInBounds_toArray, List.set_cons_zero, List.set_cons_succ, List.getElem_toArray, List.getElem_cons_zero, List.getElem_cons_succ]
                refine wpAny_take (i := 9) (v := ?_) rfl (by kernel_rfl) (by kernel_rfl) (by kernel_rfl) (fun _ _ _ h => h) (Or.inl ⟨by rfl, ?_⟩) ?_
                rotate_left
                · (intro W; go_simp; try with_reducible rfl)
                simp only [Act.put, List.setIfInBounds_toArray, List.set_cons_zero, List.set_cons_succ, List.getElem_toArray, List.getElem_cons_zero, List.getElem_cons_succ]
                refine wpAny_take (i := 10) (v := ?_) rfl (by kernel_rfl) (by kernel_rfl) (by kernel_rfl) (fun _ _ _ h => h) (Or.inl ⟨by rfl, ?_⟩) ?_
                rotate_left
                · (intro W; go_simp; try with_reducible rfl)
                simp only [Act.put, List.setIfInBounds_toArray, List.set_cons_zero, List.set_cons_succ, List.getElem_toArray, List.getElem_cons_zero, List.getElem_cons_succ]
                refine wpAny_done (by kernel_rfl) ?_ _
                go_wp2
                go_meet
                case rel => exact ⟨rfl, bel2⟩
          · refine step_build (by rfl) (by rfl) ?_
            refine hK _ _ ?_
            clear hK K
            simp only [Act.put, List.setIfInBounds_toArray, List.set_cons_zero, List.set_cons_succ, List.getElem_toArray, List.getElem_cons_zero, List.getElem_cons_succ]
            have bs1 : w.heap.size + 2 ≤ W1.heap.size := by rw [← hs2]; exact bel1.size
            refine any_gen (fun W => W.ownsRow (w.heap.size + 2) 5 1 (.slice (some ⟨g, 0, none⟩) (1 + zs s.size) cap) (1 + zs s.size) ((pad1 (zs s.size)).map (Value.int .u8)) ∧ W.ownsRow (w.heap.size + 2) 5 1 (.slice (some ⟨W1.heap.size, 0, none⟩) 1 1) 1 [.int .u8 0] ∧ Below (w.heap.size + 2) w2 W) ⟨own1.alloc _, World.ownsRow_lit W1 #[.int .u8 0] 1 bs1 (by decide) rfl, bel1.alloc bs1 _⟩ ?_
            rintro W2 ⟨own2, one2, bel2⟩
            refine wpAny_ready (rs := [1, 3]) (by kernel_rfl) (by simp) ?_
            refine AllReady.cons rfl (fun K hK => ?_) (AllReady.cons rfl (fun K hK => ?_) AllReady.nil)
            · refine step_conv (by rfl) (.tmp 26) (by rfl) (.slice (some ⟨g, 0, none⟩) (1 + zs s.size) cap) (by rfl) _ (by exact run_string_of_own (pad1 (zs s.size)) (pad1_length _).symm (by exact own2)) ?_
              refine hK _ _ ?_
              clear hK K
              simp only [Act.put, List.setIfInBounds_toArray, List.set_cons_zero, List.set_cons_succ, List.getElem_toArray, List.getElem_cons_zero, List.getElem_cons_succ]
              refine wpAny_ready (rs := [3]) (by kernel_rfl) (by simp) ?_
              refine AllReady.cons rfl (fun K hK => ?_) AllReady.nil
              · refine step_conv (by rfl) (.tmp 28) (by rfl) (.slice (some ⟨W1.heap.size, 0, none⟩) 1 1) (by rfl) _ (by exact run_string_of_own [0] rfl (by exact one2)) ?_
                refine hK _ _ ?_
                clear hK K
                simp only [Act.put, List.setIfInBounds_toArray, List.set_cons_zero, List.set_cons_succ, List.getElem_toArray, List.getElem_cons_zero, List.getElem_cons_succ]
                refine wpAny_take (i := 4) (v := ?_) rfl (by kernel_rfl) (by kernel_rfl) (by kernel_rfl) (fun _ _ _ h => h) (Or.inl ⟨by rfl, ?_⟩) ?_
                rotate_left
                · (intro W; go_simp; try with_reducible rfl)
                simp only [Act.put, List.setIfInBounds_toArray, List.set_cons_zero, List.set_cons_succ, List.getElem_toArray, List.getElem_cons_zero, List.getElem_cons_succ]
                refine wpAny_take (i := 9) (v := ?_) rfl (by kernel_rfl) (by kernel_rfl) (by kernel_rfl) (fun _ _ _ h => h) (Or.inl ⟨by rfl, ?_⟩) ?_
                rotate_left
                · (intro W; go_simp; try with_reducible rfl)
                simp only [Act.put, List.setIfInBounds_toArray, List.set_cons_zero, List.set_cons_succ, List.getElem_toArray, List.getElem_cons_zero, List.getElem_cons_succ]
                refine wpAny_take (i := 10) (v := ?_) rfl (by kernel_rfl) (by kernel_rfl) (by kernel_rfl) (fun _ _ _ h => h) (Or.inl ⟨by rfl, ?_⟩) ?_
                rotate_left
                · (intro W; go_simp; try with_reducible rfl)
                simp only [Act.put, List.setIfInBounds_toArray, List.set_cons_zero, List.set_cons_succ, List.getElem_toArray, List.getElem_cons_zero, List.getElem_cons_succ]
                refine wpAny_done (by kernel_rfl) ?_ _
                go_wp2
                go_meet
                case rel => exact ⟨rfl, bel2⟩
            · refine step_conv (by rfl) (.tmp 28) (by rfl) (.slice (some ⟨W1.heap.size, 0, none⟩) 1 1) (by rfl) _ (by exact run_string_of_own [0] rfl (by exact one2)) ?_
              refine hK _ _ ?_
              clear hK K
              simp only [Act.put, List.setIfInBounds_toArray, List.set_cons_zero, List.set_cons_succ, List.getElem_toArray, List.getElem_cons_zero, List.getElem_cons_succ]
              refine wpAny_ready (rs := [1]) (by kernel_rfl) (by simp) ?_
              refine AllReady.cons rfl (fun K hK => ?_) AllReady.nil
              · refine step_conv (by rfl) (.tmp 26) (by rfl) (.slice (some ⟨g, 0, none⟩) (1 + zs s.size) cap) (by rfl) _ (by exact run_string_of_own (pad1 (zs s.size)) (pad1_length _).symm (by exact own2)) ?_
                refine hK _ _ ?_
                clear hK K
                simp only [Act.put, List.setIfInBounds_toArray, List.set_cons_zero, List.set_cons_succ, List.getElem_toArray, List.getElem_cons_zero, List.getElem_cons_succ]
                refine wpAny_take (i := 4) (v := ?_) rfl (by kernel_rfl) (by kernel_rfl) (by kernel_rfl) (fun _ _ _ h => h) (Or.inl ⟨by rfl, ?_⟩) ?_
                rotate_left
                · (intro W; go_simp; try with_reducible rfl)
                simp only [Act.put, List.setIfInBounds_toArray, List.set_cons_zero, List.set_cons_succ, List.getElem_toArray, List.getElem_cons_zero, List.getElem_cons_succ]
                refine wpAny_take (i := 9) (v := ?_) rfl (by kernel_rfl) (by kernel_rfl) (by kernel_rfl) (fun _ _ _ h => h) (Or.inl ⟨by rfl, ?_⟩) ?_
                rotate_left
                · (intro W; go_simp; try with_reducible rfl)
                simp only [Act.put, List.setIfInBounds_toArray, List.set_cons_zero, List.set_cons_succ, List.getElem_toArray, List.getElem_cons_zero, List.getElem_cons_succ]
                refine wpAny_take (i := 10) (v := ?_) rfl (by kernel_rfl) (by kernel_rfl) (by kernel_rfl) (fun _ _ _ h => h) (Or.inl ⟨by rfl, ?_⟩) ?_
                rotate_left
                · (intro W; go_simp; try with_reducible rfl)
                simp only [Act.put, List.setIfInBounds_toArray, List.set_cons_zero, List.set_cons_succ, List.getElem_toArray, List.getElem_cons_zero, List.getElem_cons_succ]
                refine wpAny_done (by kernel_rfl) ?_ _
                go_wp2
                go_meet
                case rel => exact ⟨rfl, bel2⟩
      case rest =>
        obtain ⟨rfl, hbc⟩ := hcut
        clear hown hbel hgl hne hne2 hsz hi hz0 hz1 hz2
        have HKR : Hid (∀ j, 0 ≤ kL.getD j 0 ∧ kL.getD j 0 ≤ 4294967295) := kL_range
        have HPN : Hid ((nums s).length = s.size) := nums_length s
        obtain ⟨H, hH⟩ : ∃ H : V8, H = ⟨1779033703, 3144134277, 1013904242, 2773480762, 1359893119, 2600822924, 528734635, 1541459225⟩ := ⟨_, rfl⟩
        have HOK : Hid H.ok := by show H.ok; rw [hH]; unfold V8.ok; simp
        have HR1' : Hid (RowAt wc w.heap.size (shaN kL H (nums s) 0).l) := by
          have h := HR1.out.below hbc (by omega)
          show RowAt wc w.heap.size H.l
          rw [hH]
          exact h
        have HH : Hid (H = ⟨1779033703, 3144134277, 1013904242, 2773480762, 1359893119, 2600822924, 528734635, 1541459225⟩) := hH
        clear hH
        have hcs : w.heap.size + 2 ≤ wc.heap.size := by rw [← hs2]; exact hbc.size
        go_wp2_with fail
        go_loopw [3, 8] (fun v i wr => ∃ n hb hcap : Nat, n ≤ s.size / 64 ∧ i = .int .i64 ((64 * n : Nat) : Int) ∧ v = .slice (some ⟨hb, 0, none⟩) 8 hcap ∧ Hid (RowAt wr hb (shaN kL H (nums s) n).l) ∧ hb < wr.heap.size ∧ Below (w.heap.size + 2) w2 wr) (fun _ i _ => s.size + 64 - (intOf i).toNat)
        case atStart => exact ⟨0, w.heap.size, 8, Nat.zero_le _, rfl, rfl, HR1', by omega, hbc⟩
        case round =>
          obtain ⟨n, hb, hcap, hn, rfl, rfl, HV, hhb, hbr⟩ := hrel
          have hrs : w.heap.size + 2 ≤ wr.heap.size := by rw [← hs2]; exact hbr.size
          obtain ⟨j, hj⟩ : ∃ j, 64 * n = j := ⟨_, rfl⟩
          rw [hj]
          by_cases hlt : n < s.size / 64
          · have hlt2 : (j : Int) < (s.size : Int) / 64 * 64 := by omega
            have hj64 : j + 64 ≤ s.size := by omega
            have HJ : Hid (64 * n = j) := hj
            clear hj
            go_wp2_with fail
            refine (HBLK.out wr hb hcap (w.heap.size + 1) 64 (shaN kL H (nums s) n) kL (s.extract j (j + 64)) (extract_size s j hj64) (shaN_ok kL H _ HOK.out n) rfl HKR.out HV.out (HR2.out.below hbr (by omega)) hhb (by omega)).mono ?_
            rintro e w5 ⟨g5, cap5, rfl, hr5, hg5, hb5⟩
            have HV5 : Hid (RowAt w5 g5 (shaN kL H (nums s) (n + 1)).l) := by
              show RowAt w5 g5 (blk kL (shaN kL H (nums s) n) (((nums s).drop (64 * n)).take 64)).l
              rw [HJ.out, ← extract_block s j]
              exact hr5
            have HB5 : Hid (Below (w.heap.size + 2) w2 w5) := hbr.trans (hb5.mono hrs)
            clear hr5 hb5
            go_wp2
            exact ⟨⟨n + 1, g5, cap5, by omega, by have := HJ.out; go_num, rfl, HV5, hg5, HB5.out⟩, by simp [intOf]; omega⟩
          · have hn2 : n = s.size / 64 := by omega
            have hlt2 : ¬ (j : Int) < (s.size : Int) / 64 * 64 := by omega
            have hjA : (s.size : Int) / 64 * 64 = (j : Int) := by omega
            have hjs : j ≤ s.size := by omega
            have HR : Hid (restL (nums s) = (nums s).drop j ++ (pad1 (zs s.size) ++ 0 :: beL (8 * (s.size : Int)) 7)) := by
              show restL (nums s) = _
              unfold restL pad1
              rw [HPN.out, show s.size / 64 * 64 = j by omega]
            have hrl := restL_length (nums s)
            have hzl := zs_lt s.size
            rw [HPN.out] at hrl
            have hrm := restL_mod (nums s)
            obtain ⟨R, hRR⟩ : ∃ R, restL (nums s) = R := ⟨_, rfl⟩
            have had : ∀ w, (Op.stringOp .add (s.extract j s.size) (strOfNums (pad1 (zs s.size) ++ 0 :: beL (8 * (s.size : Int)) 7))).run Tryd.prog w = .ok (.string (strOfNums R)) w := fun w => by
              rw [extract_strOf, run_add_nums _ _ (by
                have h := congrArg List.length HR.out
                rw [List.length_append] at h
                omega) w, ← hRR, HR.out]
            have HRG : Hid (∀ x ∈ R, 0 ≤ x ∧ x ≤ 255) := by rw [← hRR]; exact restL_range _ (nums_mem s)
            have HV0 : Hid (RowAt wr hb (shaN kL H (padL (nums s)) (s.size / 64 + 0)).l) := by
              have h := shaN_whole kL H (nums s)
              rw [HPN.out] at h
              rw [Nat.add_zero, h, ← hn2]
              exact HV.out
            have HST : ∀ n, Hid (shaN kL H (padL (nums s)) (s.size / 64 + n + 1) = blk kL (shaN kL H (padL (nums s)) (s.size / 64 + n)) ((R.drop (64 * n)).take 64)) := fun n => by
              have h := shaN_rest kL H (nums s) n
              rw [HPN.out, hRR] at h
              exact h
            have HEND : Hid ((padL (nums s)).length / 64 = s.size / 64 + R.length / 64) := by
              have h := padL_blocks (nums s)
              rw [HPN.out, hRR] at h
              exact h
            rw [hRR] at hrl hrm
            clear HR hRR HV hlt
            go_wp2_with fail
            have hRs : (strOfNums R).size = R.length := strOfNums_size R
            have HRN : Hid (nums (strOfNums R) = R) := nums_strOf R HRG.out
            generalize hX : strOfNums R = X at *
            have HRS : Hid (X.size = R.length) := hRs
            have hXl : X.size ≤ 200 := by omega
            clear hX had hRs
            go_loopw [3, 10] (fun v i wx => ∃ m hb hcap : Nat, m ≤ R.length / 64 ∧ i = .int .i64 ((64 * m : Nat) : Int) ∧ v = .slice (some ⟨hb, 0, none⟩) 8 hcap ∧ Hid (RowAt wx hb (shaN kL H (padL (nums s)) (s.size / 64 + m)).l) ∧ hb < wx.heap.size ∧ Below (w.heap.size + 2) w2 wx) (fun _ i _ => 300 - (intOf i).toNat)
            case atStart => exact ⟨0, hb, hcap, Nat.zero_le _, rfl, rfl, HV0, hhb, hbr⟩
            case round =>
              clear HV0 hhb hbr hrs
              obtain ⟨m, hb2, hcap2, hm, rfl, rfl, HV, hhb, hbr⟩ := hrel
              rename World => wx
              have hrs : w.heap.size + 2 ≤ wx.heap.size := by rw [← hs2]; exact hbr.size
              have hXR := HRS.out
              obtain ⟨q, hq⟩ : ∃ q, 64 * m = q := ⟨_, rfl⟩
              rw [hq]
              by_cases hlm : m < R.length / 64
              · have hle : (q : Int) + 64 ≤ (X.size : Int) := by omega
                have hq64 : q + 64 ≤ X.size := by omega
                have HJ : Hid (64 * m = q) := hq
                clear hq hXR
                go_wp2_with fail
                refine (HBLK.out wx hb2 hcap2 (w.heap.size + 1) 64 (shaN kL H (padL (nums s)) (s.size / 64 + m)) kL (X.extract q (q + 64)) (extract_size X q hq64) (shaN_ok kL H _ HOK.out _) rfl HKR.out HV.out (HR2.out.below hbr (by omega)) hhb (by omega)).mono ?_
                rintro e w5 ⟨g5, cap5, rfl, hr5, hg5, hb5⟩
                have HV5 : Hid (RowAt w5 g5 (shaN kL H (padL (nums s)) (s.size / 64 + (m + 1))).l) := by
                  show RowAt w5 g5 (shaN kL H (padL (nums s)) (s.size / 64 + m + 1)).l
                  rw [(HST m).out, HJ.out]
                  rw [extract_block X q, HRN.out] at hr5
                  exact hr5
                have HB5 : Hid (Below (w.heap.size + 2) w2 w5) := hbr.trans (hb5.mono hrs)
                clear hr5 hb5
                go_wp2
                exact ⟨⟨m + 1, g5, cap5, by omega, by have := HJ.out; go_num, rfl, HV5, hg5, HB5.out⟩, by simp [intOf]; omega⟩
              · have hm2 : m = R.length / 64 := by omega
                have hle : ¬ (q : Int) + 64 ≤ (X.size : Int) := by omega
                have HE : Hid (shaN kL H (padL (nums s)) (s.size / 64 + m) = shaN kL H (padL (nums s)) ((padL (nums s)).length / 64)) := by show _ = _; rw [HEND.out, hm2]
                have HVV : Hid ((shaN kL H (padL (nums s)) (s.size / 64 + m)).ok) := shaN_ok kL H _ HOK.out _
                generalize hV : shaN kL H (padL (nums s)) (s.size / 64 + m) = V at *
                clear hV hXR hlm
                go_wp2_with fail
                go_loopw [11, 12] (fun o i wy => ∃ k : Nat, k ≤ 8 ∧ i = .int .i64 k ∧ o = .string (strOfNums (outL V.l k)) ∧ Hid (RowAt wy hb2 V.l) ∧ hb2 < wy.heap.size ∧ Below (w.heap.size + 2) w2 wy) (fun _ i _ => 8 - (intOf i).toNat)
                case atStart => exact ⟨0, by omega, rfl, rfl, HV, hhb, hbr⟩
                case round =>
                  clear HV hhb hbr hrs
                  obtain ⟨k, hk, rfl, rfl, HV, hhb, hbr⟩ := hrel
                  rename World => wy
                  have hrs : w.heap.size + 2 ≤ wy.heap.size := by rw [← hs2]; exact hbr.size
                  by_cases hl8 : k < 8
                  · have hcx : wy.cell? ⟨hb2, k, none⟩ = some (.int .u32 (V.l.getD k 0)) := HV.out k (by show k < 8; exact hl8)
                    obtain ⟨x0, x1⟩ := v8_range V HVV.out k
                    have had : ∀ w, (Op.stringOp .add (strOfNums (outL V.l k)) (strOfNums (beL (V.l.getD k 0) 4))).run Tryd.prog w = .ok (.string (strOfNums (outL V.l (k + 1)))) w := fun w =>
                      run_add_nums (outL V.l k) (beL (V.l.getD k 0) 4) (by rw [beL_length, outL_length]; omega) w
                    obtain ⟨x, hx⟩ : ∃ x, V.l.getD k 0 = x := ⟨_, rfl⟩
                    rw [hx] at hcx x0 x1 had
                    clear hx
                    have i0' : (0 : Int) ≤ (k : Int) := by omega
                    have i1' : (k : Int) < 8 := by omega
                    go_wp2_with fail
                    refine (specFix_yes x 4 _ x0 (by omega) (by omega) (by omega) (fq_small _ _ x0 (by show _ < (2 : Int) ^ 32; omega))).mono ?_
                    rintro e w6 ⟨rfl, hb6⟩
                    have HV6 : Hid (RowAt w6 hb2 V.l) := HV.out.below hb6 hhb
                    have hbl6 : Below (w.heap.size + 2) w2 w6 := hbr.trans (hb6.mono hrs)
                    have hh6 : hb2 < w6.heap.size := by have := hb6.size; omega
                    clear hb6
                    go_wp2
                    exact ⟨⟨k + 1, by omega, by go_num, rfl, HV6, hh6, hbl6⟩, by simp [intOf]; omega⟩
                  · have : k = 8 := by omega
                    subst this
                    have HBF : Hid (Below w.heap.size w wy) := HB2.out.trans (hbr.mono (by omega))
                    go_wp2
                    go_ret
                    refine ⟨?_, HBF.out⟩
                    rw [← HH.out, ← HE.out]
                    rfl

end Go.Proofs.YtdhbhifgmbppjaaDoor
