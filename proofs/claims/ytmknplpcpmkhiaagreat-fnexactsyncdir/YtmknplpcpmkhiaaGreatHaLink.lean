/- The contracts of what the exact laws hold Link by. -/
import Derived.Test.YtmknplpcpmkhiaaGreatMtWalk
namespace Go.Proofs.YtmknplpcpmkhiaaGreat
open Go.RowKit
set_option linter.unusedVariables false

structure S_Link where
  f0 : ByteArray
  f1 : Int

def cLink (x : S_Link) : List Value := [.string x.f0, .int .i64 x.f1]

def rLink (L : List S_Link) : List Value := L.flatMap cLink

def zLink (x : S_Link) : Nat := x.f0.size

/-- No text in it is too long. -/
def sLink (x : S_Link) : Prop := x.f0.size ≤ maxLen

theorem cLink_len (x : S_Link) : (cLink x).length = 2 := rfl

theorem rLink_len (L : List S_Link) : (rLink L).length = L.length * 2 := flat_length cLink 2 cLink_len L

set_option maxRecDepth 20000 in
set_option maxHeartbeats 1000000 in
theorem szLink_c (x : S_Link) (left : Int) (w : World) (h0 : 0 ≤ left) (h1 : left ≤ 1048576) (hz : sLink x) :
    Calls Tryz.prog 114 #[.agg #[.string x.f0, .int .i64 x.f1], .int .i64 left] w fun e w' => e = .returned (.int .i64 (szF (zLink x) left)) ∧ Below w.heap.size w w' := by
  unfold zLink
  unfold sLink maxLen at hz
  by_cases h0 : (x.f0.size : Int) ≤ left
  · rw [szF_yes _ _ (by omega)]
    go_enter Tryz.func114, Tryz.ntmps114
    go_wp2
    go_ret
    exact ⟨ret_i (by omega), (Below.refl _ _).alloc (Nat.le_refl _) _⟩
  · rw [szF_no _ _ (by omega)]
    go_enter Tryz.func114, Tryz.ntmps114
    go_wp2
    go_ret
    exact ⟨rfl, (Below.refl _ _).alloc (Nat.le_refl _) _⟩

set_option maxRecDepth 20000 in
set_option maxHeartbeats 1000000 in
theorem toLink_c (x : S_Link) (w : World) :
    Calls Tryz.prog 117 #[.agg #[.string x.f0, .int .i64 x.f1]] w fun e w' => e = .returned (.agg #[.string x.f0, .int .i64 x.f1]) ∧ Below w.heap.size w w' := by
  go_enter Tryz.func117, Tryz.ntmps117
  go_wp2
  exact bodyPost_ret (v := .agg #[.string x.f0, .int .i64 x.f1]) (by simp [results, Tryz.results117, go_sem]) rfl ⟨rfl, (((Below.refl _ _).alloc (Nat.le_refl _) _).alloc (by simp) _).alloc (by simp; omega) _⟩

set_option maxRecDepth 20000 in
set_option maxHeartbeats 1000000 in
theorem eqLink_c (x : S_Link) (w : World) :
    Calls Tryz.prog 120 #[.agg #[.string x.f0, .int .i64 x.f1], .agg #[.string x.f0, .int .i64 x.f1]] w fun e w' => e = .returned (.bool true) ∧ Below w.heap.size w w' := by
  go_enter Tryz.func120, Tryz.ntmps120
  go_wp2
  go_ret
  exact ⟨rfl, ((Below.refl _ _).alloc (Nat.le_refl _) _).alloc (by simp) _⟩

set_option maxRecDepth 20000 in
set_option maxHeartbeats 2000000 in
theorem szLinkS_c (v : Value) (L : List S_Link) (left : Int) (w : World) (h0 : 0 ≤ left) (h1 : left ≤ 1048576) (hn : L.length ≤ maxLen) (hz : ∀ x ∈ L, sLink x) (hr : RowR w v L.length 2 (rLink L)) :
    Calls Tryz.prog 69 #[v, .int .i64 left] w fun e w' => e = .returned (.int .i64 (szF (L.length + zsum zLink L L.length) left)) ∧ Below w.heap.size w w' := by
  have HZ : Hid (∀ x ∈ L, sLink x) := hz
  have hn' : (L.length : Int) ≤ 9223372036854775807 := by unfold maxLen at hn; omega
  clear hz hn
  rcases Nat.eq_zero_or_pos L.length with hl | hl
  · obtain ⟨p, cap, rfl⟩ := RowR.none (by rw [hl] at hr; exact hr)
    have hz0 : Hid (szF (L.length + zsum zLink L L.length) left = left) := by
      have e : zsum zLink L L.length = 0 := by rw [hl]; rfl
      show _ = _
      rw [e, hl, szF_yes _ _ (by omega)]; omega
    rw [hz0.out]
    clear hr hl hn' hz0
    go_enter Tryz.func69, Tryz.ntmps69
    go_wp2
    go_loopw [1, 5] (fun m i wr => m = .int .i64 left ∧ i = .int .i64 0 ∧ wr = w) (fun _ _ _ => 0)
    case atStart => exact ⟨rfl, rfl, rfl⟩
    case round =>
      obtain ⟨rfl, rfl, rfl⟩ := hrel
      go_wp2
      go_ret
      exact ⟨rfl, Below.refl _ _⟩
  · obtain ⟨b, off, cap, rfl, hb, hc⟩ := hr.some hl (by decide)
    have HC : Hid (∀ j, j < L.length * 2 → w.cell? ⟨b, off + j, none⟩ = (rLink L)[j]?) := hc
    clear hc hr
    by_cases hlen : (L.length : Int) ≤ left
    · go_enter Tryz.func69, Tryz.ntmps69
      go_wp2
      go_loopw [1, 5] (fun m i wr => ∃ k : Nat, k ≤ L.length ∧ i = .int .i64 (k : Int) ∧ m = .int .i64 (left - (L.length : Int) - (zsum zLink L k : Int)) ∧ 0 ≤ left - (L.length : Int) - (zsum zLink L k : Int) ∧ Hid (Below w.heap.size w wr)) (fun _ i _ => L.length - (intOf i).toNat)
      case atStart => exact ⟨0, Nat.zero_le _, rfl, by simp [zsum], by simp [zsum]; omega, Below.refl _ _⟩
      case round =>
        obtain ⟨k, hk, rfl, rfl, hp, HB⟩ := hrel
        by_cases hlt : k < L.length
        · have hlt' : (k : Int) < L.length := by omega
          have c : ∀ q, q < 2 → wr.cell? ⟨b, off + (k * 2 + q), none⟩ = (cLink L[k])[q]? := fun q hq => by
            rw [HB.out.cell (by exact hb), HC.out (k * 2 + q) (by omega)]
            exact flat_at cLink 2 cLink_len L k q hlt hq
          have c0 : wr.cell? ⟨b, off + k * 2, none⟩ = some (.string (L[k]).f0) := by have := c 0 (by decide); rw [← Nat.add_assoc] at this; exact this
          have c1 : wr.cell? ⟨b, off + k * 2 + 1, none⟩ = some (.int .i64 (L[k]).f1) := by have := c 1 (by decide); rw [← Nat.add_assoc] at this; exact this
          clear c
          have HS : Hid (zsum zLink L (k + 1) = zsum zLink L k + zLink L[k]) := zsum_succ zLink L k hlt
          have HLE : Hid (zsum zLink L (k + 1) ≤ zsum zLink L L.length) := zsum_le zLink L (k + 1) hlt
          have HZK : Hid (sLink L[k]) := HZ.out L[k] (List.getElem_mem hlt)
          generalize L[k] = X at c0 c1 HS HZK
          obtain ⟨Z, hZ⟩ : ∃ Z : Int, left - (L.length : Int) - (zsum zLink L k : Int) = Z := ⟨_, rfl⟩
          rw [hZ] at hp ⊢
          have hZ1 : Z ≤ left := by omega
          go_wp2_with fail
          refine (szLink_c X Z _ hp (by omega) HZK.out).mono ?_
          rintro e w1 ⟨rfl, b1⟩
          have HB1 : Hid (Below w.heap.size w w1) := HB.out.trans (b1.mono HB.out.size)
          clear b1 c0 c1
          by_cases hok : (zLink X : Int) ≤ Z
          · rw [szF_yes _ _ hok]
            have HZ2 : Hid (left - (L.length : Int) - (zsum zLink L (k + 1) : Int) = Z - (zLink X : Int)) := by have := HS.out; show _ = _; omega
            have hnn : 0 ≤ Z - (zLink X : Int) := by omega
            clear hZ
            generalize (zLink X : Int) = q at hok HZ2 hnn
            go_wp2
            go_roundw
            case rel => exact ⟨k + 1, by omega, by go_num, by rw [HZ2.out], by rw [HZ2.out]; exact hnn, HB1⟩
            case measure => simp [intOf]; omega
          · rw [szF_no _ _ hok]
            have HF : Hid (szF (L.length + zsum zLink L L.length) left = -1) := szF_no _ _ (by have := HS.out; have := HLE.out; omega)
            clear hZ hok
            go_wp2
            go_ret
            exact ⟨by rw [HF.out]; rfl, HB1.out⟩
        · have hke : k = L.length := by omega
          subst hke
          have HF : Hid (szF (L.length + zsum zLink L L.length) left = left - (L.length : Int) - (zsum zLink L L.length : Int)) := by
            show _ = _
            rw [szF_yes _ _ (by omega)]; omega
          generalize (left - (L.length : Int) - (zsum zLink L L.length : Int)) = Z at HF ⊢
          go_wp2
          go_ret
          exact ⟨by rw [HF.out]; rfl, HB.out⟩
    · have HF : Hid (szF (L.length + zsum zLink L L.length) left = -1) := szF_no _ _ (by omega)
      rw [HF.out]
      go_enter Tryz.func69, Tryz.ntmps69
      go_wp2
      go_ret
      exact ⟨rfl, Below.refl _ _⟩

theorem infoLink : (Tryz.prog.info? 49).map (fun i => (i.zero, i.size, i.bytes)) = some (some (.agg #[.string ⟨#[]⟩, .int .i64 0]), 2, 24) := by kernel_rfl

theorem sizeLink : (Tryz.prog.info? 49).map (·.size) = some 2 := by kernel_rfl

set_option maxRecDepth 20000 in
set_option maxHeartbeats 2000000 in
theorem toLinkS_c (v : Value) (L : List S_Link) (w : World) (hn : L.length ≤ 1048576) (hr : RowR w v L.length 2 (rLink L)) :
    Calls Tryz.prog 72 #[v] w fun e w' => ∃ v', e = .returned v' ∧ w'.ownsRow w.heap.size 49 2 v' L.length (rLink L) ∧ Below w.heap.size w w' := by
  obtain ⟨i0, hi, hz0, hz1, hz2⟩ := info_parts infoLink
  have hn' : (L.length : Int) ≤ 1048576 := by omega
  have HR : Hid (RowR w v L.length 2 (rLink L)) := hr
  obtain ⟨p, cap, hv⟩ : ∃ p cap, v = .slice p L.length cap := by obtain ⟨_, p, cap, hv, _⟩ := hr; exact ⟨p, cap, hv⟩
  subst hv
  clear hr
  go_enter Tryz.func72, Tryz.ntmps72
  go_wp2_with (first | (at_make; refine wpList_make_full _ rfl _ _ 25 rfl w.heap.size 49 i0 (.agg #[.string ⟨#[]⟩, .int .i64 0]) 2 Tryz.underlying25 hi hz0 hz1 .i64 .i64 L.length L.length L.length rfl rfl rfl rfl (by rw [hz2]; omega) (by unfold maxLen; omega) (Nat.le_refl _) ?_) | go_in)
  intro w0 hown0 hgrow0
  have hbel0 : Below w.heap.size w w0 := (Below.refl _ _).grown hgrow0 (Nat.le_refl _) (by simp)
  clear hgrow0
  go_wp2
  go_loopw [4] (fun i wr => ∃ k : Nat, k ≤ L.length ∧ i = .int .i64 (k : Int) ∧ Hid (∃ xs, wr.ownsRow w.heap.size 49 2 (.slice (some ⟨w.heap.size, 0, none⟩) L.length L.length) L.length xs ∧ xs.take (k * 2) = rLink (L.take k)) ∧ Hid (Below w.heap.size w wr)) (fun i _ => L.length - (intOf i).toNat)
  case atStart => exact ⟨0, Nat.zero_le _, rfl, ⟨_, hown0, by simp [rLink]⟩, hbel0⟩
  case round =>
    obtain ⟨k, hk, rfl, HO, HB⟩ := hrel
    by_cases hlt : k < L.length
    · have hlt' : (k : Int) < L.length := by omega
      obtain ⟨b, off, cap', hv, hb, hc⟩ := HR.out.some (by omega) (by decide)
      simp only [Value.slice.injEq, true_and] at hv
      obtain ⟨rfl, rfl⟩ := hv
      have c : ∀ q, q < 2 → wr.cell? ⟨b, off + (k * 2 + q), none⟩ = (cLink L[k])[q]? := fun q hq => by
        rw [HB.out.cell (by exact hb), hc (k * 2 + q) (by omega)]
        exact flat_at cLink 2 cLink_len L k q hlt hq
      have c0 : wr.cell? ⟨b, off + k * 2, none⟩ = some (.string (L[k]).f0) := by have := c 0 (by decide); rw [← Nat.add_assoc] at this; exact this
      have c1 : wr.cell? ⟨b, off + k * 2 + 1, none⟩ = some (.int .i64 (L[k]).f1) := by have := c 1 (by decide); rw [← Nat.add_assoc] at this; exact this
      clear c
      have HFT : Hid (rLink (L.take (k + 1)) = rLink (L.take k) ++ cLink L[k]) := flat_take cLink L k hlt
      clear hc
      generalize L[k] = X at c0 c1 HFT
      go_wp2_with fail
      refine (toLink_c X _).mono ?_
      rintro e w1 ⟨rfl, b1⟩
      obtain ⟨xs, hxo, hxt⟩ := HO.out
      have hown1 := own_bel hxo b1 (Nat.le_refl _)
      have HB1 : Hid (Below w.heap.size w w1) := HB.out.trans (b1.mono HB.out.size)
      obtain ⟨u0, s0⟩ := own_cell hown1 (k * 2) (by omega)
      have z0 := hown1.frozenAt (k * 2)
      obtain ⟨u1, s1⟩ := own_cell hown1 (k * 2 + 1) (by omega)
      have z1 := hown1.frozenAt (k * 2 + 1)
      have HO2 : Hid (∃ xs, ((w1.setCell ⟨w.heap.size, k * 2, none⟩ (.string X.f0)).setCell ⟨w.heap.size, k * 2 + 1, none⟩ (.int .i64 X.f1)).ownsRow w.heap.size 49 2 (.slice (some ⟨w.heap.size, 0, none⟩) L.length L.length) L.length xs ∧ xs.take ((k + 1) * 2) = rLink (L.take (k + 1))) := by
        refine ⟨_, own_setCells (cLink X) (k * 2) xs w1 hown1, ?_⟩
        have hl := hown1.1
        have := take_setN (cLink X) xs (k * 2) (by rw [cLink_len]; omega)
        rw [cLink_len] at this
        rw [show (k + 1) * 2 = k * 2 + 2 by omega, this, hxt, HFT.out]
      have HB2 : Hid (Below w.heap.size w ((w1.setCell ⟨w.heap.size, k * 2, none⟩ (.string X.f0)).setCell ⟨w.heap.size, k * 2 + 1, none⟩ (.int .i64 X.f1))) := bel_setCells (Nat.le_refl _) (cLink X) (k * 2) _ HB1.out
      clear hxo hxt hown1 b1 HO HB HB1 c0 c1
      go_wp2
      go_roundw
      case rel => exact ⟨k + 1, by omega, by go_num, HO2, HB2⟩
      case measure => simp [intOf]; omega
    · have hke : k = L.length := by omega
      subst hke
      have HF : Hid (wr.ownsRow w.heap.size 49 2 (.slice (some ⟨w.heap.size, 0, none⟩) L.length L.length) L.length (rLink L)) := by
        obtain ⟨xs, hxo, hxt⟩ := HO.out
        rw [List.take_length] at hxt
        rw [all_of_take hxo.1 hxt] at hxo
        exact hxo
      go_wp2
      go_ret
      exact ⟨_, rfl, HF.out, HB.out⟩

set_option maxRecDepth 20000 in
set_option maxHeartbeats 2000000 in
theorem eqLinkS_c (v v2 : Value) (L : List S_Link) (w : World) (hn : L.length ≤ 1048576) (hr : RowR w v L.length 2 (rLink L)) (hr2 : RowR w v2 L.length 2 (rLink L)) :
    Calls Tryz.prog 77 #[v, v2] w fun e w' => e = .returned (.bool true) ∧ Below w.heap.size w w' := by
  have hn' : (L.length : Int) ≤ 1048576 := by omega
  have HR : Hid (RowR w v L.length 2 (rLink L)) := hr
  have HR2 : Hid (RowR w v2 L.length 2 (rLink L)) := hr2
  obtain ⟨p, cap, hv⟩ : ∃ p cap, v = .slice p L.length cap := by obtain ⟨_, p, cap, hv, _⟩ := hr; exact ⟨p, cap, hv⟩
  obtain ⟨p2, cap2, hv2⟩ : ∃ p cap, v2 = .slice p L.length cap := by obtain ⟨_, p, cap, hv, _⟩ := hr2; exact ⟨p, cap, hv⟩
  subst hv
  subst hv2
  clear hr hr2
  go_enter Tryz.func77, Tryz.ntmps77
  go_wp2
  go_loopw [5] (fun i wr => ∃ k : Nat, k ≤ L.length ∧ i = .int .i64 (k : Int) ∧ Hid (Below w.heap.size w wr)) (fun i _ => L.length - (intOf i).toNat)
  case atStart => exact ⟨0, Nat.zero_le _, rfl, Below.refl _ _⟩
  case round =>
    obtain ⟨k, hk, rfl, HB⟩ := hrel
    by_cases hlt : k < L.length
    · have hlt' : (k : Int) < L.length := by omega
      obtain ⟨b, off, cap', hv, hb, hc⟩ := HR.out.some (by omega) (by decide)
      simp only [Value.slice.injEq, true_and] at hv
      obtain ⟨rfl, rfl⟩ := hv
      obtain ⟨b2, off2, cap', hv, hb2, hc2⟩ := HR2.out.some (by omega) (by decide)
      simp only [Value.slice.injEq, true_and] at hv
      obtain ⟨rfl, rfl⟩ := hv
      have c : ∀ q, q < 2 → wr.cell? ⟨b, off + (k * 2 + q), none⟩ = (cLink L[k])[q]? := fun q hq => by
        rw [HB.out.cell (by exact hb), hc (k * 2 + q) (by omega)]
        exact flat_at cLink 2 cLink_len L k q hlt hq
      have c0 : wr.cell? ⟨b, off + k * 2, none⟩ = some (.string (L[k]).f0) := by have := c 0 (by decide); rw [← Nat.add_assoc] at this; exact this
      have c1 : wr.cell? ⟨b, off + k * 2 + 1, none⟩ = some (.int .i64 (L[k]).f1) := by have := c 1 (by decide); rw [← Nat.add_assoc] at this; exact this
      clear c
      have c : ∀ q, q < 2 → wr.cell? ⟨b2, off2 + (k * 2 + q), none⟩ = (cLink L[k])[q]? := fun q hq => by
        rw [HB.out.cell (by exact hb2), hc2 (k * 2 + q) (by omega)]
        exact flat_at cLink 2 cLink_len L k q hlt hq
      have d0 : wr.cell? ⟨b2, off2 + k * 2, none⟩ = some (.string (L[k]).f0) := by have := c 0 (by decide); rw [← Nat.add_assoc] at this; exact this
      have d1 : wr.cell? ⟨b2, off2 + k * 2 + 1, none⟩ = some (.int .i64 (L[k]).f1) := by have := c 1 (by decide); rw [← Nat.add_assoc] at this; exact this
      clear c
      clear hc hc2
      generalize L[k] = X at c0 c1 d0 d1
      go_wp2
      refine wp_region_any (by kernel_rfl) ?_
      refine wpAny_take (i := 0) (v := ?_) rfl (by kernel_rfl) (by kernel_rfl) (by kernel_rfl) (fun _ _ _ h => h) (Or.inl ⟨by rfl, ?_⟩) ?_
      rotate_left
      · (intro W; go_simp; try with_reducible rfl)
      simp only [Act.put, List.setIfInBounds_toArray, List.set_cons_zero, List.set_cons_succ, List.getElem_toArray, List.getElem_cons_zero]
      refine wpAny_take (i := 1) (v := ?_) rfl (by kernel_rfl) (by kernel_rfl) (by kernel_rfl) (fun _ _ _ h => h) (Or.inl ⟨by rfl, ?_⟩) ?_
      rotate_left
      · (intro W; go_simp; try with_reducible rfl)
      simp only [Act.put, List.setIfInBounds_toArray, List.set_cons_zero, List.set_cons_succ, List.getElem_toArray, List.getElem_cons_zero, List.getElem_cons_succ]
      refine wpAny_take (i := 2) (v := ?_) rfl (by kernel_rfl) (by kernel_rfl) (by kernel_rfl) (fun _ _ _ h => h) (Or.inl ⟨by rfl, ?_⟩) ?_
      rotate_left
      · (intro W; go_simp; try with_reducible rfl)
      simp only [Act.put, List.setIfInBounds_toArray, List.set_cons_zero, List.set_cons_succ, List.getElem_toArray, List.getElem_cons_zero, List.getElem_cons_succ]
      refine wpAny_take (i := 4) (v := ?_) rfl (by kernel_rfl) (by kernel_rfl) (by kernel_rfl) (fun _ _ _ h => h) (Or.inl ⟨by rfl, ?_⟩) ?_
      rotate_left
      · (intro W; go_simp; try with_reducible rfl)
      simp only [Act.put, List.setIfInBounds_toArray, List.set_cons_zero, List.set_cons_succ, List.getElem_toArray, List.getElem_cons_zero, List.getElem_cons_succ]
      refine wpAny_take (i := 5) (v := ?_) rfl (by kernel_rfl) (by kernel_rfl) (by kernel_rfl) (fun _ _ _ h => h) (Or.inl ⟨by rfl, ?_⟩) ?_
      rotate_left
      · (intro W; go_simp; try with_reducible rfl)
      simp only [Act.put, List.setIfInBounds_toArray, List.set_cons_zero, List.set_cons_succ, List.getElem_toArray, List.getElem_cons_zero, List.getElem_cons_succ]
      refine wpAny_take (i := 6) (v := ?_) rfl (by kernel_rfl) (by kernel_rfl) (by kernel_rfl) (fun _ _ _ h => h) (Or.inl ⟨by rfl, ?_⟩) ?_
      rotate_left
      · (intro W; go_simp; try with_reducible rfl)
      simp only [Act.put, List.setIfInBounds_toArray, List.set_cons_zero, List.set_cons_succ, List.getElem_toArray, List.getElem_cons_zero, List.getElem_cons_succ]
      refine wpAny_ready (rs := [3, 7]) (by kernel_rfl) (by simp) ?_
      refine AllReady.cons rfl (fun K hK => ?_) (AllReady.cons rfl (fun K hK => ?_) AllReady.nil)
      · go_simp
        refine hK _ _ ?_
        clear hK K
        refine wpAny_ready (rs := [7]) (by kernel_rfl) (by simp) ?_
        refine AllReady.cons rfl (fun K hK => ?_) AllReady.nil
        go_simp
        refine hK _ _ ?_
        clear hK K
        refine wpAny_ready (rs := [8]) (by kernel_rfl) (by simp) ?_
        refine AllReady.cons rfl (fun K hK => ?_) AllReady.nil
        go_simp
        refine (eqLink_c X _).mono ?_
        rintro e w1 ⟨rfl, b1⟩
        refine hK _ _ ?_
        clear hK K
        refine wpAny_take (i := 9) (v := ?_) rfl (by kernel_rfl) (by kernel_rfl) (by kernel_rfl) (fun _ _ _ h => h) (Or.inl ⟨by rfl, ?_⟩) ?_
        rotate_left
        · (intro W; go_simp; try with_reducible rfl)
        simp only [Act.put, List.setIfInBounds_toArray, List.set_cons_zero, List.set_cons_succ, List.getElem_toArray, List.getElem_cons_zero, List.getElem_cons_succ]
        refine wpAny_done (by kernel_rfl) ?_ _
        have HB1 : Hid (Below w.heap.size w w1) := (HB.out.drew).trans (b1.mono HB.out.size)
        clear b1
        go_wp2
        go_roundw
        case rel => exact ⟨k + 1, by omega, by go_num, HB1⟩
        case measure => simp [intOf]; omega
      · go_simp
        refine hK _ _ ?_
        clear hK K
        refine wpAny_ready (rs := [3]) (by kernel_rfl) (by simp) ?_
        refine AllReady.cons rfl (fun K hK => ?_) AllReady.nil
        go_simp
        refine hK _ _ ?_
        clear hK K
        refine wpAny_ready (rs := [8]) (by kernel_rfl) (by simp) ?_
        refine AllReady.cons rfl (fun K hK => ?_) AllReady.nil
        go_simp
        refine (eqLink_c X _).mono ?_
        rintro e w1 ⟨rfl, b1⟩
        refine hK _ _ ?_
        clear hK K
        refine wpAny_take (i := 9) (v := ?_) rfl (by kernel_rfl) (by kernel_rfl) (by kernel_rfl) (fun _ _ _ h => h) (Or.inl ⟨by rfl, ?_⟩) ?_
        rotate_left
        · (intro W; go_simp; try with_reducible rfl)
        simp only [Act.put, List.setIfInBounds_toArray, List.set_cons_zero, List.set_cons_succ, List.getElem_toArray, List.getElem_cons_zero, List.getElem_cons_succ]
        refine wpAny_done (by kernel_rfl) ?_ _
        have HB1 : Hid (Below w.heap.size w w1) := (HB.out.drew).trans (b1.mono HB.out.size)
        clear b1
        go_wp2
        go_roundw
        case rel => exact ⟨k + 1, by omega, by go_num, HB1⟩
        case measure => simp [intOf]; omega
    · have hke : k = L.length := by omega
      subst hke
      go_wp2
      go_ret
      exact ⟨rfl, HB.out⟩

/-- The cells of element i, marked from k on. -/
def mLink (k : Int) (i : Nat) : List Value := [.string (mt (k + ((i * 2 : Nat) : Int))), .int .i64 (k + ((i * 2 : Nat) : Int) + 1)]

def mLinks (k : Int) (n : Nat) : List Value := (List.range n).flatMap (mLink k)

theorem mLinks_len (k : Int) (n : Nat) : (mLinks k n).length = n * 2 := by
  have := flat_length (mLink k) 2 (fun _ => rfl) (List.range n)
  rwa [List.length_range] at this

theorem mLinks_at (k : Int) (n i q : Nat) (hi : i < n) (hq : q < 2) : (mLinks k n)[i * 2 + q]? = (mLink k i)[q]? := by
  have := flat_at (mLink k) 2 (fun _ => rfl) (List.range n) i q (by simpa using hi) hq
  rw [List.getElem_range] at this
  exact this

set_option maxRecDepth 20000 in
set_option maxHeartbeats 2000000 in
theorem markLinkS_c (v : Value) (L : List S_Link) (k0 : Int) (base : Nat) (w : World) (hn : L.length ≤ 1048576) (hk0 : 0 < k0) (hk1 : k0 ≤ 100000000) (hb : base ≤ w.heap.size) (h : w.ownsRow base 49 2 v L.length (rLink L)) :
    Calls Tryz.prog 80 #[v, .int .i64 k0] w fun e w' => e = .returned (.int .i64 (k0 + ((L.length * 2 : Nat) : Int))) ∧ w'.ownsRow base 49 2 v L.length (mLinks k0 L.length) ∧ ButV v w w' := by
  have hn' : (L.length : Int) ≤ 1048576 := by omega
  rcases Nat.eq_zero_or_pos L.length with hl | hl
  · have HO : Hid (w.ownsRow base 49 2 v L.length (mLinks k0 L.length)) := by
      have e1 : rLink L = [] := List.eq_nil_of_length_eq_zero (by rw [rLink_len, hl, Nat.zero_mul])
      have e2 : mLinks k0 L.length = [] := List.eq_nil_of_length_eq_zero (by rw [mLinks_len, hl, Nat.zero_mul])
      show World.ownsRow _ _ _ _ _ _ _
      rw [e2, ← e1]; exact h
    obtain ⟨p, cap, hv⟩ : ∃ p cap, v = .slice p 0 cap := by obtain ⟨_, p, cap, hv, _⟩ := RowR.own h; rw [hl] at hv; exact ⟨p, cap, hv⟩
    subst hv
    have HE : Hid (k0 + ((L.length * 2 : Nat) : Int) = k0) := by show _ = _; omega
    clear h hl
    go_enter Tryz.func80, Tryz.ntmps80
    go_wp2
    go_loopw [1, 5] (fun m i wr => m = .int .i64 k0 ∧ i = .int .i64 0 ∧ wr = w) (fun _ _ _ => 0)
    case atStart => exact ⟨rfl, rfl, rfl⟩
    case round =>
      obtain ⟨rfl, rfl, rfl⟩ := hrel
      go_wp2
      go_ret
      exact ⟨by rw [HE.out]; rfl, HO.out, Or.inl rfl⟩
  · obtain ⟨g, cap, hv, hbg⟩ : ∃ g cap, v = .slice (some ⟨g, 0, none⟩) L.length cap ∧ base ≤ g := by
      obtain ⟨_, ⟨_, h2⟩ | ⟨g, cap, cur, h2, h3, _⟩⟩ := h
      · omega
      · exact ⟨g, cap, h2, h3⟩
    subst hv
    have HM : Hid (Mkd w base 49 2 (.slice (some ⟨g, 0, none⟩) L.length cap) L.length (mLinks k0 L.length) (0 * 2)) := ⟨_, h, rfl⟩
    clear h
    go_enter Tryz.func80, Tryz.ntmps80
    go_wp2
    go_loopw [1, 5] (fun m i wr => ∃ k : Nat, k ≤ L.length ∧ i = .int .i64 (k : Int) ∧ m = .int .i64 (k0 + ((k * 2 : Nat) : Int)) ∧ Hid (Mkd wr base 49 2 (.slice (some ⟨g, 0, none⟩) L.length cap) L.length (mLinks k0 L.length) (k * 2)) ∧ Hid (But g w wr)) (fun _ i _ => L.length - (intOf i).toNat)
    case atStart => exact ⟨0, Nat.zero_le _, rfl, by simp, HM, But.refl _ _⟩
    case round =>
      obtain ⟨k, hk, rfl, rfl, HR0, HB0⟩ := hrel
      have hsz := HB0.out.size
      by_cases hlt : k < L.length
      · have hlt' : (k : Int) < L.length := by omega
        have m0 : (mLinks k0 L.length)[k * 2]? = some (.string (mt (k0 + ((k * 2 : Nat) : Int)))) := mLinks_at k0 L.length k 0 hlt (by decide)
        have m1 : (mLinks k0 L.length)[k * 2 + 1]? = some (.int .i64 (k0 + ((k * 2 : Nat) : Int) + 1)) := mLinks_at k0 L.length k 1 hlt (by decide)
        obtain ⟨A, hA⟩ : ∃ A : Int, k0 + ((k * 2 : Nat) : Int) = A := ⟨_, rfl⟩
        have HAn : Hid (k0 + (((k + 1) * 2 : Nat) : Int) = A + 1 + 1) := by show _ = _; omega
        rw [hA] at m0 m1 ⊢
        have hA0 : 0 < A := by omega
        have hA1 : A ≤ 200000000 := by omega
        clear hA
        go_wp2_with fail
        refine (markText_c (A) _ (by omega) (by omega)).mono ?_
        rintro e w2 ⟨rfl, b2⟩
        have HS0 : Hid (Mkd w2 base 49 2 (.slice (some ⟨g, 0, none⟩) L.length cap) L.length (mLinks k0 L.length) (k * 2)) := HR0.out.bel b2 (Nat.le_refl _)
        have HT0 : Hid (But g w w2) := HB0.out.bel b2
        clear HR0 HB0 b2
        obtain ⟨⟨u0, c0⟩, z0⟩ := HS0.out.cell (k * 2) (by omega)
        obtain ⟨⟨u1, c1⟩, z1⟩ := HS0.out.cell (k * 2 + 1) (by omega)
        have HR1 : Hid (Mkd (w2.setCell ⟨g, k * 2, none⟩ (.string (mt (A)))) base 49 2 (.slice (some ⟨g, 0, none⟩) L.length cap) L.length (mLinks k0 L.length) (k * 2 + 1)) := HS0.out.set _ m0 (by omega)
        have HB1 : Hid (But g w (w2.setCell ⟨g, k * 2, none⟩ (.string (mt (A))))) := HT0.out.setCell _
        clear HS0 HT0
        have HR2 : Hid (Mkd ((w2.setCell ⟨g, k * 2, none⟩ (.string (mt (A)))).setCell ⟨g, k * 2 + 1, none⟩ (.int .i64 (A + 1))) base 49 2 (.slice (some ⟨g, 0, none⟩) L.length cap) L.length (mLinks k0 L.length) (k * 2 + 2)) := HR1.out.set _ m1 (by omega)
        have HB2 : Hid (But g w ((w2.setCell ⟨g, k * 2, none⟩ (.string (mt (A)))).setCell ⟨g, k * 2 + 1, none⟩ (.int .i64 (A + 1)))) := HB1.out.setCell _
        clear HR1 HB1
        have HRe : Hid (Mkd ((w2.setCell ⟨g, k * 2, none⟩ (.string (mt (A)))).setCell ⟨g, k * 2 + 1, none⟩ (.int .i64 (A + 1))) base 49 2 (.slice (some ⟨g, 0, none⟩) L.length cap) L.length (mLinks k0 L.length) ((k + 1) * 2)) := by
          have := HR2.out
          rw [show (k + 1) * 2 = k * 2 + 2 by omega]
          exact this
        clear HR2
        go_wp2
        go_roundw
        case rel => exact ⟨k + 1, by omega, by go_num, by rw [HAn.out], HRe, HB2⟩
        case measure => simp [intOf]; omega
      · have hke : k = L.length := by omega
        subst hke
        have HF : Hid (wr.ownsRow base 49 2 (.slice (some ⟨g, 0, none⟩) L.length cap) L.length (mLinks k0 L.length)) := HR0.out.all (mLinks_len _ _)
        obtain ⟨Z, hZ⟩ : ∃ Z : Int, k0 + ((L.length * 2 : Nat) : Int) = Z := ⟨_, rfl⟩
        have HZ : Hid (k0 + ((L.length * 2 : Nat) : Int) = Z) := hZ
        rw [hZ]
        clear hZ
        go_wp2
        go_ret
        exact ⟨by rw [HZ.out]; rfl, HF.out, Or.inr ⟨g, rfl, HB0.out⟩⟩

set_option maxRecDepth 20000 in
set_option maxHeartbeats 4000000 in
theorem heldLinkS_c (v : Value) (len : Nat) (k0 : Int) (w : World) (hn : len ≤ 1048576) (hk0 : 0 < k0) (hk1 : k0 ≤ 100000000) (hr : RowR w v len 2 (mLinks k0 len)) :
    Calls Tryz.prog 83 #[v, .int .i64 k0] w fun e w' => e = .returned (.int .i64 (k0 + ((len * 2 : Nat) : Int))) ∧ Below w.heap.size w w' := by
  have hn' : (len : Int) ≤ 1048576 := by omega
  have HR : Hid (RowR w v len 2 (mLinks k0 len)) := hr
  obtain ⟨p, cap, hv⟩ : ∃ p cap, v = .slice p len cap := by obtain ⟨_, p, cap, hv, _⟩ := hr; exact ⟨p, cap, hv⟩
  subst hv
  clear hr
  go_enter Tryz.func83, Tryz.ntmps83
  go_wp2
  go_loopw [1, 5] (fun m i wr => ∃ k : Nat, k ≤ len ∧ i = .int .i64 (k : Int) ∧ m = .int .i64 (k0 + ((k * 2 : Nat) : Int)) ∧ Hid (Below w.heap.size w wr)) (fun _ i _ => len - (intOf i).toNat)
  case atStart => exact ⟨0, Nat.zero_le _, rfl, by simp, Below.refl _ _⟩
  case round =>
    obtain ⟨k, hk, rfl, rfl, HB⟩ := hrel
    by_cases hlt : k < len
    · have hlt' : (k : Int) < len := by omega
      obtain ⟨b, off, cap', hv, hb, hc⟩ := HR.out.some (by omega) (by decide)
      simp only [Value.slice.injEq, true_and] at hv
      obtain ⟨rfl, rfl⟩ := hv
      obtain ⟨A, hA⟩ : ∃ A : Int, k0 + ((k * 2 : Nat) : Int) = A := ⟨_, rfl⟩
      have d0 : Hid (w.cell? ⟨b, off + k * 2, none⟩ = some (.string (mt (A)))) := by
        have h1 := hc (k * 2 + 0) (by omega)
        rw [mLinks_at k0 len k 0 hlt (by decide), ← Nat.add_assoc] at h1
        rw [← hA]
        exact h1
      have d1 : Hid (w.cell? ⟨b, off + k * 2 + 1, none⟩ = some (.int .i64 (A + 1))) := by
        have h1 := hc (k * 2 + 1) (by omega)
        rw [mLinks_at k0 len k 1 hlt (by decide), ← Nat.add_assoc] at h1
        rw [← hA]
        exact h1
      have HAn : Hid (k0 + (((k + 1) * 2 : Nat) : Int) = A + 1 + 1) := by show _ = _; omega
      rw [hA]
      have hA0 : 0 < A := by omega
      have hA1 : A ≤ 200000000 := by omega
      clear hA hc
      have e0 : wr.cell? ⟨b, off + k * 2, none⟩ = some (.string (mt (A))) := by rw [HB.out.cell (by exact hb)]; exact d0.out
      go_wp2
      refine wp_region_any (by kernel_rfl) ?_
      refine wpAny_take (i := 0) (v := ?_) rfl (by kernel_rfl) (by kernel_rfl) (by kernel_rfl) (fun _ _ _ h => h) (Or.inl ⟨by rfl, ?_⟩) ?_
      rotate_left
      · (intro W; go_simp; try with_reducible rfl)
      simp only [Act.put, List.setIfInBounds_toArray, List.set_cons_zero, List.set_cons_succ, List.getElem_toArray, List.getElem_cons_zero]
      refine wpAny_take (i := 1) (v := ?_) rfl (by kernel_rfl) (by kernel_rfl) (by kernel_rfl) (fun _ _ _ h => h) (Or.inl ⟨by rfl, ?_⟩) ?_
      rotate_left
      · (intro W; go_simp; try with_reducible rfl)
      simp only [Act.put, List.setIfInBounds_toArray, List.set_cons_zero, List.set_cons_succ, List.getElem_toArray, List.getElem_cons_zero, List.getElem_cons_succ]
      refine wpAny_take (i := 2) (v := ?_) rfl (by kernel_rfl) (by kernel_rfl) (by kernel_rfl) (fun _ _ _ h => h) (Or.inl ⟨by rfl, ?_⟩) ?_
      rotate_left
      · (intro W; go_simp; try with_reducible rfl)
      simp only [Act.put, List.setIfInBounds_toArray, List.set_cons_zero, List.set_cons_succ, List.getElem_toArray, List.getElem_cons_zero, List.getElem_cons_succ]
      refine wpAny_take (i := 3) (v := ?_) rfl (by kernel_rfl) (by kernel_rfl) (by kernel_rfl) (fun _ _ _ h => h) (Or.inl ⟨by rfl, ?_⟩) ?_
      rotate_left
      · (intro W; go_simp; try with_reducible rfl)
      simp only [Act.put, List.setIfInBounds_toArray, List.set_cons_zero, List.set_cons_succ, List.getElem_toArray, List.getElem_cons_zero, List.getElem_cons_succ]
      refine wpAny_take (i := 5) (v := ?_) rfl (by kernel_rfl) (by kernel_rfl) (by kernel_rfl) (fun _ _ _ h => h) (Or.inl ⟨by rfl, ?_⟩) ?_
      rotate_left
      · (intro W; go_simp; try with_reducible rfl)
      simp only [Act.put, List.setIfInBounds_toArray, List.set_cons_zero, List.set_cons_succ, List.getElem_toArray, List.getElem_cons_zero, List.getElem_cons_succ]
      refine wpAny_ready (rs := [4, 6]) (by kernel_rfl) (by simp) ?_
      refine AllReady.cons rfl (fun K hK => ?_) (AllReady.cons rfl (fun K hK => ?_) AllReady.nil)
      · go_simp
        refine hK _ _ ?_
        clear hK K
        refine wpAny_ready (rs := [6]) (by kernel_rfl) (by simp) ?_
        refine AllReady.cons rfl (fun K hK => ?_) AllReady.nil
        go_simp
        refine (markText_c (A) _ (by omega) (by omega)).mono ?_
        rintro e x0 ⟨rfl, b2⟩
        refine hK _ _ ?_
        clear hK K
        have HX0 : Hid (Below w.heap.size w x0) := (HB.out.drew).trans (b2.mono HB.out.size)
        clear b2
        refine wpAny_take (i := 7) (v := ?_) rfl (by kernel_rfl) (by kernel_rfl) (by kernel_rfl) (fun _ _ _ h => h) (Or.inl ⟨by rfl, ?_⟩) ?_
        rotate_left
        · (intro W; go_simp; try with_reducible rfl)
        simp only [Act.put, List.setIfInBounds_toArray, List.set_cons_zero, List.set_cons_succ, List.getElem_toArray, List.getElem_cons_zero, List.getElem_cons_succ]
        refine wpAny_done (by kernel_rfl) ?_ _
        clear e0
        have e1 : x0.cell? ⟨b, off + k * 2 + 1, none⟩ = some (.int .i64 (A + 1)) := by rw [HX0.out.cell (by exact hb)]; exact d1.out
        go_wp2
        go_roundw
        case rel => exact ⟨k + 1, by omega, by go_num, by rw [HAn.out], HX0⟩
        case measure => simp [intOf]; omega
      · go_simp
        refine (markText_c (A) _ (by omega) (by omega)).mono ?_
        rintro e x0 ⟨rfl, b2⟩
        refine hK _ _ ?_
        clear hK K
        have HX0 : Hid (Below w.heap.size w x0) := (HB.out.drew).trans (b2.mono HB.out.size)
        clear b2
        have e0' : x0.cell? ⟨b, off + k * 2, none⟩ = some (.string (mt (A))) := by rw [HX0.out.cell (by exact hb)]; exact d0.out
        refine wpAny_ready (rs := [4]) (by kernel_rfl) (by simp) ?_
        refine AllReady.cons rfl (fun K hK => ?_) AllReady.nil
        go_simp
        refine hK _ _ ?_
        clear hK K e0'
        refine wpAny_take (i := 7) (v := ?_) rfl (by kernel_rfl) (by kernel_rfl) (by kernel_rfl) (fun _ _ _ h => h) (Or.inl ⟨by rfl, ?_⟩) ?_
        rotate_left
        · (intro W; go_simp; try with_reducible rfl)
        simp only [Act.put, List.setIfInBounds_toArray, List.set_cons_zero, List.set_cons_succ, List.getElem_toArray, List.getElem_cons_zero, List.getElem_cons_succ]
        refine wpAny_done (by kernel_rfl) ?_ _
        clear e0
        have e1 : x0.cell? ⟨b, off + k * 2 + 1, none⟩ = some (.int .i64 (A + 1)) := by rw [HX0.out.cell (by exact hb)]; exact d1.out
        go_wp2
        go_roundw
        case rel => exact ⟨k + 1, by omega, by go_num, by rw [HAn.out], HX0⟩
        case measure => simp [intOf]; omega
    · have hke : k = len := by omega
      subst hke
      obtain ⟨Z, hZ⟩ : ∃ Z : Int, k0 + ((k * 2 : Nat) : Int) = Z := ⟨_, rfl⟩
      have HZ : Hid (k0 + ((k * 2 : Nat) : Int) = Z) := hZ
      rw [hZ]
      clear hZ
      go_wp2
      go_ret
      exact ⟨by rw [HZ.out]; rfl, HB.out⟩

end Go.Proofs.YtmknplpcpmkhiaaGreat
