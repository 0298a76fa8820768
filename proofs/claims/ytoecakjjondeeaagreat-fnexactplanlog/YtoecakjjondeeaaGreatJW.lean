/- The contracts of what the exact laws hold Entry by. -/
import Derived.Test.YtoecakjjondeeaaGreatMtWalk
import Derived.Test.YtoecakjjondeeaaGreatHaBut
import Derived.Test.YtoecakjjondeeaaGreatJR
import Derived.Laws.BitsLemmas
import Derived.Laws.Wrap64
import Derived.Test.YtoecakjjondeeaaGreatOwnLaws
namespace Go.Proofs.YtoecakjjondeeaaGreat
open Go.RowKit
set_option linter.unusedVariables false

structure S_Entry where
  f0 : Int
  f1 : ByteArray

def cEntry (x : S_Entry) : List Value := [.int .i64 x.f0, .string x.f1]

def rEntry (L : List S_Entry) : List Value := L.flatMap cEntry

def zEntry (x : S_Entry) : Nat := x.f1.size

/-- No text in it is too long. -/
def sEntry (x : S_Entry) : Prop := x.f1.size ≤ maxLen

theorem cEntry_len (x : S_Entry) : (cEntry x).length = 2 := rfl

theorem rEntry_len (L : List S_Entry) : (rEntry L).length = L.length * 2 := flat_length cEntry 2 cEntry_len L

set_option maxRecDepth 20000 in
set_option maxHeartbeats 1000000 in
theorem szEntry_c (x : S_Entry) (left : Int) (w : World) (h0 : 0 ≤ left) (h1 : left ≤ 1048576) (hz : sEntry x) :
    Calls Tryz.prog 109 #[.agg #[.int .i64 x.f0, .string x.f1], .int .i64 left] w fun e w' => e = .returned (.int .i64 (szF (zEntry x) left)) ∧ Below w.heap.size w w' := by
  unfold zEntry
  unfold sEntry maxLen at hz
  by_cases h1 : (x.f1.size : Int) ≤ left
  · rw [szF_yes _ _ (by omega)]
    go_enter Tryz.func109, Tryz.ntmps109
    go_wp2
    go_ret
    exact ⟨ret_i (by omega), (Below.refl _ _).alloc (Nat.le_refl _) _⟩
  · rw [szF_no _ _ (by omega)]
    go_enter Tryz.func109, Tryz.ntmps109
    go_wp2
    go_ret
    exact ⟨rfl, (Below.refl _ _).alloc (Nat.le_refl _) _⟩

set_option maxRecDepth 20000 in
set_option maxHeartbeats 1000000 in
theorem toEntry_c (x : S_Entry) (w : World) :
    Calls Tryz.prog 114 #[.agg #[.int .i64 x.f0, .string x.f1]] w fun e w' => e = .returned (.agg #[.int .i64 x.f0, .string x.f1]) ∧ Below w.heap.size w w' := by
  go_enter Tryz.func114, Tryz.ntmps114
  go_wp2
  exact bodyPost_ret (v := .agg #[.int .i64 x.f0, .string x.f1]) (by simp [results, Tryz.results114, go_sem]) rfl ⟨rfl, (((Below.refl _ _).alloc (Nat.le_refl _) _).alloc (by simp) _).alloc (by simp; omega) _⟩

set_option maxRecDepth 20000 in
set_option maxHeartbeats 1000000 in
theorem eqEntry_c (x : S_Entry) (w : World) :
    Calls Tryz.prog 124 #[.agg #[.int .i64 x.f0, .string x.f1], .agg #[.int .i64 x.f0, .string x.f1]] w fun e w' => e = .returned (.bool true) ∧ Below w.heap.size w w' := by
  go_enter Tryz.func124, Tryz.ntmps124
  go_wp2
  go_ret
  exact ⟨rfl, ((Below.refl _ _).alloc (Nat.le_refl _) _).alloc (by simp) _⟩

set_option maxRecDepth 20000 in
set_option maxHeartbeats 2000000 in
theorem szEntryS_c (v : Value) (L : List S_Entry) (left : Int) (w : World) (h0 : 0 ≤ left) (h1 : left ≤ 1048576) (hn : L.length ≤ maxLen) (hz : ∀ x ∈ L, sEntry x) (hr : RowR w v L.length 2 (rEntry L)) :
    Calls Tryz.prog 58 #[v, .int .i64 left] w fun e w' => e = .returned (.int .i64 (szF (L.length + zsum zEntry L L.length) left)) ∧ Below w.heap.size w w' := by
  have HZ : Hid (∀ x ∈ L, sEntry x) := hz
  have hn' : (L.length : Int) ≤ 9223372036854775807 := by unfold maxLen at hn; omega
  clear hz hn
  rcases Nat.eq_zero_or_pos L.length with hl | hl
  · obtain ⟨p, cap, rfl⟩ := RowR.none (by rw [hl] at hr; exact hr)
    have hz0 : Hid (szF (L.length + zsum zEntry L L.length) left = left) := by
      have e : zsum zEntry L L.length = 0 := by rw [hl]; rfl
      show _ = _
      rw [e, hl, szF_yes _ _ (by omega)]; omega
    rw [hz0.out]
    clear hr hl hn' hz0
    go_enter Tryz.func58, Tryz.ntmps58
    go_wp2
    go_loopw [1, 5] (fun m i wr => m = .int .i64 left ∧ i = .int .i64 0 ∧ wr = w) (fun _ _ _ => 0)
    case atStart => exact ⟨rfl, rfl, rfl⟩
    case round =>
      obtain ⟨rfl, rfl, rfl⟩ := hrel
      go_wp2
      go_ret
      exact ⟨rfl, Below.refl _ _⟩
  · obtain ⟨b, off, cap, rfl, hb, hc⟩ := hr.some hl (by decide)
    have HC : Hid (∀ j, j < L.length * 2 → w.cell? ⟨b, off + j, none⟩ = (rEntry L)[j]?) := hc
    clear hc hr
    by_cases hlen : (L.length : Int) ≤ left
    · go_enter Tryz.func58, Tryz.ntmps58
      go_wp2
      go_loopw [1, 5] (fun m i wr => ∃ k : Nat, k ≤ L.length ∧ i = .int .i64 (k : Int) ∧ m = .int .i64 (left - (L.length : Int) - (zsum zEntry L k : Int)) ∧ 0 ≤ left - (L.length : Int) - (zsum zEntry L k : Int) ∧ Hid (Below w.heap.size w wr)) (fun _ i _ => L.length - (intOf i).toNat)
      case atStart => exact ⟨0, Nat.zero_le _, rfl, by simp [zsum], by simp [zsum]; omega, Below.refl _ _⟩
      case round =>
        obtain ⟨k, hk, rfl, rfl, hp, HB⟩ := hrel
        by_cases hlt : k < L.length
        · have hlt' : (k : Int) < L.length := by omega
          have c : ∀ q, q < 2 → wr.cell? ⟨b, off + (k * 2 + q), none⟩ = (cEntry L[k])[q]? := fun q hq => by
            rw [HB.out.cell (by exact hb), HC.out (k * 2 + q) (by omega)]
            exact flat_at cEntry 2 cEntry_len L k q hlt hq
          have c0 : wr.cell? ⟨b, off + k * 2, none⟩ = some (.int .i64 (L[k]).f0) := by have := c 0 (by decide); rw [← Nat.add_assoc] at this; exact this
          have c1 : wr.cell? ⟨b, off + k * 2 + 1, none⟩ = some (.string (L[k]).f1) := by have := c 1 (by decide); rw [← Nat.add_assoc] at this; exact this
          clear c
          have HS : Hid (zsum zEntry L (k + 1) = zsum zEntry L k + zEntry L[k]) := zsum_succ zEntry L k hlt
          have HLE : Hid (zsum zEntry L (k + 1) ≤ zsum zEntry L L.length) := zsum_le zEntry L (k + 1) hlt
          have HZK : Hid (sEntry L[k]) := HZ.out L[k] (List.getElem_mem hlt)
          generalize L[k] = X at c0 c1 HS HZK
          obtain ⟨Z, hZ⟩ : ∃ Z : Int, left - (L.length : Int) - (zsum zEntry L k : Int) = Z := ⟨_, rfl⟩
          rw [hZ] at hp ⊢
          have hZ1 : Z ≤ left := by omega
          go_wp2_with fail
          refine (szEntry_c X Z _ hp (by omega) HZK.out).mono ?_
          rintro e w1 ⟨rfl, b1⟩
          have HB1 : Hid (Below w.heap.size w w1) := HB.out.trans (b1.mono HB.out.size)
          clear b1 c0 c1
          by_cases hok : (zEntry X : Int) ≤ Z
          · rw [szF_yes _ _ hok]
            have HZ2 : Hid (left - (L.length : Int) - (zsum zEntry L (k + 1) : Int) = Z - (zEntry X : Int)) := by have := HS.out; show _ = _; omega
            have hnn : 0 ≤ Z - (zEntry X : Int) := by omega
            clear hZ
            generalize (zEntry X : Int) = q at hok HZ2 hnn
            go_wp2
            go_roundw
            case rel => exact ⟨k + 1, by omega, by go_num, by rw [HZ2.out], by rw [HZ2.out]; exact hnn, HB1⟩
            case measure => simp [intOf]; omega
          · rw [szF_no _ _ hok]
            have HF : Hid (szF (L.length + zsum zEntry L L.length) left = -1) := szF_no _ _ (by have := HS.out; have := HLE.out; omega)
            clear hZ hok
            go_wp2
            go_ret
            exact ⟨by rw [HF.out]; rfl, HB1.out⟩
        · have hke : k = L.length := by omega
          subst hke
          have HF : Hid (szF (L.length + zsum zEntry L L.length) left = left - (L.length : Int) - (zsum zEntry L L.length : Int)) := by
            show _ = _
            rw [szF_yes _ _ (by omega)]; omega
          generalize (left - (L.length : Int) - (zsum zEntry L L.length : Int)) = Z at HF ⊢
          go_wp2
          go_ret
          exact ⟨by rw [HF.out]; rfl, HB.out⟩
    · have HF : Hid (szF (L.length + zsum zEntry L L.length) left = -1) := szF_no _ _ (by omega)
      rw [HF.out]
      go_enter Tryz.func58, Tryz.ntmps58
      go_wp2
      go_ret
      exact ⟨rfl, Below.refl _ _⟩

theorem infoEntry : (Tryz.prog.info? 151).map (fun i => (i.zero, i.size, i.bytes)) = some (some (.agg #[.int .i64 0, .string ⟨#[]⟩]), 2, 24) := by kernel_rfl

theorem sizeEntry : (Tryz.prog.info? 151).map (·.size) = some 2 := by kernel_rfl

set_option maxRecDepth 20000 in
set_option maxHeartbeats 2000000 in
theorem toEntryS_c (v : Value) (L : List S_Entry) (w : World) (hn : L.length ≤ 1048576) (hr : RowR w v L.length 2 (rEntry L)) :
    Calls Tryz.prog 62 #[v] w fun e w' => ∃ v', e = .returned v' ∧ w'.ownsRow w.heap.size 151 2 v' L.length (rEntry L) ∧ Below w.heap.size w w' := by
  obtain ⟨i0, hi, hz0, hz1, hz2⟩ := info_parts infoEntry
  have hn' : (L.length : Int) ≤ 1048576 := by omega
  have HR : Hid (RowR w v L.length 2 (rEntry L)) := hr
  obtain ⟨p, cap, hv⟩ : ∃ p cap, v = .slice p L.length cap := by obtain ⟨_, p, cap, hv, _⟩ := hr; exact ⟨p, cap, hv⟩
  subst hv
  clear hr
  go_enter Tryz.func62, Tryz.ntmps62
  go_wp2_with (first | (at_make; refine wpList_make_full _ rfl _ _ 58 rfl w.heap.size 151 i0 (.agg #[.int .i64 0, .string ⟨#[]⟩]) 2 Tryz.underlying58 hi hz0 hz1 .i64 .i64 L.length L.length L.length rfl rfl rfl rfl (by rw [hz2]; omega) (by unfold maxLen; omega) (Nat.le_refl _) ?_) | go_in)
  intro w0 hown0 hgrow0
  have hbel0 : Below w.heap.size w w0 := (Below.refl _ _).grown hgrow0 (Nat.le_refl _) (by simp)
  clear hgrow0
  go_wp2
  go_loopw [4] (fun i wr => ∃ k : Nat, k ≤ L.length ∧ i = .int .i64 (k : Int) ∧ Hid (∃ xs, wr.ownsRow w.heap.size 151 2 (.slice (some ⟨w.heap.size, 0, none⟩) L.length L.length) L.length xs ∧ xs.take (k * 2) = rEntry (L.take k)) ∧ Hid (Below w.heap.size w wr)) (fun i _ => L.length - (intOf i).toNat)
  case atStart => exact ⟨0, Nat.zero_le _, rfl, ⟨_, hown0, by simp [rEntry]⟩, hbel0⟩
  case round =>
    obtain ⟨k, hk, rfl, HO, HB⟩ := hrel
    by_cases hlt : k < L.length
    · have hlt' : (k : Int) < L.length := by omega
      obtain ⟨b, off, cap', hv, hb, hc⟩ := HR.out.some (by omega) (by decide)
      simp only [Value.slice.injEq, true_and] at hv
      obtain ⟨rfl, rfl⟩ := hv
      have c : ∀ q, q < 2 → wr.cell? ⟨b, off + (k * 2 + q), none⟩ = (cEntry L[k])[q]? := fun q hq => by
        rw [HB.out.cell (by exact hb), hc (k * 2 + q) (by omega)]
        exact flat_at cEntry 2 cEntry_len L k q hlt hq
      have c0 : wr.cell? ⟨b, off + k * 2, none⟩ = some (.int .i64 (L[k]).f0) := by have := c 0 (by decide); rw [← Nat.add_assoc] at this; exact this
      have c1 : wr.cell? ⟨b, off + k * 2 + 1, none⟩ = some (.string (L[k]).f1) := by have := c 1 (by decide); rw [← Nat.add_assoc] at this; exact this
      clear c
      have HFT : Hid (rEntry (L.take (k + 1)) = rEntry (L.take k) ++ cEntry L[k]) := flat_take cEntry L k hlt
      clear hc
      generalize L[k] = X at c0 c1 HFT
      go_wp2_with fail
      refine (toEntry_c X _).mono ?_
      rintro e w1 ⟨rfl, b1⟩
      obtain ⟨xs, hxo, hxt⟩ := HO.out
      have hown1 := own_bel hxo b1 (Nat.le_refl _)
      have HB1 : Hid (Below w.heap.size w w1) := HB.out.trans (b1.mono HB.out.size)
      obtain ⟨u0, s0⟩ := own_cell hown1 (k * 2) (by omega)
      have z0 := hown1.frozenAt (k * 2)
      obtain ⟨u1, s1⟩ := own_cell hown1 (k * 2 + 1) (by omega)
      have z1 := hown1.frozenAt (k * 2 + 1)
      have HO2 : Hid (∃ xs, ((w1.setCell ⟨w.heap.size, k * 2, none⟩ (.int .i64 X.f0)).setCell ⟨w.heap.size, k * 2 + 1, none⟩ (.string X.f1)).ownsRow w.heap.size 151 2 (.slice (some ⟨w.heap.size, 0, none⟩) L.length L.length) L.length xs ∧ xs.take ((k + 1) * 2) = rEntry (L.take (k + 1))) := by
        refine ⟨_, own_setCells (cEntry X) (k * 2) xs w1 hown1, ?_⟩
        have hl := hown1.1
        have := take_setN (cEntry X) xs (k * 2) (by rw [cEntry_len]; omega)
        rw [cEntry_len] at this
        rw [show (k + 1) * 2 = k * 2 + 2 by omega, this, hxt, HFT.out]
      have HB2 : Hid (Below w.heap.size w ((w1.setCell ⟨w.heap.size, k * 2, none⟩ (.int .i64 X.f0)).setCell ⟨w.heap.size, k * 2 + 1, none⟩ (.string X.f1))) := bel_setCells (Nat.le_refl _) (cEntry X) (k * 2) _ HB1.out
      clear hxo hxt hown1 b1 HO HB HB1 c0 c1
      go_wp2
      go_roundw
      case rel => exact ⟨k + 1, by omega, by go_num, HO2, HB2⟩
      case measure => simp [intOf]; omega
    · have hke : k = L.length := by omega
      subst hke
      have HF : Hid (wr.ownsRow w.heap.size 151 2 (.slice (some ⟨w.heap.size, 0, none⟩) L.length L.length) L.length (rEntry L)) := by
        obtain ⟨xs, hxo, hxt⟩ := HO.out
        rw [List.take_length] at hxt
        rw [all_of_take hxo.1 hxt] at hxo
        exact hxo
      go_wp2
      go_ret
      exact ⟨_, rfl, HF.out, HB.out⟩

set_option maxRecDepth 20000 in
set_option maxHeartbeats 2000000 in
theorem eqEntryS_c (v v2 : Value) (L : List S_Entry) (w : World) (hn : L.length ≤ 1048576) (hr : RowR w v L.length 2 (rEntry L)) (hr2 : RowR w v2 L.length 2 (rEntry L)) :
    Calls Tryz.prog 66 #[v, v2] w fun e w' => e = .returned (.bool true) ∧ Below w.heap.size w w' := by
  have hn' : (L.length : Int) ≤ 1048576 := by omega
  have HR : Hid (RowR w v L.length 2 (rEntry L)) := hr
  have HR2 : Hid (RowR w v2 L.length 2 (rEntry L)) := hr2
  obtain ⟨p, cap, hv⟩ : ∃ p cap, v = .slice p L.length cap := by obtain ⟨_, p, cap, hv, _⟩ := hr; exact ⟨p, cap, hv⟩
  obtain ⟨p2, cap2, hv2⟩ : ∃ p cap, v2 = .slice p L.length cap := by obtain ⟨_, p, cap, hv, _⟩ := hr2; exact ⟨p, cap, hv⟩
  subst hv
  subst hv2
  clear hr hr2
  go_enter Tryz.func66, Tryz.ntmps66
  go_wp2
  go_loopw [5] (fun i wr => ∃ k : Nat, k ≤ L.length ∧ i = .int .i64 (k : Int) ∧ Hid (Below w.heap.size w wr)) (fun i _ => L.length - (intOf i).toNat)
  case atStart => exact ⟨0, Nat.zero_le _, rfl, Below.refl _ _⟩
  case round =>
    obtain ⟨k, hk, rfl, HB⟩ := hrel
    by_cases hlt : k < L.length
    · have hlt' : (k : Int) < L.length := by omega
      obtain ⟨b, off, cap', hv, hb, hc⟩ := HR.out.some (by omega) (by decide)
      simp only [Value.slice.injEq, true_and] at hv
      obtain ⟨rfl, rfl⟩ := hv
      obtain ⟨b2, off2, cap', hv, hb2, hc2⟩ := HR2.out.some (by omega) (by decide)
      simp only [Value.slice.injEq, true_and] at hv
      obtain ⟨rfl, rfl⟩ := hv
      have c : ∀ q, q < 2 → wr.cell? ⟨b, off + (k * 2 + q), none⟩ = (cEntry L[k])[q]? := fun q hq => by
        rw [HB.out.cell (by exact hb), hc (k * 2 + q) (by omega)]
        exact flat_at cEntry 2 cEntry_len L k q hlt hq
      have c0 : wr.cell? ⟨b, off + k * 2, none⟩ = some (.int .i64 (L[k]).f0) := by have := c 0 (by decide); rw [← Nat.add_assoc] at this; exact this
      have c1 : wr.cell? ⟨b, off + k * 2 + 1, none⟩ = some (.string (L[k]).f1) := by have := c 1 (by decide); rw [← Nat.add_assoc] at this; exact this
      clear c
      have c : ∀ q, q < 2 → wr.cell? ⟨b2, off2 + (k * 2 + q), none⟩ = (cEntry L[k])[q]? := fun q hq => by
        rw [HB.out.cell (by exact hb2), hc2 (k * 2 + q) (by omega)]
        exact flat_at cEntry 2 cEntry_len L k q hlt hq
      have d0 : wr.cell? ⟨b2, off2 + k * 2, none⟩ = some (.int .i64 (L[k]).f0) := by have := c 0 (by decide); rw [← Nat.add_assoc] at this; exact this
      have d1 : wr.cell? ⟨b2, off2 + k * 2 + 1, none⟩ = some (.string (L[k]).f1) := by have := c 1 (by decide); rw [← Nat.add_assoc] at this; exact this
      clear c
      clear hc hc2
      generalize L[k] = X at c0 c1 d0 d1
      go_wp2
      refine wp_region_any (by kernel_rfl) ?_
      refine wpAny_take (i := 0) (v := ?_) rfl (by kernel_rfl) (by kernel_rfl) (by kernel_rfl) (fun _ _ _ h => h) (Or.inl ⟨by rfl, ?_⟩) ?_
      rotate_left
      · (intro W; go_simp; try with_reducible rfl)
      simp only [Act.put, List.setIfInBounds_toArray, List.set_cons_zero, List.set_cons_succ, List.getElem_toArray, List.getElem_cons_zero]
      refine wpAny_take (i := 1) (v := ?_) rfl (by kernel_rfl) (by kernel_rfl) (by kernel_rfl) (fun _ _ _ h => h) (Or.inl ⟨by rfl, ?_⟩) ?_
      rotate_left
      · (intro W; go_simp; try with_reducible rfl)
      simp only [Act.put, List.setIfInBounds_toArray, List.set_cons_zero, List.set_cons_succ, List.getElem_toArray, List.getElem_cons_zero, List.getElem_cons_succ]
      refine wpAny_take (i := 2) (v := ?_) rfl (by kernel_rfl) (by kernel_rfl) (by kernel_rfl) (fun _ _ _ h => h) (Or.inl ⟨by rfl, ?_⟩) ?_
      rotate_left
      · (intro W; go_simp; try with_reducible rfl)
      simp only [Act.put, List.setIfInBounds_toArray, List.set_cons_zero, List.set_cons_succ, List.getElem_toArray, List.getElem_cons_zero, List.getElem_cons_succ]
      refine wpAny_take (i := 4) (v := ?_) rfl (by kernel_rfl) (by kernel_rfl) (by kernel_rfl) (fun _ _ _ h => h) (Or.inl ⟨by rfl, ?_⟩) ?_
      rotate_left
      · (intro W; go_simp; try with_reducible rfl)
      simp only [Act.put, List.setIfInBounds_toArray, List.set_cons_zero, List.set_cons_succ, List.getElem_toArray, List.getElem_cons_zero, List.getElem_cons_succ]
      refine wpAny_take (i := 5) (v := ?_) rfl (by kernel_rfl) (by kernel_rfl) (by kernel_rfl) (fun _ _ _ h => h) (Or.inl ⟨by rfl, ?_⟩) ?_
      rotate_left
      · (intro W; go_simp; try with_reducible rfl)
      simp only [Act.put, List.setIfInBounds_toArray, List.set_cons_zero, List.set_cons_succ, List.getElem_toArray, List.getElem_cons_zero, List.getElem_cons_succ]
      refine wpAny_take (i := 6) (v := ?_) rfl (by kernel_rfl) (by kernel_rfl) (by kernel_rfl) (fun _ _ _ h => h) (Or.inl ⟨by rfl, ?_⟩) ?_
      rotate_left
      · (intro W; go_simp; try with_reducible rfl)
      simp only [Act.put, List.setIfInBounds_toArray, List.set_cons_zero, List.set_cons_succ, List.getElem_toArray, List.getElem_cons_zero, List.getElem_cons_succ]
      refine wpAny_ready (rs := [3, 7]) (by kernel_rfl) (by simp) ?_
      refine AllReady.cons rfl (fun K hK => ?_) (AllReady.cons rfl (fun K hK => ?_) AllReady.nil)
      · go_simp
        refine hK _ _ ?_
        clear hK K
        refine wpAny_ready (rs := [7]) (by kernel_rfl) (by simp) ?_
        refine AllReady.cons rfl (fun K hK => ?_) AllReady.nil
        go_simp
        refine hK _ _ ?_
        clear hK K
        refine wpAny_ready (rs := [8]) (by kernel_rfl) (by simp) ?_
        refine AllReady.cons rfl (fun K hK => ?_) AllReady.nil
        go_simp
        refine (eqEntry_c X _).mono ?_
        rintro e w1 ⟨rfl, b1⟩
        refine hK _ _ ?_
        clear hK K
        refine wpAny_take (i := 9) (v := ?_) rfl (by kernel_rfl) (by kernel_rfl) (by kernel_rfl) (fun _ _ _ h => h) (Or.inl ⟨by rfl, ?_⟩) ?_
        rotate_left
        · (intro W; go_simp; try with_reducible rfl)
        simp only [Act.put, List.setIfInBounds_toArray, List.set_cons_zero, List.set_cons_succ, List.getElem_toArray, List.getElem_cons_zero, List.getElem_cons_succ]
        refine wpAny_done (by kernel_rfl) ?_ _
        have HB1 : Hid (Below w.heap.size w w1) := (HB.out.drew).trans (b1.mono HB.out.size)
        clear b1
        go_wp2
        go_roundw
        case rel => exact ⟨k + 1, by omega, by go_num, HB1⟩
        case measure => simp [intOf]; omega
      · go_simp
        refine hK _ _ ?_
        clear hK K
        refine wpAny_ready (rs := [3]) (by kernel_rfl) (by simp) ?_
        refine AllReady.cons rfl (fun K hK => ?_) AllReady.nil
        go_simp
        refine hK _ _ ?_
        clear hK K
        refine wpAny_ready (rs := [8]) (by kernel_rfl) (by simp) ?_
        refine AllReady.cons rfl (fun K hK => ?_) AllReady.nil
        go_simp
        refine (eqEntry_c X _).mono ?_
        rintro e w1 ⟨rfl, b1⟩
        refine hK _ _ ?_
        clear hK K
        refine wpAny_take (i := 9) (v := ?_) rfl (by kernel_rfl) (by kernel_rfl) (by kernel_rfl) (fun _ _ _ h => h) (Or.inl ⟨by rfl, ?_⟩) ?_
        rotate_left
        · (intro W; go_simp; try with_reducible rfl)
        simp only [Act.put, List.setIfInBounds_toArray, List.set_cons_zero, List.set_cons_succ, List.getElem_toArray, List.getElem_cons_zero, List.getElem_cons_succ]
        refine wpAny_done (by kernel_rfl) ?_ _
        have HB1 : Hid (Below w.heap.size w w1) := (HB.out.drew).trans (b1.mono HB.out.size)
        clear b1
        go_wp2
        go_roundw
        case rel => exact ⟨k + 1, by omega, by go_num, HB1⟩
        case measure => simp [intOf]; omega
    · have hke : k = L.length := by omega
      subst hke
      go_wp2
      go_ret
      exact ⟨rfl, HB.out⟩

/-- The cells of element i, marked from k on. -/
def mEntry (k : Int) (i : Nat) : List Value := [.int .i64 (k + ((i * 2 : Nat) : Int)), .string (mt (k + ((i * 2 : Nat) : Int) + 1))]

def mEntrys (k : Int) (n : Nat) : List Value := (List.range n).flatMap (mEntry k)

theorem mEntrys_len (k : Int) (n : Nat) : (mEntrys k n).length = n * 2 := by
  have := flat_length (mEntry k) 2 (fun _ => rfl) (List.range n)
  rwa [List.length_range] at this

theorem mEntrys_at (k : Int) (n i q : Nat) (hi : i < n) (hq : q < 2) : (mEntrys k n)[i * 2 + q]? = (mEntry k i)[q]? := by
  have := flat_at (mEntry k) 2 (fun _ => rfl) (List.range n) i q (by simpa using hi) hq
  rw [List.getElem_range] at this
  exact this

set_option maxRecDepth 20000 in
set_option maxHeartbeats 2000000 in
theorem markEntryS_c (v : Value) (L : List S_Entry) (k0 : Int) (base : Nat) (w : World) (hn : L.length ≤ 1048576) (hk0 : 0 < k0) (hk1 : k0 ≤ 100000000) (hb : base ≤ w.heap.size) (h : w.ownsRow base 151 2 v L.length (rEntry L)) :
    Calls Tryz.prog 67 #[v, .int .i64 k0] w fun e w' => e = .returned (.int .i64 (k0 + ((L.length * 2 : Nat) : Int))) ∧ w'.ownsRow base 151 2 v L.length (mEntrys k0 L.length) ∧ ButV v w w' := by
  have hn' : (L.length : Int) ≤ 1048576 := by omega
  rcases Nat.eq_zero_or_pos L.length with hl | hl
  · have HO : Hid (w.ownsRow base 151 2 v L.length (mEntrys k0 L.length)) := by
      have e1 : rEntry L = [] := List.eq_nil_of_length_eq_zero (by rw [rEntry_len, hl, Nat.zero_mul])
      have e2 : mEntrys k0 L.length = [] := List.eq_nil_of_length_eq_zero (by rw [mEntrys_len, hl, Nat.zero_mul])
      show World.ownsRow _ _ _ _ _ _ _
      rw [e2, ← e1]; exact h
    obtain ⟨p, cap, hv⟩ : ∃ p cap, v = .slice p 0 cap := by obtain ⟨_, p, cap, hv, _⟩ := RowR.own h; rw [hl] at hv; exact ⟨p, cap, hv⟩
    subst hv
    have HE : Hid (k0 + ((L.length * 2 : Nat) : Int) = k0) := by show _ = _; omega
    clear h hl
    go_enter Tryz.func67, Tryz.ntmps67
    go_wp2
    go_loopw [1, 5] (fun m i wr => m = .int .i64 k0 ∧ i = .int .i64 0 ∧ wr = w) (fun _ _ _ => 0)
    case atStart => exact ⟨rfl, rfl, rfl⟩
    case round =>
      obtain ⟨rfl, rfl, rfl⟩ := hrel
      go_wp2
      go_ret
      exact ⟨by rw [HE.out]; rfl, HO.out, Or.inl rfl⟩
  · obtain ⟨g, cap, hv, hbg⟩ : ∃ g cap, v = .slice (some ⟨g, 0, none⟩) L.length cap ∧ base ≤ g := by
      obtain ⟨_, ⟨_, h2⟩ | ⟨g, cap, cur, h2, h3, _⟩⟩ := h
      · omega
      · exact ⟨g, cap, h2, h3⟩
    subst hv
    have HM : Hid (Mkd w base 151 2 (.slice (some ⟨g, 0, none⟩) L.length cap) L.length (mEntrys k0 L.length) (0 * 2)) := ⟨_, h, rfl⟩
    clear h
    go_enter Tryz.func67, Tryz.ntmps67
    go_wp2
    go_loopw [1, 5] (fun m i wr => ∃ k : Nat, k ≤ L.length ∧ i = .int .i64 (k : Int) ∧ m = .int .i64 (k0 + ((k * 2 : Nat) : Int)) ∧ Hid (Mkd wr base 151 2 (.slice (some ⟨g, 0, none⟩) L.length cap) L.length (mEntrys k0 L.length) (k * 2)) ∧ Hid (But g w wr)) (fun _ i _ => L.length - (intOf i).toNat)
    case atStart => exact ⟨0, Nat.zero_le _, rfl, by simp, HM, But.refl _ _⟩
    case round =>
      obtain ⟨k, hk, rfl, rfl, HR0, HB0⟩ := hrel
      have hsz := HB0.out.size
      by_cases hlt : k < L.length
      · have hlt' : (k : Int) < L.length := by omega
        have m0 : (mEntrys k0 L.length)[k * 2]? = some (.int .i64 (k0 + ((k * 2 : Nat) : Int))) := mEntrys_at k0 L.length k 0 hlt (by decide)
        have m1 : (mEntrys k0 L.length)[k * 2 + 1]? = some (.string (mt (k0 + ((k * 2 : Nat) : Int) + 1))) := mEntrys_at k0 L.length k 1 hlt (by decide)
        obtain ⟨A, hA⟩ : ∃ A : Int, k0 + ((k * 2 : Nat) : Int) = A := ⟨_, rfl⟩
        have HAn : Hid (k0 + (((k + 1) * 2 : Nat) : Int) = A + 1 + 1) := by show _ = _; omega
        rw [hA] at m0 m1 ⊢
        have hA0 : 0 < A := by omega
        have hA1 : A ≤ 200000000 := by omega
        clear hA
        obtain ⟨⟨u0, c0⟩, z0⟩ := HR0.out.cell (k * 2) (by omega)
        have HR1 : Hid (Mkd (wr.setCell ⟨g, k * 2, none⟩ (.int .i64 (A))) base 151 2 (.slice (some ⟨g, 0, none⟩) L.length cap) L.length (mEntrys k0 L.length) (k * 2 + 1)) := HR0.out.set _ m0 (by omega)
        have HB1 : Hid (But g w (wr.setCell ⟨g, k * 2, none⟩ (.int .i64 (A)))) := HB0.out.setCell _
        clear HR0 HB0
        go_wp2_with fail
        refine (markText_c (A + 1) _ (by omega) (by omega)).mono ?_
        rintro e w3 ⟨rfl, b3⟩
        have HS1 : Hid (Mkd w3 base 151 2 (.slice (some ⟨g, 0, none⟩) L.length cap) L.length (mEntrys k0 L.length) (k * 2 + 1)) := HR1.out.bel b3 (Nat.le_refl _)
        have HT1 : Hid (But g w w3) := HB1.out.bel b3
        clear HR1 HB1 b3
        obtain ⟨⟨u1, c1⟩, z1⟩ := HS1.out.cell (k * 2 + 1) (by omega)
        have HR2 : Hid (Mkd (w3.setCell ⟨g, k * 2 + 1, none⟩ (.string (mt (A + 1)))) base 151 2 (.slice (some ⟨g, 0, none⟩) L.length cap) L.length (mEntrys k0 L.length) (k * 2 + 2)) := HS1.out.set _ m1 (by omega)
        have HB2 : Hid (But g w (w3.setCell ⟨g, k * 2 + 1, none⟩ (.string (mt (A + 1))))) := HT1.out.setCell _
        clear HS1 HT1
        have HRe : Hid (Mkd (w3.setCell ⟨g, k * 2 + 1, none⟩ (.string (mt (A + 1)))) base 151 2 (.slice (some ⟨g, 0, none⟩) L.length cap) L.length (mEntrys k0 L.length) ((k + 1) * 2)) := by
          have := HR2.out
          rw [show (k + 1) * 2 = k * 2 + 2 by omega]
          exact this
        clear HR2
        go_wp2
        go_roundw
        case rel => exact ⟨k + 1, by omega, by go_num, by rw [HAn.out], HRe, HB2⟩
        case measure => simp [intOf]; omega
      · have hke : k = L.length := by omega
        subst hke
        have HF : Hid (wr.ownsRow base 151 2 (.slice (some ⟨g, 0, none⟩) L.length cap) L.length (mEntrys k0 L.length)) := HR0.out.all (mEntrys_len _ _)
        obtain ⟨Z, hZ⟩ : ∃ Z : Int, k0 + ((L.length * 2 : Nat) : Int) = Z := ⟨_, rfl⟩
        have HZ : Hid (k0 + ((L.length * 2 : Nat) : Int) = Z) := hZ
        rw [hZ]
        clear hZ
        go_wp2
        go_ret
        exact ⟨by rw [HZ.out]; rfl, HF.out, Or.inr ⟨g, rfl, HB0.out⟩⟩

end Go.Proofs.YtoecakjjondeeaaGreat

/- The contracts of what the exact laws hold Wal by. -/
namespace Go.Proofs.YtoecakjjondeeaaGreat
open Go.RowKit
set_option linter.unusedVariables false

structure S_Wal where
  f0 : Int
  f1 : Int
  f2 : Int
  f3 : Int
  f4 : List S_Entry

/-- Its lists can be read. -/
def RdWal (w : World) (x : S_Wal) (v4 : Value) : Prop :=
  RowR w v4 x.f4.length 2 (rEntry x.f4)

theorem RdWal.keep {w w' : World} {x : S_Wal} {v4 : Value} (h : RdWal w x v4) {N : Nat} (hb : Below N w w') (hN : w.heap.size ≤ N) : RdWal w' x v4 :=
  RowR.keep h hb hN

/-- Its lists are rows of the call's own. -/
def OwWal (w : World) (base : Nat) (x : S_Wal) (v4 : Value) : Prop :=
  w.ownsRow base 151 2 v4 x.f4.length (rEntry x.f4)

theorem OwWal.keep {w w' : World} {base : Nat} {x : S_Wal} {v4 : Value} (h : OwWal w base x v4) {N : Nat} (hb : Below N w w') (hN : w.heap.size ≤ N) : OwWal w' base x v4 :=
  own_bel (h) hb hN

theorem OwWal.rd {w : World} {base : Nat} {x : S_Wal} {v4 : Value} (h : OwWal w base x v4) : RdWal w x v4 :=
  RowR.own (h)

/-- No list in it is longer than this. -/
def LnWal (x : S_Wal) (n : Nat) : Prop := x.f4.length ≤ n

/-- What sz takes off for it. -/
def zWal (x : S_Wal) : Nat := (x.f4.length + zsum zEntry x.f4 x.f4.length)

set_option maxRecDepth 20000 in
set_option maxHeartbeats 2000000 in
theorem eqWal_c (x : S_Wal) (v4 u4 : Value) (w : World) (hn : LnWal x 1048576) (h : RdWal w x v4) (h' : RdWal w x u4) :
    Calls Tryz.prog 25 #[.agg #[.int .i64 x.f0, .int .i64 x.f1, .int .i64 x.f2, .int .i64 x.f3, v4], .agg #[.int .i64 x.f0, .int .i64 x.f1, .int .i64 x.f2, .int .i64 x.f3, u4]] w fun e w' => e = .returned (.bool true) ∧ Below w.heap.size w w' := by
  have HN : Hid (LnWal x 1048576) := hn
  have b0 : Below w.heap.size w ((w.alloc (.cells #[.int .i64 x.f0, .int .i64 x.f1, .int .i64 x.f2, .int .i64 x.f3, v4] 60)).alloc (.cells #[.int .i64 x.f0, .int .i64 x.f1, .int .i64 x.f2, .int .i64 x.f3, u4] 60)) := ((Below.refl _ _).alloc (Nat.le_refl _) _).alloc (by simp) _
  have HB : Hid (Below w.heap.size w ((w.alloc (.cells #[.int .i64 x.f0, .int .i64 x.f1, .int .i64 x.f2, .int .i64 x.f3, v4] 60)).alloc (.cells #[.int .i64 x.f0, .int .i64 x.f1, .int .i64 x.f2, .int .i64 x.f3, u4] 60))) := b0
  have HR : Hid (RdWal ((w.alloc (.cells #[.int .i64 x.f0, .int .i64 x.f1, .int .i64 x.f2, .int .i64 x.f3, v4] 60)).alloc (.cells #[.int .i64 x.f0, .int .i64 x.f1, .int .i64 x.f2, .int .i64 x.f3, u4] 60)) x v4) := h.keep b0 (Nat.le_refl _)
  have HS : Hid (RdWal ((w.alloc (.cells #[.int .i64 x.f0, .int .i64 x.f1, .int .i64 x.f2, .int .i64 x.f3, v4] 60)).alloc (.cells #[.int .i64 x.f0, .int .i64 x.f1, .int .i64 x.f2, .int .i64 x.f3, u4] 60)) x u4) := h'.keep b0 (Nat.le_refl _)
  have HV : Hid (∀ W', Below ((w.alloc (.cells #[.int .i64 x.f0, .int .i64 x.f1, .int .i64 x.f2, .int .i64 x.f3, v4] 60)).alloc (.cells #[.int .i64 x.f0, .int .i64 x.f1, .int .i64 x.f2, .int .i64 x.f3, u4] 60)).heap.size ((w.alloc (.cells #[.int .i64 x.f0, .int .i64 x.f1, .int .i64 x.f2, .int .i64 x.f3, v4] 60)).alloc (.cells #[.int .i64 x.f0, .int .i64 x.f1, .int .i64 x.f2, .int .i64 x.f3, u4] 60)) W' → W'.cell? ⟨w.heap.size, 4, none⟩ = some (v4)) := fun W' hW => by rw [hW.cell (by simp <;> omega)]; simp
  have HU : Hid (∀ W', Below ((w.alloc (.cells #[.int .i64 x.f0, .int .i64 x.f1, .int .i64 x.f2, .int .i64 x.f3, v4] 60)).alloc (.cells #[.int .i64 x.f0, .int .i64 x.f1, .int .i64 x.f2, .int .i64 x.f3, u4] 60)).heap.size ((w.alloc (.cells #[.int .i64 x.f0, .int .i64 x.f1, .int .i64 x.f2, .int .i64 x.f3, v4] 60)).alloc (.cells #[.int .i64 x.f0, .int .i64 x.f1, .int .i64 x.f2, .int .i64 x.f3, u4] 60)) W' → W'.cell? ⟨w.heap.size + 1, 4, none⟩ = some (u4)) := fun W' hW => by rw [hW.cell (by simp <;> omega)]; simp
  have HD : Hid (Below ((w.alloc (.cells #[.int .i64 x.f0, .int .i64 x.f1, .int .i64 x.f2, .int .i64 x.f3, v4] 60)).alloc (.cells #[.int .i64 x.f0, .int .i64 x.f1, .int .i64 x.f2, .int .i64 x.f3, u4] 60)).heap.size ((w.alloc (.cells #[.int .i64 x.f0, .int .i64 x.f1, .int .i64 x.f2, .int .i64 x.f3, v4] 60)).alloc (.cells #[.int .i64 x.f0, .int .i64 x.f1, .int .i64 x.f2, .int .i64 x.f3, u4] 60)) ((w.alloc (.cells #[.int .i64 x.f0, .int .i64 x.f1, .int .i64 x.f2, .int .i64 x.f3, v4] 60)).alloc (.cells #[.int .i64 x.f0, .int .i64 x.f1, .int .i64 x.f2, .int .i64 x.f3, u4] 60))) := Below.refl _ _
  have HZ : Hid (w.heap.size ≤ ((w.alloc (.cells #[.int .i64 x.f0, .int .i64 x.f1, .int .i64 x.f2, .int .i64 x.f3, v4] 60)).alloc (.cells #[.int .i64 x.f0, .int .i64 x.f1, .int .i64 x.f2, .int .i64 x.f3, u4] 60)).heap.size) := b0.size
  clear h h' hn b0
  go_enter Tryz.func25, Tryz.ntmps25
  go_wp2_with fail
  refine (eqEntryS_c v4 u4 x.f4 _ HN.out (HR.out.keep HD.out (Nat.le_refl _)) (HS.out.keep HD.out (Nat.le_refl _))).mono ?_
  rintro e w1 ⟨rfl, b1⟩
  have HD1 : Hid (Below ((w.alloc (.cells #[.int .i64 x.f0, .int .i64 x.f1, .int .i64 x.f2, .int .i64 x.f3, v4] 60)).alloc (.cells #[.int .i64 x.f0, .int .i64 x.f1, .int .i64 x.f2, .int .i64 x.f3, u4] 60)).heap.size ((w.alloc (.cells #[.int .i64 x.f0, .int .i64 x.f1, .int .i64 x.f2, .int .i64 x.f3, v4] 60)).alloc (.cells #[.int .i64 x.f0, .int .i64 x.f1, .int .i64 x.f2, .int .i64 x.f3, u4] 60)) w1) := HD.out.trans (b1.mono HD.out.size)
  clear b1
  have HE : Hid (Below w.heap.size w w1) := HB.out.trans (HD1.out.mono HZ.out)
  go_wp2
  go_ret
  exact ⟨rfl, HE.out⟩

/-- Its lists' cells are marked from k0 on. -/
def MrWal (w : World) (x : S_Wal) (k0 : Int) (v4 : Value) : Prop :=
  RowR w v4 x.f4.length 2 (mEntrys (k0) x.f4.length)

theorem MrWal.keep {w w' : World} {x : S_Wal} {k0 : Int} {v4 : Value} (h : MrWal w x k0 v4) {N : Nat} (hb : Below N w w') (hN : w.heap.size ≤ N) : MrWal w' x k0 v4 :=
  RowR.keep h hb hN

/-- Its lists are rows of the call's own, marked from k0 on. -/
def MoWal (w : World) (base : Nat) (x : S_Wal) (k0 : Int) (v4 : Value) : Prop :=
  w.ownsRow base 151 2 v4 x.f4.length (mEntrys (k0) x.f4.length)

theorem MoWal.rd {w : World} {base : Nat} {x : S_Wal} {k0 : Int} {v4 : Value} (h : MoWal w base x k0 v4) : MrWal w x k0 v4 :=
  RowR.own (h)

theorem MoWal.keep {w w' : World} {base : Nat} {x : S_Wal} {k0 : Int} {v4 : Value} (h : MoWal w base x k0 v4) {N : Nat} (hb : Below N w w') (hN : w.heap.size ≤ N) : MoWal w' base x k0 v4 :=
  own_bel (h) hb hN

/-- All that it holds is of a length that a text can have. -/
def SmWal (x : S_Wal) : Prop := x.f4.length ≤ maxLen ∧ (∀ y ∈ x.f4, sEntry y)

theorem szF_addW (a b : Nat) (left : Int) (h : 0 ≤ szF a left) : szF (a + b) left = szF b (szF a left) := by
  unfold szF at *
  split at h
  · rename_i ha
    rw [if_pos ha]
    split
    · rw [if_pos (by omega)]; omega
    · rw [if_neg (by omega)]
  · omega

theorem szF_negW (a b : Nat) (left : Int) (h : szF a left < 0) : szF (a + b) left = -1 := by
  unfold szF at *
  split at h
  · omega
  · rw [if_neg (by omega)]

theorem szF_leW (a : Nat) (left : Int) (h : -1 ≤ left) : szF a left ≤ left := by
  unfold szF
  split <;> omega

set_option maxRecDepth 20000 in
set_option maxHeartbeats 2000000 in
theorem szWal_c (x : S_Wal) (left : Int) (v4 : Value) (w : World) (h0 : 0 ≤ left) (h1 : left ≤ 1048576) (hs : SmWal x) (h : RdWal w x v4) :
    Calls Tryz.prog 21 #[.agg #[.int .i64 x.f0, .int .i64 x.f1, .int .i64 x.f2, .int .i64 x.f3, v4], .int .i64 left] w fun e w' => e = .returned (.int .i64 (szF (zWal x) left)) ∧ Below w.heap.size w w' := by
  have b0 : Below w.heap.size w (w.alloc (.cells #[.int .i64 x.f0, .int .i64 x.f1, .int .i64 x.f2, .int .i64 x.f3, v4] 55)) := (Below.refl _ _).alloc (Nat.le_refl _) _
  have HB : Hid (Below w.heap.size w (w.alloc (.cells #[.int .i64 x.f0, .int .i64 x.f1, .int .i64 x.f2, .int .i64 x.f3, v4] 55))) := b0
  have HR : Hid (RdWal (w.alloc (.cells #[.int .i64 x.f0, .int .i64 x.f1, .int .i64 x.f2, .int .i64 x.f3, v4] 55)) x v4) := h.keep b0 (Nat.le_refl _)
  have HV : Hid (∀ W', Below (w.alloc (.cells #[.int .i64 x.f0, .int .i64 x.f1, .int .i64 x.f2, .int .i64 x.f3, v4] 55)).heap.size (w.alloc (.cells #[.int .i64 x.f0, .int .i64 x.f1, .int .i64 x.f2, .int .i64 x.f3, v4] 55)) W' → W'.cell? ⟨w.heap.size, 4, none⟩ = some (v4)) := fun W' hW => by rw [hW.cell (by simp <;> omega)]; simp
  have HD : Hid (Below (w.alloc (.cells #[.int .i64 x.f0, .int .i64 x.f1, .int .i64 x.f2, .int .i64 x.f3, v4] 55)).heap.size (w.alloc (.cells #[.int .i64 x.f0, .int .i64 x.f1, .int .i64 x.f2, .int .i64 x.f3, v4] 55)) (w.alloc (.cells #[.int .i64 x.f0, .int .i64 x.f1, .int .i64 x.f2, .int .i64 x.f3, v4] 55))) := Below.refl _ _
  have HZ : Hid (w.heap.size ≤ (w.alloc (.cells #[.int .i64 x.f0, .int .i64 x.f1, .int .i64 x.f2, .int .i64 x.f3, v4] 55)).heap.size) := b0.size
  obtain ⟨l4, s4⟩ := hs
  have HS4 : Hid (∀ y ∈ x.f4, sEntry y) := s4
  have HL4 : Hid (x.f4.length ≤ maxLen) := l4
  have HT : Hid (zWal x = (x.f4.length + zsum zEntry x.f4 x.f4.length)) := rfl
  clear h b0 l4 s4
  generalize hq4 : x.f4.length + zsum zEntry x.f4 x.f4.length = q4 at HT
  go_enter Tryz.func21, Tryz.ntmps21
  go_wp2_with fail
  refine (szEntryS_c v4 x.f4 (left) _ (by omega) (by omega) HL4.out HS4.out (HR.out.keep HD.out (Nat.le_refl _))).mono ?_
  rintro e w1 ⟨rfl, b1⟩
  rw [hq4]
  have HD1 : Hid (Below (w.alloc (.cells #[.int .i64 x.f0, .int .i64 x.f1, .int .i64 x.f2, .int .i64 x.f3, v4] 55)).heap.size (w.alloc (.cells #[.int .i64 x.f0, .int .i64 x.f1, .int .i64 x.f2, .int .i64 x.f3, v4] 55)) w1) := HD.out.trans (b1.mono HD.out.size)
  have HE : Hid (Below w.heap.size w w1) := HB.out.trans (HD1.out.mono HZ.out)
  clear b1
  have g0 := szF_leW q4 (left) (by omega)
  by_cases n0 : 0 ≤ szF q4 (left)
  · obtain ⟨r0, hr⟩ : ∃ r, szF q4 (left) = r := ⟨_, rfl⟩
    have HF0 : Hid (szF (q4) left = r0) := hr
    rw [hr] at n0 g0 ⊢
    clear hr
    go_wp2
    go_ret
    exact ⟨by rw [HT.out, HF0.out]; rfl, HE.out⟩
  · have HF0 : Hid (szF (zWal x) left = -1) := by
      have e : szF (q4) left < 0 := by omega
      show _ = _
      rw [HT.out]
      unfold szF at e ⊢
      split at e
      · omega
      · rename_i hh; rw [if_neg hh]
    generalize szF q4 (left) = r0 at n0 g0 ⊢
    go_wp2
    go_ret
    exact ⟨by rw [HF0.out]; rfl, HE.out⟩

end Go.Proofs.YtoecakjjondeeaaGreat

/- The contracts of what makes a Wal out of an argument, and of what marks one. -/
namespace Go.Proofs.YtoecakjjondeeaaGreat
open Go.RowKit
set_option linter.unusedVariables false

set_option maxRecDepth 20000 in
set_option maxHeartbeats 2000000 in
theorem toWal_c (x : S_Wal) (v4 : Value) (w : World) (hn : LnWal x 1048576) (h : RdWal w x v4) :
    Calls Tryz.prog 23 #[.agg #[.int .i64 x.f0, .int .i64 x.f1, .int .i64 x.f2, .int .i64 x.f3, v4]] w fun e w' => ∃ u4, e = .returned (.agg #[.int .i64 x.f0, .int .i64 x.f1, .int .i64 x.f2, .int .i64 x.f3, u4]) ∧ OwWal w' w.heap.size x u4 ∧ Below w.heap.size w w' := by
  have HN : Hid (LnWal x 1048576) := hn
  have HH : Hid (RdWal w x v4) := h
  obtain ⟨W, hW⟩ : ∃ W, W = (((w.alloc (.cells #[.int .i64 x.f0, .int .i64 x.f1, .int .i64 x.f2, .int .i64 x.f3, v4] 55)).alloc (.cells #[.int .i64 0, .int .i64 0, .int .i64 0, .int .i64 0, .slice none 0 0] 60)).alloc (.cells #[.int .i64 x.f0, .int .i64 x.f1, .int .i64 x.f2, .int .i64 x.f3, .slice none 0 0] 60)) := ⟨_, rfl⟩
  have HW : Hid ((((w.alloc (.cells #[.int .i64 x.f0, .int .i64 x.f1, .int .i64 x.f2, .int .i64 x.f3, v4] 55)).alloc (.cells #[.int .i64 0, .int .i64 0, .int .i64 0, .int .i64 0, .slice none 0 0] 60)).alloc (.cells #[.int .i64 x.f0, .int .i64 x.f1, .int .i64 x.f2, .int .i64 x.f3, .slice none 0 0] 60)) = W) := hW.symm
  have HB0 : Hid (Below w.heap.size w W) := by rw [hW]; exact (((Below.refl _ _).alloc (Nat.le_refl _) _).alloc (by simp) _).alloc (by simp; omega) _
  have hWs : W.heap.size = w.heap.size + 3 := by rw [hW]; simp
  have R0 : Hid (W.ownsRow w.heap.size 60 1 (.slice (some ⟨w.heap.size + 1, 0, none⟩) 5 5) 5 [.int .i64 0, .int .i64 0, .int .i64 0, .int .i64 0, .slice none 0 0]) := by
    rw [hW]
    have := World.ownsRow_lit (base := w.heap.size) (e := 60) (size := 1) (w.alloc (.cells #[.int .i64 x.f0, .int .i64 x.f1, .int .i64 x.f2, .int .i64 x.f3, v4] 55)) #[.int .i64 0, .int .i64 0, .int .i64 0, .int .i64 0, .slice none 0 0] 5 (by simp) (by decide) rfl
    rw [World.size_alloc] at this
    exact this.alloc _
  have O0 : Hid (W.ownsRow w.heap.size 60 1 (.slice (some ⟨w.heap.size + 1 + 1, 0, none⟩) 5 5) 5 [.int .i64 x.f0, .int .i64 x.f1, .int .i64 x.f2, .int .i64 x.f3, .slice none 0 0]) := by
    rw [hW]
    have := World.ownsRow_lit (base := w.heap.size) (e := 60) (size := 1) ((w.alloc (.cells #[.int .i64 x.f0, .int .i64 x.f1, .int .i64 x.f2, .int .i64 x.f3, v4] 55)).alloc (.cells #[.int .i64 0, .int .i64 0, .int .i64 0, .int .i64 0, .slice none 0 0] 60)) #[.int .i64 x.f0, .int .i64 x.f1, .int .i64 x.f2, .int .i64 x.f3, .slice none 0 0] 5 (by simp; omega) (by decide) rfl
    rw [World.size_alloc, World.size_alloc] at this
    exact this
  clear hW h hn
  go_enter Tryz.func23, Tryz.ntmps23
  go_wp2_with fail
  rw [HW.out]
  refine (toEntryS_c v4 x.f4 W HN.out (RowR.keep HH.out HB0.out (Nat.le_refl _))).mono ?_
  rintro e w3 ⟨u4, rfl, own4, b3⟩
  obtain ⟨_, p4, k4, hv4, _⟩ := RowR.own own4
  subst hv4
  have R3 : Hid (w3.ownsRow w.heap.size _ 1 _ 5 _) := own_bel R0.out b3 (Nat.le_refl _)
  have O3 : Hid (w3.ownsRow w.heap.size _ 1 _ 5 _) := own_bel O0.out b3 (Nat.le_refl _)
  have U4 : Hid (w3.ownsRow W.heap.size _ 2 (.slice p4 x.f4.length k4) _ _) := own4
  have HB3 : Hid (Below w.heap.size w w3) := HB0.out.trans (b3.mono (by omega))
  have q0 : w3.cell? ⟨w.heap.size + 1 + 1, 0, none⟩ = some (.int .i64 x.f0) := by rw [O3.out.cellAt 0 (by omega)]; rfl
  have q1 : w3.cell? ⟨w.heap.size + 1 + 1, 1, none⟩ = some (.int .i64 x.f1) := by rw [O3.out.cellAt 1 (by omega)]; rfl
  have q2 : w3.cell? ⟨w.heap.size + 1 + 1, 2, none⟩ = some (.int .i64 x.f2) := by rw [O3.out.cellAt 2 (by omega)]; rfl
  have q3 : w3.cell? ⟨w.heap.size + 1 + 1, 3, none⟩ = some (.int .i64 x.f3) := by rw [O3.out.cellAt 3 (by omega)]; rfl
  have q4 : w3.cell? ⟨w.heap.size + 1 + 1, 4, none⟩ = some (.slice none 0 0) := by rw [O3.out.cellAt 4 (by omega)]; rfl
  have y4 := O3.out.frozenAt 4
  have r0 : w3.cell? ⟨w.heap.size + 1, 0, none⟩ = some (.int .i64 0) := by rw [R3.out.cellAt 0 (by omega)]; rfl
  have r1 : w3.cell? ⟨w.heap.size + 1, 1, none⟩ = some (.int .i64 0) := by rw [R3.out.cellAt 1 (by omega)]; rfl
  have r2 : w3.cell? ⟨w.heap.size + 1, 2, none⟩ = some (.int .i64 0) := by rw [R3.out.cellAt 2 (by omega)]; rfl
  have r3 : w3.cell? ⟨w.heap.size + 1, 3, none⟩ = some (.int .i64 0) := by rw [R3.out.cellAt 3 (by omega)]; rfl
  have r4 : w3.cell? ⟨w.heap.size + 1, 4, none⟩ = some (.slice none 0 0) := by rw [R3.out.cellAt 4 (by omega)]; rfl
  have f0 := R3.out.frozenAt 0
  have f1 := R3.out.frozenAt 1
  have f2 := R3.out.frozenAt 2
  have f3 := R3.out.frozenAt 3
  have f4 := R3.out.frozenAt 4
  clear own4 b3 R0 O0
  have hlt1 : w.heap.size + 1 < W.heap.size := by omega
  have hlt2 : w.heap.size + 1 + 1 < W.heap.size := by omega
  have L2 : w.heap.size ≤ w.heap.size + 1 + 1 := by omega
  have L1 : w.heap.size ≤ w.heap.size + 1 := by omega
  have L0 : w.heap.size ≤ W.heap.size := by omega
  go_wp2
  exact bodyPost_ret (v := .agg #[.int .i64 x.f0, .int .i64 x.f1, .int .i64 x.f2, .int .i64 x.f3, .slice p4 x.f4.length k4]) (by simp [results, Tryz.results23, go_sem, r0, r1, r2, r3, r4]) rfl
    ⟨_, rfl,
       own_low (own_set_lt (own_set_lt (own_set_lt (own_set_lt (own_set_lt (own_set_lt U4.out _ (by exact hlt2)) _ (by exact hlt1)) _ (by exact hlt1)) _ (by exact hlt1)) _ (by exact hlt1)) _ (by exact hlt1)) L0,
      (((((HB3.out.setCell (by exact L2) _).setCell (by exact L1) _).setCell (by exact L1) _).setCell (by exact L1) _).setCell (by exact L1) _).setCell (by exact L1) _⟩

set_option maxRecDepth 20000 in
set_option maxHeartbeats 2000000 in
theorem markWal_c (x : S_Wal) (k0 : Int) (v4 : Value) (base : Nat) (w : World) (hn : LnWal x 1048576) (hk0 : 0 < k0) (hk1 : k0 ≤ 10000000) (hb : base ≤ w.heap.size) (h : OwWal w base x v4) :
    Calls Tryz.prog 26 #[.agg #[.int .i64 x.f0, .int .i64 x.f1, .int .i64 x.f2, .int .i64 x.f3, v4], .int .i64 k0] w fun e w' => e = .returned (.int .i64 (k0 + ((x.f4.length * 2 : Nat) : Int))) ∧ MoWal w' base x k0 v4 ∧ ButL [v4] w w' := by
  have HN : Hid (LnWal x 1048576) := hn
  have b0 : Below w.heap.size w (w.alloc (.cells #[.int .i64 x.f0, .int .i64 x.f1, .int .i64 x.f2, .int .i64 x.f3, v4] 60)) := (Below.refl _ _).alloc (Nat.le_refl _) _
  have HO : Hid (OwWal (w.alloc (.cells #[.int .i64 x.f0, .int .i64 x.f1, .int .i64 x.f2, .int .i64 x.f3, v4] 60)) base x v4) := h.keep b0 (Nat.le_refl _)
  have HB0 : Hid (Below w.heap.size w (w.alloc (.cells #[.int .i64 x.f0, .int .i64 x.f1, .int .i64 x.f2, .int .i64 x.f3, v4] 60))) := b0
  have hbs : base ≤ (w.alloc (.cells #[.int .i64 x.f0, .int .i64 x.f1, .int .i64 x.f2, .int .i64 x.f3, v4] 60)).heap.size := by simp; omega
  clear h b0
  go_enter Tryz.func26, Tryz.ntmps26
  go_wp2_with fail
  refine (markEntryS_c v4 x.f4 k0 base _ HN.out (by omega) (by omega) hbs HO.out).mono ?_
  rintro e w1 ⟨rfl, o2, b1⟩
  have HM : Hid (MoWal w1 base x k0 v4) := o2
  have HB1 : Hid (ButL [v4] w w1) := (ButL.of_bel HB0.out).trans (ButL.of_butV (vs := [v4]) b1 (by simp))
  clear b1 o2
  go_wp2
  go_ret
  exact ⟨rfl, HM.out, HB1.out⟩

end Go.Proofs.YtoecakjjondeeaaGreat

/- WalOk of the specification. -/
namespace Go.Proofs.YtoecakjjondeeaaGreat
open Go.RowKit
set_option linter.unusedVariables false

/-- Entries whose terms do not fall. -/
def okE (top : Int) : Int → List S_Entry → Prop
  | _, [] => True
  | last, e :: L => 1 ≤ e.f0 ∧ last ≤ e.f0 ∧ e.f0 ≤ top ∧ e.f1.size ≤ 900 ∧ okE top e.f0 L

instance okEd (top : Int) : (last : Int) → (L : List S_Entry) → Decidable (okE top last L)
  | _, [] => isTrue trivial
  | last, e :: L => by
    haveI := okEd top e.f0 L
    unfold okE; infer_instance

def headW (x : S_Wal) : Prop := (0 ≤ x.f0 ∧ x.f0 ≤ 100000) ∧ (-1 ≤ x.f1 ∧ x.f1 ≤ 4) ∧ bsR x.f2 x.f3 ∧ x.f3 ≤ x.f0 ∧ x.f4.length ≤ 60 ∧ x.f2 + x.f4.length ≤ 100000

/-- A Wal that is right. -/
def okW (x : S_Wal) : Prop := headW x ∧ okE x.f0 x.f3 x.f4

instance (x : S_Wal) : Decidable (headW x) := by unfold headW; infer_instance

instance (x : S_Wal) : Decidable (okW x) := by unfold okW; infer_instance

/-- The term of the entry ahead of number k. -/
def lastE (b : Int) (L : List S_Entry) (k : Nat) : Int := match k with
  | 0 => b
  | k + 1 => match L[k]? with
    | some e => e.f0
    | none => b

theorem lastE_succ (b : Int) (L : List S_Entry) (k : Nat) (h : k < L.length) : lastE b L (k + 1) = L[k].f0 := by
  simp [lastE, h]

/-- What is asked of the entry k behind those ahead of it. -/
def goodE (top last : Int) (e : S_Entry) : Prop := 1 ≤ e.f0 ∧ last ≤ e.f0 ∧ e.f0 ≤ top ∧ e.f1.size ≤ 900

theorem okE_drop (top b : Int) (L : List S_Entry) (k : Nat) (h : k < L.length) : okE top (lastE b L k) (L.drop k) ↔ goodE top (lastE b L k) L[k] ∧ okE top (lastE b L (k + 1)) (L.drop (k + 1)) := by
  rw [List.drop_eq_getElem_cons h, lastE_succ b L k h]
  show (1 ≤ L[k].f0 ∧ _) ↔ _
  unfold goodE
  simp only [and_assoc]

set_option maxRecDepth 20000 in
set_option maxHeartbeats 4000000 in
theorem specWalOk_c (x : S_Wal) (p : Option Addr) (cap : Nat) (w : World) (hn : x.f4.length ≤ 1048576) (hs : ∀ y ∈ x.f4, sEntry y) (hr : RowR w (.slice p x.f4.length cap) x.f4.length 2 (rEntry x.f4)) :
    Calls Tryz.prog 59 #[.agg #[.int .i64 x.f0, .int .i64 x.f1, .int .i64 x.f2, .int .i64 x.f3, .slice p x.f4.length cap]] w fun e w' => e = .returned (.bool (decide (okW x))) ∧ Below w.heap.size w w' := by
  have HB0 : Hid (Below w.heap.size w (w.alloc (.cells #[.int .i64 x.f0, .int .i64 x.f1, .int .i64 x.f2, .int .i64 x.f3, .slice p x.f4.length cap] 60))) := (Below.refl _ _).alloc (Nat.le_refl _) _
  have HS : Hid (∀ y ∈ x.f4, sEntry y) := hs
  have HR : Hid (RowR w (.slice p x.f4.length cap) x.f4.length 2 (rEntry x.f4)) := hr
  have hn' : (x.f4.length : Int) ≤ 1048576 := by omega
  clear hs hr
  by_cases h0 : 0 ≤ x.f0 ∧ x.f0 ≤ 100000
  · skip
    by_cases h1 : -1 ≤ x.f1 ∧ x.f1 ≤ 4
    · skip
      by_cases h2 : bsR x.f2 x.f3
      · skip
        by_cases h3 : x.f3 ≤ x.f0
        · skip
          by_cases h4 : x.f4.length ≤ 60
          · skip
            by_cases h5 : x.f2 + x.f4.length ≤ 100000
            · skip
              have n3 : ¬ x.f0 < x.f3 := by omega
              have n4 : ¬ (60 : Int) < (x.f4.length : Int) := by omega
              have b2 : 0 ≤ x.f2 ∧ x.f2 ≤ 100000 := by unfold bsR at h2; omega
              have n5 : ¬ (100000 : Int) < x.f2 + (x.f4.length : Int) := by omega
              have e5 : IntKind.i64.wrap (x.f2 + (x.f4.length : Int)) = x.f2 + (x.f4.length : Int) := IntWalk.i64_in _ (by omega)
              go_enter Tryz.func59, Tryz.ntmps59
              go_wp2_with fail
              refine (sin_yes x.f0 0 100000 _ h0.1 h0.2).mono ?_
              rintro e _ ⟨rfl, rfl⟩
              go_wp2_with fail
              refine (sin_yes x.f1 (-1) 4 _ h1.1 h1.2).mono ?_
              rintro e _ ⟨rfl, rfl⟩
              go_wp2_with fail
              refine (based_c x.f2 x.f3 _).mono ?_
              rintro e _ ⟨rfl, rfl⟩
              rw [decide_eq_true h2]
              have HX : Hid (∀ W', Below (w.alloc (.cells #[.int .i64 x.f0, .int .i64 x.f1, .int .i64 x.f2, .int .i64 x.f3, .slice p x.f4.length cap] 60)).heap.size (w.alloc (.cells #[.int .i64 x.f0, .int .i64 x.f1, .int .i64 x.f2, .int .i64 x.f3, .slice p x.f4.length cap] 60)) W' → W'.cell? ⟨w.heap.size, 0, none⟩ = some (.int .i64 x.f0) ∧ W'.cell? ⟨w.heap.size, 1, none⟩ = some (.int .i64 x.f1) ∧ W'.cell? ⟨w.heap.size, 2, none⟩ = some (.int .i64 x.f2) ∧ W'.cell? ⟨w.heap.size, 3, none⟩ = some (.int .i64 x.f3) ∧ W'.cell? ⟨w.heap.size, 4, none⟩ = some (.slice p x.f4.length cap)) := fun W' hW => by
                have hk : W'.heap[w.heap.size]? = some (.cells #[.int .i64 x.f0, .int .i64 x.f1, .int .i64 x.f2, .int .i64 x.f3, .slice p x.f4.length cap] 60) := by rw [hW.block _ (by simp)]; exact alloc_last _ _
                exact box5 hk
              have HOK : Hid (okW x ↔ okE x.f0 (lastE x.f3 x.f4 0) (x.f4.drop 0)) := ⟨fun h => h.2, fun h => ⟨⟨h0, h1, h2, h3, h4, h5⟩, h⟩⟩
              have HZ0 : Hid ((w.alloc (.cells #[.int .i64 x.f0, .int .i64 x.f1, .int .i64 x.f2, .int .i64 x.f3, .slice p x.f4.length cap] 60)).heap.size = w.heap.size + 1) := by show _ = _; simp
              clear h0 h1 h2 h3 h4 h5
              obtain ⟨WW, hWW⟩ : ∃ W, W = (w.alloc (.cells #[.int .i64 x.f0, .int .i64 x.f1, .int .i64 x.f2, .int .i64 x.f3, .slice p x.f4.length cap] 60)) := ⟨_, rfl⟩
              rw [← hWW] at HX HZ0
              have HBW : Hid (Below w.heap.size w WW) := by rw [hWW]; exact HB0.out
              obtain ⟨d0, d1, d2, d3, d4⟩ := HX.out WW (Below.refl _ _)
              rw [← hWW]
              clear hWW
              go_wp2_with fail
              clear n3 n4 n5 e5 b2
              go_loopw [3, 4] (fun lv iv wr => ∃ k : Nat, k ≤ x.f4.length ∧ iv = .int .i64 (k : Int) ∧ lv = .int .i64 (lastE x.f3 x.f4 k) ∧ Hid (okW x ↔ okE x.f0 (lastE x.f3 x.f4 k) (x.f4.drop k)) ∧ Hid (Below WW.heap.size WW wr)) (fun _ iv _ => x.f4.length - (intOf iv).toNat)
              case atStart => exact ⟨0, Nat.zero_le _, rfl, rfl, HOK, Below.refl _ _⟩
              case round =>
                obtain ⟨k, hk, rfl, rfl, HK, HBr⟩ := hrel
                clear d0 d1 d2 d3 d4
                obtain ⟨d0, d1, d2, d3, d4⟩ := HX.out wr HBr.out
                have HB : Hid (Below w.heap.size w wr) := HBW.out.trans (HBr.out.mono (by rw [HZ0.out]; omega))
                by_cases hlt : k < x.f4.length
                · have hlt' : (k : Int) < x.f4.length := by omega
                  obtain ⟨b, off, cap', hv, hb, hc⟩ := HR.out.some (by omega) (by decide)
                  simp only [Value.slice.injEq, true_and] at hv
                  obtain ⟨rfl, rfl⟩ := hv
                  have HC : Hid (∀ j, j < x.f4.length * 2 → w.cell? ⟨b, off + j, none⟩ = (rEntry x.f4)[j]?) := hc
                  clear hc
                  have c : ∀ q, q < 2 → wr.cell? ⟨b, off + (k * 2 + q), none⟩ = (cEntry x.f4[k])[q]? := fun q hq => by
                    rw [HB.out.cell (by exact hb), HC.out (k * 2 + q) (by omega)]
                    exact flat_at cEntry 2 cEntry_len x.f4 k q hlt hq
                  have c0 : wr.cell? ⟨b, off + k * 2, none⟩ = some (.int .i64 (x.f4[k]).f0) := by have := c 0 (by decide); rw [← Nat.add_assoc] at this; exact this
                  have c1 : wr.cell? ⟨b, off + k * 2 + 1, none⟩ = some (.string (x.f4[k]).f1) := by have := c 1 (by decide); rw [← Nat.add_assoc] at this; exact this
                  clear c
                  have HSZ : Hid (x.f4[k].f1.size ≤ 9223372036854775807) := by have := HS.out x.f4[k] (List.getElem_mem hlt); unfold sEntry maxLen at this; exact this
                  have HD : Hid (okE x.f0 (lastE x.f3 x.f4 k) (x.f4.drop k) ↔ goodE x.f0 (lastE x.f3 x.f4 k) x.f4[k] ∧ okE x.f0 (lastE x.f3 x.f4 (k + 1)) (x.f4.drop (k + 1))) := okE_drop _ _ _ _ hlt
                  have HL : Hid (lastE x.f3 x.f4 (k + 1) = x.f4[k].f0) := lastE_succ _ _ _ hlt
                  have HNW : Hid (Below WW.heap.size WW (wr.alloc (.cells #[.int .i64 x.f4[k].f0, .string x.f4[k].f1] 151))) := HBr.out.alloc HBr.out.size _
                  have HND : Hid (Below w.heap.size w (wr.alloc (.cells #[.int .i64 x.f4[k].f0, .string x.f4[k].f1] 151))) := HB.out.alloc HB.out.size _
                  have hbw : b < wr.heap.size := Nat.lt_of_lt_of_le hb HB.out.size
                  have hww : w.heap.size < wr.heap.size := by have := HBr.out.size; rw [HZ0.out] at this; omega
                  have hne : ¬ b = wr.heap.size := by omega
                  have hne' : ¬ w.heap.size = wr.heap.size := by omega
                  have hsz : (x.f4[k].f1.size : Int) ≤ 9223372036854775807 := by have := HSZ.out; omega
                  generalize x.f4[k] = X at c0 c1 HD HL HNW HND hsz
                  clear HSZ
                  obtain ⟨l, hl⟩ : ∃ l, lastE x.f3 x.f4 k = l := ⟨_, rfl⟩
                  rw [hl] at HD HK ⊢
                  by_cases g0 : X.f0 < 1
                  · have HF : Hid (¬ okW x) := fun h => by have := (HD.out.1 (HK.out.1 h)).1.1; omega
                    go_wp2
                    go_ret
                    exact ⟨ret_f HF.out, HND.out⟩
                  by_cases g1 : X.f0 < l
                  · have HF : Hid (¬ okW x) := fun h => by have := (HD.out.1 (HK.out.1 h)).1.2.1; omega
                    go_wp2
                    go_ret
                    exact ⟨ret_f HF.out, HND.out⟩
                  by_cases g2 : x.f0 < X.f0
                  · have HF : Hid (¬ okW x) := fun h => by have := (HD.out.1 (HK.out.1 h)).1.2.2.1; omega
                    go_wp2
                    go_ret
                    exact ⟨ret_f HF.out, HND.out⟩
                  by_cases g3 : (900 : Int) < (X.f1.size : Int)
                  · have HF : Hid (¬ okW x) := fun h => by have := (HD.out.1 (HK.out.1 h)).1.2.2.2; omega
                    go_wp2
                    go_ret
                    exact ⟨ret_f HF.out, HND.out⟩
                  · have HK1 : Hid (okW x ↔ okE x.f0 (lastE x.f3 x.f4 (k + 1)) (x.f4.drop (k + 1))) := ⟨fun h => (HD.out.1 (HK.out.1 h)).2, fun h => HK.out.2 (HD.out.2 ⟨⟨by omega, by omega, by omega, by omega⟩, h⟩)⟩
                    go_wp2
                    go_roundw
                    case rel => exact ⟨k + 1, by omega, by go_num, by rw [HL.out], HK1, HNW⟩
                    case measure => simp [intOf]; omega
                · have hke : k = x.f4.length := by omega
                  subst hke
                  have HT : Hid (okW x) := HK.out.2 (by rw [List.drop_length]; trivial)
                  generalize lastE x.f3 x.f4 x.f4.length = l
                  go_wp2
                  go_ret
                  exact ⟨ret_t HT.out, HB.out⟩
            · skip
              have n3 : ¬ x.f0 < x.f3 := by omega
              have n4 : ¬ (60 : Int) < (x.f4.length : Int) := by omega
              have b2 : 0 ≤ x.f2 ∧ x.f2 ≤ 100000 := by unfold bsR at h2; omega
              have n5 : (100000 : Int) < x.f2 + (x.f4.length : Int) := by omega
              have e5 : IntKind.i64.wrap (x.f2 + (x.f4.length : Int)) = x.f2 + (x.f4.length : Int) := IntWalk.i64_in _ (by omega)
              have HF : Hid (¬ okW x) := fun h => by have := h.1; unfold headW at this; omega
              go_enter Tryz.func59, Tryz.ntmps59
              go_wp2_with fail
              refine (sin_yes x.f0 0 100000 _ h0.1 h0.2).mono ?_
              rintro e _ ⟨rfl, rfl⟩
              go_wp2_with fail
              refine (sin_yes x.f1 (-1) 4 _ h1.1 h1.2).mono ?_
              rintro e _ ⟨rfl, rfl⟩
              go_wp2_with fail
              refine (based_c x.f2 x.f3 _).mono ?_
              rintro e _ ⟨rfl, rfl⟩
              rw [decide_eq_true h2]
              go_wp2
              go_ret
              exact ⟨ret_f HF.out, HB0.out⟩
          · skip
            have n3 : ¬ x.f0 < x.f3 := by omega
            have n4 : (60 : Int) < (x.f4.length : Int) := by omega
            have HF : Hid (¬ okW x) := fun h => by have := h.1; unfold headW at this; omega
            go_enter Tryz.func59, Tryz.ntmps59
            go_wp2_with fail
            refine (sin_yes x.f0 0 100000 _ h0.1 h0.2).mono ?_
            rintro e _ ⟨rfl, rfl⟩
            go_wp2_with fail
            refine (sin_yes x.f1 (-1) 4 _ h1.1 h1.2).mono ?_
            rintro e _ ⟨rfl, rfl⟩
            go_wp2_with fail
            refine (based_c x.f2 x.f3 _).mono ?_
            rintro e _ ⟨rfl, rfl⟩
            rw [decide_eq_true h2]
            go_wp2
            go_ret
            exact ⟨ret_f HF.out, HB0.out⟩
        · skip
          have n3 : x.f0 < x.f3 := by omega
          have HF : Hid (¬ okW x) := fun h => by have := h.1; unfold headW at this; omega
          go_enter Tryz.func59, Tryz.ntmps59
          go_wp2_with fail
          refine (sin_yes x.f0 0 100000 _ h0.1 h0.2).mono ?_
          rintro e _ ⟨rfl, rfl⟩
          go_wp2_with fail
          refine (sin_yes x.f1 (-1) 4 _ h1.1 h1.2).mono ?_
          rintro e _ ⟨rfl, rfl⟩
          go_wp2_with fail
          refine (based_c x.f2 x.f3 _).mono ?_
          rintro e _ ⟨rfl, rfl⟩
          rw [decide_eq_true h2]
          go_wp2
          go_ret
          exact ⟨ret_f HF.out, HB0.out⟩
      · skip
        have HF : Hid (¬ okW x) := fun h => h2 h.1.2.2.1
        go_enter Tryz.func59, Tryz.ntmps59
        go_wp2_with fail
        refine (sin_yes x.f0 0 100000 _ h0.1 h0.2).mono ?_
        rintro e _ ⟨rfl, rfl⟩
        go_wp2_with fail
        refine (sin_yes x.f1 (-1) 4 _ h1.1 h1.2).mono ?_
        rintro e _ ⟨rfl, rfl⟩
        go_wp2_with fail
        refine (based_c x.f2 x.f3 _).mono ?_
        rintro e _ ⟨rfl, rfl⟩
        rw [decide_eq_false h2]
        go_wp2
        go_ret
        exact ⟨ret_f HF.out, HB0.out⟩
    · skip
      have HF : Hid (¬ okW x) := fun h => by have := h.1; unfold headW at this; omega
      go_enter Tryz.func59, Tryz.ntmps59
      go_wp2_with fail
      refine (sin_yes x.f0 0 100000 _ h0.1 h0.2).mono ?_
      rintro e _ ⟨rfl, rfl⟩
      go_wp2_with fail
      refine (sin_no x.f1 (-1) 4 _ h1).mono ?_
      rintro e _ ⟨rfl, rfl⟩
      go_wp2
      go_ret
      exact ⟨ret_f HF.out, HB0.out⟩
  · skip
    have HF : Hid (¬ okW x) := fun h => by have := h.1; unfold headW at this; omega
    go_enter Tryz.func59, Tryz.ntmps59
    go_wp2_with fail
    refine (sin_no x.f0 0 100000 _ h0).mono ?_
    rintro e _ ⟨rfl, rfl⟩
    go_wp2
    go_ret
    exact ⟨ret_f HF.out, HB0.out⟩

end Go.Proofs.YtoecakjjondeeaaGreat

/- WalOk of the program. -/
namespace Go.Proofs.YtoecakjjondeeaaGreat
open Go.RowKit
set_option linter.unusedVariables false

theorem okR_base (i t : Int) : okR ⟨4, t, i, 0, ⟨#[]⟩⟩ ↔ bsR i t := by
  unfold okR bsR
  simp

theorem okR_hard (t v : Int) : okR ⟨1, t, 0, v, ⟨#[]⟩⟩ ↔ (0 ≤ t ∧ t ≤ 100000) ∧ (-1 ≤ v ∧ v ≤ 4) := by
  unfold okR
  simp

set_option maxRecDepth 20000 in
set_option maxHeartbeats 4000000 in
theorem implWalOk_c (x : S_Wal) (p : Option Addr) (cap : Nat) (w : World) (hn : x.f4.length ≤ 1048576) (hs : ∀ y ∈ x.f4, sEntry y) (hr : RowR w (.slice p x.f4.length cap) x.f4.length 2 (rEntry x.f4)) :
    Calls Tryz.prog 63 #[.agg #[.int .i64 x.f0, .int .i64 x.f1, .int .i64 x.f2, .int .i64 x.f3, .slice p x.f4.length cap]] w fun e w' => e = .returned (.bool (decide (okW x))) ∧ Below w.heap.size w w' := by
  obtain ⟨WW, hWW⟩ : ∃ W, W = (((w.alloc (.cells #[.int .i64 x.f0, .int .i64 x.f1, .int .i64 x.f2, .int .i64 x.f3, .slice p x.f4.length cap] 60)).alloc (.cells #[.int .i64 4, .int .i64 x.f3, .int .i64 x.f2, .int .i64 0, .string ⟨#[]⟩] 157)).alloc (.cells #[.int .i64 1, .int .i64 x.f0, .int .i64 0, .int .i64 x.f1, .string ⟨#[]⟩] 157)) := ⟨_, rfl⟩
  have HW : Hid ((((w.alloc (.cells #[.int .i64 x.f0, .int .i64 x.f1, .int .i64 x.f2, .int .i64 x.f3, .slice p x.f4.length cap] 60)).alloc (.cells #[.int .i64 4, .int .i64 x.f3, .int .i64 x.f2, .int .i64 0, .string ⟨#[]⟩] 157)).alloc (.cells #[.int .i64 1, .int .i64 x.f0, .int .i64 0, .int .i64 x.f1, .string ⟨#[]⟩] 157)) = WW) := hWW.symm
  have HZ0 : Hid (WW.heap.size = w.heap.size + 3) := by show _ = _; rw [hWW]; simp
  have HBW : Hid (Below w.heap.size w WW) := by rw [hWW]; exact (((Below.refl _ _).alloc (Nat.le_refl _) _).alloc (by simp) _).alloc (by simp; omega) _
  have HX : Hid (∀ W', Below WW.heap.size WW W' → W'.cell? ⟨w.heap.size, 0, none⟩ = some (.int .i64 x.f0) ∧ W'.cell? ⟨w.heap.size, 1, none⟩ = some (.int .i64 x.f1) ∧ W'.cell? ⟨w.heap.size, 2, none⟩ = some (.int .i64 x.f2) ∧ W'.cell? ⟨w.heap.size, 3, none⟩ = some (.int .i64 x.f3) ∧ W'.cell? ⟨w.heap.size, 4, none⟩ = some (.slice p x.f4.length cap)) := fun W' hW => by
    have hk : W'.heap[w.heap.size]? = some (.cells #[.int .i64 x.f0, .int .i64 x.f1, .int .i64 x.f2, .int .i64 x.f3, .slice p x.f4.length cap] 60) := by
      rw [hW.block _ (by rw [HZ0.out]; omega), hWW, ((Below.refl (((w.alloc (.cells #[.int .i64 x.f0, .int .i64 x.f1, .int .i64 x.f2, .int .i64 x.f3, .slice p x.f4.length cap] 60)).alloc (.cells #[.int .i64 4, .int .i64 x.f3, .int .i64 x.f2, .int .i64 0, .string ⟨#[]⟩] 157))).heap.size (((w.alloc (.cells #[.int .i64 x.f0, .int .i64 x.f1, .int .i64 x.f2, .int .i64 x.f3, .slice p x.f4.length cap] 60)).alloc (.cells #[.int .i64 4, .int .i64 x.f3, .int .i64 x.f2, .int .i64 0, .string ⟨#[]⟩] 157)))).alloc (Nat.le_refl _) _).block _ (by simp; omega), ((Below.refl ((w.alloc (.cells #[.int .i64 x.f0, .int .i64 x.f1, .int .i64 x.f2, .int .i64 x.f3, .slice p x.f4.length cap] 60))).heap.size ((w.alloc (.cells #[.int .i64 x.f0, .int .i64 x.f1, .int .i64 x.f2, .int .i64 x.f3, .slice p x.f4.length cap] 60)))).alloc (Nat.le_refl _) _).block _ (by simp)]
      exact alloc_last _ _
    exact box5 hk
  have HY : Hid (∀ W', Below WW.heap.size WW W' → W'.cell? ⟨w.heap.size + 1 + 1, 0, none⟩ = some (.int .i64 1) ∧ W'.cell? ⟨w.heap.size + 1 + 1, 1, none⟩ = some (.int .i64 x.f0) ∧ W'.cell? ⟨w.heap.size + 1 + 1, 2, none⟩ = some (.int .i64 0) ∧ W'.cell? ⟨w.heap.size + 1 + 1, 3, none⟩ = some (.int .i64 x.f1) ∧ W'.cell? ⟨w.heap.size + 1 + 1, 4, none⟩ = some (.string ⟨#[]⟩)) := fun W' hW => by
    have hk : W'.heap[w.heap.size + 1 + 1]? = some (.cells #[.int .i64 1, .int .i64 x.f0, .int .i64 0, .int .i64 x.f1, .string ⟨#[]⟩] 157) := by
      rw [hW.block _ (by rw [HZ0.out]; omega), hWW]
      have := alloc_last (((w.alloc (.cells #[.int .i64 x.f0, .int .i64 x.f1, .int .i64 x.f2, .int .i64 x.f3, .slice p x.f4.length cap] 60)).alloc (.cells #[.int .i64 4, .int .i64 x.f3, .int .i64 x.f2, .int .i64 0, .string ⟨#[]⟩] 157))) (.cells #[.int .i64 1, .int .i64 x.f0, .int .i64 0, .int .i64 x.f1, .string ⟨#[]⟩] 157)
      rw [World.size_alloc, World.size_alloc] at this
      exact this
    exact box5 hk
  have HS : Hid (∀ y ∈ x.f4, sEntry y) := hs
  have HR : Hid (RowR w (.slice p x.f4.length cap) x.f4.length 2 (rEntry x.f4)) := hr
  have hn' : (x.f4.length : Int) ≤ 1048576 := by omega
  clear hs hr hWW
  go_enter Tryz.func63, Tryz.ntmps63
  go_wp2_with fail
  rw [HW.out]
  refine (implRecOk_c ⟨4, x.f3, x.f2, 0, ⟨#[]⟩⟩ WW (Nat.zero_le _)).mono ?_
  rintro e w1 ⟨rfl, b1⟩
  have HB1 : Hid (Below WW.heap.size WW w1) := b1
  clear b1
  by_cases h2 : bsR x.f2 x.f3
  rotate_left
  · rw [decide_eq_false (fun h => h2 ((okR_base _ _).1 h))]
    have HF : Hid (¬ okW x) := fun h => h2 h.1.2.2.1
    have HE : Hid (Below w.heap.size w w1) := HBW.out.trans (HB1.out.mono (by rw [HZ0.out]; omega))
    go_wp2
    go_ret
    exact ⟨ret_f HF.out, HE.out⟩
  rw [decide_eq_true ((okR_base _ _).2 h2)]
  obtain ⟨g0, g1, g2, g3, g4⟩ := HY.out w1 HB1.out
  go_wp2_with fail
  refine (implRecOk_c ⟨1, x.f0, 0, x.f1, ⟨#[]⟩⟩ w1 (Nat.zero_le _)).mono ?_
  rintro e w2 ⟨rfl, b2⟩
  have HB2 : Hid (Below WW.heap.size WW w2) := HB1.out.trans (b2.mono HB1.out.size)
  clear b2 g0 g1 g2 g3 g4
  have HE : Hid (Below w.heap.size w w2) := HBW.out.trans (HB2.out.mono (by rw [HZ0.out]; omega))
  by_cases h01 : (0 ≤ x.f0 ∧ x.f0 ≤ 100000) ∧ (-1 ≤ x.f1 ∧ x.f1 ≤ 4)
  rotate_left
  · rw [decide_eq_false (fun h => h01 ((okR_hard _ _).1 h))]
    have HF : Hid (¬ okW x) := fun h => h01 ⟨h.1.1, h.1.2.1⟩
    go_wp2
    go_ret
    exact ⟨ret_f HF.out, HE.out⟩
  rw [decide_eq_true ((okR_hard _ _).2 h01)]
  obtain ⟨d0, d1, d2, d3, d4⟩ := HX.out w2 HB2.out
  have b2 : 0 ≤ x.f2 ∧ x.f2 ≤ 100000 := by unfold bsR at h2; omega
  by_cases h3 : x.f0 < x.f3
  · have HF : Hid (¬ okW x) := fun h => by have := h.1.2.2.2.1; omega
    go_wp2
    go_ret
    exact ⟨ret_f HF.out, HE.out⟩
  by_cases h4 : (60 : Int) < (x.f4.length : Int)
  · have HF : Hid (¬ okW x) := fun h => by have := h.1.2.2.2.2.1; omega
    go_wp2
    go_ret
    exact ⟨ret_f HF.out, HE.out⟩
  have e5 : IntKind.i64.wrap (x.f2 + (x.f4.length : Int)) = x.f2 + (x.f4.length : Int) := IntWalk.i64_in _ (by omega)
  by_cases h5 : (100000 : Int) < x.f2 + (x.f4.length : Int)
  · have HF : Hid (¬ okW x) := fun h => by have := h.1.2.2.2.2.2; omega
    go_wp2
    go_ret
    exact ⟨ret_f HF.out, HE.out⟩
  have HOK : Hid (okW x ↔ okE x.f0 (lastE x.f3 x.f4 0) (x.f4.drop 0)) := ⟨fun h => h.2, fun h => ⟨⟨h01.1, h01.2, h2, by omega, by omega, by omega⟩, h⟩⟩
  obtain ⟨m, hm⟩ : ∃ m, max x.f3 1 = m := ⟨_, rfl⟩
  have HM : Hid (∀ e : Int, m ≤ e ↔ 1 ≤ e ∧ lastE x.f3 x.f4 0 ≤ e) := fun e => by show _ ↔ 1 ≤ e ∧ x.f3 ≤ e; omega
  clear h2 h01
  go_wp2_with fail
  clear h3 h4 h5 e5 b2
  go_loopw [5, 52] (fun lv iv wr => ∃ (k : Nat) (l : Int), k ≤ x.f4.length ∧ iv = .int .i64 (k : Int) ∧ lv = .int .i64 l ∧ Hid (∀ e : Int, l ≤ e ↔ 1 ≤ e ∧ lastE x.f3 x.f4 k ≤ e) ∧ Hid (okW x ↔ okE x.f0 (lastE x.f3 x.f4 k) (x.f4.drop k)) ∧ Hid (Below WW.heap.size WW wr)) (fun _ iv _ => x.f4.length - (intOf iv).toNat)
  case atStart => exact ⟨0, m, Nat.zero_le _, rfl, by simp [← hm], HM, HOK, HB2⟩
  case round =>
    obtain ⟨k, l, hk, rfl, rfl, HL0, HK, HBr⟩ := hrel
    clear d0 d1 d2 d3 d4
    obtain ⟨d0, d1, d2, d3, d4⟩ := HX.out wr HBr.out
    have HB : Hid (Below w.heap.size w wr) := HBW.out.trans (HBr.out.mono (by rw [HZ0.out]; omega))
    by_cases hlt : k < x.f4.length
    · have hlt' : (k : Int) < x.f4.length := by omega
      obtain ⟨b, off, cap', hv, hb, hc⟩ := HR.out.some (by omega) (by decide)
      simp only [Value.slice.injEq, true_and] at hv
      obtain ⟨rfl, rfl⟩ := hv
      have HC : Hid (∀ j, j < x.f4.length * 2 → w.cell? ⟨b, off + j, none⟩ = (rEntry x.f4)[j]?) := hc
      clear hc
      have c : ∀ q, q < 2 → wr.cell? ⟨b, off + (k * 2 + q), none⟩ = (cEntry x.f4[k])[q]? := fun q hq => by
        rw [HB.out.cell (by exact hb), HC.out (k * 2 + q) (by omega)]
        exact flat_at cEntry 2 cEntry_len x.f4 k q hlt hq
      have c0 : wr.cell? ⟨b, off + k * 2, none⟩ = some (.int .i64 (x.f4[k]).f0) := by have := c 0 (by decide); rw [← Nat.add_assoc] at this; exact this
      have c1 : wr.cell? ⟨b, off + k * 2 + 1, none⟩ = some (.string (x.f4[k]).f1) := by have := c 1 (by decide); rw [← Nat.add_assoc] at this; exact this
      clear c
      have HSZ : Hid (x.f4[k].f1.size ≤ 9223372036854775807) := by have := HS.out x.f4[k] (List.getElem_mem hlt); unfold sEntry maxLen at this; exact this
      have HD : Hid (okE x.f0 (lastE x.f3 x.f4 k) (x.f4.drop k) ↔ goodE x.f0 (lastE x.f3 x.f4 k) x.f4[k] ∧ okE x.f0 (lastE x.f3 x.f4 (k + 1)) (x.f4.drop (k + 1))) := okE_drop _ _ _ _ hlt
      have HL : Hid (lastE x.f3 x.f4 (k + 1) = x.f4[k].f0) := lastE_succ _ _ _ hlt
      have HNW : Hid (Below WW.heap.size WW (wr.alloc (.cells #[.int .i64 x.f4[k].f0, .string x.f4[k].f1] 151))) := HBr.out.alloc HBr.out.size _
      have HND : Hid (Below w.heap.size w (wr.alloc (.cells #[.int .i64 x.f4[k].f0, .string x.f4[k].f1] 151))) := HB.out.alloc HB.out.size _
      have hbw : b < wr.heap.size := Nat.lt_of_lt_of_le hb HB.out.size
      have hww : w.heap.size < wr.heap.size := by have := HBr.out.size; rw [HZ0.out] at this; omega
      have hne : ¬ b = wr.heap.size := by omega
      have hne' : ¬ w.heap.size = wr.heap.size := by omega
      have hsz : (x.f4[k].f1.size : Int) ≤ 9223372036854775807 := by have := HSZ.out; omega
      generalize x.f4[k] = X at c0 c1 HD HL HNW HND hsz
      clear HSZ
      generalize lastE x.f3 x.f4 k = la at HD HK HL0
      by_cases g0 : l ≤ X.f0 ∧ X.f0 ≤ x.f0
      rotate_left
      · have HF : Hid (¬ okW x) := fun h => by
          have h1 := (HD.out.1 (HK.out.1 h)).1
          exact g0 ⟨(HL0.out _).2 ⟨h1.1, h1.2.1⟩, h1.2.2.1⟩
        go_wp2_with fail
        refine (win_no X.f0 l x.f0 _ g0).mono ?_
        rintro e _ ⟨rfl, rfl⟩
        go_wp2
        go_ret
        exact ⟨ret_f HF.out, HND.out⟩
      by_cases g3 : (900 : Int) < (X.f1.size : Int)
      · have HF : Hid (¬ okW x) := fun h => by have := (HD.out.1 (HK.out.1 h)).1.2.2.2; omega
        go_wp2_with fail
        refine (win_yes X.f0 l x.f0 _ g0.1 g0.2).mono ?_
        rintro e _ ⟨rfl, rfl⟩
        go_wp2
        go_ret
        exact ⟨ret_f HF.out, HND.out⟩
      · have HG := (HL0.out X.f0).1 g0.1
        have HK1 : Hid (okW x ↔ okE x.f0 (lastE x.f3 x.f4 (k + 1)) (x.f4.drop (k + 1))) := ⟨fun h => (HD.out.1 (HK.out.1 h)).2, fun h => HK.out.2 (HD.out.2 ⟨⟨HG.1, HG.2, g0.2, by omega⟩, h⟩)⟩
        have HL1 : Hid (∀ e : Int, X.f0 ≤ e ↔ 1 ≤ e ∧ lastE x.f3 x.f4 (k + 1) ≤ e) := fun e => by rw [HL.out]; omega
        clear HG
        go_wp2_with fail
        refine (win_yes X.f0 l x.f0 _ g0.1 g0.2).mono ?_
        rintro e _ ⟨rfl, rfl⟩
        clear g0
        go_wp2
        go_roundw
        case rel => exact ⟨k + 1, X.f0, by omega, by go_num, rfl, HL1, HK1, HNW⟩
        case measure => simp [intOf]; omega
    · have hke : k = x.f4.length := by omega
      subst hke
      have HT : Hid (okW x) := HK.out.2 (by rw [List.drop_length]; trivial)
      clear HL0 HK
      go_wp2
      go_ret
      exact ⟨ret_t HT.out, HB.out⟩

end Go.Proofs.YtoecakjjondeeaaGreat

/- A region that draws and makes memory, with operations that come up in any order: two that may come up next; facts that hold to the end. -/
namespace Go.Proofs.YtoecakjjondeeaaGreat
open Go.RowKit
set_option linter.unusedVariables false

section made
variable {P : Program} {ops : Array Oper} {Q : Exit → Act → World → Prop}

theorem wpAnyL_less {f : Fact} {fs : List Fact} : ∀ (fuel : Nat) (listed : Array Bool) (a : Act) (w : World), wpAnyL P ops Q (f :: fs) fuel listed a w → wpAnyL P ops Q fs fuel listed a w
  | 0, _, _, _, h => h
  | fuel + 1, _, _, _, h => ⟨h.1, fun i hi => wpOp_mono (fun a' w' h' => ⟨fun x hx => h'.1 x (List.mem_cons_of_mem _ hx), wpAnyL_less fuel _ a' w' h'.2⟩) (h.2 i hi)⟩

theorem At.more {fs : List Fact} {fuel : Nat} {listed : Array Bool} {a : Act} {w : World} (f : Fact) (hf : f.Y w) (h : At P ops Q (f :: fs) fuel listed a w) : At P ops Q fs fuel listed a w :=
  ⟨fun hcl hH => wpAnyL_less _ _ _ _ (h.go hcl (held_cons (.inr hf) hH))⟩

theorem At.two {fs : List Fact} {fuel : Nat} {listed : Array Bool} {a : Act} {w : World} (i j : Nat) (di dj : Option Tmp) {oi oj : Oper} (hoi : ops[i]? = some oi) (hoj : ops[j]? = some oj) (hdi : oi.dst = di) (hdj : oj.dst = dj)
    (hr : Region.ready .any ops listed = [i, j]) (hwi : Region.wanted oi (yielded ops a.tmps) = true) (hwj : Region.wanted oj (yielded ops a.tmps) = true) (Ri Rj : Value → World → Prop) (hgi : gives P oi a.eval w Ri) (hgj : gives P oj a.eval w Rj)
    (hi : ∀ u w', Ri u w' → Held fs (listed.setIfInBounds i true) w' ∧ At P ops Q fs fuel (listed.setIfInBounds i true) (a.put di u) w')
    (hj : ∀ u w', Rj u w' → Held fs (listed.setIfInBounds j true) w' ∧ At P ops Q fs fuel (listed.setIfInBounds j true) (a.put dj u) w') : At P ops Q fs (fuel + 1) listed a w := by
  subst hdi
  subst hdj
  refine ⟨fun hcl hH => ⟨fun h0 => (by rw [hr] at h0; cases h0), fun k hk => ?_⟩⟩
  have hk' := hk
  rw [hr] at hk
  simp only [List.mem_cons, List.not_mem_nil, or_false] at hk
  rcases hk with rfl | rfl
  · unfold wpOp
    simp only [hoi]
    rw [if_pos hwi]
    exact .inl (hgi.wp fun u w' hR => ⟨(hi u w' hR).1, (hi u w' hR).2.go (hcl.more hk') (hi u w' hR).1⟩)
  · unfold wpOp
    simp only [hoj]
    rw [if_pos hwj]
    exact .inl (hgj.wp fun u w' hR => ⟨(hj u w' hR).1, (hj u w' hR).2.go (hcl.more hk') (hj u w' hR).1⟩)

theorem ever {fs : List Fact} {l : Array Bool} {w : World} {f : Fact} (hcl : Closed ops l) (hH : Held fs l w) (hm : f ∈ fs) (hg : decide (ops.size ≤ f.g) = true) : f.Y w := by
  rcases hH f hm with h | h
  · exfalso
    have h1 : ops.size ≤ f.g := of_decide_eq_true hg
    have h2 : ¬ f.g < l.size := by have := hcl.1; omega
    simp [Array.getD, h2] at h
  · exact h

theorem yl_run_ever {fs : List Fact} {o : Oper} {a : Act} {i : Nat} (g : Nat) (x : Sem Value) (v : Value) (hm : (⟨g, fun W => x.run P W = .ok v W⟩ : Fact) ∈ fs) (hg : decide (ops.size ≤ g) = true) (hw : Region.wanted o (yielded ops a.tmps) = true)
    (hv : ∀ w, (execOp a.eval o).run P w = (x >>= fun u => pure (Next.value u) : Sem Next).run P w) : YieldsIf P ops (fun w => ∃ l, Closed ops l ∧ l.getD i true = false ∧ Held fs l w) o v a := by
  refine .inl ⟨hw, fun w ⟨l, hcl, hun, hH⟩ => ?_⟩
  have h' : x.run P w = .ok v w := ever hcl hH hm hg
  rw [hv w, Sem.run_bind, h']
  rfl

theorem yl_load_ever {fs : List Fact} {o : Oper} {a : Act} {i : Nat} (g : Nat) (p : Addr) (v : Value) (hm : (⟨g, fun W => W.cell? p = some v⟩ : Fact) ∈ fs) (hg : decide (ops.size ≤ g) = true) (hw : Region.wanted o (yielded ops a.tmps) = true)
    (hv : ∀ w, (execOp a.eval o).run P w = ((load p) >>= fun u => pure (Next.value u) : Sem Next).run P w) : YieldsIf P ops (fun w => ∃ l, Closed ops l ∧ l.getD i true = false ∧ Held fs l w) o v a := by
  refine .inl ⟨hw, fun w ⟨l, hcl, hun, hH⟩ => ?_⟩
  have h' : w.cell? p = some v := ever hcl hH hm hg
  rw [hv w, Sem.run_bind, run_load, h']
  rfl

theorem yl_sum {fs : List Fact} {o : Oper} {v : Value} {a : Act} {i : Nat} (x : Sem Value) (hx : ∀ w, x.run P w = .ok v w) (hw : Region.wanted o (yielded ops a.tmps) = true) (hv : ∀ w, (execOp a.eval o).run P w = (x >>= fun u => pure (Next.value u) : Sem Next).run P w) : YieldsIf P ops (fun w => ∃ l, Closed ops l ∧ l.getD i true = false ∧ Held fs l w) o v a :=
  .inl ⟨hw, fun w _ => by rw [hv w, Sem.run_bind, hx w]; rfl⟩
end made

end Go.Proofs.YtoecakjjondeeaaGreat

/- Plain facts on a number told by seven bits a byte, the lowest first; no program is named here. -/
namespace Go.Proofs.YtoecakjjondeeaaGreat

/-- The bytes of n, seven bits each, the lowest first; f bounds their number. -/
def varF : Nat → Int → List Int
  | 0, n => [n]
  | f + 1, n => if 128 ≤ n then (n % 128 + 128) :: varF f (n / 128) else [n]

/-- The bytes of n, seven bits each, the lowest first. -/
def varL (n : Int) : List Int := varF n.toNat n

theorem varF_eq : ∀ (f g : Nat) (n : Int), n.toNat ≤ f → n.toNat ≤ g → varF f n = varF g n
  | 0, 0, _, _, _ => rfl
  | 0, g + 1, n, h, _ => by rw [varF, varF, if_neg (by omega)]
  | f + 1, 0, n, _, h => by rw [varF, varF, if_neg (by omega)]
  | f + 1, g + 1, n, h1, h2 => by
    rw [varF, varF]
    by_cases h : 128 ≤ n
    · rw [if_pos h, if_pos h, varF_eq f g (n / 128) (by omega) (by omega)]
    · rw [if_neg h, if_neg h]

theorem varL_more (n : Int) (h : 128 ≤ n) : varL n = (n % 128 + 128) :: varL (n / 128) := by
  obtain ⟨k, hk⟩ : ∃ k, n.toNat = k + 1 := ⟨n.toNat - 1, by omega⟩
  unfold varL
  rw [hk, varF, if_pos h, varF_eq k (n / 128).toNat (n / 128) (by omega) (Nat.le_refl _)]

theorem varL_last (n : Int) (h : n < 128) : varL n = [n] := by
  unfold varL
  rw [varF_eq n.toNat (n.toNat + 1) n (Nat.le_refl _) (by omega), varF, if_neg (by omega)]

theorem var_step {acc : List Int} {x n : Int} (h : acc ++ varL x = varL n) (hx : 128 ≤ x) : (acc ++ [x % 128 + 128]) ++ varL (x / 128) = varL n := by
  rw [← h, varL_more x hx]; simp

theorem var_end {acc : List Int} {x n : Int} (h : acc ++ varL x = varL n) (hx : x < 128) : acc ++ [x] = varL n := by
  rw [← h, varL_last x hx]

end Go.Proofs.YtoecakjjondeeaaGreat

/- The walks of the two that tell a number by seven bits a byte. -/
namespace Go.Proofs.YtoecakjjondeeaaGreat
open Go.RowKit
set_option linter.unusedVariables false

set_option maxHeartbeats 400000 in
set_option maxRecDepth 20000 in
theorem specVar_yes (n : Int) (w : World) (h0 : 0 ≤ n) (h1 : n ≤ 562949953421311) :
    Calls Tryz.prog 146 #[.int .i64 n] w fun e w' => e = .returned (.string (strOfNums (varL n))) ∧ Below w.heap.size w w' := by
  obtain ⟨i0, hi, hz0, hz1, hz2⟩ := info_parts info5
  go_enter Tryz.func146, Tryz.ntmps146
  go_wp2
  go_loopw [0, 3] (fun m v wr => ∃ (acc : List Int) (x : Int), 0 ≤ x ∧ 100 * (acc.length : Int) + x ≤ n ∧ m = .int .i64 x ∧ wr.ownsRow w.heap.size 5 1 v acc.length (acc.map (Value.int .u8)) ∧ Below w.heap.size w wr ∧ Hid (acc ++ varL x = varL n)) (fun m _ _ => (intOf m).toNat)
  case atStart => exact ⟨[], n, h0, by simp, rfl, World.ownsRow_made w _ 0 (Nat.le_refl _) (by decide) (by simp), (Below.refl _ _).alloc (Nat.le_refl _) _, rfl⟩
  case round =>
    obtain ⟨acc, x, hx, hacc, rfl, hown, hbel, HE⟩ := hrel
    have hsz := hbel.size
    by_cases h128 : 128 ≤ x
    · go_wp2_with (first
        | (at_builtin; refine wpList_append_own _ rfl _ _ 146 rfl w.heap.size 5 i0 (.int .u8 0) 1 1 Tryz.underlying146 hi hz0 hz1 hz2 rfl (by decide) _ _ _ rfl (hown.alloc _) ⟨wr.heap.size, 0, none⟩ 1 1 [.int .u8 (128 + x % 128)] rfl rfl (cell_one_new _ _ _) (by intro u hu; simp at hu; subst hu; rfl) (by unfold maxLen; omega) (by omega) (by simp; omega) ?_))
      · intro v' w1 hown' hgrow _
        have R1 := own_snoc hown'
        have R2 := below_append hbel (Nat.le_refl _) hown hgrow
        have R3 : Hid ((acc ++ [128 + x % 128]) ++ varL (x / 128) = varL n) := by rw [Int.add_comm]; exact var_step HE.out h128
        clear hown' hgrow hown hbel HE
        go_wp2
        go_roundw
        case rel => first | exact ⟨acc ++ [128 + x % 128], x / 128, by omega, by simp; omega, rfl, R1, R2, R3⟩ | ((repeat apply Exists.intro); exact ⟨⟨acc ++ [128 + x % 128], x / 128, by omega, by simp; omega, rfl, R1, R2, R3⟩, rfl⟩)
        case measure => simp [intOf]; omega
    · go_wp2_with (first
        | (at_builtin; refine wpList_append_own _ rfl _ _ 146 rfl w.heap.size 5 i0 (.int .u8 0) 1 1 Tryz.underlying146 hi hz0 hz1 hz2 rfl (by decide) _ _ _ rfl (hown.alloc _) ⟨wr.heap.size, 0, none⟩ 1 1 [.int .u8 x] rfl rfl (cell_one_new _ _ _) (by intro u hu; simp at hu; subst hu; rfl) (by unfold maxLen; omega) (by omega) (by simp; omega) ?_))
      · intro v' w1 hown' hgrow _
        have R1 := own_snoc hown'
        have R2 := below_append hbel (Nat.le_refl _) hown hgrow
        have R3 : Hid (acc ++ [x] = varL n) := var_end HE.out (by omega)
        have hconv := run_string_of_own (acc ++ [x]) rfl R1
        clear hown' hgrow hown hbel HE R1
        go_wp2
        go_ret
        exact ⟨ret_str (congrArg strOfNums R3.out), R2⟩

set_option maxHeartbeats 400000 in
set_option maxRecDepth 20000 in
theorem specVar_no (n : Int) (w : World) (h : n < 0 ∨ 562949953421311 < n) :
    Calls Tryz.prog 146 #[.int .i64 n] w fun e w' => e = .returned (.string ⟨#[]⟩) ∧ Below w.heap.size w w' := by
  by_cases h0 : n < 0
  · go_enter Tryz.func146, Tryz.ntmps146
    go_wp2
    go_ret
    exact ⟨rfl, Below.refl _ _⟩
  · have h1 : 562949953421311 < n := by omega
    have hd : decide (n ≤ 562949953421311) = false := by simp; omega
    go_enter Tryz.func146, Tryz.ntmps146
    go_wp2
    go_ret
    exact ⟨rfl, Below.refl _ _⟩

set_option maxHeartbeats 400000 in
set_option maxRecDepth 20000 in
theorem implVar_yes (n : Int) (w : World) (h0 : 0 ≤ n) (h1 : n ≤ 562949953421311) :
    Calls Tryz.prog 152 #[.int .i64 n] w fun e w' => e = .returned (.string (strOfNums (varL n))) ∧ Below w.heap.size w w' := by
  obtain ⟨i0, hi, hz0, hz1, hz2⟩ := info_parts info5
  go_enter Tryz.func152, Tryz.ntmps152
  go_wp2_with (at_make; refine wpList_make_own _ rfl _ _ 146 rfl w.heap.size 5 i0 (.int .u8 0) 1 Tryz.underlying146 hi hz0 hz1 .i64 .i64 7 7 rfl rfl rfl (by rw [hz2]; decide) (by decide) (Nat.le_refl _) ?_)
  intro w0 hown0 hgrow0
  have hbel0 : Below w.heap.size w w0 := (Below.refl _ _).grown hgrow0 (Nat.le_refl _) (by simp)
  clear hgrow0
  go_wp2
  go_loopw [0, 3] (fun m v wr => ∃ (acc : List Int) (x : Int), 0 ≤ x ∧ 100 * (acc.length : Int) + x ≤ n ∧ m = .int .i64 x ∧ wr.ownsRow w.heap.size 5 1 v acc.length (acc.map (Value.int .u8)) ∧ Below w.heap.size w wr ∧ Hid (acc ++ varL x = varL n)) (fun m _ _ => (intOf m).toNat)
  case atStart => exact ⟨[], n, h0, by simp, rfl, hown0, hbel0, rfl⟩
  case round =>
    obtain ⟨acc, x, hx, hacc, rfl, hown, hbel, HE⟩ := hrel
    have hsz := hbel.size
    by_cases h128 : 128 ≤ x
    · go_wp2_with (first
        | (at_builtin; refine wpList_append_own _ rfl _ _ 146 rfl w.heap.size 5 i0 (.int .u8 0) 1 1 Tryz.underlying146 hi hz0 hz1 hz2 rfl (by decide) _ _ _ rfl (hown.alloc _) ⟨wr.heap.size, 0, none⟩ 1 1 [.int .u8 (x % 128 + 128)] rfl rfl (cell_one_new _ _ _) (by intro u hu; simp at hu; subst hu; rfl) (by unfold maxLen; omega) (by omega) (by simp; omega) ?_))
      · intro v' w1 hown' hgrow _
        have R1 := own_snoc hown'
        have R2 := below_append hbel (Nat.le_refl _) hown hgrow
        have R3 : Hid ((acc ++ [x % 128 + 128]) ++ varL (x / 128) = varL n) := by exact var_step HE.out h128
        clear hown' hgrow hown hbel HE
        go_wp2
        go_roundw
        case rel => first | exact ⟨acc ++ [x % 128 + 128], x / 128, by omega, by simp; omega, rfl, R1, R2, R3⟩ | ((repeat apply Exists.intro); exact ⟨⟨acc ++ [x % 128 + 128], x / 128, by omega, by simp; omega, rfl, R1, R2, R3⟩, rfl⟩)
        case measure => simp [intOf]; omega
    · go_wp2_with (first
        | (at_builtin; refine wpList_append_own _ rfl _ _ 146 rfl w.heap.size 5 i0 (.int .u8 0) 1 1 Tryz.underlying146 hi hz0 hz1 hz2 rfl (by decide) _ _ _ rfl (hown.alloc _) ⟨wr.heap.size, 0, none⟩ 1 1 [.int .u8 x] rfl rfl (cell_one_new _ _ _) (by intro u hu; simp at hu; subst hu; rfl) (by unfold maxLen; omega) (by omega) (by simp; omega) ?_))
      · intro v' w1 hown' hgrow _
        have R1 := own_snoc hown'
        have R2 := below_append hbel (Nat.le_refl _) hown hgrow
        have R3 : Hid (acc ++ [x] = varL n) := var_end HE.out (by omega)
        have hconv := run_string_of_own (acc ++ [x]) rfl R1
        clear hown' hgrow hown hbel HE R1
        go_wp2
        go_ret
        exact ⟨ret_str (congrArg strOfNums R3.out), R2⟩

set_option maxHeartbeats 400000 in
set_option maxRecDepth 20000 in
theorem implVar_no (n : Int) (w : World) (h : n < 0 ∨ 562949953421311 < n) :
    Calls Tryz.prog 152 #[.int .i64 n] w fun e w' => e = .returned (.string ⟨#[]⟩) ∧ Below w.heap.size w w' := by
  by_cases h0 : n < 0
  · go_enter Tryz.func152, Tryz.ntmps152
    go_wp2
    go_ret
    exact ⟨rfl, Below.refl _ _⟩
  · have h1 : 562949953421311 < n := by omega
    have hd : decide (n ≤ 562949953421311) = false := by simp; omega
    go_enter Tryz.func152, Tryz.ntmps152
    go_wp2
    go_ret
    exact ⟨rfl, Below.refl _ _⟩

end Go.Proofs.YtoecakjjondeeaaGreat
