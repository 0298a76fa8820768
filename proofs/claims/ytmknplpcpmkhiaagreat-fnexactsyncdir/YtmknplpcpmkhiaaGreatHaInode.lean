/- The contracts of what the exact laws hold Inode by. -/
import Derived.Test.YtmknplpcpmkhiaaGreatMtWalk
namespace Go.Proofs.YtmknplpcpmkhiaaGreat
open Go.RowKit
set_option linter.unusedVariables false

structure S_Inode where
  f0 : Int
  f1 : ByteArray
  f2 : Int

def cInode (x : S_Inode) : List Value := [.int .i64 x.f0, .string x.f1, .int .i64 x.f2]

def rInode (L : List S_Inode) : List Value := L.flatMap cInode

def zInode (x : S_Inode) : Nat := x.f1.size

/-- No text in it is too long. -/
def sInode (x : S_Inode) : Prop := x.f1.size ≤ maxLen

theorem cInode_len (x : S_Inode) : (cInode x).length = 3 := rfl

theorem rInode_len (L : List S_Inode) : (rInode L).length = L.length * 3 := flat_length cInode 3 cInode_len L

set_option maxRecDepth 20000 in
set_option maxHeartbeats 1000000 in
theorem szInode_c (x : S_Inode) (left : Int) (w : World) (h0 : 0 ≤ left) (h1 : left ≤ 1048576) (hz : sInode x) :
    Calls Tryz.prog 113 #[.agg #[.int .i64 x.f0, .string x.f1, .int .i64 x.f2], .int .i64 left] w fun e w' => e = .returned (.int .i64 (szF (zInode x) left)) ∧ Below w.heap.size w w' := by
  unfold zInode
  unfold sInode maxLen at hz
  by_cases h1 : (x.f1.size : Int) ≤ left
  · rw [szF_yes _ _ (by omega)]
    go_enter Tryz.func113, Tryz.ntmps113
    go_wp2
    go_ret
    exact ⟨ret_i (by omega), (Below.refl _ _).alloc (Nat.le_refl _) _⟩
  · rw [szF_no _ _ (by omega)]
    go_enter Tryz.func113, Tryz.ntmps113
    go_wp2
    go_ret
    exact ⟨rfl, (Below.refl _ _).alloc (Nat.le_refl _) _⟩

set_option maxRecDepth 20000 in
set_option maxHeartbeats 1000000 in
theorem toInode_c (x : S_Inode) (w : World) :
    Calls Tryz.prog 116 #[.agg #[.int .i64 x.f0, .string x.f1, .int .i64 x.f2]] w fun e w' => e = .returned (.agg #[.int .i64 x.f0, .string x.f1, .int .i64 x.f2]) ∧ Below w.heap.size w w' := by
  go_enter Tryz.func116, Tryz.ntmps116
  go_wp2
  exact bodyPost_ret (v := .agg #[.int .i64 x.f0, .string x.f1, .int .i64 x.f2]) (by simp [results, Tryz.results116, go_sem]) rfl ⟨rfl, (((Below.refl _ _).alloc (Nat.le_refl _) _).alloc (by simp) _).alloc (by simp; omega) _⟩

set_option maxRecDepth 20000 in
set_option maxHeartbeats 1000000 in
theorem eqInode_c (x : S_Inode) (w : World) :
    Calls Tryz.prog 119 #[.agg #[.int .i64 x.f0, .string x.f1, .int .i64 x.f2], .agg #[.int .i64 x.f0, .string x.f1, .int .i64 x.f2]] w fun e w' => e = .returned (.bool true) ∧ Below w.heap.size w w' := by
  go_enter Tryz.func119, Tryz.ntmps119
  go_wp2
  go_ret
  exact ⟨rfl, ((Below.refl _ _).alloc (Nat.le_refl _) _).alloc (by simp) _⟩

set_option maxRecDepth 20000 in
set_option maxHeartbeats 2000000 in
theorem szInodeS_c (v : Value) (L : List S_Inode) (left : Int) (w : World) (h0 : 0 ≤ left) (h1 : left ≤ 1048576) (hn : L.length ≤ maxLen) (hz : ∀ x ∈ L, sInode x) (hr : RowR w v L.length 3 (rInode L)) :
    Calls Tryz.prog 68 #[v, .int .i64 left] w fun e w' => e = .returned (.int .i64 (szF (L.length + zsum zInode L L.length) left)) ∧ Below w.heap.size w w' := by
  have HZ : Hid (∀ x ∈ L, sInode x) := hz
  have hn' : (L.length : Int) ≤ 9223372036854775807 := by unfold maxLen at hn; omega
  clear hz hn
  rcases Nat.eq_zero_or_pos L.length with hl | hl
  · obtain ⟨p, cap, rfl⟩ := RowR.none (by rw [hl] at hr; exact hr)
    have hz0 : Hid (szF (L.length + zsum zInode L L.length) left = left) := by
      have e : zsum zInode L L.length = 0 := by rw [hl]; rfl
      show _ = _
      rw [e, hl, szF_yes _ _ (by omega)]; omega
    rw [hz0.out]
    clear hr hl hn' hz0
    go_enter Tryz.func68, Tryz.ntmps68
    go_wp2
    go_loopw [1, 5] (fun m i wr => m = .int .i64 left ∧ i = .int .i64 0 ∧ wr = w) (fun _ _ _ => 0)
    case atStart => exact ⟨rfl, rfl, rfl⟩
    case round =>
      obtain ⟨rfl, rfl, rfl⟩ := hrel
      go_wp2
      go_ret
      exact ⟨rfl, Below.refl _ _⟩
  · obtain ⟨b, off, cap, rfl, hb, hc⟩ := hr.some hl (by decide)
    have HC : Hid (∀ j, j < L.length * 3 → w.cell? ⟨b, off + j, none⟩ = (rInode L)[j]?) := hc
    clear hc hr
    by_cases hlen : (L.length : Int) ≤ left
    · go_enter Tryz.func68, Tryz.ntmps68
      go_wp2
      go_loopw [1, 5] (fun m i wr => ∃ k : Nat, k ≤ L.length ∧ i = .int .i64 (k : Int) ∧ m = .int .i64 (left - (L.length : Int) - (zsum zInode L k : Int)) ∧ 0 ≤ left - (L.length : Int) - (zsum zInode L k : Int) ∧ Hid (Below w.heap.size w wr)) (fun _ i _ => L.length - (intOf i).toNat)
      case atStart => exact ⟨0, Nat.zero_le _, rfl, by simp [zsum], by simp [zsum]; omega, Below.refl _ _⟩
      case round =>
        obtain ⟨k, hk, rfl, rfl, hp, HB⟩ := hrel
        by_cases hlt : k < L.length
        · have hlt' : (k : Int) < L.length := by omega
          have c : ∀ q, q < 3 → wr.cell? ⟨b, off + (k * 3 + q), none⟩ = (cInode L[k])[q]? := fun q hq => by
            rw [HB.out.cell (by exact hb), HC.out (k * 3 + q) (by omega)]
            exact flat_at cInode 3 cInode_len L k q hlt hq
          have c0 : wr.cell? ⟨b, off + k * 3, none⟩ = some (.int .i64 (L[k]).f0) := by have := c 0 (by decide); rw [← Nat.add_assoc] at this; exact this
          have c1 : wr.cell? ⟨b, off + k * 3 + 1, none⟩ = some (.string (L[k]).f1) := by have := c 1 (by decide); rw [← Nat.add_assoc] at this; exact this
          have c2 : wr.cell? ⟨b, off + k * 3 + 2, none⟩ = some (.int .i64 (L[k]).f2) := by have := c 2 (by decide); rw [← Nat.add_assoc] at this; exact this
          clear c
          have HS : Hid (zsum zInode L (k + 1) = zsum zInode L k + zInode L[k]) := zsum_succ zInode L k hlt
          have HLE : Hid (zsum zInode L (k + 1) ≤ zsum zInode L L.length) := zsum_le zInode L (k + 1) hlt
          have HZK : Hid (sInode L[k]) := HZ.out L[k] (List.getElem_mem hlt)
          generalize L[k] = X at c0 c1 c2 HS HZK
          obtain ⟨Z, hZ⟩ : ∃ Z : Int, left - (L.length : Int) - (zsum zInode L k : Int) = Z := ⟨_, rfl⟩
          rw [hZ] at hp ⊢
          have hZ1 : Z ≤ left := by omega
          go_wp2_with fail
          refine (szInode_c X Z _ hp (by omega) HZK.out).mono ?_
          rintro e w1 ⟨rfl, b1⟩
          have HB1 : Hid (Below w.heap.size w w1) := HB.out.trans (b1.mono HB.out.size)
          clear b1 c0 c1 c2
          by_cases hok : (zInode X : Int) ≤ Z
          · rw [szF_yes _ _ hok]
            have HZ2 : Hid (left - (L.length : Int) - (zsum zInode L (k + 1) : Int) = Z - (zInode X : Int)) := by have := HS.out; show _ = _; omega
            have hnn : 0 ≤ Z - (zInode X : Int) := by omega
            clear hZ
            generalize (zInode X : Int) = q at hok HZ2 hnn
            go_wp2
            go_roundw
            case rel => exact ⟨k + 1, by omega, by go_num, by rw [HZ2.out], by rw [HZ2.out]; exact hnn, HB1⟩
            case measure => simp [intOf]; omega
          · rw [szF_no _ _ hok]
            have HF : Hid (szF (L.length + zsum zInode L L.length) left = -1) := szF_no _ _ (by have := HS.out; have := HLE.out; omega)
            clear hZ hok
            go_wp2
            go_ret
            exact ⟨by rw [HF.out]; rfl, HB1.out⟩
        · have hke : k = L.length := by omega
          subst hke
          have HF : Hid (szF (L.length + zsum zInode L L.length) left = left - (L.length : Int) - (zsum zInode L L.length : Int)) := by
            show _ = _
            rw [szF_yes _ _ (by omega)]; omega
          generalize (left - (L.length : Int) - (zsum zInode L L.length : Int)) = Z at HF ⊢
          go_wp2
          go_ret
          exact ⟨by rw [HF.out]; rfl, HB.out⟩
    · have HF : Hid (szF (L.length + zsum zInode L L.length) left = -1) := szF_no _ _ (by omega)
      rw [HF.out]
      go_enter Tryz.func68, Tryz.ntmps68
      go_wp2
      go_ret
      exact ⟨rfl, Below.refl _ _⟩

theorem infoInode : (Tryz.prog.info? 47).map (fun i => (i.zero, i.size, i.bytes)) = some (some (.agg #[.int .i64 0, .string ⟨#[]⟩, .int .i64 0]), 3, 32) := by kernel_rfl

theorem sizeInode : (Tryz.prog.info? 47).map (·.size) = some 3 := by kernel_rfl

set_option maxRecDepth 20000 in
set_option maxHeartbeats 2000000 in
theorem toInodeS_c (v : Value) (L : List S_Inode) (w : World) (hn : L.length ≤ 1048576) (hr : RowR w v L.length 3 (rInode L)) :
    Calls Tryz.prog 71 #[v] w fun e w' => ∃ v', e = .returned v' ∧ w'.ownsRow w.heap.size 47 3 v' L.length (rInode L) ∧ Below w.heap.size w w' := by
  obtain ⟨i0, hi, hz0, hz1, hz2⟩ := info_parts infoInode
  have hn' : (L.length : Int) ≤ 1048576 := by omega
  have HR : Hid (RowR w v L.length 3 (rInode L)) := hr
  obtain ⟨p, cap, hv⟩ : ∃ p cap, v = .slice p L.length cap := by obtain ⟨_, p, cap, hv, _⟩ := hr; exact ⟨p, cap, hv⟩
  subst hv
  clear hr
  go_enter Tryz.func71, Tryz.ntmps71
  go_wp2_with (first | (at_make; refine wpList_make_full _ rfl _ _ 24 rfl w.heap.size 47 i0 (.agg #[.int .i64 0, .string ⟨#[]⟩, .int .i64 0]) 3 Tryz.underlying24 hi hz0 hz1 .i64 .i64 L.length L.length L.length rfl rfl rfl rfl (by rw [hz2]; omega) (by unfold maxLen; omega) (Nat.le_refl _) ?_) | go_in)
  intro w0 hown0 hgrow0
  have hbel0 : Below w.heap.size w w0 := (Below.refl _ _).grown hgrow0 (Nat.le_refl _) (by simp)
  clear hgrow0
  go_wp2
  go_loopw [4] (fun i wr => ∃ k : Nat, k ≤ L.length ∧ i = .int .i64 (k : Int) ∧ Hid (∃ xs, wr.ownsRow w.heap.size 47 3 (.slice (some ⟨w.heap.size, 0, none⟩) L.length L.length) L.length xs ∧ xs.take (k * 3) = rInode (L.take k)) ∧ Hid (Below w.heap.size w wr)) (fun i _ => L.length - (intOf i).toNat)
  case atStart => exact ⟨0, Nat.zero_le _, rfl, ⟨_, hown0, by simp [rInode]⟩, hbel0⟩
  case round =>
    obtain ⟨k, hk, rfl, HO, HB⟩ := hrel
    by_cases hlt : k < L.length
    · have hlt' : (k : Int) < L.length := by omega
      obtain ⟨b, off, cap', hv, hb, hc⟩ := HR.out.some (by omega) (by decide)
      simp only [Value.slice.injEq, true_and] at hv
      obtain ⟨rfl, rfl⟩ := hv
      have c : ∀ q, q < 3 → wr.cell? ⟨b, off + (k * 3 + q), none⟩ = (cInode L[k])[q]? := fun q hq => by
        rw [HB.out.cell (by exact hb), hc (k * 3 + q) (by omega)]
        exact flat_at cInode 3 cInode_len L k q hlt hq
      have c0 : wr.cell? ⟨b, off + k * 3, none⟩ = some (.int .i64 (L[k]).f0) := by have := c 0 (by decide); rw [← Nat.add_assoc] at this; exact this
      have c1 : wr.cell? ⟨b, off + k * 3 + 1, none⟩ = some (.string (L[k]).f1) := by have := c 1 (by decide); rw [← Nat.add_assoc] at this; exact this
      have c2 : wr.cell? ⟨b, off + k * 3 + 2, none⟩ = some (.int .i64 (L[k]).f2) := by have := c 2 (by decide); rw [← Nat.add_assoc] at this; exact this
      clear c
      have HFT : Hid (rInode (L.take (k + 1)) = rInode (L.take k) ++ cInode L[k]) := flat_take cInode L k hlt
      clear hc
      generalize L[k] = X at c0 c1 c2 HFT
      go_wp2_with fail
      refine (toInode_c X _).mono ?_
      rintro e w1 ⟨rfl, b1⟩
      obtain ⟨xs, hxo, hxt⟩ := HO.out
      have hown1 := own_bel hxo b1 (Nat.le_refl _)
      have HB1 : Hid (Below w.heap.size w w1) := HB.out.trans (b1.mono HB.out.size)
      obtain ⟨u0, s0⟩ := own_cell hown1 (k * 3) (by omega)
      have z0 := hown1.frozenAt (k * 3)
      obtain ⟨u1, s1⟩ := own_cell hown1 (k * 3 + 1) (by omega)
      have z1 := hown1.frozenAt (k * 3 + 1)
      obtain ⟨u2, s2⟩ := own_cell hown1 (k * 3 + 2) (by omega)
      have z2 := hown1.frozenAt (k * 3 + 2)
      have HO2 : Hid (∃ xs, (((w1.setCell ⟨w.heap.size, k * 3, none⟩ (.int .i64 X.f0)).setCell ⟨w.heap.size, k * 3 + 1, none⟩ (.string X.f1)).setCell ⟨w.heap.size, k * 3 + 2, none⟩ (.int .i64 X.f2)).ownsRow w.heap.size 47 3 (.slice (some ⟨w.heap.size, 0, none⟩) L.length L.length) L.length xs ∧ xs.take ((k + 1) * 3) = rInode (L.take (k + 1))) := by
        refine ⟨_, own_setCells (cInode X) (k * 3) xs w1 hown1, ?_⟩
        have hl := hown1.1
        have := take_setN (cInode X) xs (k * 3) (by rw [cInode_len]; omega)
        rw [cInode_len] at this
        rw [show (k + 1) * 3 = k * 3 + 3 by omega, this, hxt, HFT.out]
      have HB2 : Hid (Below w.heap.size w (((w1.setCell ⟨w.heap.size, k * 3, none⟩ (.int .i64 X.f0)).setCell ⟨w.heap.size, k * 3 + 1, none⟩ (.string X.f1)).setCell ⟨w.heap.size, k * 3 + 2, none⟩ (.int .i64 X.f2))) := bel_setCells (Nat.le_refl _) (cInode X) (k * 3) _ HB1.out
      clear hxo hxt hown1 b1 HO HB HB1 c0 c1 c2
      go_wp2
      go_roundw
      case rel => exact ⟨k + 1, by omega, by go_num, HO2, HB2⟩
      case measure => simp [intOf]; omega
    · have hke : k = L.length := by omega
      subst hke
      have HF : Hid (wr.ownsRow w.heap.size 47 3 (.slice (some ⟨w.heap.size, 0, none⟩) L.length L.length) L.length (rInode L)) := by
        obtain ⟨xs, hxo, hxt⟩ := HO.out
        rw [List.take_length] at hxt
        rw [all_of_take hxo.1 hxt] at hxo
        exact hxo
      go_wp2
      go_ret
      exact ⟨_, rfl, HF.out, HB.out⟩

set_option maxRecDepth 20000 in
set_option maxHeartbeats 2000000 in
theorem eqInodeS_c (v v2 : Value) (L : List S_Inode) (w : World) (hn : L.length ≤ 1048576) (hr : RowR w v L.length 3 (rInode L)) (hr2 : RowR w v2 L.length 3 (rInode L)) :
    Calls Tryz.prog 76 #[v, v2] w fun e w' => e = .returned (.bool true) ∧ Below w.heap.size w w' := by
  have hn' : (L.length : Int) ≤ 1048576 := by omega
  have HR : Hid (RowR w v L.length 3 (rInode L)) := hr
  have HR2 : Hid (RowR w v2 L.length 3 (rInode L)) := hr2
  obtain ⟨p, cap, hv⟩ : ∃ p cap, v = .slice p L.length cap := by obtain ⟨_, p, cap, hv, _⟩ := hr; exact ⟨p, cap, hv⟩
  obtain ⟨p2, cap2, hv2⟩ : ∃ p cap, v2 = .slice p L.length cap := by obtain ⟨_, p, cap, hv, _⟩ := hr2; exact ⟨p, cap, hv⟩
  subst hv
  subst hv2
  clear hr hr2
  go_enter Tryz.func76, Tryz.ntmps76
  go_wp2
  go_loopw [5] (fun i wr => ∃ k : Nat, k ≤ L.length ∧ i = .int .i64 (k : Int) ∧ Hid (Below w.heap.size w wr)) (fun i _ => L.length - (intOf i).toNat)
  case atStart => exact ⟨0, Nat.zero_le _, rfl, Below.refl _ _⟩
  case round =>
    obtain ⟨k, hk, rfl, HB⟩ := hrel
    by_cases hlt : k < L.length
    · have hlt' : (k : Int) < L.length := by omega
      obtain ⟨b, off, cap', hv, hb, hc⟩ := HR.out.some (by omega) (by decide)
      simp only [Value.slice.injEq, true_and] at hv
      obtain ⟨rfl, rfl⟩ := hv
      obtain ⟨b2, off2, cap', hv, hb2, hc2⟩ := HR2.out.some (by omega) (by decide)
      simp only [Value.slice.injEq, true_and] at hv
      obtain ⟨rfl, rfl⟩ := hv
      have c : ∀ q, q < 3 → wr.cell? ⟨b, off + (k * 3 + q), none⟩ = (cInode L[k])[q]? := fun q hq => by
        rw [HB.out.cell (by exact hb), hc (k * 3 + q) (by omega)]
        exact flat_at cInode 3 cInode_len L k q hlt hq
      have c0 : wr.cell? ⟨b, off + k * 3, none⟩ = some (.int .i64 (L[k]).f0) := by have := c 0 (by decide); rw [← Nat.add_assoc] at this; exact this
      have c1 : wr.cell? ⟨b, off + k * 3 + 1, none⟩ = some (.string (L[k]).f1) := by have := c 1 (by decide); rw [← Nat.add_assoc] at this; exact this
      have c2 : wr.cell? ⟨b, off + k * 3 + 2, none⟩ = some (.int .i64 (L[k]).f2) := by have := c 2 (by decide); rw [← Nat.add_assoc] at this; exact this
      clear c
      have c : ∀ q, q < 3 → wr.cell? ⟨b2, off2 + (k * 3 + q), none⟩ = (cInode L[k])[q]? := fun q hq => by
        rw [HB.out.cell (by exact hb2), hc2 (k * 3 + q) (by omega)]
        exact flat_at cInode 3 cInode_len L k q hlt hq
      have d0 : wr.cell? ⟨b2, off2 + k * 3, none⟩ = some (.int .i64 (L[k]).f0) := by have := c 0 (by decide); rw [← Nat.add_assoc] at this; exact this
      have d1 : wr.cell? ⟨b2, off2 + k * 3 + 1, none⟩ = some (.string (L[k]).f1) := by have := c 1 (by decide); rw [← Nat.add_assoc] at this; exact this
      have d2 : wr.cell? ⟨b2, off2 + k * 3 + 2, none⟩ = some (.int .i64 (L[k]).f2) := by have := c 2 (by decide); rw [← Nat.add_assoc] at this; exact this
      clear c
      clear hc hc2
      generalize L[k] = X at c0 c1 c2 d0 d1 d2
      go_wp2
      refine wp_region_any (by kernel_rfl) ?_
      refine wpAny_take (i := 0) (v := ?_) rfl (by kernel_rfl) (by kernel_rfl) (by kernel_rfl) (fun _ _ _ h => h) (Or.inl ⟨by rfl, ?_⟩) ?_
      rotate_left
      · (intro W; go_simp; try with_reducible rfl)
      simp only [Act.put, List.setIfInBounds_toArray, List.set_cons_zero, List.set_cons_succ, List.getElem_toArray, List.getElem_cons_zero]
      refine wpAny_take (i := 1) (v := ?_) rfl (by kernel_rfl) (by kernel_rfl) (by kernel_rfl) (fun _ _ _ h => h) (Or.inl ⟨by rfl, ?_⟩) ?_
      rotate_left
      · (intro W; go_simp; try with_reducible rfl)
      simp only [Act.put, List.setIfInBounds_toArray, List.set_cons_zero, List.set_cons_succ, List.getElem_toArray, List.getElem_cons_zero, List.getElem_cons_succ]
      refine wpAny_take (i := 2) (v := ?_) rfl (by kernel_rfl) (by kernel_rfl) (by kernel_rfl) (fun _ _ _ h => h) (Or.inl ⟨by rfl, ?_⟩) ?_
      rotate_left
      · (intro W; go_simp; try with_reducible rfl)
      simp only [Act.put, List.setIfInBounds_toArray, List.set_cons_zero, List.set_cons_succ, List.getElem_toArray, List.getElem_cons_zero, List.getElem_cons_succ]
      refine wpAny_take (i := 4) (v := ?_) rfl (by kernel_rfl) (by kernel_rfl) (by kernel_rfl) (fun _ _ _ h => h) (Or.inl ⟨by rfl, ?_⟩) ?_
      rotate_left
      · (intro W; go_simp; try with_reducible rfl)
      simp only [Act.put, List.setIfInBounds_toArray, List.set_cons_zero, List.set_cons_succ, List.getElem_toArray, List.getElem_cons_zero, List.getElem_cons_succ]
      refine wpAny_take (i := 5) (v := ?_) rfl (by kernel_rfl) (by kernel_rfl) (by kernel_rfl) (fun _ _ _ h => h) (Or.inl ⟨by rfl, ?_⟩) ?_
      rotate_left
      · (intro W; go_simp; try with_reducible rfl)
      simp only [Act.put, List.setIfInBounds_toArray, List.set_cons_zero, List.set_cons_succ, List.getElem_toArray, List.getElem_cons_zero, List.getElem_cons_succ]
      refine wpAny_take (i := 6) (v := ?_) rfl (by kernel_rfl) (by kernel_rfl) (by kernel_rfl) (fun _ _ _ h => h) (Or.inl ⟨by rfl, ?_⟩) ?_
      rotate_left
      · (intro W; go_simp; try with_reducible rfl)
      simp only [Act.put, List.setIfInBounds_toArray, List.set_cons_zero, List.set_cons_succ, List.getElem_toArray, List.getElem_cons_zero, List.getElem_cons_succ]
      refine wpAny_ready (rs := [3, 7]) (by kernel_rfl) (by simp) ?_
      refine AllReady.cons rfl (fun K hK => ?_) (AllReady.cons rfl (fun K hK => ?_) AllReady.nil)
      · go_simp
        refine hK _ _ ?_
        clear hK K
        refine wpAny_ready (rs := [7]) (by kernel_rfl) (by simp) ?_
        refine AllReady.cons rfl (fun K hK => ?_) AllReady.nil
        go_simp
        refine hK _ _ ?_
        clear hK K
        refine wpAny_ready (rs := [8]) (by kernel_rfl) (by simp) ?_
        refine AllReady.cons rfl (fun K hK => ?_) AllReady.nil
        go_simp
        refine (eqInode_c X _).mono ?_
        rintro e w1 ⟨rfl, b1⟩
        refine hK _ _ ?_
        clear hK K
        refine wpAny_take (i := 9) (v := ?_) rfl (by kernel_rfl) (by kernel_rfl) (by kernel_rfl) (fun _ _ _ h => h) (Or.inl ⟨by rfl, ?_⟩) ?_
        rotate_left
        · (intro W; go_simp; try with_reducible rfl)
        simp only [Act.put, List.setIfInBounds_toArray, List.set_cons_zero, List.set_cons_succ, List.getElem_toArray, List.getElem_cons_zero, List.getElem_cons_succ]
        refine wpAny_done (by kernel_rfl) ?_ _
        have HB1 : Hid (Below w.heap.size w w1) := (HB.out.drew).trans (b1.mono HB.out.size)
        clear b1
        go_wp2
        go_roundw
        case rel => exact ⟨k + 1, by omega, by go_num, HB1⟩
        case measure => simp [intOf]; omega
      · go_simp
        refine hK _ _ ?_
        clear hK K
        refine wpAny_ready (rs := [3]) (by kernel_rfl) (by simp) ?_
        refine AllReady.cons rfl (fun K hK => ?_) AllReady.nil
        go_simp
        refine hK _ _ ?_
        clear hK K
        refine wpAny_ready (rs := [8]) (by kernel_rfl) (by simp) ?_
        refine AllReady.cons rfl (fun K hK => ?_) AllReady.nil
        go_simp
        refine (eqInode_c X _).mono ?_
        rintro e w1 ⟨rfl, b1⟩
        refine hK _ _ ?_
        clear hK K
        refine wpAny_take (i := 9) (v := ?_) rfl (by kernel_rfl) (by kernel_rfl) (by kernel_rfl) (fun _ _ _ h => h) (Or.inl ⟨by rfl, ?_⟩) ?_
        rotate_left
        · (intro W; go_simp; try with_reducible rfl)
        simp only [Act.put, List.setIfInBounds_toArray, List.set_cons_zero, List.set_cons_succ, List.getElem_toArray, List.getElem_cons_zero, List.getElem_cons_succ]
        refine wpAny_done (by kernel_rfl) ?_ _
        have HB1 : Hid (Below w.heap.size w w1) := (HB.out.drew).trans (b1.mono HB.out.size)
        clear b1
        go_wp2
        go_roundw
        case rel => exact ⟨k + 1, by omega, by go_num, HB1⟩
        case measure => simp [intOf]; omega
    · have hke : k = L.length := by omega
      subst hke
      go_wp2
      go_ret
      exact ⟨rfl, HB.out⟩

/-- The cells of element i, marked from k on. -/
def mInode (k : Int) (i : Nat) : List Value := [.int .i64 (k + ((i * 3 : Nat) : Int)), .string (mt (k + ((i * 3 : Nat) : Int) + 1)), .int .i64 (k + ((i * 3 : Nat) : Int) + 1 + 1)]

def mInodes (k : Int) (n : Nat) : List Value := (List.range n).flatMap (mInode k)

theorem mInodes_len (k : Int) (n : Nat) : (mInodes k n).length = n * 3 := by
  have := flat_length (mInode k) 3 (fun _ => rfl) (List.range n)
  rwa [List.length_range] at this

theorem mInodes_at (k : Int) (n i q : Nat) (hi : i < n) (hq : q < 3) : (mInodes k n)[i * 3 + q]? = (mInode k i)[q]? := by
  have := flat_at (mInode k) 3 (fun _ => rfl) (List.range n) i q (by simpa using hi) hq
  rw [List.getElem_range] at this
  exact this

set_option maxRecDepth 20000 in
set_option maxHeartbeats 2000000 in
theorem markInodeS_c (v : Value) (L : List S_Inode) (k0 : Int) (base : Nat) (w : World) (hn : L.length ≤ 1048576) (hk0 : 0 < k0) (hk1 : k0 ≤ 100000000) (hb : base ≤ w.heap.size) (h : w.ownsRow base 47 3 v L.length (rInode L)) :
    Calls Tryz.prog 79 #[v, .int .i64 k0] w fun e w' => e = .returned (.int .i64 (k0 + ((L.length * 3 : Nat) : Int))) ∧ w'.ownsRow base 47 3 v L.length (mInodes k0 L.length) ∧ ButV v w w' := by
  have hn' : (L.length : Int) ≤ 1048576 := by omega
  rcases Nat.eq_zero_or_pos L.length with hl | hl
  · have HO : Hid (w.ownsRow base 47 3 v L.length (mInodes k0 L.length)) := by
      have e1 : rInode L = [] := List.eq_nil_of_length_eq_zero (by rw [rInode_len, hl, Nat.zero_mul])
      have e2 : mInodes k0 L.length = [] := List.eq_nil_of_length_eq_zero (by rw [mInodes_len, hl, Nat.zero_mul])
      show World.ownsRow _ _ _ _ _ _ _
      rw [e2, ← e1]; exact h
    obtain ⟨p, cap, hv⟩ : ∃ p cap, v = .slice p 0 cap := by obtain ⟨_, p, cap, hv, _⟩ := RowR.own h; rw [hl] at hv; exact ⟨p, cap, hv⟩
    subst hv
    have HE : Hid (k0 + ((L.length * 3 : Nat) : Int) = k0) := by show _ = _; omega
    clear h hl
    go_enter Tryz.func79, Tryz.ntmps79
    go_wp2
    go_loopw [1, 5] (fun m i wr => m = .int .i64 k0 ∧ i = .int .i64 0 ∧ wr = w) (fun _ _ _ => 0)
    case atStart => exact ⟨rfl, rfl, rfl⟩
    case round =>
      obtain ⟨rfl, rfl, rfl⟩ := hrel
      go_wp2
      go_ret
      exact ⟨by rw [HE.out]; rfl, HO.out, Or.inl rfl⟩
  · obtain ⟨g, cap, hv, hbg⟩ : ∃ g cap, v = .slice (some ⟨g, 0, none⟩) L.length cap ∧ base ≤ g := by
      obtain ⟨_, ⟨_, h2⟩ | ⟨g, cap, cur, h2, h3, _⟩⟩ := h
      · omega
      · exact ⟨g, cap, h2, h3⟩
    subst hv
    have HM : Hid (Mkd w base 47 3 (.slice (some ⟨g, 0, none⟩) L.length cap) L.length (mInodes k0 L.length) (0 * 3)) := ⟨_, h, rfl⟩
    clear h
    go_enter Tryz.func79, Tryz.ntmps79
    go_wp2
    go_loopw [1, 5] (fun m i wr => ∃ k : Nat, k ≤ L.length ∧ i = .int .i64 (k : Int) ∧ m = .int .i64 (k0 + ((k * 3 : Nat) : Int)) ∧ Hid (Mkd wr base 47 3 (.slice (some ⟨g, 0, none⟩) L.length cap) L.length (mInodes k0 L.length) (k * 3)) ∧ Hid (But g w wr)) (fun _ i _ => L.length - (intOf i).toNat)
    case atStart => exact ⟨0, Nat.zero_le _, rfl, by simp, HM, But.refl _ _⟩
    case round =>
      obtain ⟨k, hk, rfl, rfl, HR0, HB0⟩ := hrel
      have hsz := HB0.out.size
      by_cases hlt : k < L.length
      · have hlt' : (k : Int) < L.length := by omega
        have m0 : (mInodes k0 L.length)[k * 3]? = some (.int .i64 (k0 + ((k * 3 : Nat) : Int))) := mInodes_at k0 L.length k 0 hlt (by decide)
        have m1 : (mInodes k0 L.length)[k * 3 + 1]? = some (.string (mt (k0 + ((k * 3 : Nat) : Int) + 1))) := mInodes_at k0 L.length k 1 hlt (by decide)
        have m2 : (mInodes k0 L.length)[k * 3 + 2]? = some (.int .i64 (k0 + ((k * 3 : Nat) : Int) + 1 + 1)) := mInodes_at k0 L.length k 2 hlt (by decide)
        obtain ⟨A, hA⟩ : ∃ A : Int, k0 + ((k * 3 : Nat) : Int) = A := ⟨_, rfl⟩
        have HAn : Hid (k0 + (((k + 1) * 3 : Nat) : Int) = A + 1 + 1 + 1) := by show _ = _; omega
        rw [hA] at m0 m1 m2 ⊢
        have hA0 : 0 < A := by omega
        have hA1 : A ≤ 200000000 := by omega
        clear hA
        obtain ⟨⟨u0, c0⟩, z0⟩ := HR0.out.cell (k * 3) (by omega)
        have HR1 : Hid (Mkd (wr.setCell ⟨g, k * 3, none⟩ (.int .i64 (A))) base 47 3 (.slice (some ⟨g, 0, none⟩) L.length cap) L.length (mInodes k0 L.length) (k * 3 + 1)) := HR0.out.set _ m0 (by omega)
        have HB1 : Hid (But g w (wr.setCell ⟨g, k * 3, none⟩ (.int .i64 (A)))) := HB0.out.setCell _
        clear HR0 HB0
        go_wp2_with fail
        refine (markText_c (A + 1) _ (by omega) (by omega)).mono ?_
        rintro e w3 ⟨rfl, b3⟩
        have HS1 : Hid (Mkd w3 base 47 3 (.slice (some ⟨g, 0, none⟩) L.length cap) L.length (mInodes k0 L.length) (k * 3 + 1)) := HR1.out.bel b3 (Nat.le_refl _)
        have HT1 : Hid (But g w w3) := HB1.out.bel b3
        clear HR1 HB1 b3
        obtain ⟨⟨u1, c1⟩, z1⟩ := HS1.out.cell (k * 3 + 1) (by omega)
        obtain ⟨⟨u2, c2⟩, z2⟩ := HS1.out.cell (k * 3 + 2) (by omega)
        have HR2 : Hid (Mkd (w3.setCell ⟨g, k * 3 + 1, none⟩ (.string (mt (A + 1)))) base 47 3 (.slice (some ⟨g, 0, none⟩) L.length cap) L.length (mInodes k0 L.length) (k * 3 + 2)) := HS1.out.set _ m1 (by omega)
        have HB2 : Hid (But g w (w3.setCell ⟨g, k * 3 + 1, none⟩ (.string (mt (A + 1))))) := HT1.out.setCell _
        clear HS1 HT1
        have HR3 : Hid (Mkd ((w3.setCell ⟨g, k * 3 + 1, none⟩ (.string (mt (A + 1)))).setCell ⟨g, k * 3 + 2, none⟩ (.int .i64 (A + 1 + 1))) base 47 3 (.slice (some ⟨g, 0, none⟩) L.length cap) L.length (mInodes k0 L.length) (k * 3 + 3)) := HR2.out.set _ m2 (by omega)
        have HB3 : Hid (But g w ((w3.setCell ⟨g, k * 3 + 1, none⟩ (.string (mt (A + 1)))).setCell ⟨g, k * 3 + 2, none⟩ (.int .i64 (A + 1 + 1)))) := HB2.out.setCell _
        clear HR2 HB2
        have HRe : Hid (Mkd ((w3.setCell ⟨g, k * 3 + 1, none⟩ (.string (mt (A + 1)))).setCell ⟨g, k * 3 + 2, none⟩ (.int .i64 (A + 1 + 1))) base 47 3 (.slice (some ⟨g, 0, none⟩) L.length cap) L.length (mInodes k0 L.length) ((k + 1) * 3)) := by
          have := HR3.out
          rw [show (k + 1) * 3 = k * 3 + 3 by omega]
          exact this
        clear HR3
        go_wp2
        go_roundw
        case rel => exact ⟨k + 1, by omega, by go_num, by rw [HAn.out], HRe, HB3⟩
        case measure => simp [intOf]; omega
      · have hke : k = L.length := by omega
        subst hke
        have HF : Hid (wr.ownsRow base 47 3 (.slice (some ⟨g, 0, none⟩) L.length cap) L.length (mInodes k0 L.length)) := HR0.out.all (mInodes_len _ _)
        obtain ⟨Z, hZ⟩ : ∃ Z : Int, k0 + ((L.length * 3 : Nat) : Int) = Z := ⟨_, rfl⟩
        have HZ : Hid (k0 + ((L.length * 3 : Nat) : Int) = Z) := hZ
        rw [hZ]
        clear hZ
        go_wp2
        go_ret
        exact ⟨by rw [HZ.out]; rfl, HF.out, Or.inr ⟨g, rfl, HB0.out⟩⟩

set_option maxRecDepth 20000 in
set_option maxHeartbeats 4000000 in
theorem heldInodeS_c (v : Value) (len : Nat) (k0 : Int) (w : World) (hn : len ≤ 1048576) (hk0 : 0 < k0) (hk1 : k0 ≤ 100000000) (hr : RowR w v len 3 (mInodes k0 len)) :
    Calls Tryz.prog 82 #[v, .int .i64 k0] w fun e w' => e = .returned (.int .i64 (k0 + ((len * 3 : Nat) : Int))) ∧ Below w.heap.size w w' := by
  have hn' : (len : Int) ≤ 1048576 := by omega
  have HR : Hid (RowR w v len 3 (mInodes k0 len)) := hr
  obtain ⟨p, cap, hv⟩ : ∃ p cap, v = .slice p len cap := by obtain ⟨_, p, cap, hv, _⟩ := hr; exact ⟨p, cap, hv⟩
  subst hv
  clear hr
  go_enter Tryz.func82, Tryz.ntmps82
  go_wp2
  go_loopw [1, 5] (fun m i wr => ∃ k : Nat, k ≤ len ∧ i = .int .i64 (k : Int) ∧ m = .int .i64 (k0 + ((k * 3 : Nat) : Int)) ∧ Hid (Below w.heap.size w wr)) (fun _ i _ => len - (intOf i).toNat)
  case atStart => exact ⟨0, Nat.zero_le _, rfl, by simp, Below.refl _ _⟩
  case round =>
    obtain ⟨k, hk, rfl, rfl, HB⟩ := hrel
    by_cases hlt : k < len
    · have hlt' : (k : Int) < len := by omega
      obtain ⟨b, off, cap', hv, hb, hc⟩ := HR.out.some (by omega) (by decide)
      simp only [Value.slice.injEq, true_and] at hv
      obtain ⟨rfl, rfl⟩ := hv
      obtain ⟨A, hA⟩ : ∃ A : Int, k0 + ((k * 3 : Nat) : Int) = A := ⟨_, rfl⟩
      have d0 : Hid (w.cell? ⟨b, off + k * 3, none⟩ = some (.int .i64 (A))) := by
        have h1 := hc (k * 3 + 0) (by omega)
        rw [mInodes_at k0 len k 0 hlt (by decide), ← Nat.add_assoc] at h1
        rw [← hA]
        exact h1
      have d1 : Hid (w.cell? ⟨b, off + k * 3 + 1, none⟩ = some (.string (mt (A + 1)))) := by
        have h1 := hc (k * 3 + 1) (by omega)
        rw [mInodes_at k0 len k 1 hlt (by decide), ← Nat.add_assoc] at h1
        rw [← hA]
        exact h1
      have d2 : Hid (w.cell? ⟨b, off + k * 3 + 2, none⟩ = some (.int .i64 (A + 1 + 1))) := by
        have h1 := hc (k * 3 + 2) (by omega)
        rw [mInodes_at k0 len k 2 hlt (by decide), ← Nat.add_assoc] at h1
        rw [← hA]
        exact h1
      have HAn : Hid (k0 + (((k + 1) * 3 : Nat) : Int) = A + 1 + 1 + 1) := by show _ = _; omega
      rw [hA]
      have hA0 : 0 < A := by omega
      have hA1 : A ≤ 200000000 := by omega
      clear hA hc
      have e0 : wr.cell? ⟨b, off + k * 3, none⟩ = some (.int .i64 (A)) := by rw [HB.out.cell (by exact hb)]; exact d0.out
      have e1 : wr.cell? ⟨b, off + k * 3 + 1, none⟩ = some (.string (mt (A + 1))) := by rw [HB.out.cell (by exact hb)]; exact d1.out
      go_wp2
      refine wp_region_any (by kernel_rfl) ?_
      refine wpAny_take (i := 0) (v := ?_) rfl (by kernel_rfl) (by kernel_rfl) (by kernel_rfl) (fun _ _ _ h => h) (Or.inl ⟨by rfl, ?_⟩) ?_
      rotate_left
      · (intro W; go_simp; try with_reducible rfl)
      simp only [Act.put, List.setIfInBounds_toArray, List.set_cons_zero, List.set_cons_succ, List.getElem_toArray, List.getElem_cons_zero]
      refine wpAny_take (i := 1) (v := ?_) rfl (by kernel_rfl) (by kernel_rfl) (by kernel_rfl) (fun _ _ _ h => h) (Or.inl ⟨by rfl, ?_⟩) ?_
      rotate_left
      · (intro W; go_simp; try with_reducible rfl)
      simp only [Act.put, List.setIfInBounds_toArray, List.set_cons_zero, List.set_cons_succ, List.getElem_toArray, List.getElem_cons_zero, List.getElem_cons_succ]
      refine wpAny_take (i := 2) (v := ?_) rfl (by kernel_rfl) (by kernel_rfl) (by kernel_rfl) (fun _ _ _ h => h) (Or.inl ⟨by rfl, ?_⟩) ?_
      rotate_left
      · (intro W; go_simp; try with_reducible rfl)
      simp only [Act.put, List.setIfInBounds_toArray, List.set_cons_zero, List.set_cons_succ, List.getElem_toArray, List.getElem_cons_zero, List.getElem_cons_succ]
      refine wpAny_take (i := 3) (v := ?_) rfl (by kernel_rfl) (by kernel_rfl) (by kernel_rfl) (fun _ _ _ h => h) (Or.inl ⟨by rfl, ?_⟩) ?_
      rotate_left
      · (intro W; go_simp; try with_reducible rfl)
      simp only [Act.put, List.setIfInBounds_toArray, List.set_cons_zero, List.set_cons_succ, List.getElem_toArray, List.getElem_cons_zero, List.getElem_cons_succ]
      refine wpAny_take (i := 5) (v := ?_) rfl (by kernel_rfl) (by kernel_rfl) (by kernel_rfl) (fun _ _ _ h => h) (Or.inl ⟨by rfl, ?_⟩) ?_
      rotate_left
      · (intro W; go_simp; try with_reducible rfl)
      simp only [Act.put, List.setIfInBounds_toArray, List.set_cons_zero, List.set_cons_succ, List.getElem_toArray, List.getElem_cons_zero, List.getElem_cons_succ]
      refine wpAny_ready (rs := [4, 6]) (by kernel_rfl) (by simp) ?_
      refine AllReady.cons rfl (fun K hK => ?_) (AllReady.cons rfl (fun K hK => ?_) AllReady.nil)
      · go_simp
        refine hK _ _ ?_
        clear hK K
        refine wpAny_ready (rs := [6]) (by kernel_rfl) (by simp) ?_
        refine AllReady.cons rfl (fun K hK => ?_) AllReady.nil
        go_simp
        refine (markText_c (A + 1) _ (by omega) (by omega)).mono ?_
        rintro e x1 ⟨rfl, b2⟩
        refine hK _ _ ?_
        clear hK K
        have HX1 : Hid (Below w.heap.size w x1) := (HB.out.drew).trans (b2.mono HB.out.size)
        clear b2
        refine wpAny_take (i := 7) (v := ?_) rfl (by kernel_rfl) (by kernel_rfl) (by kernel_rfl) (fun _ _ _ h => h) (Or.inl ⟨by rfl, ?_⟩) ?_
        rotate_left
        · (intro W; go_simp; try with_reducible rfl)
        simp only [Act.put, List.setIfInBounds_toArray, List.set_cons_zero, List.set_cons_succ, List.getElem_toArray, List.getElem_cons_zero, List.getElem_cons_succ]
        refine wpAny_done (by kernel_rfl) ?_ _
        clear e0 e1
        have e2 : x1.cell? ⟨b, off + k * 3 + 2, none⟩ = some (.int .i64 (A + 1 + 1)) := by rw [HX1.out.cell (by exact hb)]; exact d2.out
        go_wp2
        go_roundw
        case rel => exact ⟨k + 1, by omega, by go_num, by rw [HAn.out], HX1⟩
        case measure => simp [intOf]; omega
      · go_simp
        refine (markText_c (A + 1) _ (by omega) (by omega)).mono ?_
        rintro e x1 ⟨rfl, b2⟩
        refine hK _ _ ?_
        clear hK K
        have HX1 : Hid (Below w.heap.size w x1) := (HB.out.drew).trans (b2.mono HB.out.size)
        clear b2
        have e1' : x1.cell? ⟨b, off + k * 3 + 1, none⟩ = some (.string (mt (A + 1))) := by rw [HX1.out.cell (by exact hb)]; exact d1.out
        refine wpAny_ready (rs := [4]) (by kernel_rfl) (by simp) ?_
        refine AllReady.cons rfl (fun K hK => ?_) AllReady.nil
        go_simp
        refine hK _ _ ?_
        clear hK K e1'
        refine wpAny_take (i := 7) (v := ?_) rfl (by kernel_rfl) (by kernel_rfl) (by kernel_rfl) (fun _ _ _ h => h) (Or.inl ⟨by rfl, ?_⟩) ?_
        rotate_left
        · (intro W; go_simp; try with_reducible rfl)
        simp only [Act.put, List.setIfInBounds_toArray, List.set_cons_zero, List.set_cons_succ, List.getElem_toArray, List.getElem_cons_zero, List.getElem_cons_succ]
        refine wpAny_done (by kernel_rfl) ?_ _
        clear e0 e1
        have e2 : x1.cell? ⟨b, off + k * 3 + 2, none⟩ = some (.int .i64 (A + 1 + 1)) := by rw [HX1.out.cell (by exact hb)]; exact d2.out
        go_wp2
        go_roundw
        case rel => exact ⟨k + 1, by omega, by go_num, by rw [HAn.out], HX1⟩
        case measure => simp [intOf]; omega
    · have hke : k = len := by omega
      subst hke
      obtain ⟨Z, hZ⟩ : ∃ Z : Int, k0 + ((k * 3 : Nat) : Int) = Z := ⟨_, rfl⟩
      have HZ : Hid (k0 + ((k * 3 : Nat) : Int) = Z) := hZ
      rw [hZ]
      clear hZ
      go_wp2
      go_ret
      exact ⟨by rw [HZ.out]; rfl, HB.out⟩

end Go.Proofs.YtmknplpcpmkhiaaGreat
