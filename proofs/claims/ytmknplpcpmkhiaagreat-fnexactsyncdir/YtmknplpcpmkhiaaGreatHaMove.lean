/- The contracts of what the exact laws hold Move by. -/
import Derived.Test.YtmknplpcpmkhiaaGreatMtWalk
namespace Go.Proofs.YtmknplpcpmkhiaaGreat
open Go.RowKit
set_option linter.unusedVariables false

structure S_Move where
  f0 : Int
  f1 : ByteArray
  f2 : ByteArray
  f3 : Int

def cMove (x : S_Move) : List Value := [.int .i64 x.f0, .string x.f1, .string x.f2, .int .i64 x.f3]

def rMove (L : List S_Move) : List Value := L.flatMap cMove

def zMove (x : S_Move) : Nat := x.f1.size + x.f2.size

/-- No text in it is too long. -/
def sMove (x : S_Move) : Prop := x.f1.size ≤ maxLen ∧ x.f2.size ≤ maxLen

theorem cMove_len (x : S_Move) : (cMove x).length = 4 := rfl

theorem rMove_len (L : List S_Move) : (rMove L).length = L.length * 4 := flat_length cMove 4 cMove_len L

set_option maxRecDepth 20000 in
set_option maxHeartbeats 1000000 in
theorem szMove_c (x : S_Move) (left : Int) (w : World) (h0 : 0 ≤ left) (h1 : left ≤ 1048576) (hz : sMove x) :
    Calls Tryz.prog 115 #[.agg #[.int .i64 x.f0, .string x.f1, .string x.f2, .int .i64 x.f3], .int .i64 left] w fun e w' => e = .returned (.int .i64 (szF (zMove x) left)) ∧ Below w.heap.size w w' := by
  unfold zMove
  unfold sMove maxLen at hz
  by_cases h1 : (x.f1.size : Int) ≤ left
  · by_cases h2 : (x.f2.size : Int) ≤ left - (x.f1.size : Int)
    · rw [szF_yes _ _ (by omega)]
      go_enter Tryz.func115, Tryz.ntmps115
      go_wp2
      go_ret
      exact ⟨ret_i (by omega), (Below.refl _ _).alloc (Nat.le_refl _) _⟩
    · rw [szF_no _ _ (by omega)]
      go_enter Tryz.func115, Tryz.ntmps115
      go_wp2
      go_ret
      exact ⟨rfl, (Below.refl _ _).alloc (Nat.le_refl _) _⟩
  · rw [szF_no _ _ (by omega)]
    go_enter Tryz.func115, Tryz.ntmps115
    go_wp2
    go_ret
    exact ⟨rfl, (Below.refl _ _).alloc (Nat.le_refl _) _⟩

set_option maxRecDepth 20000 in
set_option maxHeartbeats 1000000 in
theorem toMove_c (x : S_Move) (w : World) :
    Calls Tryz.prog 118 #[.agg #[.int .i64 x.f0, .string x.f1, .string x.f2, .int .i64 x.f3]] w fun e w' => e = .returned (.agg #[.int .i64 x.f0, .string x.f1, .string x.f2, .int .i64 x.f3]) ∧ Below w.heap.size w w' := by
  go_enter Tryz.func118, Tryz.ntmps118
  go_wp2
  exact bodyPost_ret (v := .agg #[.int .i64 x.f0, .string x.f1, .string x.f2, .int .i64 x.f3]) (by simp [results, Tryz.results118, go_sem]) rfl ⟨rfl, (((Below.refl _ _).alloc (Nat.le_refl _) _).alloc (by simp) _).alloc (by simp; omega) _⟩

set_option maxRecDepth 20000 in
set_option maxHeartbeats 1000000 in
theorem eqMove_c (x : S_Move) (w : World) :
    Calls Tryz.prog 121 #[.agg #[.int .i64 x.f0, .string x.f1, .string x.f2, .int .i64 x.f3], .agg #[.int .i64 x.f0, .string x.f1, .string x.f2, .int .i64 x.f3]] w fun e w' => e = .returned (.bool true) ∧ Below w.heap.size w w' := by
  go_enter Tryz.func121, Tryz.ntmps121
  go_wp2
  go_ret
  exact ⟨rfl, ((Below.refl _ _).alloc (Nat.le_refl _) _).alloc (by simp) _⟩

set_option maxRecDepth 20000 in
set_option maxHeartbeats 2000000 in
theorem szMoveS_c (v : Value) (L : List S_Move) (left : Int) (w : World) (h0 : 0 ≤ left) (h1 : left ≤ 1048576) (hn : L.length ≤ maxLen) (hz : ∀ x ∈ L, sMove x) (hr : RowR w v L.length 4 (rMove L)) :
    Calls Tryz.prog 70 #[v, .int .i64 left] w fun e w' => e = .returned (.int .i64 (szF (L.length + zsum zMove L L.length) left)) ∧ Below w.heap.size w w' := by
  have HZ : Hid (∀ x ∈ L, sMove x) := hz
  have hn' : (L.length : Int) ≤ 9223372036854775807 := by unfold maxLen at hn; omega
  clear hz hn
  rcases Nat.eq_zero_or_pos L.length with hl | hl
  · obtain ⟨p, cap, rfl⟩ := RowR.none (by rw [hl] at hr; exact hr)
    have hz0 : Hid (szF (L.length + zsum zMove L L.length) left = left) := by
      have e : zsum zMove L L.length = 0 := by rw [hl]; rfl
      show _ = _
      rw [e, hl, szF_yes _ _ (by omega)]; omega
    rw [hz0.out]
    clear hr hl hn' hz0
    go_enter Tryz.func70, Tryz.ntmps70
    go_wp2
    go_loopw [1, 5] (fun m i wr => m = .int .i64 left ∧ i = .int .i64 0 ∧ wr = w) (fun _ _ _ => 0)
    case atStart => exact ⟨rfl, rfl, rfl⟩
    case round =>
      obtain ⟨rfl, rfl, rfl⟩ := hrel
      go_wp2
      go_ret
      exact ⟨rfl, Below.refl _ _⟩
  · obtain ⟨b, off, cap, rfl, hb, hc⟩ := hr.some hl (by decide)
    have HC : Hid (∀ j, j < L.length * 4 → w.cell? ⟨b, off + j, none⟩ = (rMove L)[j]?) := hc
    clear hc hr
    by_cases hlen : (L.length : Int) ≤ left
    · go_enter Tryz.func70, Tryz.ntmps70
      go_wp2
      go_loopw [1, 5] (fun m i wr => ∃ k : Nat, k ≤ L.length ∧ i = .int .i64 (k : Int) ∧ m = .int .i64 (left - (L.length : Int) - (zsum zMove L k : Int)) ∧ 0 ≤ left - (L.length : Int) - (zsum zMove L k : Int) ∧ Hid (Below w.heap.size w wr)) (fun _ i _ => L.length - (intOf i).toNat)
      case atStart => exact ⟨0, Nat.zero_le _, rfl, by simp [zsum], by simp [zsum]; omega, Below.refl _ _⟩
      case round =>
        obtain ⟨k, hk, rfl, rfl, hp, HB⟩ := hrel
        by_cases hlt : k < L.length
        · have hlt' : (k : Int) < L.length := by omega
          have c : ∀ q, q < 4 → wr.cell? ⟨b, off + (k * 4 + q), none⟩ = (cMove L[k])[q]? := fun q hq => by
            rw [HB.out.cell (by exact hb), HC.out (k * 4 + q) (by omega)]
            exact flat_at cMove 4 cMove_len L k q hlt hq
          have c0 : wr.cell? ⟨b, off + k * 4, none⟩ = some (.int .i64 (L[k]).f0) := by have := c 0 (by decide); rw [← Nat.add_assoc] at this; exact this
          have c1 : wr.cell? ⟨b, off + k * 4 + 1, none⟩ = some (.string (L[k]).f1) := by have := c 1 (by decide); rw [← Nat.add_assoc] at this; exact this
          have c2 : wr.cell? ⟨b, off + k * 4 + 2, none⟩ = some (.string (L[k]).f2) := by have := c 2 (by decide); rw [← Nat.add_assoc] at this; exact this
          have c3 : wr.cell? ⟨b, off + k * 4 + 3, none⟩ = some (.int .i64 (L[k]).f3) := by have := c 3 (by decide); rw [← Nat.add_assoc] at this; exact this
          clear c
          have HS : Hid (zsum zMove L (k + 1) = zsum zMove L k + zMove L[k]) := zsum_succ zMove L k hlt
          have HLE : Hid (zsum zMove L (k + 1) ≤ zsum zMove L L.length) := zsum_le zMove L (k + 1) hlt
          have HZK : Hid (sMove L[k]) := HZ.out L[k] (List.getElem_mem hlt)
          generalize L[k] = X at c0 c1 c2 c3 HS HZK
          obtain ⟨Z, hZ⟩ : ∃ Z : Int, left - (L.length : Int) - (zsum zMove L k : Int) = Z := ⟨_, rfl⟩
          rw [hZ] at hp ⊢
          have hZ1 : Z ≤ left := by omega
          go_wp2_with fail
          refine (szMove_c X Z _ hp (by omega) HZK.out).mono ?_
          rintro e w1 ⟨rfl, b1⟩
          have HB1 : Hid (Below w.heap.size w w1) := HB.out.trans (b1.mono HB.out.size)
          clear b1 c0 c1 c2 c3
          by_cases hok : (zMove X : Int) ≤ Z
          · rw [szF_yes _ _ hok]
            have HZ2 : Hid (left - (L.length : Int) - (zsum zMove L (k + 1) : Int) = Z - (zMove X : Int)) := by have := HS.out; show _ = _; omega
            have hnn : 0 ≤ Z - (zMove X : Int) := by omega
            clear hZ
            generalize (zMove X : Int) = q at hok HZ2 hnn
            go_wp2
            go_roundw
            case rel => exact ⟨k + 1, by omega, by go_num, by rw [HZ2.out], by rw [HZ2.out]; exact hnn, HB1⟩
            case measure => simp [intOf]; omega
          · rw [szF_no _ _ hok]
            have HF : Hid (szF (L.length + zsum zMove L L.length) left = -1) := szF_no _ _ (by have := HS.out; have := HLE.out; omega)
            clear hZ hok
            go_wp2
            go_ret
            exact ⟨by rw [HF.out]; rfl, HB1.out⟩
        · have hke : k = L.length := by omega
          subst hke
          have HF : Hid (szF (L.length + zsum zMove L L.length) left = left - (L.length : Int) - (zsum zMove L L.length : Int)) := by
            show _ = _
            rw [szF_yes _ _ (by omega)]; omega
          generalize (left - (L.length : Int) - (zsum zMove L L.length : Int)) = Z at HF ⊢
          go_wp2
          go_ret
          exact ⟨by rw [HF.out]; rfl, HB.out⟩
    · have HF : Hid (szF (L.length + zsum zMove L L.length) left = -1) := szF_no _ _ (by omega)
      rw [HF.out]
      go_enter Tryz.func70, Tryz.ntmps70
      go_wp2
      go_ret
      exact ⟨rfl, Below.refl _ _⟩

theorem infoMove : (Tryz.prog.info? 51).map (fun i => (i.zero, i.size, i.bytes)) = some (some (.agg #[.int .i64 0, .string ⟨#[]⟩, .string ⟨#[]⟩, .int .i64 0]), 4, 48) := by kernel_rfl

theorem sizeMove : (Tryz.prog.info? 51).map (·.size) = some 4 := by kernel_rfl

set_option maxRecDepth 20000 in
set_option maxHeartbeats 2000000 in
theorem toMoveS_c (v : Value) (L : List S_Move) (w : World) (hn : L.length ≤ 1048576) (hr : RowR w v L.length 4 (rMove L)) :
    Calls Tryz.prog 73 #[v] w fun e w' => ∃ v', e = .returned v' ∧ w'.ownsRow w.heap.size 51 4 v' L.length (rMove L) ∧ Below w.heap.size w w' := by
  obtain ⟨i0, hi, hz0, hz1, hz2⟩ := info_parts infoMove
  have hn' : (L.length : Int) ≤ 1048576 := by omega
  have HR : Hid (RowR w v L.length 4 (rMove L)) := hr
  obtain ⟨p, cap, hv⟩ : ∃ p cap, v = .slice p L.length cap := by obtain ⟨_, p, cap, hv, _⟩ := hr; exact ⟨p, cap, hv⟩
  subst hv
  clear hr
  go_enter Tryz.func73, Tryz.ntmps73
  go_wp2_with (first | (at_make; refine wpList_make_full _ rfl _ _ 26 rfl w.heap.size 51 i0 (.agg #[.int .i64 0, .string ⟨#[]⟩, .string ⟨#[]⟩, .int .i64 0]) 4 Tryz.underlying26 hi hz0 hz1 .i64 .i64 L.length L.length L.length rfl rfl rfl rfl (by rw [hz2]; omega) (by unfold maxLen; omega) (Nat.le_refl _) ?_) | go_in)
  intro w0 hown0 hgrow0
  have hbel0 : Below w.heap.size w w0 := (Below.refl _ _).grown hgrow0 (Nat.le_refl _) (by simp)
  clear hgrow0
  go_wp2
  go_loopw [4] (fun i wr => ∃ k : Nat, k ≤ L.length ∧ i = .int .i64 (k : Int) ∧ Hid (∃ xs, wr.ownsRow w.heap.size 51 4 (.slice (some ⟨w.heap.size, 0, none⟩) L.length L.length) L.length xs ∧ xs.take (k * 4) = rMove (L.take k)) ∧ Hid (Below w.heap.size w wr)) (fun i _ => L.length - (intOf i).toNat)
  case atStart => exact ⟨0, Nat.zero_le _, rfl, ⟨_, hown0, by simp [rMove]⟩, hbel0⟩
  case round =>
    obtain ⟨k, hk, rfl, HO, HB⟩ := hrel
    by_cases hlt : k < L.length
    · have hlt' : (k : Int) < L.length := by omega
      obtain ⟨b, off, cap', hv, hb, hc⟩ := HR.out.some (by omega) (by decide)
      simp only [Value.slice.injEq, true_and] at hv
      obtain ⟨rfl, rfl⟩ := hv
      have c : ∀ q, q < 4 → wr.cell? ⟨b, off + (k * 4 + q), none⟩ = (cMove L[k])[q]? := fun q hq => by
        rw [HB.out.cell (by exact hb), hc (k * 4 + q) (by omega)]
        exact flat_at cMove 4 cMove_len L k q hlt hq
      have c0 : wr.cell? ⟨b, off + k * 4, none⟩ = some (.int .i64 (L[k]).f0) := by have := c 0 (by decide); rw [← Nat.add_assoc] at this; exact this
      have c1 : wr.cell? ⟨b, off + k * 4 + 1, none⟩ = some (.string (L[k]).f1) := by have := c 1 (by decide); rw [← Nat.add_assoc] at this; exact this
      have c2 : wr.cell? ⟨b, off + k * 4 + 2, none⟩ = some (.string (L[k]).f2) := by have := c 2 (by decide); rw [← Nat.add_assoc] at this; exact this
      have c3 : wr.cell? ⟨b, off + k * 4 + 3, none⟩ = some (.int .i64 (L[k]).f3) := by have := c 3 (by decide); rw [← Nat.add_assoc] at this; exact this
      clear c
      have HFT : Hid (rMove (L.take (k + 1)) = rMove (L.take k) ++ cMove L[k]) := flat_take cMove L k hlt
      clear hc
      generalize L[k] = X at c0 c1 c2 c3 HFT
      go_wp2_with fail
      refine (toMove_c X _).mono ?_
      rintro e w1 ⟨rfl, b1⟩
      obtain ⟨xs, hxo, hxt⟩ := HO.out
      have hown1 := own_bel hxo b1 (Nat.le_refl _)
      have HB1 : Hid (Below w.heap.size w w1) := HB.out.trans (b1.mono HB.out.size)
      obtain ⟨u0, s0⟩ := own_cell hown1 (k * 4) (by omega)
      have z0 := hown1.frozenAt (k * 4)
      obtain ⟨u1, s1⟩ := own_cell hown1 (k * 4 + 1) (by omega)
      have z1 := hown1.frozenAt (k * 4 + 1)
      obtain ⟨u2, s2⟩ := own_cell hown1 (k * 4 + 2) (by omega)
      have z2 := hown1.frozenAt (k * 4 + 2)
      obtain ⟨u3, s3⟩ := own_cell hown1 (k * 4 + 3) (by omega)
      have z3 := hown1.frozenAt (k * 4 + 3)
      have HO2 : Hid (∃ xs, ((((w1.setCell ⟨w.heap.size, k * 4, none⟩ (.int .i64 X.f0)).setCell ⟨w.heap.size, k * 4 + 1, none⟩ (.string X.f1)).setCell ⟨w.heap.size, k * 4 + 2, none⟩ (.string X.f2)).setCell ⟨w.heap.size, k * 4 + 3, none⟩ (.int .i64 X.f3)).ownsRow w.heap.size 51 4 (.slice (some ⟨w.heap.size, 0, none⟩) L.length L.length) L.length xs ∧ xs.take ((k + 1) * 4) = rMove (L.take (k + 1))) := by
        refine ⟨_, own_setCells (cMove X) (k * 4) xs w1 hown1, ?_⟩
        have hl := hown1.1
        have := take_setN (cMove X) xs (k * 4) (by rw [cMove_len]; omega)
        rw [cMove_len] at this
        rw [show (k + 1) * 4 = k * 4 + 4 by omega, this, hxt, HFT.out]
      have HB2 : Hid (Below w.heap.size w ((((w1.setCell ⟨w.heap.size, k * 4, none⟩ (.int .i64 X.f0)).setCell ⟨w.heap.size, k * 4 + 1, none⟩ (.string X.f1)).setCell ⟨w.heap.size, k * 4 + 2, none⟩ (.string X.f2)).setCell ⟨w.heap.size, k * 4 + 3, none⟩ (.int .i64 X.f3))) := bel_setCells (Nat.le_refl _) (cMove X) (k * 4) _ HB1.out
      clear hxo hxt hown1 b1 HO HB HB1 c0 c1 c2 c3
      go_wp2
      go_roundw
      case rel => exact ⟨k + 1, by omega, by go_num, HO2, HB2⟩
      case measure => simp [intOf]; omega
    · have hke : k = L.length := by omega
      subst hke
      have HF : Hid (wr.ownsRow w.heap.size 51 4 (.slice (some ⟨w.heap.size, 0, none⟩) L.length L.length) L.length (rMove L)) := by
        obtain ⟨xs, hxo, hxt⟩ := HO.out
        rw [List.take_length] at hxt
        rw [all_of_take hxo.1 hxt] at hxo
        exact hxo
      go_wp2
      go_ret
      exact ⟨_, rfl, HF.out, HB.out⟩

set_option maxRecDepth 20000 in
set_option maxHeartbeats 2000000 in
theorem eqMoveS_c (v v2 : Value) (L : List S_Move) (w : World) (hn : L.length ≤ 1048576) (hr : RowR w v L.length 4 (rMove L)) (hr2 : RowR w v2 L.length 4 (rMove L)) :
    Calls Tryz.prog 78 #[v, v2] w fun e w' => e = .returned (.bool true) ∧ Below w.heap.size w w' := by
  have hn' : (L.length : Int) ≤ 1048576 := by omega
  have HR : Hid (RowR w v L.length 4 (rMove L)) := hr
  have HR2 : Hid (RowR w v2 L.length 4 (rMove L)) := hr2
  obtain ⟨p, cap, hv⟩ : ∃ p cap, v = .slice p L.length cap := by obtain ⟨_, p, cap, hv, _⟩ := hr; exact ⟨p, cap, hv⟩
  obtain ⟨p2, cap2, hv2⟩ : ∃ p cap, v2 = .slice p L.length cap := by obtain ⟨_, p, cap, hv, _⟩ := hr2; exact ⟨p, cap, hv⟩
  subst hv
  subst hv2
  clear hr hr2
  go_enter Tryz.func78, Tryz.ntmps78
  go_wp2
  go_loopw [5] (fun i wr => ∃ k : Nat, k ≤ L.length ∧ i = .int .i64 (k : Int) ∧ Hid (Below w.heap.size w wr)) (fun i _ => L.length - (intOf i).toNat)
  case atStart => exact ⟨0, Nat.zero_le _, rfl, Below.refl _ _⟩
  case round =>
    obtain ⟨k, hk, rfl, HB⟩ := hrel
    by_cases hlt : k < L.length
    · have hlt' : (k : Int) < L.length := by omega
      obtain ⟨b, off, cap', hv, hb, hc⟩ := HR.out.some (by omega) (by decide)
      simp only [Value.slice.injEq, true_and] at hv
      obtain ⟨rfl, rfl⟩ := hv
      obtain ⟨b2, off2, cap', hv, hb2, hc2⟩ := HR2.out.some (by omega) (by decide)
      simp only [Value.slice.injEq, true_and] at hv
      obtain ⟨rfl, rfl⟩ := hv
      have c : ∀ q, q < 4 → wr.cell? ⟨b, off + (k * 4 + q), none⟩ = (cMove L[k])[q]? := fun q hq => by
        rw [HB.out.cell (by exact hb), hc (k * 4 + q) (by omega)]
        exact flat_at cMove 4 cMove_len L k q hlt hq
      have c0 : wr.cell? ⟨b, off + k * 4, none⟩ = some (.int .i64 (L[k]).f0) := by have := c 0 (by decide); rw [← Nat.add_assoc] at this; exact this
      have c1 : wr.cell? ⟨b, off + k * 4 + 1, none⟩ = some (.string (L[k]).f1) := by have := c 1 (by decide); rw [← Nat.add_assoc] at this; exact this
      have c2 : wr.cell? ⟨b, off + k * 4 + 2, none⟩ = some (.string (L[k]).f2) := by have := c 2 (by decide); rw [← Nat.add_assoc] at this; exact this
      have c3 : wr.cell? ⟨b, off + k * 4 + 3, none⟩ = some (.int .i64 (L[k]).f3) := by have := c 3 (by decide); rw [← Nat.add_assoc] at this; exact this
      clear c
      have c : ∀ q, q < 4 → wr.cell? ⟨b2, off2 + (k * 4 + q), none⟩ = (cMove L[k])[q]? := fun q hq => by
        rw [HB.out.cell (by exact hb2), hc2 (k * 4 + q) (by omega)]
        exact flat_at cMove 4 cMove_len L k q hlt hq
      have d0 : wr.cell? ⟨b2, off2 + k * 4, none⟩ = some (.int .i64 (L[k]).f0) := by have := c 0 (by decide); rw [← Nat.add_assoc] at this; exact this
      have d1 : wr.cell? ⟨b2, off2 + k * 4 + 1, none⟩ = some (.string (L[k]).f1) := by have := c 1 (by decide); rw [← Nat.add_assoc] at this; exact this
      have d2 : wr.cell? ⟨b2, off2 + k * 4 + 2, none⟩ = some (.string (L[k]).f2) := by have := c 2 (by decide); rw [← Nat.add_assoc] at this; exact this
      have d3 : wr.cell? ⟨b2, off2 + k * 4 + 3, none⟩ = some (.int .i64 (L[k]).f3) := by have := c 3 (by decide); rw [← Nat.add_assoc] at this; exact this
      clear c
      clear hc hc2
      generalize L[k] = X at c0 c1 c2 c3 d0 d1 d2 d3
      go_wp2
      refine wp_region_any (by kernel_rfl) ?_
      refine wpAny_take (i := 0) (v := ?_) rfl (by kernel_rfl) (by kernel_rfl) (by kernel_rfl) (fun _ _ _ h => h) (Or.inl ⟨by rfl, ?_⟩) ?_
      rotate_left
      · (intro W; go_simp; try with_reducible rfl)
      simp only [Act.put, List.setIfInBounds_toArray, List.set_cons_zero, List.set_cons_succ, List.getElem_toArray, List.getElem_cons_zero]
      refine wpAny_take (i := 1) (v := ?_) rfl (by kernel_rfl) (by kernel_rfl) (by kernel_rfl) (fun _ _ _ h => h) (Or.inl ⟨by rfl, ?_⟩) ?_
      rotate_left
      · (intro W; go_simp; try with_reducible rfl)
      simp only [Act.put, List.setIfInBounds_toArray, List.set_cons_zero, List.set_cons_succ, List.getElem_toArray, List.getElem_cons_zero, List.getElem_cons_succ]
      refine wpAny_take (i := 2) (v := ?_) rfl (by kernel_rfl) (by kernel_rfl) (by kernel_rfl) (fun _ _ _ h => h) (Or.inl ⟨by rfl, ?_⟩) ?_
      rotate_left
      · (intro W; go_simp; try with_reducible rfl)
      simp only [Act.put, List.setIfInBounds_toArray, List.set_cons_zero, List.set_cons_succ, List.getElem_toArray, List.getElem_cons_zero, List.getElem_cons_succ]
      refine wpAny_take (i := 4) (v := ?_) rfl (by kernel_rfl) (by kernel_rfl) (by kernel_rfl) (fun _ _ _ h => h) (Or.inl ⟨by rfl, ?_⟩) ?_
      rotate_left
      · (intro W; go_simp; try with_reducible rfl)
      simp only [Act.put, List.setIfInBounds_toArray, List.set_cons_zero, List.set_cons_succ, List.getElem_toArray, List.getElem_cons_zero, List.getElem_cons_succ]
      refine wpAny_take (i := 5) (v := ?_) rfl (by kernel_rfl) (by kernel_rfl) (by kernel_rfl) (fun _ _ _ h => h) (Or.inl ⟨by rfl, ?_⟩) ?_
      rotate_left
      · (intro W; go_simp; try with_reducible rfl)
      simp only [Act.put, List.setIfInBounds_toArray, List.set_cons_zero, List.set_cons_succ, List.getElem_toArray, List.getElem_cons_zero, List.getElem_cons_succ]
      refine wpAny_take (i := 6) (v := ?_) rfl (by kernel_rfl) (by kernel_rfl) (by kernel_rfl) (fun _ _ _ h => h) (Or.inl ⟨by rfl, ?_⟩) ?_
      rotate_left
      · (intro W; go_simp; try with_reducible rfl)
      simp only [Act.put, List.setIfInBounds_toArray, List.set_cons_zero, List.set_cons_succ, List.getElem_toArray, List.getElem_cons_zero, List.getElem_cons_succ]
      refine wpAny_ready (rs := [3, 7]) (by kernel_rfl) (by simp) ?_
      refine AllReady.cons rfl (fun K hK => ?_) (AllReady.cons rfl (fun K hK => ?_) AllReady.nil)
      · go_simp
        refine hK _ _ ?_
        clear hK K
        refine wpAny_ready (rs := [7]) (by kernel_rfl) (by simp) ?_
        refine AllReady.cons rfl (fun K hK => ?_) AllReady.nil
        go_simp
        refine hK _ _ ?_
        clear hK K
        refine wpAny_ready (rs := [8]) (by kernel_rfl) (by simp) ?_
        refine AllReady.cons rfl (fun K hK => ?_) AllReady.nil
        go_simp
        refine (eqMove_c X _).mono ?_
        rintro e w1 ⟨rfl, b1⟩
        refine hK _ _ ?_
        clear hK K
        refine wpAny_take (i := 9) (v := ?_) rfl (by kernel_rfl) (by kernel_rfl) (by kernel_rfl) (fun _ _ _ h => h) (Or.inl ⟨by rfl, ?_⟩) ?_
        rotate_left
        · (intro W; go_simp; try with_reducible rfl)
        simp only [Act.put, List.setIfInBounds_toArray, List.set_cons_zero, List.set_cons_succ, List.getElem_toArray, List.getElem_cons_zero, List.getElem_cons_succ]
        refine wpAny_done (by kernel_rfl) ?_ _
        have HB1 : Hid (Below w.heap.size w w1) := (HB.out.drew).trans (b1.mono HB.out.size)
        clear b1
        go_wp2
        go_roundw
        case rel => exact ⟨k + 1, by omega, by go_num, HB1⟩
        case measure => simp [intOf]; omega
      · go_simp
        refine hK _ _ ?_
        clear hK K
        refine wpAny_ready (rs := [3]) (by kernel_rfl) (by simp) ?_
        refine AllReady.cons rfl (fun K hK => ?_) AllReady.nil
        go_simp
        refine hK _ _ ?_
        clear hK K
        refine wpAny_ready (rs := [8]) (by kernel_rfl) (by simp) ?_
        refine AllReady.cons rfl (fun K hK => ?_) AllReady.nil
        go_simp
        refine (eqMove_c X _).mono ?_
        rintro e w1 ⟨rfl, b1⟩
        refine hK _ _ ?_
        clear hK K
        refine wpAny_take (i := 9) (v := ?_) rfl (by kernel_rfl) (by kernel_rfl) (by kernel_rfl) (fun _ _ _ h => h) (Or.inl ⟨by rfl, ?_⟩) ?_
        rotate_left
        · (intro W; go_simp; try with_reducible rfl)
        simp only [Act.put, List.setIfInBounds_toArray, List.set_cons_zero, List.set_cons_succ, List.getElem_toArray, List.getElem_cons_zero, List.getElem_cons_succ]
        refine wpAny_done (by kernel_rfl) ?_ _
        have HB1 : Hid (Below w.heap.size w w1) := (HB.out.drew).trans (b1.mono HB.out.size)
        clear b1
        go_wp2
        go_roundw
        case rel => exact ⟨k + 1, by omega, by go_num, HB1⟩
        case measure => simp [intOf]; omega
    · have hke : k = L.length := by omega
      subst hke
      go_wp2
      go_ret
      exact ⟨rfl, HB.out⟩

/-- The cells of element i, marked from k on. -/
def mMove (k : Int) (i : Nat) : List Value := [.int .i64 (k + ((i * 4 : Nat) : Int)), .string (mt (k + ((i * 4 : Nat) : Int) + 1)), .string (mt (k + ((i * 4 : Nat) : Int) + 1 + 1)), .int .i64 (k + ((i * 4 : Nat) : Int) + 1 + 1 + 1)]

def mMoves (k : Int) (n : Nat) : List Value := (List.range n).flatMap (mMove k)

theorem mMoves_len (k : Int) (n : Nat) : (mMoves k n).length = n * 4 := by
  have := flat_length (mMove k) 4 (fun _ => rfl) (List.range n)
  rwa [List.length_range] at this

theorem mMoves_at (k : Int) (n i q : Nat) (hi : i < n) (hq : q < 4) : (mMoves k n)[i * 4 + q]? = (mMove k i)[q]? := by
  have := flat_at (mMove k) 4 (fun _ => rfl) (List.range n) i q (by simpa using hi) hq
  rw [List.getElem_range] at this
  exact this

set_option maxRecDepth 20000 in
set_option maxHeartbeats 2000000 in
theorem markMoveS_c (v : Value) (L : List S_Move) (k0 : Int) (base : Nat) (w : World) (hn : L.length ≤ 1048576) (hk0 : 0 < k0) (hk1 : k0 ≤ 100000000) (hb : base ≤ w.heap.size) (h : w.ownsRow base 51 4 v L.length (rMove L)) :
    Calls Tryz.prog 81 #[v, .int .i64 k0] w fun e w' => e = .returned (.int .i64 (k0 + ((L.length * 4 : Nat) : Int))) ∧ w'.ownsRow base 51 4 v L.length (mMoves k0 L.length) ∧ ButV v w w' := by
  have hn' : (L.length : Int) ≤ 1048576 := by omega
  rcases Nat.eq_zero_or_pos L.length with hl | hl
  · have HO : Hid (w.ownsRow base 51 4 v L.length (mMoves k0 L.length)) := by
      have e1 : rMove L = [] := List.eq_nil_of_length_eq_zero (by rw [rMove_len, hl, Nat.zero_mul])
      have e2 : mMoves k0 L.length = [] := List.eq_nil_of_length_eq_zero (by rw [mMoves_len, hl, Nat.zero_mul])
      show World.ownsRow _ _ _ _ _ _ _
      rw [e2, ← e1]; exact h
    obtain ⟨p, cap, hv⟩ : ∃ p cap, v = .slice p 0 cap := by obtain ⟨_, p, cap, hv, _⟩ := RowR.own h; rw [hl] at hv; exact ⟨p, cap, hv⟩
    subst hv
    have HE : Hid (k0 + ((L.length * 4 : Nat) : Int) = k0) := by show _ = _; omega
    clear h hl
    go_enter Tryz.func81, Tryz.ntmps81
    go_wp2
    go_loopw [1, 5] (fun m i wr => m = .int .i64 k0 ∧ i = .int .i64 0 ∧ wr = w) (fun _ _ _ => 0)
    case atStart => exact ⟨rfl, rfl, rfl⟩
    case round =>
      obtain ⟨rfl, rfl, rfl⟩ := hrel
      go_wp2
      go_ret
      exact ⟨by rw [HE.out]; rfl, HO.out, Or.inl rfl⟩
  · obtain ⟨g, cap, hv, hbg⟩ : ∃ g cap, v = .slice (some ⟨g, 0, none⟩) L.length cap ∧ base ≤ g := by
      obtain ⟨_, ⟨_, h2⟩ | ⟨g, cap, cur, h2, h3, _⟩⟩ := h
      · omega
      · exact ⟨g, cap, h2, h3⟩
    subst hv
    have HM : Hid (Mkd w base 51 4 (.slice (some ⟨g, 0, none⟩) L.length cap) L.length (mMoves k0 L.length) (0 * 4)) := ⟨_, h, rfl⟩
    clear h
    go_enter Tryz.func81, Tryz.ntmps81
    go_wp2
    go_loopw [1, 5] (fun m i wr => ∃ k : Nat, k ≤ L.length ∧ i = .int .i64 (k : Int) ∧ m = .int .i64 (k0 + ((k * 4 : Nat) : Int)) ∧ Hid (Mkd wr base 51 4 (.slice (some ⟨g, 0, none⟩) L.length cap) L.length (mMoves k0 L.length) (k * 4)) ∧ Hid (But g w wr)) (fun _ i _ => L.length - (intOf i).toNat)
    case atStart => exact ⟨0, Nat.zero_le _, rfl, by simp, HM, But.refl _ _⟩
    case round =>
      obtain ⟨k, hk, rfl, rfl, HR0, HB0⟩ := hrel
      have hsz := HB0.out.size
      by_cases hlt : k < L.length
      · have hlt' : (k : Int) < L.length := by omega
        have m0 : (mMoves k0 L.length)[k * 4]? = some (.int .i64 (k0 + ((k * 4 : Nat) : Int))) := mMoves_at k0 L.length k 0 hlt (by decide)
        have m1 : (mMoves k0 L.length)[k * 4 + 1]? = some (.string (mt (k0 + ((k * 4 : Nat) : Int) + 1))) := mMoves_at k0 L.length k 1 hlt (by decide)
        have m2 : (mMoves k0 L.length)[k * 4 + 2]? = some (.string (mt (k0 + ((k * 4 : Nat) : Int) + 1 + 1))) := mMoves_at k0 L.length k 2 hlt (by decide)
        have m3 : (mMoves k0 L.length)[k * 4 + 3]? = some (.int .i64 (k0 + ((k * 4 : Nat) : Int) + 1 + 1 + 1)) := mMoves_at k0 L.length k 3 hlt (by decide)
        obtain ⟨A, hA⟩ : ∃ A : Int, k0 + ((k * 4 : Nat) : Int) = A := ⟨_, rfl⟩
        have HAn : Hid (k0 + (((k + 1) * 4 : Nat) : Int) = A + 1 + 1 + 1 + 1) := by show _ = _; omega
        rw [hA] at m0 m1 m2 m3 ⊢
        have hA0 : 0 < A := by omega
        have hA1 : A ≤ 200000000 := by omega
        clear hA
        obtain ⟨⟨u0, c0⟩, z0⟩ := HR0.out.cell (k * 4) (by omega)
        have HR1 : Hid (Mkd (wr.setCell ⟨g, k * 4, none⟩ (.int .i64 (A))) base 51 4 (.slice (some ⟨g, 0, none⟩) L.length cap) L.length (mMoves k0 L.length) (k * 4 + 1)) := HR0.out.set _ m0 (by omega)
        have HB1 : Hid (But g w (wr.setCell ⟨g, k * 4, none⟩ (.int .i64 (A)))) := HB0.out.setCell _
        clear HR0 HB0
        go_wp2_with fail
        refine (markText_c (A + 1) _ (by omega) (by omega)).mono ?_
        rintro e w3 ⟨rfl, b3⟩
        have HS1 : Hid (Mkd w3 base 51 4 (.slice (some ⟨g, 0, none⟩) L.length cap) L.length (mMoves k0 L.length) (k * 4 + 1)) := HR1.out.bel b3 (Nat.le_refl _)
        have HT1 : Hid (But g w w3) := HB1.out.bel b3
        clear HR1 HB1 b3
        obtain ⟨⟨u1, c1⟩, z1⟩ := HS1.out.cell (k * 4 + 1) (by omega)
        have HR2 : Hid (Mkd (w3.setCell ⟨g, k * 4 + 1, none⟩ (.string (mt (A + 1)))) base 51 4 (.slice (some ⟨g, 0, none⟩) L.length cap) L.length (mMoves k0 L.length) (k * 4 + 2)) := HS1.out.set _ m1 (by omega)
        have HB2 : Hid (But g w (w3.setCell ⟨g, k * 4 + 1, none⟩ (.string (mt (A + 1))))) := HT1.out.setCell _
        clear HS1 HT1
        go_wp2_with fail
        refine (markText_c (A + 1 + 1) _ (by omega) (by omega)).mono ?_
        rintro e w4 ⟨rfl, b4⟩
        have HS2 : Hid (Mkd w4 base 51 4 (.slice (some ⟨g, 0, none⟩) L.length cap) L.length (mMoves k0 L.length) (k * 4 + 2)) := HR2.out.bel b4 (Nat.le_refl _)
        have HT2 : Hid (But g w w4) := HB2.out.bel b4
        clear HR2 HB2 b4
        obtain ⟨⟨u2, c2⟩, z2⟩ := HS2.out.cell (k * 4 + 2) (by omega)
        obtain ⟨⟨u3, c3⟩, z3⟩ := HS2.out.cell (k * 4 + 3) (by omega)
        have HR3 : Hid (Mkd (w4.setCell ⟨g, k * 4 + 2, none⟩ (.string (mt (A + 1 + 1)))) base 51 4 (.slice (some ⟨g, 0, none⟩) L.length cap) L.length (mMoves k0 L.length) (k * 4 + 3)) := HS2.out.set _ m2 (by omega)
        have HB3 : Hid (But g w (w4.setCell ⟨g, k * 4 + 2, none⟩ (.string (mt (A + 1 + 1))))) := HT2.out.setCell _
        clear HS2 HT2
        have HR4 : Hid (Mkd ((w4.setCell ⟨g, k * 4 + 2, none⟩ (.string (mt (A + 1 + 1)))).setCell ⟨g, k * 4 + 3, none⟩ (.int .i64 (A + 1 + 1 + 1))) base 51 4 (.slice (some ⟨g, 0, none⟩) L.length cap) L.length (mMoves k0 L.length) (k * 4 + 4)) := HR3.out.set _ m3 (by omega)
        have HB4 : Hid (But g w ((w4.setCell ⟨g, k * 4 + 2, none⟩ (.string (mt (A + 1 + 1)))).setCell ⟨g, k * 4 + 3, none⟩ (.int .i64 (A + 1 + 1 + 1)))) := HB3.out.setCell _
        clear HR3 HB3
        have HRe : Hid (Mkd ((w4.setCell ⟨g, k * 4 + 2, none⟩ (.string (mt (A + 1 + 1)))).setCell ⟨g, k * 4 + 3, none⟩ (.int .i64 (A + 1 + 1 + 1))) base 51 4 (.slice (some ⟨g, 0, none⟩) L.length cap) L.length (mMoves k0 L.length) ((k + 1) * 4)) := by
          have := HR4.out
          rw [show (k + 1) * 4 = k * 4 + 4 by omega]
          exact this
        clear HR4
        go_wp2
        go_roundw
        case rel => exact ⟨k + 1, by omega, by go_num, by rw [HAn.out], HRe, HB4⟩
        case measure => simp [intOf]; omega
      · have hke : k = L.length := by omega
        subst hke
        have HF : Hid (wr.ownsRow base 51 4 (.slice (some ⟨g, 0, none⟩) L.length cap) L.length (mMoves k0 L.length)) := HR0.out.all (mMoves_len _ _)
        obtain ⟨Z, hZ⟩ : ∃ Z : Int, k0 + ((L.length * 4 : Nat) : Int) = Z := ⟨_, rfl⟩
        have HZ : Hid (k0 + ((L.length * 4 : Nat) : Int) = Z) := hZ
        rw [hZ]
        clear hZ
        go_wp2
        go_ret
        exact ⟨by rw [HZ.out]; rfl, HF.out, Or.inr ⟨g, rfl, HB0.out⟩⟩

set_option maxRecDepth 20000 in
set_option maxHeartbeats 4000000 in
theorem heldMoveS_c (v : Value) (len : Nat) (k0 : Int) (w : World) (hn : len ≤ 1048576) (hk0 : 0 < k0) (hk1 : k0 ≤ 100000000) (hr : RowR w v len 4 (mMoves k0 len)) :
    Calls Tryz.prog 84 #[v, .int .i64 k0] w fun e w' => e = .returned (.int .i64 (k0 + ((len * 4 : Nat) : Int))) ∧ Below w.heap.size w w' := by
  have hn' : (len : Int) ≤ 1048576 := by omega
  have HR : Hid (RowR w v len 4 (mMoves k0 len)) := hr
  obtain ⟨p, cap, hv⟩ : ∃ p cap, v = .slice p len cap := by obtain ⟨_, p, cap, hv, _⟩ := hr; exact ⟨p, cap, hv⟩
  subst hv
  clear hr
  go_enter Tryz.func84, Tryz.ntmps84
  go_wp2
  go_loopw [1, 5] (fun m i wr => ∃ k : Nat, k ≤ len ∧ i = .int .i64 (k : Int) ∧ m = .int .i64 (k0 + ((k * 4 : Nat) : Int)) ∧ Hid (Below w.heap.size w wr)) (fun _ i _ => len - (intOf i).toNat)
  case atStart => exact ⟨0, Nat.zero_le _, rfl, by simp, Below.refl _ _⟩
  case round =>
    obtain ⟨k, hk, rfl, rfl, HB⟩ := hrel
    by_cases hlt : k < len
    · have hlt' : (k : Int) < len := by omega
      obtain ⟨b, off, cap', hv, hb, hc⟩ := HR.out.some (by omega) (by decide)
      simp only [Value.slice.injEq, true_and] at hv
      obtain ⟨rfl, rfl⟩ := hv
      obtain ⟨A, hA⟩ : ∃ A : Int, k0 + ((k * 4 : Nat) : Int) = A := ⟨_, rfl⟩
      have d0 : Hid (w.cell? ⟨b, off + k * 4, none⟩ = some (.int .i64 (A))) := by
        have h1 := hc (k * 4 + 0) (by omega)
        rw [mMoves_at k0 len k 0 hlt (by decide), ← Nat.add_assoc] at h1
        rw [← hA]
        exact h1
      have d1 : Hid (w.cell? ⟨b, off + k * 4 + 1, none⟩ = some (.string (mt (A + 1)))) := by
        have h1 := hc (k * 4 + 1) (by omega)
        rw [mMoves_at k0 len k 1 hlt (by decide), ← Nat.add_assoc] at h1
        rw [← hA]
        exact h1
      have d2 : Hid (w.cell? ⟨b, off + k * 4 + 2, none⟩ = some (.string (mt (A + 1 + 1)))) := by
        have h1 := hc (k * 4 + 2) (by omega)
        rw [mMoves_at k0 len k 2 hlt (by decide), ← Nat.add_assoc] at h1
        rw [← hA]
        exact h1
      have d3 : Hid (w.cell? ⟨b, off + k * 4 + 3, none⟩ = some (.int .i64 (A + 1 + 1 + 1))) := by
        have h1 := hc (k * 4 + 3) (by omega)
        rw [mMoves_at k0 len k 3 hlt (by decide), ← Nat.add_assoc] at h1
        rw [← hA]
        exact h1
      have HAn : Hid (k0 + (((k + 1) * 4 : Nat) : Int) = A + 1 + 1 + 1 + 1) := by show _ = _; omega
      rw [hA]
      have hA0 : 0 < A := by omega
      have hA1 : A ≤ 200000000 := by omega
      clear hA hc
      have e0 : wr.cell? ⟨b, off + k * 4, none⟩ = some (.int .i64 (A)) := by rw [HB.out.cell (by exact hb)]; exact d0.out
      have e1 : wr.cell? ⟨b, off + k * 4 + 1, none⟩ = some (.string (mt (A + 1))) := by rw [HB.out.cell (by exact hb)]; exact d1.out
      go_wp2
      refine wp_region_any (by kernel_rfl) ?_
      refine wpAny_take (i := 0) (v := ?_) rfl (by kernel_rfl) (by kernel_rfl) (by kernel_rfl) (fun _ _ _ h => h) (Or.inl ⟨by rfl, ?_⟩) ?_
      rotate_left
      · (intro W; go_simp; try with_reducible rfl)
      simp only [Act.put, List.setIfInBounds_toArray, List.set_cons_zero, List.set_cons_succ, List.getElem_toArray, List.getElem_cons_zero]
      refine wpAny_take (i := 1) (v := ?_) rfl (by kernel_rfl) (by kernel_rfl) (by kernel_rfl) (fun _ _ _ h => h) (Or.inl ⟨by rfl, ?_⟩) ?_
      rotate_left
      · (intro W; go_simp; try with_reducible rfl)
      simp only [Act.put, List.setIfInBounds_toArray, List.set_cons_zero, List.set_cons_succ, List.getElem_toArray, List.getElem_cons_zero, List.getElem_cons_succ]
      refine wpAny_take (i := 2) (v := ?_) rfl (by kernel_rfl) (by kernel_rfl) (by kernel_rfl) (fun _ _ _ h => h) (Or.inl ⟨by rfl, ?_⟩) ?_
      rotate_left
      · (intro W; go_simp; try with_reducible rfl)
      simp only [Act.put, List.setIfInBounds_toArray, List.set_cons_zero, List.set_cons_succ, List.getElem_toArray, List.getElem_cons_zero, List.getElem_cons_succ]
      refine wpAny_take (i := 3) (v := ?_) rfl (by kernel_rfl) (by kernel_rfl) (by kernel_rfl) (fun _ _ _ h => h) (Or.inl ⟨by rfl, ?_⟩) ?_
      rotate_left
      · (intro W; go_simp; try with_reducible rfl)
      simp only [Act.put, List.setIfInBounds_toArray, List.set_cons_zero, List.set_cons_succ, List.getElem_toArray, List.getElem_cons_zero, List.getElem_cons_succ]
      refine wpAny_take (i := 5) (v := ?_) rfl (by kernel_rfl) (by kernel_rfl) (by kernel_rfl) (fun _ _ _ h => h) (Or.inl ⟨by rfl, ?_⟩) ?_
      rotate_left
      · (intro W; go_simp; try with_reducible rfl)
      simp only [Act.put, List.setIfInBounds_toArray, List.set_cons_zero, List.set_cons_succ, List.getElem_toArray, List.getElem_cons_zero, List.getElem_cons_succ]
      refine wpAny_ready (rs := [4, 6]) (by kernel_rfl) (by simp) ?_
      refine AllReady.cons rfl (fun K hK => ?_) (AllReady.cons rfl (fun K hK => ?_) AllReady.nil)
      · go_simp
        refine hK _ _ ?_
        clear hK K
        refine wpAny_ready (rs := [6]) (by kernel_rfl) (by simp) ?_
        refine AllReady.cons rfl (fun K hK => ?_) AllReady.nil
        go_simp
        refine (markText_c (A + 1) _ (by omega) (by omega)).mono ?_
        rintro e x1 ⟨rfl, b2⟩
        refine hK _ _ ?_
        clear hK K
        have HX1 : Hid (Below w.heap.size w x1) := (HB.out.drew).trans (b2.mono HB.out.size)
        clear b2
        refine wpAny_take (i := 7) (v := ?_) rfl (by kernel_rfl) (by kernel_rfl) (by kernel_rfl) (fun _ _ _ h => h) (Or.inl ⟨by rfl, ?_⟩) ?_
        rotate_left
        · (intro W; go_simp; try with_reducible rfl)
        simp only [Act.put, List.setIfInBounds_toArray, List.set_cons_zero, List.set_cons_succ, List.getElem_toArray, List.getElem_cons_zero, List.getElem_cons_succ]
        refine wpAny_done (by kernel_rfl) ?_ _
        clear e0 e1
        have e2 : x1.cell? ⟨b, off + k * 4 + 2, none⟩ = some (.string (mt (A + 1 + 1))) := by rw [HX1.out.cell (by exact hb)]; exact d2.out
        go_wp2
        refine wp_region_any (by kernel_rfl) ?_
        refine wpAny_take (i := 0) (v := ?_) rfl (by kernel_rfl) (by kernel_rfl) (by kernel_rfl) (fun _ _ _ h => h) (Or.inl ⟨by rfl, ?_⟩) ?_
        rotate_left
        · (intro W; go_simp; try with_reducible rfl)
        simp only [Act.put, List.setIfInBounds_toArray, List.set_cons_zero, List.set_cons_succ, List.getElem_toArray, List.getElem_cons_zero]
        refine wpAny_take (i := 1) (v := ?_) rfl (by kernel_rfl) (by kernel_rfl) (by kernel_rfl) (fun _ _ _ h => h) (Or.inl ⟨by rfl, ?_⟩) ?_
        rotate_left
        · (intro W; go_simp; try with_reducible rfl)
        simp only [Act.put, List.setIfInBounds_toArray, List.set_cons_zero, List.set_cons_succ, List.getElem_toArray, List.getElem_cons_zero, List.getElem_cons_succ]
        refine wpAny_take (i := 2) (v := ?_) rfl (by kernel_rfl) (by kernel_rfl) (by kernel_rfl) (fun _ _ _ h => h) (Or.inl ⟨by rfl, ?_⟩) ?_
        rotate_left
        · (intro W; go_simp; try with_reducible rfl)
        simp only [Act.put, List.setIfInBounds_toArray, List.set_cons_zero, List.set_cons_succ, List.getElem_toArray, List.getElem_cons_zero, List.getElem_cons_succ]
        refine wpAny_take (i := 3) (v := ?_) rfl (by kernel_rfl) (by kernel_rfl) (by kernel_rfl) (fun _ _ _ h => h) (Or.inl ⟨by rfl, ?_⟩) ?_
        rotate_left
        · (intro W; go_simp; try with_reducible rfl)
        simp only [Act.put, List.setIfInBounds_toArray, List.set_cons_zero, List.set_cons_succ, List.getElem_toArray, List.getElem_cons_zero, List.getElem_cons_succ]
        refine wpAny_take (i := 5) (v := ?_) rfl (by kernel_rfl) (by kernel_rfl) (by kernel_rfl) (fun _ _ _ h => h) (Or.inl ⟨by rfl, ?_⟩) ?_
        rotate_left
        · (intro W; go_simp; try with_reducible rfl)
        simp only [Act.put, List.setIfInBounds_toArray, List.set_cons_zero, List.set_cons_succ, List.getElem_toArray, List.getElem_cons_zero, List.getElem_cons_succ]
        refine wpAny_ready (rs := [4, 6]) (by kernel_rfl) (by simp) ?_
        refine AllReady.cons rfl (fun K hK => ?_) (AllReady.cons rfl (fun K hK => ?_) AllReady.nil)
        · go_simp
          refine hK _ _ ?_
          clear hK K
          refine wpAny_ready (rs := [6]) (by kernel_rfl) (by simp) ?_
          refine AllReady.cons rfl (fun K hK => ?_) AllReady.nil
          go_simp
          refine (markText_c (A + 1 + 1) _ (by omega) (by omega)).mono ?_
          rintro e x2 ⟨rfl, b2⟩
          refine hK _ _ ?_
          clear hK K
          have HX2 : Hid (Below w.heap.size w x2) := (HX1.out.drew).trans (b2.mono HX1.out.size)
          clear b2
          refine wpAny_take (i := 7) (v := ?_) rfl (by kernel_rfl) (by kernel_rfl) (by kernel_rfl) (fun _ _ _ h => h) (Or.inl ⟨by rfl, ?_⟩) ?_
          rotate_left
          · (intro W; go_simp; try with_reducible rfl)
          simp only [Act.put, List.setIfInBounds_toArray, List.set_cons_zero, List.set_cons_succ, List.getElem_toArray, List.getElem_cons_zero, List.getElem_cons_succ]
          refine wpAny_done (by kernel_rfl) ?_ _
          clear e2
          have e3 : x2.cell? ⟨b, off + k * 4 + 3, none⟩ = some (.int .i64 (A + 1 + 1 + 1)) := by rw [HX2.out.cell (by exact hb)]; exact d3.out
          go_wp2
          go_roundw
          case rel => exact ⟨k + 1, by omega, by go_num, by rw [HAn.out], HX2⟩
          case measure => simp [intOf]; omega
        · go_simp
          refine (markText_c (A + 1 + 1) _ (by omega) (by omega)).mono ?_
          rintro e x2 ⟨rfl, b2⟩
          refine hK _ _ ?_
          clear hK K
          have HX2 : Hid (Below w.heap.size w x2) := (HX1.out.drew).trans (b2.mono HX1.out.size)
          clear b2
          have e2' : x2.cell? ⟨b, off + k * 4 + 2, none⟩ = some (.string (mt (A + 1 + 1))) := by rw [HX2.out.cell (by exact hb)]; exact d2.out
          refine wpAny_ready (rs := [4]) (by kernel_rfl) (by simp) ?_
          refine AllReady.cons rfl (fun K hK => ?_) AllReady.nil
          go_simp
          refine hK _ _ ?_
          clear hK K e2'
          refine wpAny_take (i := 7) (v := ?_) rfl (by kernel_rfl) (by kernel_rfl) (by kernel_rfl) (fun _ _ _ h => h) (Or.inl ⟨by rfl, ?_⟩) ?_
          rotate_left
          · (intro W; go_simp; try with_reducible rfl)
          simp only [Act.put, List.setIfInBounds_toArray, List.set_cons_zero, List.set_cons_succ, List.getElem_toArray, List.getElem_cons_zero, List.getElem_cons_succ]
          refine wpAny_done (by kernel_rfl) ?_ _
          clear e2
          have e3 : x2.cell? ⟨b, off + k * 4 + 3, none⟩ = some (.int .i64 (A + 1 + 1 + 1)) := by rw [HX2.out.cell (by exact hb)]; exact d3.out
          go_wp2
          go_roundw
          case rel => exact ⟨k + 1, by omega, by go_num, by rw [HAn.out], HX2⟩
          case measure => simp [intOf]; omega
      · go_simp
        refine (markText_c (A + 1) _ (by omega) (by omega)).mono ?_
        rintro e x1 ⟨rfl, b2⟩
        refine hK _ _ ?_
        clear hK K
        have HX1 : Hid (Below w.heap.size w x1) := (HB.out.drew).trans (b2.mono HB.out.size)
        clear b2
        have e1' : x1.cell? ⟨b, off + k * 4 + 1, none⟩ = some (.string (mt (A + 1))) := by rw [HX1.out.cell (by exact hb)]; exact d1.out
        refine wpAny_ready (rs := [4]) (by kernel_rfl) (by simp) ?_
        refine AllReady.cons rfl (fun K hK => ?_) AllReady.nil
        go_simp
        refine hK _ _ ?_
        clear hK K e1'
        refine wpAny_take (i := 7) (v := ?_) rfl (by kernel_rfl) (by kernel_rfl) (by kernel_rfl) (fun _ _ _ h => h) (Or.inl ⟨by rfl, ?_⟩) ?_
        rotate_left
        · (intro W; go_simp; try with_reducible rfl)
        simp only [Act.put, List.setIfInBounds_toArray, List.set_cons_zero, List.set_cons_succ, List.getElem_toArray, List.getElem_cons_zero, List.getElem_cons_succ]
        refine wpAny_done (by kernel_rfl) ?_ _
        clear e0 e1
        have e2 : x1.cell? ⟨b, off + k * 4 + 2, none⟩ = some (.string (mt (A + 1 + 1))) := by rw [HX1.out.cell (by exact hb)]; exact d2.out
        go_wp2
        refine wp_region_any (by kernel_rfl) ?_
        refine wpAny_take (i := 0) (v := ?_) rfl (by kernel_rfl) (by kernel_rfl) (by kernel_rfl) (fun _ _ _ h => h) (Or.inl ⟨by rfl, ?_⟩) ?_
        rotate_left
        · (intro W; go_simp; try with_reducible rfl)
        simp only [Act.put, List.setIfInBounds_toArray, List.set_cons_zero, List.set_cons_succ, List.getElem_toArray, List.getElem_cons_zero]
        refine wpAny_take (i := 1) (v := ?_) rfl (by kernel_rfl) (by kernel_rfl) (by kernel_rfl) (fun _ _ _ h => h) (Or.inl ⟨by rfl, ?_⟩) ?_
        rotate_left
        · (intro W; go_simp; try with_reducible rfl)
        simp only [Act.put, List.setIfInBounds_toArray, List.set_cons_zero, List.set_cons_succ, List.getElem_toArray, List.getElem_cons_zero, List.getElem_cons_succ]
        refine wpAny_take (i := 2) (v := ?_) rfl (by kernel_rfl) (by kernel_rfl) (by kernel_rfl) (fun _ _ _ h => h) (Or.inl ⟨by rfl, ?_⟩) ?_
        rotate_left
        · (intro W; go_simp; try with_reducible rfl)
        simp only [Act.put, List.setIfInBounds_toArray, List.set_cons_zero, List.set_cons_succ, List.getElem_toArray, List.getElem_cons_zero, List.getElem_cons_succ]
        refine wpAny_take (i := 3) (v := ?_) rfl (by kernel_rfl) (by kernel_rfl) (by kernel_rfl) (fun _ _ _ h => h) (Or.inl ⟨by rfl, ?_⟩) ?_
        rotate_left
        · (intro W; go_simp; try with_reducible rfl)
        simp only [Act.put, List.setIfInBounds_toArray, List.set_cons_zero, List.set_cons_succ, List.getElem_toArray, List.getElem_cons_zero, List.getElem_cons_succ]
        refine wpAny_take (i := 5) (v := ?_) rfl (by kernel_rfl) (by kernel_rfl) (by kernel_rfl) (fun _ _ _ h => h) (Or.inl ⟨by rfl, ?_⟩) ?_
        rotate_left
        · (intro W; go_simp; try with_reducible rfl)
        simp only [Act.put, List.setIfInBounds_toArray, List.set_cons_zero, List.set_cons_succ, List.getElem_toArray, List.getElem_cons_zero, List.getElem_cons_succ]
        refine wpAny_ready (rs := [4, 6]) (by kernel_rfl) (by simp) ?_
        refine AllReady.cons rfl (fun K hK => ?_) (AllReady.cons rfl (fun K hK => ?_) AllReady.nil)
        · go_simp
          refine hK _ _ ?_
          clear hK K
          refine wpAny_ready (rs := [6]) (by kernel_rfl) (by simp) ?_
          refine AllReady.cons rfl (fun K hK => ?_) AllReady.nil
          go_simp
          refine (markText_c (A + 1 + 1) _ (by omega) (by omega)).mono ?_
          rintro e x2 ⟨rfl, b2⟩
          refine hK _ _ ?_
          clear hK K
          have HX2 : Hid (Below w.heap.size w x2) := (HX1.out.drew).trans (b2.mono HX1.out.size)
          clear b2
          refine wpAny_take (i := 7) (v := ?_) rfl (by kernel_rfl) (by kernel_rfl) (by kernel_rfl) (fun _ _ _ h => h) (Or.inl ⟨by rfl, ?_⟩) ?_
          rotate_left
          · (intro W; go_simp; try with_reducible rfl)
          simp only [Act.put, List.setIfInBounds_toArray, List.set_cons_zero, List.set_cons_succ, List.getElem_toArray, List.getElem_cons_zero, List.getElem_cons_succ]
          refine wpAny_done (by kernel_rfl) ?_ _
          clear e2
          have e3 : x2.cell? ⟨b, off + k * 4 + 3, none⟩ = some (.int .i64 (A + 1 + 1 + 1)) := by rw [HX2.out.cell (by exact hb)]; exact d3.out
          go_wp2
          go_roundw
          case rel => exact ⟨k + 1, by omega, by go_num, by rw [HAn.out], HX2⟩
          case measure => simp [intOf]; omega
        · go_simp
          refine (markText_c (A + 1 + 1) _ (by omega) (by omega)).mono ?_
          rintro e x2 ⟨rfl, b2⟩
          refine hK _ _ ?_
          clear hK K
          have HX2 : Hid (Below w.heap.size w x2) := (HX1.out.drew).trans (b2.mono HX1.out.size)
          clear b2
          have e2' : x2.cell? ⟨b, off + k * 4 + 2, none⟩ = some (.string (mt (A + 1 + 1))) := by rw [HX2.out.cell (by exact hb)]; exact d2.out
          refine wpAny_ready (rs := [4]) (by kernel_rfl) (by simp) ?_
          refine AllReady.cons rfl (fun K hK => ?_) AllReady.nil
          go_simp
          refine hK _ _ ?_
          clear hK K e2'
          refine wpAny_take (i := 7) (v := ?_) rfl (by kernel_rfl) (by kernel_rfl) (by kernel_rfl) (fun _ _ _ h => h) (Or.inl ⟨by rfl, ?_⟩) ?_
          rotate_left
          · (intro W; go_simp; try with_reducible rfl)
          simp only [Act.put, List.setIfInBounds_toArray, List.set_cons_zero, List.set_cons_succ, List.getElem_toArray, List.getElem_cons_zero, List.getElem_cons_succ]
          refine wpAny_done (by kernel_rfl) ?_ _
          clear e2
          have e3 : x2.cell? ⟨b, off + k * 4 + 3, none⟩ = some (.int .i64 (A + 1 + 1 + 1)) := by rw [HX2.out.cell (by exact hb)]; exact d3.out
          go_wp2
          go_roundw
          case rel => exact ⟨k + 1, by omega, by go_num, by rw [HAn.out], HX2⟩
          case measure => simp [intOf]; omega
    · have hke : k = len := by omega
      subst hke
      obtain ⟨Z, hZ⟩ : ∃ Z : Int, k0 + ((k * 4 : Nat) : Int) = Z := ⟨_, rfl⟩
      have HZ : Hid (k0 + ((k * 4 : Nat) : Int) = Z) := hZ
      rw [hZ]
      clear hZ
      go_wp2
      go_ret
      exact ⟨by rw [HZ.out]; rfl, HB.out⟩

end Go.Proofs.YtmknplpcpmkhiaaGreat
