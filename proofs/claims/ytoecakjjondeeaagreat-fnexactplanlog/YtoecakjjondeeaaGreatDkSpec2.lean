/- The specification's small functions over moves and inodes, and over links that are built, by contracts. -/
import Derived.Test.YtoecakjjondeeaaGreatDkSpec
namespace Go.Proofs.YtoecakjjondeeaaGreat
open Go.RowKit
set_option linter.unusedVariables false

theorem move_cells {w : World} {v : Value} {L : List S_Move} (h : RowR w v L.length 4 (rMove L)) (hl : 0 < L.length) :
    ∃ b off cap, v = .slice (some ⟨b, off, none⟩) L.length cap ∧ b < w.heap.size ∧ ∀ k (hk : k < L.length), w.cell? ⟨b, off + k * 4, none⟩ = some (.int .i64 L[k].f0) ∧ w.cell? ⟨b, off + k * 4 + 1, none⟩ = some (.string L[k].f1) ∧ w.cell? ⟨b, off + k * 4 + 2, none⟩ = some (.string L[k].f2) ∧ w.cell? ⟨b, off + k * 4 + 3, none⟩ = some (.int .i64 L[k].f3) := by
  obtain ⟨b, off, cap, hv, hb, hc⟩ := h.some hl (by decide)
  refine ⟨b, off, cap, hv, hb, fun k hk => ?_⟩
  have c : ∀ q, q < 4 → w.cell? ⟨b, off + (k * 4 + q), none⟩ = (cMove L[k])[q]? := fun q hq => by
    rw [hc (k * 4 + q) (by omega)]
    exact flat_at cMove 4 cMove_len L k q hk hq
  exact ⟨by have := c 0 (by decide); rw [← Nat.add_assoc] at this; exact this, by have := c 1 (by decide); rw [← Nat.add_assoc] at this; exact this, by have := c 2 (by decide); rw [← Nat.add_assoc] at this; exact this, by have := c 3 (by decide); rw [← Nat.add_assoc] at this; exact this⟩

theorem inode_cells {w : World} {v : Value} {L : List S_Inode} (h : RowR w v L.length 3 (rInode L)) (hl : 0 < L.length) :
    ∃ b off cap, v = .slice (some ⟨b, off, none⟩) L.length cap ∧ b < w.heap.size ∧ ∀ k (hk : k < L.length), w.cell? ⟨b, off + k * 3, none⟩ = some (.int .i64 L[k].f0) ∧ w.cell? ⟨b, off + k * 3 + 1, none⟩ = some (.string L[k].f1) ∧ w.cell? ⟨b, off + k * 3 + 2, none⟩ = some (.int .i64 L[k].f2) := by
  obtain ⟨b, off, cap, hv, hb, hc⟩ := h.some hl (by decide)
  refine ⟨b, off, cap, hv, hb, fun k hk => ?_⟩
  have c : ∀ q, q < 3 → w.cell? ⟨b, off + (k * 3 + q), none⟩ = (cInode L[k])[q]? := fun q hq => by
    rw [hc (k * 3 + q) (by omega)]
    exact flat_at cInode 3 cInode_len L k q hk hq
  exact ⟨by have := c 0 (by decide); rw [← Nat.add_assoc] at this; exact this, by have := c 1 (by decide); rw [← Nat.add_assoc] at this; exact this, by have := c 2 (by decide); rw [← Nat.add_assoc] at this; exact this⟩

/-- A move that makes this inode. -/
def mk4 (id : Int) (m : S_Move) : Bool := decide (m.f0 = 1 ∧ m.f3 = id)

set_option maxRecDepth 20000 in
set_option maxHeartbeats 1000000 in
theorem made_c (v : Value) (L : List S_Move) (id : Int) (w : World) (hn : L.length ≤ 1048576) (hr : RowR w v L.length 4 (rMove L)) :
    Calls Tryz.prog 74 #[v, .int .i64 id] w fun e w' => e = .returned (.bool (L.any (mk4 id))) ∧ w' = w := by
  have hn' : (L.length : Int) ≤ 1048576 := by omega
  obtain ⟨p, cap, hv⟩ : ∃ p cap, v = .slice p L.length cap := by obtain ⟨_, p, cap, hv, _⟩ := hr; exact ⟨p, cap, hv⟩
  subst hv
  have HR : Hid (RowR w (.slice p L.length cap) L.length 4 (rMove L)) := hr
  clear hr
  go_enter Tryz.func74, Tryz.ntmps74
  go_wp2
  go_loop [5] (fun i => ∃ k : Nat, k ≤ L.length ∧ i = .int .i64 (k : Int) ∧ Hid (∀ j (hj : j < L.length), j < k → mk4 id L[j] = false)) (fun i => L.length - (intOf i).toNat)
  case atStart => exact ⟨0, Nat.zero_le _, rfl, fun j hj h => by omega⟩
  case round =>
    obtain ⟨k, hk, rfl, HA⟩ := hrel
    by_cases hlt : k < L.length
    · have hlt' : (k : Int) < L.length := by omega
      obtain ⟨b, off, cap', hv, hb, hc⟩ := move_cells HR.out (by omega)
      simp only [Value.slice.injEq, true_and] at hv
      obtain ⟨rfl, rfl⟩ := hv
      obtain ⟨c0, _, _, c3⟩ := hc k hlt
      have HN : Hid (mk4 id L[k] = false → ∀ j (hj : j < L.length), j < k + 1 → mk4 id L[j] = false) := fun h j hj hjk => by
        by_cases e : j = k
        · subst e; exact h
        · exact HA.out j hj (by omega)
      have HF : Hid (mk4 id L[k] = true → L.any (mk4 id) = true) := fun h => any_hit _ L k hlt h
      have HM : Hid (mk4 id L[k] = decide (L[k].f0 = 1 ∧ L[k].f3 = id)) := rfl
      clear hc HA
      generalize L[k] = X at c0 c3 HN HF HM
      by_cases h1 : X.f0 = 1
      · have e1 : (X.f0 == 1) = true := by simp [h1]
        by_cases h2 : X.f3 = id
        · have e2 : (X.f3 == id) = true := by simp [h2]
          have HT : Hid (L.any (mk4 id) = true) := HF.out (by rw [HM.out]; simp [h1, h2])
          clear h1 h2 HN HF HM
          generalize X.f0 = y0 at c0 e1
          generalize X.f3 = y3 at c3 e2
          go_wp2
          go_ret
          exact ⟨by rw [HT.out]; rfl, rfl⟩
        · have e2 : (X.f3 == id) = false := by simp [h2]
          have HT : Hid (∀ j (hj : j < L.length), j < k + 1 → mk4 id L[j] = false) := HN.out (by rw [HM.out]; simp [h2])
          clear h1 h2 HN HF HM
          generalize X.f0 = y0 at c0 e1
          generalize X.f3 = y3 at c3 e2
          go_wp2
          go_round
          case rel => exact ⟨k + 1, by omega, by go_num, HT⟩
          case measure => simp [intOf]; omega
      · have e1 : (X.f0 == 1) = false := by simp [h1]
        have HT : Hid (∀ j (hj : j < L.length), j < k + 1 → mk4 id L[j] = false) := HN.out (by rw [HM.out]; simp [h1])
        clear h1 HN HF HM c3
        generalize X.f0 = y0 at c0 e1
        go_wp2
        go_round
        case rel => exact ⟨k + 1, by omega, by go_num, HT⟩
        case measure => simp [intOf]; omega
    · have hke : k = L.length := by omega
      subst hke
      have HF : Hid (L.any (mk4 id) = false) := any_miss _ L (fun j hj => HA.out j hj hj)
      go_wp2
      go_ret
      exact ⟨by rw [HF.out]; rfl, rfl⟩

set_option maxRecDepth 20000 in
set_option maxHeartbeats 1000000 in
theorem inode_c (x : S_Disk) (v2 v3 v4 : Value) (id : Int) (w : World) (hn : LnDisk x 1048576) (hr : RdDisk w x v2 v3 v4) :
    Calls Tryz.prog 76 #[.agg #[.int .i64 x.f0, .int .i64 x.f1, v2, v3, v4], .int .i64 id] w fun e w' => e = .returned (.int .i64 (idx (fun y => decide (y.f0 = id)) x.f2)) ∧ Below w.heap.size w w' := by
  have hn' : (x.f2.length : Int) ≤ 1048576 := by have := hn.1; omega
  obtain ⟨p, cap, hv⟩ : ∃ p cap, v2 = .slice p x.f2.length cap := by obtain ⟨_, p, cap, hv, _⟩ := hr.1; exact ⟨p, cap, hv⟩
  subst hv
  have b0 : Below w.heap.size w (w.alloc (.cells #[.int .i64 x.f0, .int .i64 x.f1, .slice p x.f2.length cap, v3, v4] 35)) := (Below.refl _ _).alloc (Nat.le_refl _) _
  have HB : Hid (Below w.heap.size w (w.alloc (.cells #[.int .i64 x.f0, .int .i64 x.f1, .slice p x.f2.length cap, v3, v4] 35))) := b0
  have HR : Hid (RowR w (.slice p x.f2.length cap) x.f2.length 3 (rInode x.f2)) := hr.1
  clear hr hn b0
  go_enter Tryz.func76, Tryz.ntmps76
  go_wp2
  go_loop [5] (fun i => ∃ k : Nat, k ≤ x.f2.length ∧ i = .int .i64 (k : Int) ∧ Hid (∀ j (hj : j < x.f2.length), j < k → decide (x.f2[j].f0 = id) = false)) (fun i => x.f2.length - (intOf i).toNat)
  case atStart => exact ⟨0, Nat.zero_le _, rfl, fun j hj h => by omega⟩
  case round =>
    obtain ⟨k, hk, rfl, HA⟩ := hrel
    by_cases hlt : k < x.f2.length
    · have hlt' : (k : Int) < x.f2.length := by omega
      obtain ⟨b, off, cap', hv, hb, hc⟩ := inode_cells HR.out (by omega)
      simp only [Value.slice.injEq, true_and] at hv
      obtain ⟨rfl, rfl⟩ := hv
      obtain ⟨c0', _, _⟩ := hc k hlt
      have c0 : (w.alloc (.cells #[.int .i64 x.f0, .int .i64 x.f1, .slice (some ⟨b, off, none⟩) x.f2.length cap, v3, v4] 35)).cell? ⟨b, off + k * 3, none⟩ = some (.int .i64 x.f2[k].f0) := by rw [HB.out.cell (by exact hb)]; exact c0'
      clear hc c0'
      have hne : b ≠ w.heap.size := by omega
      by_cases he : x.f2[k].f0 = id
      · have HF : Hid (idx (fun y : S_Inode => decide (y.f0 = id)) x.f2 = k) := idx_hit _ x.f2 k hlt (fun j hj => HA.out j (by omega) hj) (by simp [he])
        rw [he] at c0
        clear he HA
        go_wp2
        go_ret
        exact ⟨by rw [HF.out]; rfl, HB.out⟩
      · have HN : Hid (∀ j (hj : j < x.f2.length), j < k + 1 → decide (x.f2[j].f0 = id) = false) := fun j hj hjk => by
          by_cases e : j = k
          · subst e; simp [he]
          · exact HA.out j hj (by omega)
        have hq : (x.f2[k].f0 == id) = false := by simp [he]
        clear he HA
        generalize x.f2[k].f0 = Y at c0 hq
        go_wp2
        go_round
        case rel => exact ⟨k + 1, by omega, by go_num, HN⟩
        case measure => simp [intOf]; omega
    · have hke : k = x.f2.length := by omega
      have HF : Hid (idx (fun y : S_Inode => decide (y.f0 = id)) x.f2 = -1) := idx_miss _ x.f2 (fun j hj => HA.out j hj (by omega))
      subst hke
      go_wp2
      go_ret
      exact ⟨by rw [HF.out]; rfl, HB.out⟩

end Go.Proofs.YtoecakjjondeeaaGreat
