/- The specification's small functions over links, moves and inodes, by contracts. -/
import Derived.Test.YtmknplpcpmkhiaaGreatDkMath
import Derived.Test.YtmknplpcpmkhiaaGreatHaDisk2
import Derived.OwnWalk
import Derived.BigQuiet
import Derived.Maps.AppendAt
import Derived.Deep.RegionWith
namespace Go.Proofs.YtmknplpcpmkhiaaGreat
open Go.RowKit
set_option linter.unusedVariables false

theorem in_yes (n a b : Int) (w : World) (h1 : a ≤ n) (h2 : n ≤ b) : Calls Tryz.prog 36 #[.int .i64 n, .int .i64 a, .int .i64 b] w fun e w' => e = .returned (.bool true) ∧ w' = w := by
  go_enter Tryz.func36, Tryz.ntmps36
  go_wp2
  go_ret
  exact ⟨rfl, rfl⟩

theorem in_no (n a b : Int) (w : World) (h : n < a ∨ b < n) : Calls Tryz.prog 36 #[.int .i64 n, .int .i64 a, .int .i64 b] w fun e w' => e = .returned (.bool false) ∧ w' = w := by
  by_cases h1 : n < a
  · have h1' : ¬ a ≤ n := by omega
    clear h
    go_enter Tryz.func36, Tryz.ntmps36
    go_wp2
    go_ret
    exact ⟨rfl, rfl⟩
  · have h2 : ¬ n ≤ b := by omega
    have h1' : a ≤ n := by omega
    clear h h1
    go_enter Tryz.func36, Tryz.ntmps36
    go_wp2
    go_ret
    exact ⟨rfl, rfl⟩

set_option maxRecDepth 20000 in
set_option maxHeartbeats 2000000 in
theorem name_c (s : ByteArray) (w : World) (hm : s.size ≤ maxLen) : Calls Tryz.prog 37 #[.string s] w fun e w' => e = .returned (.bool (nameB s)) ∧ w' = w := by
  unfold maxLen at hm
  by_cases hl : 1 ≤ s.size ∧ s.size ≤ 12
  · have hl1 : (1 : Int) ≤ s.size := by omega
    have hl2 : (s.size : Int) ≤ 12 := by omega
    have HL : Hid (1 ≤ s.size ∧ s.size ≤ 12) := hl
    clear hl
    go_enter Tryz.func37, Tryz.ntmps37
    go_wp2_with fail
    refine (in_yes (s.size : Int) 1 12 _ hl1 hl2).mono ?_
    rintro e w1 ⟨rfl, rfl⟩
    go_wp2
    go_loop [3] (fun i => ∃ k : Nat, k ≤ s.size ∧ i = .int .i64 (k : Int) ∧ Hid (∀ j (hj : j < s.size), j < k → nb s[j] = true)) (fun i => s.size - (intOf i).toNat)
    case atStart => exact ⟨0, Nat.zero_le _, rfl, fun j hj h => by omega⟩
    case round =>
      obtain ⟨k, hk, rfl, HA⟩ := hrel
      by_cases hlt : k < s.size
      · have hlt' : (k : Int) < s.size := by omega
        have HB : Hid (nb s[k] = false → nameB s = false) := fun h => name_bad k hlt h
        have HN : Hid (nb s[k] = true → ∀ j (hj : j < s.size), j < k + 1 → nb s[j] = true) := fun h j hj hjk => by
          by_cases e : j = k
          · subst e; exact h
          · exact HA.out j hj (by omega)
        have HX : Hid (nb s[k] = ((decide (97 ≤ (s[k]).toNat) && decide ((s[k]).toNat ≤ 122)) || (decide (48 ≤ (s[k]).toNat) && decide ((s[k]).toNat ≤ 57)) || decide ((s[k]).toNat = 46))) := rfl
        clear HA
        obtain ⟨C, hC⟩ : ∃ C : Int, ((s[k]).toNat : Int) = C := ⟨_, rfl⟩
        by_cases ha : 97 ≤ C
        · by_cases hb : C ≤ 122
          · have HT : Hid (nb s[k] = true) := by show _ = _; rw [HX.out]; simp; omega
            have HN2 : Hid (∀ j (hj : j < s.size), j < k + 1 → nb s[j] = true) := HN.out HT.out
            clear HX HB HN HT
            go_wp2
            go_round
            case rel => exact ⟨k + 1, by omega, by go_num, HN2⟩
            case measure => simp [intOf]; omega
          · have h48 : 48 ≤ C := by omega
            have h57 : ¬ C ≤ 57 := by omega
            have h46 : (C == 46) = false := by simp; omega
            have HT : Hid (nb s[k] = false) := by show _ = _; rw [HX.out]; simp; omega
            have HF : Hid (nameB s = false) := HB.out HT.out
            clear HX HB HN HT
            go_wp2
            go_ret
            exact ⟨by rw [HF.out]; rfl, rfl⟩
        · by_cases hb : 48 ≤ C
          · by_cases hc : C ≤ 57
            · have HT : Hid (nb s[k] = true) := by show _ = _; rw [HX.out]; simp; omega
              have HN2 : Hid (∀ j (hj : j < s.size), j < k + 1 → nb s[j] = true) := HN.out HT.out
              clear HX HB HN HT
              go_wp2
              go_round
              case rel => exact ⟨k + 1, by omega, by go_num, HN2⟩
              case measure => simp [intOf]; omega
            · have h46 : (C == 46) = false := by simp; omega
              have HT : Hid (nb s[k] = false) := by show _ = _; rw [HX.out]; simp; omega
              have HF : Hid (nameB s = false) := HB.out HT.out
              clear HX HB HN HT
              go_wp2
              go_ret
              exact ⟨by rw [HF.out]; rfl, rfl⟩
          · by_cases hc : C = 46
            · have h46 : (C == 46) = true := by simp [hc]
              have HT : Hid (nb s[k] = true) := by show _ = _; rw [HX.out]; simp; omega
              have HN2 : Hid (∀ j (hj : j < s.size), j < k + 1 → nb s[j] = true) := HN.out HT.out
              clear HX HB HN HT
              go_wp2
              go_round
              case rel => exact ⟨k + 1, by omega, by go_num, HN2⟩
              case measure => simp [intOf]; omega
            · have h46 : (C == 46) = false := by simp [hc]
              have HT : Hid (nb s[k] = false) := by show _ = _; rw [HX.out]; simp; omega
              have HF : Hid (nameB s = false) := HB.out HT.out
              clear HX HB HN HT
              go_wp2
              go_ret
              exact ⟨by rw [HF.out]; rfl, rfl⟩
      · have hke : k = s.size := by omega
        have HF : Hid (nameB s = true) := name_good HL.out (fun j hj => HA.out j hj (by omega))
        subst hke
        go_wp2
        go_ret
        exact ⟨by rw [HF.out]; rfl, rfl⟩
  · have H : Hid ((s.size : Int) < 1 ∨ 12 < (s.size : Int)) := by show _ ∨ _; omega
    have HF : Hid (nameB s = false) := name_long hl
    clear hl
    go_enter Tryz.func37, Tryz.ntmps37
    go_wp2_with fail
    refine (in_no (s.size : Int) 1 12 _ H.out).mono ?_
    rintro e w1 ⟨rfl, rfl⟩
    go_wp2
    go_ret
    exact ⟨by rw [HF.out]; rfl, rfl⟩

theorem link_cells {w : World} {v : Value} {L : List S_Link} (h : RowR w v L.length 2 (rLink L)) (hl : 0 < L.length) :
    ∃ b off cap, v = .slice (some ⟨b, off, none⟩) L.length cap ∧ b < w.heap.size ∧ ∀ k (hk : k < L.length), w.cell? ⟨b, off + k * 2, none⟩ = some (.string L[k].f0) ∧ w.cell? ⟨b, off + k * 2 + 1, none⟩ = some (.int .i64 L[k].f1) := by
  obtain ⟨b, off, cap, hv, hb, hc⟩ := h.some hl (by decide)
  refine ⟨b, off, cap, hv, hb, fun k hk => ?_⟩
  have c : ∀ q, q < 2 → w.cell? ⟨b, off + (k * 2 + q), none⟩ = (cLink L[k])[q]? := fun q hq => by
    rw [hc (k * 2 + q) (by omega)]
    exact flat_at cLink 2 cLink_len L k q hk hq
  exact ⟨by have := c 0 (by decide); rw [← Nat.add_assoc] at this; exact this, by have := c 1 (by decide); rw [← Nat.add_assoc] at this; exact this⟩

set_option maxRecDepth 20000 in
set_option maxHeartbeats 1000000 in
theorem at4_c (v : Value) (L : List S_Link) (nm : ByteArray) (w : World) (hn : L.length ≤ 1048576) (hr : RowR w v L.length 2 (rLink L)) :
    Calls Tryz.prog 86 #[v, .string nm] w fun e w' => e = .returned (.int .i64 (idx (fun x => decide (x.f0 = nm)) L)) ∧ w' = w := by
  have hn' : (L.length : Int) ≤ 1048576 := by omega
  obtain ⟨p, cap, hv⟩ : ∃ p cap, v = .slice p L.length cap := by obtain ⟨_, p, cap, hv, _⟩ := hr; exact ⟨p, cap, hv⟩
  subst hv
  have HR : Hid (RowR w (.slice p L.length cap) L.length 2 (rLink L)) := hr
  clear hr
  go_enter Tryz.func86, Tryz.ntmps86
  go_wp2
  go_loop [5] (fun i => ∃ k : Nat, k ≤ L.length ∧ i = .int .i64 (k : Int) ∧ Hid (∀ j (hj : j < L.length), j < k → decide (L[j].f0 = nm) = false)) (fun i => L.length - (intOf i).toNat)
  case atStart => exact ⟨0, Nat.zero_le _, rfl, fun j hj h => by omega⟩
  case round =>
    obtain ⟨k, hk, rfl, HA⟩ := hrel
    by_cases hlt : k < L.length
    · have hlt' : (k : Int) < L.length := by omega
      obtain ⟨b, off, cap', hv, hb, hc⟩ := link_cells HR.out (by omega)
      simp only [Value.slice.injEq, true_and] at hv
      obtain ⟨rfl, rfl⟩ := hv
      obtain ⟨c0, _⟩ := hc k hlt
      clear hc
      by_cases he : L[k].f0 = nm
      · have HF : Hid (idx (fun x : S_Link => decide (x.f0 = nm)) L = k) := idx_hit _ L k hlt (fun j hj => HA.out j (by omega) hj) (by simp [he])
        rw [he] at c0
        clear he HA
        go_wp2
        go_ret
        exact ⟨by rw [HF.out]; rfl, rfl⟩
      · have HN : Hid (∀ j (hj : j < L.length), j < k + 1 → decide (L[j].f0 = nm) = false) := fun j hj hjk => by
          by_cases e : j = k
          · subst e; simp [he]
          · exact HA.out j hj (by omega)
        have hq : ((L[k].f0).toList == nm.toList) = false := by rw [beq_txt]; simp [he]
        clear he HA
        generalize L[k].f0 = Y at c0 hq
        go_wp2
        go_round
        case rel => exact ⟨k + 1, by omega, by go_num, HN⟩
        case measure => simp [intOf]; omega
    · have hke : k = L.length := by omega
      subst hke
      have HF : Hid (idx (fun x : S_Link => decide (x.f0 = nm)) L = -1) := idx_miss _ L (fun j hj => HA.out j hj hj)
      go_wp2
      go_ret
      exact ⟨by rw [HF.out]; rfl, rfl⟩

set_option maxRecDepth 20000 in
set_option maxHeartbeats 1000000 in
theorem linked_c (v : Value) (L : List S_Link) (id : Int) (w : World) (hn : L.length ≤ 1048576) (hr : RowR w v L.length 2 (rLink L)) :
    Calls Tryz.prog 62 #[v, .int .i64 id] w fun e w' => e = .returned (.bool (L.any fun x => decide (x.f1 = id))) ∧ w' = w := by
  have hn' : (L.length : Int) ≤ 1048576 := by omega
  obtain ⟨p, cap, hv⟩ : ∃ p cap, v = .slice p L.length cap := by obtain ⟨_, p, cap, hv, _⟩ := hr; exact ⟨p, cap, hv⟩
  subst hv
  have HR : Hid (RowR w (.slice p L.length cap) L.length 2 (rLink L)) := hr
  clear hr
  go_enter Tryz.func62, Tryz.ntmps62
  go_wp2
  go_loop [5] (fun i => ∃ k : Nat, k ≤ L.length ∧ i = .int .i64 (k : Int) ∧ Hid (∀ j (hj : j < L.length), j < k → decide (L[j].f1 = id) = false)) (fun i => L.length - (intOf i).toNat)
  case atStart => exact ⟨0, Nat.zero_le _, rfl, fun j hj h => by omega⟩
  case round =>
    obtain ⟨k, hk, rfl, HA⟩ := hrel
    by_cases hlt : k < L.length
    · have hlt' : (k : Int) < L.length := by omega
      obtain ⟨b, off, cap', hv, hb, hc⟩ := link_cells HR.out (by omega)
      simp only [Value.slice.injEq, true_and] at hv
      obtain ⟨rfl, rfl⟩ := hv
      obtain ⟨_, c1⟩ := hc k hlt
      clear hc
      by_cases he : L[k].f1 = id
      · have HF : Hid ((L.any fun x => decide (x.f1 = id)) = true) := any_hit _ L k hlt (by simp [he])
        rw [he] at c1
        clear he HA
        go_wp2
        go_ret
        exact ⟨by rw [HF.out]; rfl, rfl⟩
      · have HN : Hid (∀ j (hj : j < L.length), j < k + 1 → decide (L[j].f1 = id) = false) := fun j hj hjk => by
          by_cases e : j = k
          · subst e; simp [he]
          · exact HA.out j hj (by omega)
        have hq : (L[k].f1 == id) = false := by simp [he]
        clear he HA
        generalize L[k].f1 = Y at c1 hq
        go_wp2
        go_round
        case rel => exact ⟨k + 1, by omega, by go_num, HN⟩
        case measure => simp [intOf]; omega
    · have hke : k = L.length := by omega
      subst hke
      have HF : Hid ((L.any fun x => decide (x.f1 = id)) = false) := any_miss _ L (fun j hj => HA.out j hj hj)
      go_wp2
      go_ret
      exact ⟨by rw [HF.out]; rfl, rfl⟩

end Go.Proofs.YtmknplpcpmkhiaaGreat

/- The specification's small functions over moves and inodes, and over links that are built, by contracts. -/
namespace Go.Proofs.YtmknplpcpmkhiaaGreat
open Go.RowKit
set_option linter.unusedVariables false

theorem move_cells {w : World} {v : Value} {L : List S_Move} (h : RowR w v L.length 4 (rMove L)) (hl : 0 < L.length) :
    ∃ b off cap, v = .slice (some ⟨b, off, none⟩) L.length cap ∧ b < w.heap.size ∧ ∀ k (hk : k < L.length), w.cell? ⟨b, off + k * 4, none⟩ = some (.int .i64 L[k].f0) ∧ w.cell? ⟨b, off + k * 4 + 1, none⟩ = some (.string L[k].f1) ∧ w.cell? ⟨b, off + k * 4 + 2, none⟩ = some (.string L[k].f2) ∧ w.cell? ⟨b, off + k * 4 + 3, none⟩ = some (.int .i64 L[k].f3) := by
  obtain ⟨b, off, cap, hv, hb, hc⟩ := h.some hl (by decide)
  refine ⟨b, off, cap, hv, hb, fun k hk => ?_⟩
  have c : ∀ q, q < 4 → w.cell? ⟨b, off + (k * 4 + q), none⟩ = (cMove L[k])[q]? := fun q hq => by
    rw [hc (k * 4 + q) (by omega)]
    exact flat_at cMove 4 cMove_len L k q hk hq
  exact ⟨by have := c 0 (by decide); rw [← Nat.add_assoc] at this; exact this, by have := c 1 (by decide); rw [← Nat.add_assoc] at this; exact this, by have := c 2 (by decide); rw [← Nat.add_assoc] at this; exact this, by have := c 3 (by decide); rw [← Nat.add_assoc] at this; exact this⟩

theorem inode_cells {w : World} {v : Value} {L : List S_Inode} (h : RowR w v L.length 3 (rInode L)) (hl : 0 < L.length) :
    ∃ b off cap, v = .slice (some ⟨b, off, none⟩) L.length cap ∧ b < w.heap.size ∧ ∀ k (hk : k < L.length), w.cell? ⟨b, off + k * 3, none⟩ = some (.int .i64 L[k].f0) ∧ w.cell? ⟨b, off + k * 3 + 1, none⟩ = some (.string L[k].f1) ∧ w.cell? ⟨b, off + k * 3 + 2, none⟩ = some (.int .i64 L[k].f2) := by
  obtain ⟨b, off, cap, hv, hb, hc⟩ := h.some hl (by decide)
  refine ⟨b, off, cap, hv, hb, fun k hk => ?_⟩
  have c : ∀ q, q < 3 → w.cell? ⟨b, off + (k * 3 + q), none⟩ = (cInode L[k])[q]? := fun q hq => by
    rw [hc (k * 3 + q) (by omega)]
    exact flat_at cInode 3 cInode_len L k q hk hq
  exact ⟨by have := c 0 (by decide); rw [← Nat.add_assoc] at this; exact this, by have := c 1 (by decide); rw [← Nat.add_assoc] at this; exact this, by have := c 2 (by decide); rw [← Nat.add_assoc] at this; exact this⟩

/-- A move that makes this inode. -/
def mk4 (id : Int) (m : S_Move) : Bool := decide (m.f0 = 1 ∧ m.f3 = id)

set_option maxRecDepth 20000 in
set_option maxHeartbeats 1000000 in
theorem made_c (v : Value) (L : List S_Move) (id : Int) (w : World) (hn : L.length ≤ 1048576) (hr : RowR w v L.length 4 (rMove L)) :
    Calls Tryz.prog 63 #[v, .int .i64 id] w fun e w' => e = .returned (.bool (L.any (mk4 id))) ∧ w' = w := by
  have hn' : (L.length : Int) ≤ 1048576 := by omega
  obtain ⟨p, cap, hv⟩ : ∃ p cap, v = .slice p L.length cap := by obtain ⟨_, p, cap, hv, _⟩ := hr; exact ⟨p, cap, hv⟩
  subst hv
  have HR : Hid (RowR w (.slice p L.length cap) L.length 4 (rMove L)) := hr
  clear hr
  go_enter Tryz.func63, Tryz.ntmps63
  go_wp2
  go_loop [5] (fun i => ∃ k : Nat, k ≤ L.length ∧ i = .int .i64 (k : Int) ∧ Hid (∀ j (hj : j < L.length), j < k → mk4 id L[j] = false)) (fun i => L.length - (intOf i).toNat)
  case atStart => exact ⟨0, Nat.zero_le _, rfl, fun j hj h => by omega⟩
  case round =>
    obtain ⟨k, hk, rfl, HA⟩ := hrel
    by_cases hlt : k < L.length
    · have hlt' : (k : Int) < L.length := by omega
      obtain ⟨b, off, cap', hv, hb, hc⟩ := move_cells HR.out (by omega)
      simp only [Value.slice.injEq, true_and] at hv
      obtain ⟨rfl, rfl⟩ := hv
      obtain ⟨c0, _, _, c3⟩ := hc k hlt
      have HN : Hid (mk4 id L[k] = false → ∀ j (hj : j < L.length), j < k + 1 → mk4 id L[j] = false) := fun h j hj hjk => by
        by_cases e : j = k
        · subst e; exact h
        · exact HA.out j hj (by omega)
      have HF : Hid (mk4 id L[k] = true → L.any (mk4 id) = true) := fun h => any_hit _ L k hlt h
      have HM : Hid (mk4 id L[k] = decide (L[k].f0 = 1 ∧ L[k].f3 = id)) := rfl
      clear hc HA
      generalize L[k] = X at c0 c3 HN HF HM
      by_cases h1 : X.f0 = 1
      · have e1 : (X.f0 == 1) = true := by simp [h1]
        by_cases h2 : X.f3 = id
        · have e2 : (X.f3 == id) = true := by simp [h2]
          have HT : Hid (L.any (mk4 id) = true) := HF.out (by rw [HM.out]; simp [h1, h2])
          clear h1 h2 HN HF HM
          generalize X.f0 = y0 at c0 e1
          generalize X.f3 = y3 at c3 e2
          go_wp2
          go_ret
          exact ⟨by rw [HT.out]; rfl, rfl⟩
        · have e2 : (X.f3 == id) = false := by simp [h2]
          have HT : Hid (∀ j (hj : j < L.length), j < k + 1 → mk4 id L[j] = false) := HN.out (by rw [HM.out]; simp [h2])
          clear h1 h2 HN HF HM
          generalize X.f0 = y0 at c0 e1
          generalize X.f3 = y3 at c3 e2
          go_wp2
          go_round
          case rel => exact ⟨k + 1, by omega, by go_num, HT⟩
          case measure => simp [intOf]; omega
      · have e1 : (X.f0 == 1) = false := by simp [h1]
        have HT : Hid (∀ j (hj : j < L.length), j < k + 1 → mk4 id L[j] = false) := HN.out (by rw [HM.out]; simp [h1])
        clear h1 HN HF HM c3
        generalize X.f0 = y0 at c0 e1
        go_wp2
        go_round
        case rel => exact ⟨k + 1, by omega, by go_num, HT⟩
        case measure => simp [intOf]; omega
    · have hke : k = L.length := by omega
      subst hke
      have HF : Hid (L.any (mk4 id) = false) := any_miss _ L (fun j hj => HA.out j hj hj)
      go_wp2
      go_ret
      exact ⟨by rw [HF.out]; rfl, rfl⟩

set_option maxRecDepth 20000 in
set_option maxHeartbeats 1000000 in
theorem inode_c (x : S_Disk) (v2 v3 v4 : Value) (id : Int) (w : World) (hn : LnDisk x 1048576) (hr : RdDisk w x v2 v3 v4) :
    Calls Tryz.prog 64 #[.agg #[.int .i64 x.f0, .int .i64 x.f1, v2, v3, v4], .int .i64 id] w fun e w' => e = .returned (.int .i64 (idx (fun y => decide (y.f0 = id)) x.f2)) ∧ Below w.heap.size w w' := by
  have hn' : (x.f2.length : Int) ≤ 1048576 := by have := hn.1; omega
  obtain ⟨p, cap, hv⟩ : ∃ p cap, v2 = .slice p x.f2.length cap := by obtain ⟨_, p, cap, hv, _⟩ := hr.1; exact ⟨p, cap, hv⟩
  subst hv
  have b0 : Below w.heap.size w (w.alloc (.cells #[.int .i64 x.f0, .int .i64 x.f1, .slice p x.f2.length cap, v3, v4] 28)) := (Below.refl _ _).alloc (Nat.le_refl _) _
  have HB : Hid (Below w.heap.size w (w.alloc (.cells #[.int .i64 x.f0, .int .i64 x.f1, .slice p x.f2.length cap, v3, v4] 28))) := b0
  have HR : Hid (RowR w (.slice p x.f2.length cap) x.f2.length 3 (rInode x.f2)) := hr.1
  clear hr hn b0
  go_enter Tryz.func64, Tryz.ntmps64
  go_wp2
  go_loop [5] (fun i => ∃ k : Nat, k ≤ x.f2.length ∧ i = .int .i64 (k : Int) ∧ Hid (∀ j (hj : j < x.f2.length), j < k → decide (x.f2[j].f0 = id) = false)) (fun i => x.f2.length - (intOf i).toNat)
  case atStart => exact ⟨0, Nat.zero_le _, rfl, fun j hj h => by omega⟩
  case round =>
    obtain ⟨k, hk, rfl, HA⟩ := hrel
    by_cases hlt : k < x.f2.length
    · have hlt' : (k : Int) < x.f2.length := by omega
      obtain ⟨b, off, cap', hv, hb, hc⟩ := inode_cells HR.out (by omega)
      simp only [Value.slice.injEq, true_and] at hv
      obtain ⟨rfl, rfl⟩ := hv
      obtain ⟨c0', _, _⟩ := hc k hlt
      have c0 : (w.alloc (.cells #[.int .i64 x.f0, .int .i64 x.f1, .slice (some ⟨b, off, none⟩) x.f2.length cap, v3, v4] 28)).cell? ⟨b, off + k * 3, none⟩ = some (.int .i64 x.f2[k].f0) := by rw [HB.out.cell (by exact hb)]; exact c0'
      clear hc c0'
      have hne : b ≠ w.heap.size := by omega
      by_cases he : x.f2[k].f0 = id
      · have HF : Hid (idx (fun y : S_Inode => decide (y.f0 = id)) x.f2 = k) := idx_hit _ x.f2 k hlt (fun j hj => HA.out j (by omega) hj) (by simp [he])
        rw [he] at c0
        clear he HA
        go_wp2
        go_ret
        exact ⟨by rw [HF.out]; rfl, HB.out⟩
      · have HN : Hid (∀ j (hj : j < x.f2.length), j < k + 1 → decide (x.f2[j].f0 = id) = false) := fun j hj hjk => by
          by_cases e : j = k
          · subst e; simp [he]
          · exact HA.out j hj (by omega)
        have hq : (x.f2[k].f0 == id) = false := by simp [he]
        clear he HA
        generalize x.f2[k].f0 = Y at c0 hq
        go_wp2
        go_round
        case rel => exact ⟨k + 1, by omega, by go_num, HN⟩
        case measure => simp [intOf]; omega
    · have hke : k = x.f2.length := by omega
      have HF : Hid (idx (fun y : S_Inode => decide (y.f0 = id)) x.f2 = -1) := idx_miss _ x.f2 (fun j hj => HA.out j hj (by omega))
      subst hke
      go_wp2
      go_ret
      exact ⟨by rw [HF.out]; rfl, HB.out⟩

end Go.Proofs.YtmknplpcpmkhiaaGreat

/- The specification's functions that build links, by contracts. -/
namespace Go.Proofs.YtmknplpcpmkhiaaGreat
open Go.RowKit
set_option linter.unusedVariables false

theorem cell_new2 (w : World) (a b : Value) (t : TypeId) : ∀ j u, [a, b][j]? = some u → (w.alloc (.cells #[a, b] t)).cell? ((⟨w.heap.size, 0, none⟩ : Addr).add j) = some u := fun j u h => by
  rw [Addr.add_mid, Nat.zero_add, box_cell]
  simpa using h

theorem r_snoc (L : List S_Link) (y : S_Link) : rLink (L ++ [y]) = rLink L ++ [.string y.f0, .int .i64 y.f1] := by
  unfold rLink
  rw [List.flatMap_append, List.flatMap_singleton]; rfl

/-- Behind one append of an element of the call's own. -/
theorem link_snoc {w : World} {base : Nat} {v : Value} {acc : List S_Link} {y : S_Link} (h : w.ownsRow base 49 2 v (acc.length + 1) (rLink acc ++ [.string y.f0, .int .i64 y.f1])) : w.ownsRow base 49 2 v (acc ++ [y]).length (rLink (acc ++ [y])) := by
  rw [r_snoc, List.length_append, List.length_singleton]; exact h

/-- The links without a name. -/
def wo (nm : ByteArray) (L : List S_Link) : List S_Link := L.filter fun x => !decide (x.f0 = nm)

set_option maxRecDepth 20000 in
set_option maxHeartbeats 1000000 in
theorem without_c (v : Value) (L : List S_Link) (nm : ByteArray) (w : World) (hn : L.length ≤ 1048576) (hr : RowR w v L.length 2 (rLink L)) :
    Calls Tryz.prog 109 #[v, .string nm] w fun e w' => ∃ v', e = .returned v' ∧ w'.ownsRow w.heap.size 49 2 v' (wo nm L).length (rLink (wo nm L)) ∧ Below w.heap.size w w' := by
  obtain ⟨i0, hi, hz0, hz1, hz2⟩ := info_parts infoLink
  have hn' : (L.length : Int) ≤ 1048576 := by omega
  obtain ⟨p, cap, hv⟩ : ∃ p cap, v = .slice p L.length cap := by obtain ⟨_, p, cap, hv, _⟩ := hr; exact ⟨p, cap, hv⟩
  subst hv
  have HR : Hid (RowR w (.slice p L.length cap) L.length 2 (rLink L)) := hr
  clear hr
  go_enter Tryz.func109, Tryz.ntmps109
  go_wp2
  go_loopw [5, 6] (fun v' i wr => ∃ k : Nat, k ≤ L.length ∧ i = .int .i64 (k : Int) ∧ Hid (wr.ownsRow w.heap.size 49 2 v' (wo nm (L.take k)).length (rLink (wo nm (L.take k)))) ∧ Hid (Below w.heap.size w wr)) (fun _ i _ => L.length - (intOf i).toNat)
  case atStart => exact ⟨0, Nat.zero_le _, rfl, World.ownsRow_made w _ 0 (Nat.le_refl _) (by decide) (by simp), (Below.refl _ _).alloc (Nat.le_refl _) _⟩
  case round =>
    obtain ⟨k, hk, rfl, HO, HB⟩ := hrel
    have hsz := HB.out.size
    by_cases hlt : k < L.length
    · have hlt' : (k : Int) < L.length := by omega
      obtain ⟨b, off, cap', hv, hb, hc⟩ := link_cells HR.out (by omega)
      simp only [Value.slice.injEq, true_and] at hv
      obtain ⟨rfl, rfl⟩ := hv
      have c0 : wr.cell? ⟨b, off + k * 2, none⟩ = some (.string L[k].f0) := by rw [HB.out.cell (by exact hb)]; exact (hc k hlt).1
      have c1 : wr.cell? ⟨b, off + k * 2 + 1, none⟩ = some (.int .i64 L[k].f1) := by rw [HB.out.cell (by exact hb)]; exact (hc k hlt).2
      have HT : Hid (wo nm (L.take (k + 1)) = wo nm (L.take k) ++ (if !decide (L[k].f0 = nm) then [L[k]] else [])) := filter_take _ L k hlt
      have hlen : (wo nm (L.take k)).length ≤ k := Nat.le_trans (List.length_filter_le _ _) (by rw [List.length_take]; omega)
      clear hc
      generalize L[k] = X at c0 c1 HT
      by_cases he : X.f0 = nm
      · have HT2 : Hid (wo nm (L.take (k + 1)) = wo nm (L.take k)) := by have := HT.out; simp [he] at this; exact this
        rw [he] at c0
        have HO2 : Hid (wr.ownsRow w.heap.size 49 2 u5 (wo nm (L.take (k + 1))).length (rLink (wo nm (L.take (k + 1))))) := by show World.ownsRow _ _ _ _ _ _ _; rw [HT2.out]; exact HO.out
        clear HO HT HT2 he c1
        go_wp2
        go_roundw
        case rel => exact ⟨k + 1, by omega, by go_num, HO2, HB⟩
        case measure => simp [intOf]; omega
      · have HT2 : Hid (wo nm (L.take (k + 1)) = wo nm (L.take k) ++ [X]) := by have := HT.out; simp [he] at this; exact this
        have hq : ((X.f0).toList == nm.toList) = false := by rw [beq_txt]; simp [he]
        clear HT he
        generalize wo nm (L.take k) = acc at HO HT2 hlen
        have hown := HO.out
        clear HO
        go_wp2_with (at_builtin; refine wpList_append_own _ rfl _ _ 25 rfl w.heap.size 49 i0 (.agg #[.string ⟨#[]⟩, .int .i64 0]) 2 24 Tryz.underlying25 hi hz0 hz1 hz2 rfl (by decide) _ _ _ rfl (hown.alloc _) ⟨wr.heap.size, 0, none⟩ 1 1 [.string X.f0, .int .i64 X.f1] rfl rfl (cell_new2 _ _ _ _) (by intro u hu; simp at hu; rcases hu with rfl | rfl <;> rfl) (by unfold maxLen; omega) (by omega) (by simp; omega) ?_)
        intro v' w2 hown2 hgrow _
        have R1 : Hid (w2.ownsRow w.heap.size 49 2 v' (wo nm (L.take (k + 1))).length (rLink (wo nm (L.take (k + 1))))) := by
          show World.ownsRow _ _ _ _ _ _ _
          rw [HT2.out]
          exact link_snoc hown2
        have R2 : Hid (Below w.heap.size w w2) := below_append HB.out (Nat.le_refl _) hown hgrow
        clear hown2 hgrow hown HB HT2
        go_wp2
        go_roundw
        case rel => first | exact ⟨k + 1, by omega, by go_num, R1, R2⟩ | ((repeat apply Exists.intro); exact ⟨⟨k + 1, by omega, by go_num, R1, R2⟩, rfl⟩)
        case measure => simp [intOf]; omega
    · have hke : k = L.length := by omega
      subst hke
      have HF : Hid (wr.ownsRow w.heap.size 49 2 u5 (wo nm L).length (rLink (wo nm L))) := by have := HO.out; rw [List.take_length] at this; exact this
      go_wp2
      go_ret
      exact ⟨_, rfl, HF.out, HB.out⟩

set_option maxRecDepth 20000 in
set_option maxHeartbeats 1000000 in
theorem bytes_c (x : S_Disk) (v2 v3 v4 : Value) (w : World) (hn : LnDisk x 1048576) (hz : zsum zInode x.f2 x.f2.length ≤ 1099511627776) (hr : RdDisk w x v2 v3 v4) :
    Calls Tryz.prog 61 #[.agg #[.int .i64 x.f0, .int .i64 x.f1, v2, v3, v4]] w fun e w' => e = .returned (.int .i64 (zsum zInode x.f2 x.f2.length : Int)) ∧ Below w.heap.size w w' := by
  have hn' : (x.f2.length : Int) ≤ 1048576 := by have := hn.1; omega
  obtain ⟨p, cap, hv⟩ : ∃ p cap, v2 = .slice p x.f2.length cap := by obtain ⟨_, p, cap, hv, _⟩ := hr.1; exact ⟨p, cap, hv⟩
  subst hv
  have b0 : Below w.heap.size w (w.alloc (.cells #[.int .i64 x.f0, .int .i64 x.f1, .slice p x.f2.length cap, v3, v4] 28)) := (Below.refl _ _).alloc (Nat.le_refl _) _
  have HB : Hid (Below w.heap.size w (w.alloc (.cells #[.int .i64 x.f0, .int .i64 x.f1, .slice p x.f2.length cap, v3, v4] 28))) := b0
  have HR : Hid (RowR w (.slice p x.f2.length cap) x.f2.length 3 (rInode x.f2)) := hr.1
  clear hr hn b0
  go_enter Tryz.func61, Tryz.ntmps61
  go_wp2
  go_loop [3, 4] (fun m i => ∃ k : Nat, k ≤ x.f2.length ∧ i = .int .i64 (k : Int) ∧ m = .int .i64 (zsum zInode x.f2 k : Int)) (fun _ i => x.f2.length - (intOf i).toNat)
  case atStart => exact ⟨0, Nat.zero_le _, rfl, rfl⟩
  case round =>
    obtain ⟨k, hk, rfl, rfl⟩ := hrel
    have hzk := zsum_le zInode x.f2 k hk
    by_cases hlt : k < x.f2.length
    · have hlt' : (k : Int) < x.f2.length := by omega
      obtain ⟨b, off, cap', hv, hb, hc⟩ := inode_cells HR.out (by omega)
      simp only [Value.slice.injEq, true_and] at hv
      obtain ⟨rfl, rfl⟩ := hv
      obtain ⟨_, c1', _⟩ := hc k hlt
      have c1 : (w.alloc (.cells #[.int .i64 x.f0, .int .i64 x.f1, .slice (some ⟨b, off, none⟩) x.f2.length cap, v3, v4] 28)).cell? ⟨b, off + k * 3 + 1, none⟩ = some (.string x.f2[k].f1) := by rw [HB.out.cell (by exact hb)]; exact c1'
      have HS : Hid (zsum zInode x.f2 (k + 1) = zsum zInode x.f2 k + zInode x.f2[k]) := zsum_succ zInode x.f2 k hlt
      have HS2 : Hid (((zsum zInode x.f2 (k + 1) : Nat) : Int) = (zsum zInode x.f2 k : Int) + (x.f2[k].f1.size : Int)) := by
        have h1 := HS.out
        have ez : zInode x.f2[k] = x.f2[k].f1.size := rfl
        show _ = _
        omega
      have hsum : (zsum zInode x.f2 k : Int) + (x.f2[k].f1.size : Int) ≤ 1099511627776 := by
        have h2 := HS2.out
        have h3 := zsum_le zInode x.f2 (k + 1) hlt
        omega
      clear hc c1' HS
      generalize x.f2[k].f1 = Y at c1 HS2 hsum
      have hz0 : (0 : Int) ≤ (zsum zInode x.f2 k : Int) := by omega
      clear hzk hz
      generalize (zsum zInode x.f2 k : Int) = Z at HS2 hsum hz0 ⊢
      go_wp2
      go_round
      case rel => exact ⟨k + 1, by omega, by go_num, by rw [HS2.out]⟩
      case measure => simp [intOf]; omega
    · have hke : k = x.f2.length := by omega
      subst hke
      go_wp2
      go_ret
      exact ⟨rfl, HB.out⟩

end Go.Proofs.YtmknplpcpmkhiaaGreat

/- The specification's links with one more, by its contract. -/
namespace Go.Proofs.YtmknplpcpmkhiaaGreat
open Go.RowKit
set_option linter.unusedVariables false

/-- Is the first name less? -/
def lt4 (x y : S_Link) : Bool := Op.bytesLess x.f0.toList y.f0.toList

/-- One more, ahead of the first that is greater. -/
def insF (x : S_Link) : List S_Link → List S_Link
  | [] => [x]
  | y :: ys => if lt4 x y then x :: y :: ys else y :: insF x ys

theorem insF_yes (x y : S_Link) (ys : List S_Link) (h : lt4 x y = true) : insF x (y :: ys) = x :: y :: ys := by simp [insF, h]

theorem insF_no (x y : S_Link) (ys : List S_Link) (h : lt4 x y = false) : insF x (y :: ys) = y :: insF x ys := by simp [insF, h]

theorem insF_len (x : S_Link) : ∀ L, (insF x L).length = L.length + 1
  | [] => rfl
  | y :: ys => by
    simp only [insF]
    split
    · simp
    · simp [insF_len x ys]

/-- The links with one more. -/
def wi (x : S_Link) (L : List S_Link) : List S_Link := insF x (wo x.f0 L)

theorem wo_len (nm : ByteArray) (L : List S_Link) : (wo nm L).length ≤ L.length := List.length_filter_le _ _

theorem ownsRow_drewN4 {w : World} {base : Nat} {e : TypeId} {size : Nat} {v : Value} {n : Nat} {xs : List Value} (h : w.ownsRow base e size v n xs) (k : Nat) : (w.drewN k).ownsRow base e size v n xs := by
  induction k with
  | zero => exact h
  | succ k ih => exact ih

theorem But.drewN {g : Nat} {a w : World} (h : But g a w) (n : Nat) : But g a (w.drewN n) := ⟨h.os, h.tape, h.output, h.size, h.block⟩

theorem but_append {g : Nat} {w1 wr w2 : World} {o : Obj} {v : Value} (h : But g w1 wr) (hgr : (wr.alloc o).grownBy w2 v.ownBlock) (hq : ∀ q, v.ownBlock = some q → q = g ∨ w1.heap.size ≤ q) : But g w1 w2 := by
  have hs := h.size
  have hgs := hgr.size
  rw [World.size_alloc] at hgs
  refine ⟨hgr.os.trans h.os, hgr.tape.trans h.tape, hgr.output.trans h.output, by omega, fun k hk hne => ?_⟩
  rw [hgr.block k (by rw [World.size_alloc]; omega) (fun e => by rcases hq k e.symm with h1 | h1 <;> omega), Below.heap_alloc _ _ _ (by omega)]
  exact h.block k hk hne

theorem But.cell {g : Nat} {w w' : World} (h : But g w w') {a : Addr} (h1 : a.block < w.heap.size) (h2 : a.block ≠ g) : w'.cell? a = w.cell? a := World.cell?_of_block (h.block _ h1 h2)

theorem own_cells2 {w : World} {base : Nat} {p : Option Addr} {cap : Nat} {M : List S_Link} (h : w.ownsRow base 49 2 (.slice p M.length cap) M.length (rLink M)) :
    ∀ k (hk : k < M.length), ∃ g, p = some ⟨g, 0, none⟩ ∧ base ≤ g ∧ g < w.heap.size ∧ w.cell? ⟨g, k * 2, none⟩ = some (.string M[k].f0) ∧ w.cell? ⟨g, k * 2 + 1, none⟩ = some (.int .i64 M[k].f1) := by
  intro k hk
  have h' := h
  obtain ⟨_, ⟨_, h2⟩ | ⟨g, c, cur, hv, hg, hh, _⟩⟩ := h'
  · omega
  · simp only [Value.slice.injEq, true_and] at hv
    obtain ⟨rfl, rfl⟩ := hv
    have c0 := h.cellAt (k * 2) (by omega)
    have c1 := h.cellAt (k * 2 + 1) (by omega)
    have f0 := flat_at cLink 2 cLink_len M k 0 hk (by decide)
    have f1 := flat_at cLink 2 cLink_len M k 1 hk (by decide)
    exact ⟨g, rfl, hg, lt_of_some hh, by rw [c0]; exact f0, by rw [c1]; exact f1⟩

set_option maxRecDepth 20000 in
set_option maxHeartbeats 2000000 in
theorem with_c (v : Value) (L : List S_Link) (x : S_Link) (w : World) (hn : L.length ≤ 1048576) (hr : RowR w v L.length 2 (rLink L)) :
    Calls Tryz.prog 108 #[v, .agg #[.string x.f0, .int .i64 x.f1]] w fun e w' => ∃ v', e = .returned v' ∧ w'.ownsRow w.heap.size 49 2 v' (wi x L).length (rLink (wi x L)) ∧ Below w.heap.size w w' := by
  obtain ⟨i0, hi, hz0, hz1, hz2⟩ := info_parts infoLink
  obtain ⟨W, hW⟩ : ∃ W, W = (w.alloc (.cells #[.string x.f0, .int .i64 x.f1] 49)).alloc (.cells #[] 49) := ⟨_, rfl⟩
  have HW : Hid ((w.alloc (.cells #[.string x.f0, .int .i64 x.f1] 49)).alloc (.cells #[] 49) = W) := hW.symm
  have hWs : W.heap.size = w.heap.size + 1 + 1 := by rw [hW]; simp
  have HB0 : Hid (Below w.heap.size w W) := by rw [hW]; exact ((Below.refl _ _).alloc (Nat.le_refl _) _).alloc (by simp) _
  have HX : Hid (∀ W', Below (w.heap.size + 1) W W' → W'.cell? ⟨w.heap.size, 0, none⟩ = some (.string x.f0) ∧ W'.cell? ⟨w.heap.size, 1, none⟩ = some (.int .i64 x.f1)) := fun W' hb => by
    have e : ∀ j, W.cell? ⟨w.heap.size, j, none⟩ = #[Value.string x.f0, .int .i64 x.f1][j]? := fun j => by
      rw [hW, World.cell?_alloc_lt _ _ ⟨w.heap.size, j, none⟩ (by simp), box_cell]
    exact ⟨by rw [hb.cell (by show w.heap.size < w.heap.size + 1; omega), e]; rfl, by rw [hb.cell (by show w.heap.size < w.heap.size + 1; omega), e]; rfl⟩
  have HO0 : Hid (W.ownsRow (w.heap.size + 1) 49 2 (.slice (some ⟨w.heap.size + 1, 0, none⟩) 0 0) ([] : List S_Link).length (rLink [])) := by
    rw [hW]
    have := World.ownsRow_made (base := w.heap.size + 1) (e := 49) (size := 2) (w.alloc (.cells #[.string x.f0, .int .i64 x.f1] 49)) #[] 0 (by simp) (by decide) (by simp)
    rw [World.size_alloc] at this
    exact this
  have HR : Hid (RowR W v L.length 2 (rLink L)) := hr.keep HB0.out (Nat.le_refl _)
  clear hW hr
  go_enter Tryz.func108, Tryz.ntmps108
  go_wp2_with fail
  rw [HW.out]
  refine (without_c v L x.f0 W hn HR.out).mono ?_
  rintro e w1 ⟨u, rfl, own1, b1⟩
  have hML : (wo x.f0 L).length ≤ 1048576 := Nat.le_trans (wo_len _ _) hn
  have HI : Hid (wi x L = insF x (wo x.f0 L)) := rfl
  generalize wo x.f0 L = M at own1 hML HI
  have hM' : (M.length : Int) ≤ 1048576 := by omega
  obtain ⟨_, p, cap, hv, _⟩ := RowR.own own1
  subst hv
  have HRM : Hid (∀ k (hk : k < M.length), ∃ g, p = some ⟨g, 0, none⟩ ∧ W.heap.size ≤ g ∧ g < w1.heap.size ∧ w1.cell? ⟨g, k * 2, none⟩ = some (.string M[k].f0) ∧ w1.cell? ⟨g, k * 2 + 1, none⟩ = some (.int .i64 M[k].f1)) := own_cells2 own1
  have HO1 : Hid (w1.ownsRow (w.heap.size + 1) 49 2 (.slice (some ⟨w.heap.size + 1, 0, none⟩) 0 0) ([] : List S_Link).length (rLink [])) := own_bel HO0.out b1 (Nat.le_refl _)
  have HB1 : Hid (Below w.heap.size w w1) := HB0.out.trans (b1.mono (by omega))
  have HC1 : Hid (Below (w.heap.size + 1) W w1) := b1.mono (by omega)
  have HA1 : Hid (W.heap.size ≤ w1.heap.size) := b1.size
  clear own1 b1 HO0
  obtain ⟨xc0, xc1⟩ := HX.out w1 HC1.out
  have XC0 : Hid (w1.cell? ⟨w.heap.size, 0, none⟩ = some (.string x.f0)) := xc0
  have XC1 : Hid (w1.cell? ⟨w.heap.size, 1, none⟩ = some (.int .i64 x.f1)) := xc1
  have hw1 : w.heap.size + 2 ≤ w1.heap.size := by have := HA1.out; omega
  clear xc0 xc1
  go_wp2
  go_loopw [5, 6, 7] (fun v' pv i wr => ∃ (acc : List S_Link) (put : Bool) (k : Nat), k ≤ M.length ∧ acc.length ≤ k + put.toNat ∧ pv = .bool put ∧ i = .int .i64 (k : Int) ∧ Hid (wr.ownsRow (w.heap.size + 1) 49 2 v' acc.length (rLink acc)) ∧ Hid (But (w.heap.size + 1) w1 wr) ∧ Hid (∀ q, v'.ownBlock = some q → q = w.heap.size + 1 ∨ w1.heap.size ≤ q) ∧ Hid (acc ++ (if put then M.drop k else insF x (M.drop k)) = insF x M)) (fun _ _ i _ => M.length - (intOf i).toNat)
  case atStart => exact ⟨[], false, 0, Nat.zero_le _, Nat.le_refl _, rfl, rfl, HO1, But.refl _ _, fun q hq => Or.inl (by simpa [Value.ownBlock] using hq.symm), by show _ = _; simp⟩
  case round =>
    obtain ⟨acc, put, k, hk, hal, rfl, rfl, HO, HT, HQ, HE⟩ := hrel
    have hsz := HT.out.size
    have X0 : wr.cell? ⟨w.heap.size, 0, none⟩ = some (.string x.f0) := by rw [HT.out.cell (by show w.heap.size < w1.heap.size; omega) (by show w.heap.size ≠ w.heap.size + 1; omega)]; exact XC0.out
    have X1 : wr.cell? ⟨w.heap.size, 1, none⟩ = some (.int .i64 x.f1) := by rw [HT.out.cell (by show w.heap.size < w1.heap.size; omega) (by show w.heap.size ≠ w.heap.size + 1; omega)]; exact XC1.out
    by_cases hlt : k < M.length
    · have hlt' : (k : Int) < M.length := by omega
      obtain ⟨g, hp, hg1, hg2, d0, d1⟩ := HRM.out k hlt
      subst hp
      have c0 : wr.cell? ⟨g, k * 2, none⟩ = some (.string M[k].f0) := by rw [HT.out.cell (by exact hg2) (by show g ≠ w.heap.size + 1; omega)]; exact d0
      have c1 : wr.cell? ⟨g, k * 2 + 1, none⟩ = some (.int .i64 M[k].f1) := by rw [HT.out.cell (by exact hg2) (by show g ≠ w.heap.size + 1; omega)]; exact d1
      have HD : Hid (M.drop k = M[k] :: M.drop (k + 1)) := List.drop_eq_getElem_cons hlt
      clear d0 d1
      generalize M[k] = Y at c0 c1 HD
      have hown := HO.out
      cases put with
      | true =>
        have hal2 : acc.length ≤ 1048577 := by simp at hal; omega
        have HE2 : Hid ((acc ++ [Y]) ++ (if true then M.drop (k + 1) else insF x (M.drop (k + 1))) = insF x M) := by
          have := HE.out
          rw [HD.out] at this
          show _ = _
          simpa using this
        clear HE HD HO
        go_wp2
        go_quiet (fail)
        go_wp2_with (at_builtin; refine wpList_append_own_at _ rfl _ _ 25 rfl (w.heap.size + 1) 49 i0 (.agg #[.string ⟨#[]⟩, .int .i64 0]) 2 24 Tryz.underlying25 hi hz0 hz1 hz2 rfl (by decide) _ _ _ rfl ((ownsRow_drewN4 hown _).alloc _) ⟨wr.heap.size, 0, none⟩ 1 1 [.string Y.f0, .int .i64 Y.f1] rfl rfl (cell_new2 _ _ _ _) (by intro u hu; simp at hu; rcases hu with rfl | rfl <;> rfl) (by unfold maxLen; omega) (by omega) (by simp; omega) ?_)
        intro va w2 own2 hgrow _ hblk
        have R1a : Hid (w2.ownsRow (w.heap.size + 1) 49 2 va (acc ++ [Y]).length (rLink (acc ++ [Y]))) := link_snoc own2
        have R2a : Hid (But (w.heap.size + 1) w1 w2) := but_append (HT.out.drewN _) hgrow HQ.out
        have R3a : Hid (∀ q, va.ownBlock = some q → q = w.heap.size + 1 ∨ w1.heap.size ≤ q) := fun q hq => by
          rcases hblk with h | h
          · exact HQ.out q (by rw [← h]; exact hq)
          · rw [h] at hq
            simp only [Option.some.injEq] at hq
            right; omega
        clear own2 hgrow hblk
        clear hown HT HQ c0 c1 X0 X1
        go_wp2
        go_roundw
        case rel => first | exact ⟨acc ++ [Y], true, k + 1, by omega, by simp at hal ⊢; omega, rfl, by go_num, R1a, R2a, R3a, HE2⟩ | ((repeat apply Exists.intro); exact ⟨⟨acc ++ [Y], true, k + 1, by omega, by simp at hal ⊢; omega, rfl, by go_num, R1a, R2a, R3a, HE2⟩, rfl⟩)
        case measure => simp [intOf]; omega
      | false =>
        have hal2 : acc.length ≤ 1048576 := by simp at hal; omega
        cases hless : lt4 x Y with
        | true =>
          have HE2 : Hid ((acc ++ [x] ++ [Y]) ++ (if true then M.drop (k + 1) else insF x (M.drop (k + 1))) = insF x M) := by
            have := HE.out
            rw [HD.out] at this
            show _ = _
            simp only [Bool.false_eq_true, if_false, insF_yes _ _ _ hless] at this
            simpa using this
          have hls : Op.bytesLess x.f0.toList Y.f0.toList = true := hless
          clear HE HD HO hless
          go_wp2
          go_quiet (fail)
          go_wp2_with (at_builtin; refine wpList_append_own_at _ rfl _ _ 25 rfl (w.heap.size + 1) 49 i0 (.agg #[.string ⟨#[]⟩, .int .i64 0]) 2 24 Tryz.underlying25 hi hz0 hz1 hz2 rfl (by decide) _ _ _ rfl ((ownsRow_drewN4 hown _).alloc _) ⟨wr.heap.size, 0, none⟩ 1 1 [.string x.f0, .int .i64 x.f1] rfl rfl (cell_new2 _ _ _ _) (by intro u hu; simp at hu; rcases hu with rfl | rfl <;> rfl) (by unfold maxLen; omega) (by omega) (by simp; omega) ?_)
          intro va w2 own2 hgrow _ hblk
          have R1a : Hid (w2.ownsRow (w.heap.size + 1) 49 2 va (acc ++ [x]).length (rLink (acc ++ [x]))) := link_snoc own2
          have R2a : Hid (But (w.heap.size + 1) w1 w2) := but_append (HT.out.drewN _) hgrow HQ.out
          have R3a : Hid (∀ q, va.ownBlock = some q → q = w.heap.size + 1 ∨ w1.heap.size ≤ q) := fun q hq => by
            rcases hblk with h | h
            · exact HQ.out q (by rw [← h]; exact hq)
            · rw [h] at hq
              simp only [Option.some.injEq] at hq
              right; omega
          clear own2 hgrow hblk
          have hown2 := R1a.out
          have hsz2 := R2a.out.size
          have hal3 : (acc ++ [x]).length ≤ 1048577 := by simp; omega
          have e0 : w2.cell? ⟨g, k * 2, none⟩ = some (.string Y.f0) := by
            rw [R2a.out.cell (by exact hg2) (by show g ≠ w.heap.size + 1; omega), ← HT.out.cell (by exact hg2) (by show g ≠ w.heap.size + 1; omega)]; exact c0
          have e1 : w2.cell? ⟨g, k * 2 + 1, none⟩ = some (.int .i64 Y.f1) := by
            rw [R2a.out.cell (by exact hg2) (by show g ≠ w.heap.size + 1; omega), ← HT.out.cell (by exact hg2) (by show g ≠ w.heap.size + 1; omega)]; exact c1
          have hal4 : (acc ++ [x]).length ≤ k + 1 := by simp at hal ⊢; omega
          clear hown HT HQ c0 c1 X0 X1 R1a hls hal hal2
          generalize acc ++ [x] = acc2 at hown2 hal3 hal4 HE2
          go_wp2_with (at_builtin; refine wpList_append_own_at _ rfl _ _ 25 rfl (w.heap.size + 1) 49 i0 (.agg #[.string ⟨#[]⟩, .int .i64 0]) 2 24 Tryz.underlying25 hi hz0 hz1 hz2 rfl (by decide) _ _ _ rfl (hown2.alloc _) ⟨w2.heap.size, 0, none⟩ 1 1 [.string Y.f0, .int .i64 Y.f1] rfl rfl (cell_new2 _ _ _ _) (by intro u hu; simp at hu; rcases hu with rfl | rfl <;> rfl) (by unfold maxLen; omega) (by omega) (by simp; omega) ?_)
          intro vb w3 own2 hgrow _ hblk
          have R1b : Hid (w3.ownsRow (w.heap.size + 1) 49 2 vb (acc2 ++ [Y]).length (rLink (acc2 ++ [Y]))) := link_snoc own2
          have R2b : Hid (But (w.heap.size + 1) w1 w3) := but_append (R2a.out) hgrow R3a.out
          have R3b : Hid (∀ q, vb.ownBlock = some q → q = w.heap.size + 1 ∨ w1.heap.size ≤ q) := fun q hq => by
            rcases hblk with h | h
            · exact R3a.out q (by rw [← h]; exact hq)
            · rw [h] at hq
              simp only [Option.some.injEq] at hq
              right; omega
          clear own2 hgrow hblk
          clear hown2 R2a R3a e0 e1
          go_wp2
          go_roundw
          case rel => first | exact ⟨acc2 ++ [Y], true, k + 1, by omega, by simp; omega, rfl, by go_num, R1b, R2b, R3b, HE2⟩ | ((repeat apply Exists.intro); exact ⟨⟨acc2 ++ [Y], true, k + 1, by omega, by simp; omega, rfl, by go_num, R1b, R2b, R3b, HE2⟩, rfl⟩)
          case measure => simp [intOf]; omega
        | false =>
          have HE2 : Hid ((acc ++ [Y]) ++ (if false then M.drop (k + 1) else insF x (M.drop (k + 1))) = insF x M) := by
            have := HE.out
            rw [HD.out] at this
            show _ = _
            simp only [Bool.false_eq_true, if_false, insF_no _ _ _ hless] at this
            simpa using this
          have hls : Op.bytesLess x.f0.toList Y.f0.toList = false := hless
          clear HE HD HO hless
          go_wp2
          go_quiet (fail)
          go_wp2_with (at_builtin; refine wpList_append_own_at _ rfl _ _ 25 rfl (w.heap.size + 1) 49 i0 (.agg #[.string ⟨#[]⟩, .int .i64 0]) 2 24 Tryz.underlying25 hi hz0 hz1 hz2 rfl (by decide) _ _ _ rfl ((ownsRow_drewN4 hown _).alloc _) ⟨wr.heap.size, 0, none⟩ 1 1 [.string Y.f0, .int .i64 Y.f1] rfl rfl (cell_new2 _ _ _ _) (by intro u hu; simp at hu; rcases hu with rfl | rfl <;> rfl) (by unfold maxLen; omega) (by omega) (by simp; omega) ?_)
          intro va w2 own2 hgrow _ hblk
          have R1a : Hid (w2.ownsRow (w.heap.size + 1) 49 2 va (acc ++ [Y]).length (rLink (acc ++ [Y]))) := link_snoc own2
          have R2a : Hid (But (w.heap.size + 1) w1 w2) := but_append (HT.out.drewN _) hgrow HQ.out
          have R3a : Hid (∀ q, va.ownBlock = some q → q = w.heap.size + 1 ∨ w1.heap.size ≤ q) := fun q hq => by
            rcases hblk with h | h
            · exact HQ.out q (by rw [← h]; exact hq)
            · rw [h] at hq
              simp only [Option.some.injEq] at hq
              right; omega
          clear own2 hgrow hblk
          clear hown HT HQ c0 c1 X0 X1 hls
          go_wp2
          go_roundw
          case rel => first | exact ⟨acc ++ [Y], false, k + 1, by omega, by simp at hal ⊢; omega, rfl, by go_num, R1a, R2a, R3a, HE2⟩ | ((repeat apply Exists.intro); exact ⟨⟨acc ++ [Y], false, k + 1, by omega, by simp at hal ⊢; omega, rfl, by go_num, R1a, R2a, R3a, HE2⟩, rfl⟩)
          case measure => simp [intOf]; omega
    · have hke : k = M.length := by omega
      subst hke
      have hown := HO.out
      have HBw : Hid (Below w.heap.size w wr) := HB1.out.trans (HT.out.below (by omega) (by omega))
      cases put with
      | true =>
        have HF : Hid (wr.ownsRow w.heap.size 49 2 u5 (wi x L).length (rLink (wi x L))) := by
          have := HE.out
          simp at this
          show World.ownsRow _ _ _ _ _ _ _
          rw [HI.out, ← this]
          exact own_low hown (by omega)
        clear HE HO hown
        go_wp2
        go_ret
        exact ⟨_, rfl, HF.out, HBw.out⟩
      | false =>
        have hal2 : acc.length ≤ 1048576 := by simp at hal; omega
        have HE2 : Hid (acc ++ [x] = insF x M) := by
          have := HE.out
          show _ = _
          simpa [insF] using this
        clear HE HO
        go_wp2_with (at_builtin; refine wpList_append_own_at _ rfl _ _ 25 rfl (w.heap.size + 1) 49 i0 (.agg #[.string ⟨#[]⟩, .int .i64 0]) 2 24 Tryz.underlying25 hi hz0 hz1 hz2 rfl (by decide) _ _ _ rfl (hown.alloc _) ⟨wr.heap.size, 0, none⟩ 1 1 [.string x.f0, .int .i64 x.f1] rfl rfl (cell_new2 _ _ _ _) (by intro u hu; simp at hu; rcases hu with rfl | rfl <;> rfl) (by unfold maxLen; omega) (by omega) (by simp; omega) ?_)
        intro va w2 own2 hgrow _ hblk
        have R1a : Hid (w2.ownsRow (w.heap.size + 1) 49 2 va (acc ++ [x]).length (rLink (acc ++ [x]))) := link_snoc own2
        have R2a : Hid (But (w.heap.size + 1) w1 w2) := but_append (HT.out) hgrow HQ.out
        have R3a : Hid (∀ q, va.ownBlock = some q → q = w.heap.size + 1 ∨ w1.heap.size ≤ q) := fun q hq => by
          rcases hblk with h | h
          · exact HQ.out q (by rw [← h]; exact hq)
          · rw [h] at hq
            simp only [Option.some.injEq] at hq
            right; omega
        clear own2 hgrow hblk
        have HF : Hid (w2.ownsRow w.heap.size 49 2 va (wi x L).length (rLink (wi x L))) := by
          show World.ownsRow _ _ _ _ _ _ _
          rw [HI.out, ← HE2.out]
          exact own_low R1a.out (by omega)
        have HBw2 : Hid (Below w.heap.size w w2) := HB1.out.trans (R2a.out.below (by omega) (by omega))
        clear hown R1a R2a R3a HE2
        go_wp2
        go_ret
        exact ⟨_, rfl, HF.out, HBw2.out⟩

end Go.Proofs.YtmknplpcpmkhiaaGreat

/- The specification's move that is applied, by its contract. -/
namespace Go.Proofs.YtmknplpcpmkhiaaGreat
open Go.RowKit
set_option linter.unusedVariables false

/-- The place of a name. -/
def at4 (L : List S_Link) (nm : ByteArray) : Int := idx (fun x => decide (x.f0 = nm)) L

/-- The links behind a move, and whether it fits. -/
def ap (L : List S_Link) (m : S_Move) : List S_Link × Bool :=
  if nameB m.f1 = false then (L, false)
  else if m.f0 = 1 ∧ m.f2.size = 0 ∧ at4 L m.f1 < 0 then (wi ⟨m.f1, m.f3⟩ L, true)
  else if m.f0 = 2 ∧ m.f3 = 0 ∧ ¬ at4 L m.f1 < 0 ∧ nameB m.f2 = true ∧ m.f2 ≠ m.f1 then (wi ⟨m.f2, (L[(at4 L m.f1).toNat]?.map (·.f1)).getD 0⟩ (wo m.f1 L), true)
  else if m.f0 = 3 ∧ m.f3 = 0 ∧ m.f2.size = 0 ∧ ¬ at4 L m.f1 < 0 then (wo m.f1 L, true)
  else (L, false)

theorem empty_yes (s : ByteArray) (h : s.size = 0) : s.toList.isEmpty = true := by
  have : s.data.toList = [] := List.eq_nil_of_length_eq_zero (by rw [Array.length_toList]; exact h)
  rw [ByteArray.toList_eq, this]; rfl

theorem empty_no (s : ByteArray) (h : ¬ s.size = 0) : s.toList.isEmpty = false := by
  rw [ByteArray.toList_eq]
  cases e : s.data.toList with
  | nil => exact absurd (by rw [show s.size = s.data.toList.length from (Array.length_toList).symm, e]; rfl) h
  | cons _ _ => rfl

/-- What it hands back. -/
def ApR (L : List S_Link) (m : S_Move) (w : World) (e : Ending) (w' : World) : Prop :=
  ∃ v', e = .returned (.tuple #[v', .bool (ap L m).2]) ∧ RowR w' v' (ap L m).1.length 2 (rLink (ap L m).1) ∧ Below w.heap.size w w'

set_option maxRecDepth 20000 in
set_option maxHeartbeats 2000000 in
theorem ap_bad (v : Value) (L : List S_Link) (m : S_Move) (w : World) (hn : L.length ≤ 1048576) (hs : sMove m) (hr : RowR w v L.length 2 (rLink L)) (h1 : nameB m.f1 = false) :
    Calls Tryz.prog 65 #[v, .agg #[.int .i64 m.f0, .string m.f1, .string m.f2, .int .i64 m.f3]] w (ApR L m w) := by
  have HP : Hid (ap L m = (L, false)) := by
    show _ = _
    unfold ap
    simp [h1]
  have hn' : (L.length : Int) ≤ 1048576 := by omega
  have HB0 : Hid (Below w.heap.size w (w.alloc (.cells #[.int .i64 m.f0, .string m.f1, .string m.f2, .int .i64 m.f3] 51))) := (Below.refl _ _).alloc (Nat.le_refl _) _
  have HR : Hid (RowR (w.alloc (.cells #[.int .i64 m.f0, .string m.f1, .string m.f2, .int .i64 m.f3] 51)) v L.length 2 (rLink L)) := hr.keep HB0.out (Nat.le_refl _)
  have HA : Hid (at4 L m.f1 = idx (fun x => decide (x.f0 = m.f1)) L) := rfl
  have har := idx_range (fun x : S_Link => decide (x.f0 = m.f1)) L
  rw [← HA.out] at har
  obtain ⟨ha1, ha2⟩ := har
  have H1 : Hid (nameB m.f1 = false) := h1
  clear h1
  go_enter Tryz.func65, Tryz.ntmps65
  go_wp2_with fail
  refine (at4_c v L m.f1 _ hn HR.out).mono ?_
  rintro e w1 ⟨rfl, hw⟩
  subst hw
  rw [← HA.out]
  generalize at4 L m.f1 = a at ha1 ha2  ⊢
  go_wp2_with fail
  refine (name_c m.f1 _ hs.1).mono ?_
  rintro e w1 ⟨rfl, hw⟩
  subst hw
  rw [H1.out]
  go_wp2
  go_ret2
  exact ⟨_, by rw [HP.out]; rfl, by rw [HP.out]; exact HR.out, HB0.out⟩

set_option maxRecDepth 20000 in
set_option maxHeartbeats 2000000 in
theorem ap_f1_to (v : Value) (L : List S_Link) (m : S_Move) (w : World) (hn : L.length ≤ 1048576) (hs : sMove m) (hr : RowR w v L.length 2 (rLink L)) (h1 : nameB m.f1 = true) (k0 : m.f0 = 1) (k2 : ¬ m.f2.size = 0) :
    Calls Tryz.prog 65 #[v, .agg #[.int .i64 m.f0, .string m.f1, .string m.f2, .int .i64 m.f3]] w (ApR L m w) := by
  have HP : Hid (ap L m = (L, false)) := by
    show _ = _
    unfold ap
    simp [h1, k0, k2]
  have hn' : (L.length : Int) ≤ 1048576 := by omega
  have HB0 : Hid (Below w.heap.size w (w.alloc (.cells #[.int .i64 m.f0, .string m.f1, .string m.f2, .int .i64 m.f3] 51))) := (Below.refl _ _).alloc (Nat.le_refl _) _
  have HR : Hid (RowR (w.alloc (.cells #[.int .i64 m.f0, .string m.f1, .string m.f2, .int .i64 m.f3] 51)) v L.length 2 (rLink L)) := hr.keep HB0.out (Nat.le_refl _)
  have HA : Hid (at4 L m.f1 = idx (fun x => decide (x.f0 = m.f1)) L) := rfl
  have har := idx_range (fun x : S_Link => decide (x.f0 = m.f1)) L
  rw [← HA.out] at har
  obtain ⟨ha1, ha2⟩ := har
  have e1 : (m.f0 == 1) = true := by rw [k0]; rfl
  have e2 : (m.f0 == 2) = false := by rw [k0]; rfl
  have e3 : (m.f0 == 3) = false := by rw [k0]; rfl
  have q2 := empty_no m.f2 k2
  have H1 : Hid (nameB m.f1 = true) := h1
  clear k0 k2 h1
  go_enter Tryz.func65, Tryz.ntmps65
  go_wp2_with fail
  refine (at4_c v L m.f1 _ hn HR.out).mono ?_
  rintro e w1 ⟨rfl, hw⟩
  subst hw
  rw [← HA.out]
  generalize at4 L m.f1 = a at ha1 ha2  ⊢
  go_wp2_with fail
  refine (name_c m.f1 _ hs.1).mono ?_
  rintro e w1 ⟨rfl, hw⟩
  subst hw
  rw [H1.out]
  go_wp2
  go_ret2
  exact ⟨_, by rw [HP.out]; rfl, by rw [HP.out]; exact HR.out, HB0.out⟩

set_option maxRecDepth 20000 in
set_option maxHeartbeats 2000000 in
theorem ap_f1_at (v : Value) (L : List S_Link) (m : S_Move) (w : World) (hn : L.length ≤ 1048576) (hs : sMove m) (hr : RowR w v L.length 2 (rLink L)) (h1 : nameB m.f1 = true) (k0 : m.f0 = 1) (k2 : m.f2.size = 0) (ka : ¬ at4 L m.f1 < 0) :
    Calls Tryz.prog 65 #[v, .agg #[.int .i64 m.f0, .string m.f1, .string m.f2, .int .i64 m.f3]] w (ApR L m w) := by
  have HP : Hid (ap L m = (L, false)) := by
    show _ = _
    unfold ap
    simp [h1, k0, k2, ka]
  have hn' : (L.length : Int) ≤ 1048576 := by omega
  have HB0 : Hid (Below w.heap.size w (w.alloc (.cells #[.int .i64 m.f0, .string m.f1, .string m.f2, .int .i64 m.f3] 51))) := (Below.refl _ _).alloc (Nat.le_refl _) _
  have HR : Hid (RowR (w.alloc (.cells #[.int .i64 m.f0, .string m.f1, .string m.f2, .int .i64 m.f3] 51)) v L.length 2 (rLink L)) := hr.keep HB0.out (Nat.le_refl _)
  have HA : Hid (at4 L m.f1 = idx (fun x => decide (x.f0 = m.f1)) L) := rfl
  have har := idx_range (fun x : S_Link => decide (x.f0 = m.f1)) L
  rw [← HA.out] at har
  obtain ⟨ha1, ha2⟩ := har
  have e1 : (m.f0 == 1) = true := by rw [k0]; rfl
  have e2 : (m.f0 == 2) = false := by rw [k0]; rfl
  have e3 : (m.f0 == 3) = false := by rw [k0]; rfl
  have q2 := empty_yes m.f2 k2
  have H1 : Hid (nameB m.f1 = true) := h1
  clear k0 k2 h1
  go_enter Tryz.func65, Tryz.ntmps65
  go_wp2_with fail
  refine (at4_c v L m.f1 _ hn HR.out).mono ?_
  rintro e w1 ⟨rfl, hw⟩
  subst hw
  rw [← HA.out]
  generalize at4 L m.f1 = a at ha1 ha2 ka ⊢
  go_wp2_with fail
  refine (name_c m.f1 _ hs.1).mono ?_
  rintro e w1 ⟨rfl, hw⟩
  subst hw
  rw [H1.out]
  go_wp2
  go_ret2
  exact ⟨_, by rw [HP.out]; rfl, by rw [HP.out]; exact HR.out, HB0.out⟩

set_option maxRecDepth 20000 in
set_option maxHeartbeats 2000000 in
theorem ap_f2_id (v : Value) (L : List S_Link) (m : S_Move) (w : World) (hn : L.length ≤ 1048576) (hs : sMove m) (hr : RowR w v L.length 2 (rLink L)) (h1 : nameB m.f1 = true) (k0 : m.f0 = 2) (k3 : ¬ m.f3 = 0) :
    Calls Tryz.prog 65 #[v, .agg #[.int .i64 m.f0, .string m.f1, .string m.f2, .int .i64 m.f3]] w (ApR L m w) := by
  have HP : Hid (ap L m = (L, false)) := by
    show _ = _
    unfold ap
    simp [h1, k0, k3]
  have hn' : (L.length : Int) ≤ 1048576 := by omega
  have HB0 : Hid (Below w.heap.size w (w.alloc (.cells #[.int .i64 m.f0, .string m.f1, .string m.f2, .int .i64 m.f3] 51))) := (Below.refl _ _).alloc (Nat.le_refl _) _
  have HR : Hid (RowR (w.alloc (.cells #[.int .i64 m.f0, .string m.f1, .string m.f2, .int .i64 m.f3] 51)) v L.length 2 (rLink L)) := hr.keep HB0.out (Nat.le_refl _)
  have HA : Hid (at4 L m.f1 = idx (fun x => decide (x.f0 = m.f1)) L) := rfl
  have har := idx_range (fun x : S_Link => decide (x.f0 = m.f1)) L
  rw [← HA.out] at har
  obtain ⟨ha1, ha2⟩ := har
  have e1 : (m.f0 == 1) = false := by rw [k0]; rfl
  have e2 : (m.f0 == 2) = true := by rw [k0]; rfl
  have e3 : (m.f0 == 3) = false := by rw [k0]; rfl
  have q3 : (m.f3 == 0) = false := by simp [k3]
  have H1 : Hid (nameB m.f1 = true) := h1
  clear k0 k3 h1
  go_enter Tryz.func65, Tryz.ntmps65
  go_wp2_with fail
  refine (at4_c v L m.f1 _ hn HR.out).mono ?_
  rintro e w1 ⟨rfl, hw⟩
  subst hw
  rw [← HA.out]
  generalize at4 L m.f1 = a at ha1 ha2  ⊢
  go_wp2_with fail
  refine (name_c m.f1 _ hs.1).mono ?_
  rintro e w1 ⟨rfl, hw⟩
  subst hw
  rw [H1.out]
  go_wp2
  go_ret2
  exact ⟨_, by rw [HP.out]; rfl, by rw [HP.out]; exact HR.out, HB0.out⟩

set_option maxRecDepth 20000 in
set_option maxHeartbeats 2000000 in
theorem ap_f2_at (v : Value) (L : List S_Link) (m : S_Move) (w : World) (hn : L.length ≤ 1048576) (hs : sMove m) (hr : RowR w v L.length 2 (rLink L)) (h1 : nameB m.f1 = true) (k0 : m.f0 = 2) (k3 : m.f3 = 0) (ka : at4 L m.f1 < 0) :
    Calls Tryz.prog 65 #[v, .agg #[.int .i64 m.f0, .string m.f1, .string m.f2, .int .i64 m.f3]] w (ApR L m w) := by
  have HP : Hid (ap L m = (L, false)) := by
    show _ = _
    unfold ap
    simp [h1, k0, k3, ka]
  have hn' : (L.length : Int) ≤ 1048576 := by omega
  have HB0 : Hid (Below w.heap.size w (w.alloc (.cells #[.int .i64 m.f0, .string m.f1, .string m.f2, .int .i64 m.f3] 51))) := (Below.refl _ _).alloc (Nat.le_refl _) _
  have HR : Hid (RowR (w.alloc (.cells #[.int .i64 m.f0, .string m.f1, .string m.f2, .int .i64 m.f3] 51)) v L.length 2 (rLink L)) := hr.keep HB0.out (Nat.le_refl _)
  have HA : Hid (at4 L m.f1 = idx (fun x => decide (x.f0 = m.f1)) L) := rfl
  have har := idx_range (fun x : S_Link => decide (x.f0 = m.f1)) L
  rw [← HA.out] at har
  obtain ⟨ha1, ha2⟩ := har
  have e1 : (m.f0 == 1) = false := by rw [k0]; rfl
  have e2 : (m.f0 == 2) = true := by rw [k0]; rfl
  have e3 : (m.f0 == 3) = false := by rw [k0]; rfl
  have q3 : (m.f3 == 0) = true := by simp [k3]
  have H1 : Hid (nameB m.f1 = true) := h1
  clear k0 k3 h1
  go_enter Tryz.func65, Tryz.ntmps65
  go_wp2_with fail
  refine (at4_c v L m.f1 _ hn HR.out).mono ?_
  rintro e w1 ⟨rfl, hw⟩
  subst hw
  rw [← HA.out]
  generalize at4 L m.f1 = a at ha1 ha2 ka ⊢
  go_wp2_with fail
  refine (name_c m.f1 _ hs.1).mono ?_
  rintro e w1 ⟨rfl, hw⟩
  subst hw
  rw [H1.out]
  go_wp2
  go_ret2
  exact ⟨_, by rw [HP.out]; rfl, by rw [HP.out]; exact HR.out, HB0.out⟩

set_option maxRecDepth 20000 in
set_option maxHeartbeats 2000000 in
theorem ap_f2_name (v : Value) (L : List S_Link) (m : S_Move) (w : World) (hn : L.length ≤ 1048576) (hs : sMove m) (hr : RowR w v L.length 2 (rLink L)) (h1 : nameB m.f1 = true) (k0 : m.f0 = 2) (k3 : m.f3 = 0) (ka : ¬ at4 L m.f1 < 0) (kn : nameB m.f2 = false) :
    Calls Tryz.prog 65 #[v, .agg #[.int .i64 m.f0, .string m.f1, .string m.f2, .int .i64 m.f3]] w (ApR L m w) := by
  have HP : Hid (ap L m = (L, false)) := by
    show _ = _
    unfold ap
    simp [h1, k0, k3, ka, kn]
  have hn' : (L.length : Int) ≤ 1048576 := by omega
  have HB0 : Hid (Below w.heap.size w (w.alloc (.cells #[.int .i64 m.f0, .string m.f1, .string m.f2, .int .i64 m.f3] 51))) := (Below.refl _ _).alloc (Nat.le_refl _) _
  have HR : Hid (RowR (w.alloc (.cells #[.int .i64 m.f0, .string m.f1, .string m.f2, .int .i64 m.f3] 51)) v L.length 2 (rLink L)) := hr.keep HB0.out (Nat.le_refl _)
  have HA : Hid (at4 L m.f1 = idx (fun x => decide (x.f0 = m.f1)) L) := rfl
  have har := idx_range (fun x : S_Link => decide (x.f0 = m.f1)) L
  rw [← HA.out] at har
  obtain ⟨ha1, ha2⟩ := har
  have e1 : (m.f0 == 1) = false := by rw [k0]; rfl
  have e2 : (m.f0 == 2) = true := by rw [k0]; rfl
  have e3 : (m.f0 == 3) = false := by rw [k0]; rfl
  have q3 : (m.f3 == 0) = true := by simp [k3]
  have H1 : Hid (nameB m.f1 = true) := h1
  have HN : Hid (nameB m.f2 = false) := kn
  clear k0 k3 kn h1
  go_enter Tryz.func65, Tryz.ntmps65
  go_wp2_with fail
  refine (at4_c v L m.f1 _ hn HR.out).mono ?_
  rintro e w1 ⟨rfl, hw⟩
  subst hw
  rw [← HA.out]
  generalize at4 L m.f1 = a at ha1 ha2 ka ⊢
  go_wp2_with fail
  refine (name_c m.f1 _ hs.1).mono ?_
  rintro e w1 ⟨rfl, hw⟩
  subst hw
  rw [H1.out]
  go_wp2_with fail
  refine (name_c m.f2 _ hs.2).mono ?_
  rintro e w1 ⟨rfl, hw⟩
  subst hw
  rw [HN.out]
  go_wp2
  go_ret2
  exact ⟨_, by rw [HP.out]; rfl, by rw [HP.out]; exact HR.out, HB0.out⟩

set_option maxRecDepth 20000 in
set_option maxHeartbeats 2000000 in
theorem ap_f2_same (v : Value) (L : List S_Link) (m : S_Move) (w : World) (hn : L.length ≤ 1048576) (hs : sMove m) (hr : RowR w v L.length 2 (rLink L)) (h1 : nameB m.f1 = true) (k0 : m.f0 = 2) (k3 : m.f3 = 0) (ka : ¬ at4 L m.f1 < 0) (kn : nameB m.f2 = true) (ks : m.f2 = m.f1) :
    Calls Tryz.prog 65 #[v, .agg #[.int .i64 m.f0, .string m.f1, .string m.f2, .int .i64 m.f3]] w (ApR L m w) := by
  have HP : Hid (ap L m = (L, false)) := by
    show _ = _
    unfold ap
    simp [h1, k0, k3, ka, ks]
  have hn' : (L.length : Int) ≤ 1048576 := by omega
  have HB0 : Hid (Below w.heap.size w (w.alloc (.cells #[.int .i64 m.f0, .string m.f1, .string m.f2, .int .i64 m.f3] 51))) := (Below.refl _ _).alloc (Nat.le_refl _) _
  have HR : Hid (RowR (w.alloc (.cells #[.int .i64 m.f0, .string m.f1, .string m.f2, .int .i64 m.f3] 51)) v L.length 2 (rLink L)) := hr.keep HB0.out (Nat.le_refl _)
  have HA : Hid (at4 L m.f1 = idx (fun x => decide (x.f0 = m.f1)) L) := rfl
  have har := idx_range (fun x : S_Link => decide (x.f0 = m.f1)) L
  rw [← HA.out] at har
  obtain ⟨ha1, ha2⟩ := har
  have e1 : (m.f0 == 1) = false := by rw [k0]; rfl
  have e2 : (m.f0 == 2) = true := by rw [k0]; rfl
  have e3 : (m.f0 == 3) = false := by rw [k0]; rfl
  have q3 : (m.f3 == 0) = true := by simp [k3]
  have H1 : Hid (nameB m.f1 = true) := h1
  have HN : Hid (nameB m.f2 = true) := kn
  have qs : (m.f2.toList == m.f1.toList) = true := by rw [beq_txt]; simp [ks]
  clear k0 k3 kn ks h1
  go_enter Tryz.func65, Tryz.ntmps65
  go_wp2_with fail
  refine (at4_c v L m.f1 _ hn HR.out).mono ?_
  rintro e w1 ⟨rfl, hw⟩
  subst hw
  rw [← HA.out]
  generalize at4 L m.f1 = a at ha1 ha2 ka ⊢
  go_wp2_with fail
  refine (name_c m.f1 _ hs.1).mono ?_
  rintro e w1 ⟨rfl, hw⟩
  subst hw
  rw [H1.out]
  go_wp2_with fail
  refine (name_c m.f2 _ hs.2).mono ?_
  rintro e w1 ⟨rfl, hw⟩
  subst hw
  rw [HN.out]
  go_wp2
  go_ret2
  exact ⟨_, by rw [HP.out]; rfl, by rw [HP.out]; exact HR.out, HB0.out⟩

set_option maxRecDepth 20000 in
set_option maxHeartbeats 2000000 in
theorem ap_f3_id (v : Value) (L : List S_Link) (m : S_Move) (w : World) (hn : L.length ≤ 1048576) (hs : sMove m) (hr : RowR w v L.length 2 (rLink L)) (h1 : nameB m.f1 = true) (k0 : m.f0 = 3) (k3 : ¬ m.f3 = 0) :
    Calls Tryz.prog 65 #[v, .agg #[.int .i64 m.f0, .string m.f1, .string m.f2, .int .i64 m.f3]] w (ApR L m w) := by
  have HP : Hid (ap L m = (L, false)) := by
    show _ = _
    unfold ap
    simp [h1, k0, k3]
  have hn' : (L.length : Int) ≤ 1048576 := by omega
  have HB0 : Hid (Below w.heap.size w (w.alloc (.cells #[.int .i64 m.f0, .string m.f1, .string m.f2, .int .i64 m.f3] 51))) := (Below.refl _ _).alloc (Nat.le_refl _) _
  have HR : Hid (RowR (w.alloc (.cells #[.int .i64 m.f0, .string m.f1, .string m.f2, .int .i64 m.f3] 51)) v L.length 2 (rLink L)) := hr.keep HB0.out (Nat.le_refl _)
  have HA : Hid (at4 L m.f1 = idx (fun x => decide (x.f0 = m.f1)) L) := rfl
  have har := idx_range (fun x : S_Link => decide (x.f0 = m.f1)) L
  rw [← HA.out] at har
  obtain ⟨ha1, ha2⟩ := har
  have e1 : (m.f0 == 1) = false := by rw [k0]; rfl
  have e2 : (m.f0 == 2) = false := by rw [k0]; rfl
  have e3 : (m.f0 == 3) = true := by rw [k0]; rfl
  have q3 : (m.f3 == 0) = false := by simp [k3]
  have H1 : Hid (nameB m.f1 = true) := h1
  clear k0 k3 h1
  go_enter Tryz.func65, Tryz.ntmps65
  go_wp2_with fail
  refine (at4_c v L m.f1 _ hn HR.out).mono ?_
  rintro e w1 ⟨rfl, hw⟩
  subst hw
  rw [← HA.out]
  generalize at4 L m.f1 = a at ha1 ha2  ⊢
  go_wp2_with fail
  refine (name_c m.f1 _ hs.1).mono ?_
  rintro e w1 ⟨rfl, hw⟩
  subst hw
  rw [H1.out]
  go_wp2
  go_ret2
  exact ⟨_, by rw [HP.out]; rfl, by rw [HP.out]; exact HR.out, HB0.out⟩

set_option maxRecDepth 20000 in
set_option maxHeartbeats 2000000 in
theorem ap_f3_to (v : Value) (L : List S_Link) (m : S_Move) (w : World) (hn : L.length ≤ 1048576) (hs : sMove m) (hr : RowR w v L.length 2 (rLink L)) (h1 : nameB m.f1 = true) (k0 : m.f0 = 3) (k3 : m.f3 = 0) (k2 : ¬ m.f2.size = 0) :
    Calls Tryz.prog 65 #[v, .agg #[.int .i64 m.f0, .string m.f1, .string m.f2, .int .i64 m.f3]] w (ApR L m w) := by
  have HP : Hid (ap L m = (L, false)) := by
    show _ = _
    unfold ap
    simp [h1, k0, k3, k2]
  have hn' : (L.length : Int) ≤ 1048576 := by omega
  have HB0 : Hid (Below w.heap.size w (w.alloc (.cells #[.int .i64 m.f0, .string m.f1, .string m.f2, .int .i64 m.f3] 51))) := (Below.refl _ _).alloc (Nat.le_refl _) _
  have HR : Hid (RowR (w.alloc (.cells #[.int .i64 m.f0, .string m.f1, .string m.f2, .int .i64 m.f3] 51)) v L.length 2 (rLink L)) := hr.keep HB0.out (Nat.le_refl _)
  have HA : Hid (at4 L m.f1 = idx (fun x => decide (x.f0 = m.f1)) L) := rfl
  have har := idx_range (fun x : S_Link => decide (x.f0 = m.f1)) L
  rw [← HA.out] at har
  obtain ⟨ha1, ha2⟩ := har
  have e1 : (m.f0 == 1) = false := by rw [k0]; rfl
  have e2 : (m.f0 == 2) = false := by rw [k0]; rfl
  have e3 : (m.f0 == 3) = true := by rw [k0]; rfl
  have q2 := empty_no m.f2 k2
  have q3 : (m.f3 == 0) = true := by simp [k3]
  have H1 : Hid (nameB m.f1 = true) := h1
  clear k0 k2 k3 h1
  go_enter Tryz.func65, Tryz.ntmps65
  go_wp2_with fail
  refine (at4_c v L m.f1 _ hn HR.out).mono ?_
  rintro e w1 ⟨rfl, hw⟩
  subst hw
  rw [← HA.out]
  generalize at4 L m.f1 = a at ha1 ha2  ⊢
  go_wp2_with fail
  refine (name_c m.f1 _ hs.1).mono ?_
  rintro e w1 ⟨rfl, hw⟩
  subst hw
  rw [H1.out]
  go_wp2
  go_ret2
  exact ⟨_, by rw [HP.out]; rfl, by rw [HP.out]; exact HR.out, HB0.out⟩

set_option maxRecDepth 20000 in
set_option maxHeartbeats 2000000 in
theorem ap_f3_at (v : Value) (L : List S_Link) (m : S_Move) (w : World) (hn : L.length ≤ 1048576) (hs : sMove m) (hr : RowR w v L.length 2 (rLink L)) (h1 : nameB m.f1 = true) (k0 : m.f0 = 3) (k3 : m.f3 = 0) (k2 : m.f2.size = 0) (ka : at4 L m.f1 < 0) :
    Calls Tryz.prog 65 #[v, .agg #[.int .i64 m.f0, .string m.f1, .string m.f2, .int .i64 m.f3]] w (ApR L m w) := by
  have HP : Hid (ap L m = (L, false)) := by
    show _ = _
    unfold ap
    simp [h1, k0, k3, k2, ka]
  have hn' : (L.length : Int) ≤ 1048576 := by omega
  have HB0 : Hid (Below w.heap.size w (w.alloc (.cells #[.int .i64 m.f0, .string m.f1, .string m.f2, .int .i64 m.f3] 51))) := (Below.refl _ _).alloc (Nat.le_refl _) _
  have HR : Hid (RowR (w.alloc (.cells #[.int .i64 m.f0, .string m.f1, .string m.f2, .int .i64 m.f3] 51)) v L.length 2 (rLink L)) := hr.keep HB0.out (Nat.le_refl _)
  have HA : Hid (at4 L m.f1 = idx (fun x => decide (x.f0 = m.f1)) L) := rfl
  have har := idx_range (fun x : S_Link => decide (x.f0 = m.f1)) L
  rw [← HA.out] at har
  obtain ⟨ha1, ha2⟩ := har
  have e1 : (m.f0 == 1) = false := by rw [k0]; rfl
  have e2 : (m.f0 == 2) = false := by rw [k0]; rfl
  have e3 : (m.f0 == 3) = true := by rw [k0]; rfl
  have q2 := empty_yes m.f2 k2
  have q3 : (m.f3 == 0) = true := by simp [k3]
  have H1 : Hid (nameB m.f1 = true) := h1
  clear k0 k2 k3 h1
  go_enter Tryz.func65, Tryz.ntmps65
  go_wp2_with fail
  refine (at4_c v L m.f1 _ hn HR.out).mono ?_
  rintro e w1 ⟨rfl, hw⟩
  subst hw
  rw [← HA.out]
  generalize at4 L m.f1 = a at ha1 ha2 ka ⊢
  go_wp2_with fail
  refine (name_c m.f1 _ hs.1).mono ?_
  rintro e w1 ⟨rfl, hw⟩
  subst hw
  rw [H1.out]
  go_wp2
  go_ret2
  exact ⟨_, by rw [HP.out]; rfl, by rw [HP.out]; exact HR.out, HB0.out⟩

set_option maxRecDepth 20000 in
set_option maxHeartbeats 2000000 in
theorem ap_other (v : Value) (L : List S_Link) (m : S_Move) (w : World) (hn : L.length ≤ 1048576) (hs : sMove m) (hr : RowR w v L.length 2 (rLink L)) (h1 : nameB m.f1 = true) (k0 : ¬ m.f0 = 1) (k02 : ¬ m.f0 = 2) (k03 : ¬ m.f0 = 3) :
    Calls Tryz.prog 65 #[v, .agg #[.int .i64 m.f0, .string m.f1, .string m.f2, .int .i64 m.f3]] w (ApR L m w) := by
  have HP : Hid (ap L m = (L, false)) := by
    show _ = _
    unfold ap
    simp [h1, k0, k02, k03]
  have hn' : (L.length : Int) ≤ 1048576 := by omega
  have HB0 : Hid (Below w.heap.size w (w.alloc (.cells #[.int .i64 m.f0, .string m.f1, .string m.f2, .int .i64 m.f3] 51))) := (Below.refl _ _).alloc (Nat.le_refl _) _
  have HR : Hid (RowR (w.alloc (.cells #[.int .i64 m.f0, .string m.f1, .string m.f2, .int .i64 m.f3] 51)) v L.length 2 (rLink L)) := hr.keep HB0.out (Nat.le_refl _)
  have HA : Hid (at4 L m.f1 = idx (fun x => decide (x.f0 = m.f1)) L) := rfl
  have har := idx_range (fun x : S_Link => decide (x.f0 = m.f1)) L
  rw [← HA.out] at har
  obtain ⟨ha1, ha2⟩ := har
  have e1 : (m.f0 == 1) = false := by simp [k0]
  have e2 : (m.f0 == 2) = false := by simp [k02]
  have e3 : (m.f0 == 3) = false := by simp [k03]
  have H1 : Hid (nameB m.f1 = true) := h1
  clear k0 k02 k03 h1
  go_enter Tryz.func65, Tryz.ntmps65
  go_wp2_with fail
  refine (at4_c v L m.f1 _ hn HR.out).mono ?_
  rintro e w1 ⟨rfl, hw⟩
  subst hw
  rw [← HA.out]
  generalize at4 L m.f1 = a at ha1 ha2  ⊢
  go_wp2_with fail
  refine (name_c m.f1 _ hs.1).mono ?_
  rintro e w1 ⟨rfl, hw⟩
  subst hw
  rw [H1.out]
  go_wp2
  go_ret2
  exact ⟨_, by rw [HP.out]; rfl, by rw [HP.out]; exact HR.out, HB0.out⟩

set_option maxRecDepth 20000 in
set_option maxHeartbeats 2000000 in
theorem ap_make (v : Value) (L : List S_Link) (m : S_Move) (w : World) (hn : L.length ≤ 1048576) (hs : sMove m) (hr : RowR w v L.length 2 (rLink L)) (h1 : nameB m.f1 = true) (k0 : m.f0 = 1) (k2 : m.f2.size = 0) (ka : at4 L m.f1 < 0) :
    Calls Tryz.prog 65 #[v, .agg #[.int .i64 m.f0, .string m.f1, .string m.f2, .int .i64 m.f3]] w (ApR L m w) := by
  have HP : Hid (ap L m = (wi ⟨m.f1, m.f3⟩ L, true)) := by
    show _ = _
    unfold ap
    simp [h1, k0, k2, ka]
  have hn' : (L.length : Int) ≤ 1048576 := by omega
  have HB0 : Hid (Below w.heap.size w (w.alloc (.cells #[.int .i64 m.f0, .string m.f1, .string m.f2, .int .i64 m.f3] 51))) := (Below.refl _ _).alloc (Nat.le_refl _) _
  have HR : Hid (RowR (w.alloc (.cells #[.int .i64 m.f0, .string m.f1, .string m.f2, .int .i64 m.f3] 51)) v L.length 2 (rLink L)) := hr.keep HB0.out (Nat.le_refl _)
  have HA : Hid (at4 L m.f1 = idx (fun x => decide (x.f0 = m.f1)) L) := rfl
  have har := idx_range (fun x : S_Link => decide (x.f0 = m.f1)) L
  rw [← HA.out] at har
  obtain ⟨ha1, ha2⟩ := har
  have e1 : (m.f0 == 1) = true := by rw [k0]; rfl
  have e2 : (m.f0 == 2) = false := by rw [k0]; rfl
  have e3 : (m.f0 == 3) = false := by rw [k0]; rfl
  have q2 := empty_yes m.f2 k2
  have H1 : Hid (nameB m.f1 = true) := h1
  clear k0 k2 h1
  go_enter Tryz.func65, Tryz.ntmps65
  go_wp2_with fail
  refine (at4_c v L m.f1 _ hn HR.out).mono ?_
  rintro e w1 ⟨rfl, hw⟩
  subst hw
  rw [← HA.out]
  generalize at4 L m.f1 = a at ha1 ha2 ka ⊢
  go_wp2_with fail
  refine (name_c m.f1 _ hs.1).mono ?_
  rintro e w1 ⟨rfl, hw⟩
  subst hw
  rw [H1.out]
  go_wp2_with fail
  refine (with_c v L ⟨m.f1, m.f3⟩ _ hn HR.out).mono ?_
  rintro e w2 ⟨u, rfl, own, b2⟩
  have HO : Hid (RowR w2 u (wi ⟨m.f1, m.f3⟩ L).length 2 (rLink (wi ⟨m.f1, m.f3⟩ L))) := RowR.own own
  have HB : Hid (Below w.heap.size w w2) := HB0.out.trans (b2.mono HB0.out.size)
  clear own b2
  go_wp2
  go_ret2
  exact ⟨_, by rw [HP.out]; rfl, by rw [HP.out]; exact HO.out, HB.out⟩

set_option maxRecDepth 20000 in
set_option maxHeartbeats 2000000 in
theorem ap_drop (v : Value) (L : List S_Link) (m : S_Move) (w : World) (hn : L.length ≤ 1048576) (hs : sMove m) (hr : RowR w v L.length 2 (rLink L)) (h1 : nameB m.f1 = true) (k0 : m.f0 = 3) (k3 : m.f3 = 0) (k2 : m.f2.size = 0) (ka : ¬ at4 L m.f1 < 0) :
    Calls Tryz.prog 65 #[v, .agg #[.int .i64 m.f0, .string m.f1, .string m.f2, .int .i64 m.f3]] w (ApR L m w) := by
  have HP : Hid (ap L m = (wo m.f1 L, true)) := by
    show _ = _
    unfold ap
    simp [h1, k0, k3, k2, ka]
  have hn' : (L.length : Int) ≤ 1048576 := by omega
  have HB0 : Hid (Below w.heap.size w (w.alloc (.cells #[.int .i64 m.f0, .string m.f1, .string m.f2, .int .i64 m.f3] 51))) := (Below.refl _ _).alloc (Nat.le_refl _) _
  have HR : Hid (RowR (w.alloc (.cells #[.int .i64 m.f0, .string m.f1, .string m.f2, .int .i64 m.f3] 51)) v L.length 2 (rLink L)) := hr.keep HB0.out (Nat.le_refl _)
  have HA : Hid (at4 L m.f1 = idx (fun x => decide (x.f0 = m.f1)) L) := rfl
  have har := idx_range (fun x : S_Link => decide (x.f0 = m.f1)) L
  rw [← HA.out] at har
  obtain ⟨ha1, ha2⟩ := har
  have e1 : (m.f0 == 1) = false := by rw [k0]; rfl
  have e2 : (m.f0 == 2) = false := by rw [k0]; rfl
  have e3 : (m.f0 == 3) = true := by rw [k0]; rfl
  have q2 := empty_yes m.f2 k2
  have q3 : (m.f3 == 0) = true := by simp [k3]
  have H1 : Hid (nameB m.f1 = true) := h1
  clear k0 k2 k3 h1
  go_enter Tryz.func65, Tryz.ntmps65
  go_wp2_with fail
  refine (at4_c v L m.f1 _ hn HR.out).mono ?_
  rintro e w1 ⟨rfl, hw⟩
  subst hw
  rw [← HA.out]
  generalize at4 L m.f1 = a at ha1 ha2 ka ⊢
  go_wp2_with fail
  refine (name_c m.f1 _ hs.1).mono ?_
  rintro e w1 ⟨rfl, hw⟩
  subst hw
  rw [H1.out]
  go_wp2_with fail
  refine (without_c v L m.f1 _ hn HR.out).mono ?_
  rintro e w2 ⟨u, rfl, own, b2⟩
  have HO : Hid (RowR w2 u (wo m.f1 L).length 2 (rLink (wo m.f1 L))) := RowR.own own
  have HB : Hid (Below w.heap.size w w2) := HB0.out.trans (b2.mono HB0.out.size)
  clear own b2
  go_wp2
  go_ret2
  exact ⟨_, by rw [HP.out]; rfl, by rw [HP.out]; exact HO.out, HB.out⟩

end Go.Proofs.YtmknplpcpmkhiaaGreat
