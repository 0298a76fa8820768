/- The specification's small functions over links, moves and inodes, by contracts. -/
import Derived.Test.YtoecakjjondeeaaGreatDkMath
import Derived.Test.YtoecakjjondeeaaGreatHaDisk2
namespace Go.Proofs.YtoecakjjondeeaaGreat
open Go.RowKit
set_option linter.unusedVariables false

theorem in_yes (n a b : Int) (w : World) (h1 : a ≤ n) (h2 : n ≤ b) : Calls Tryz.prog 71 #[.int .i64 n, .int .i64 a, .int .i64 b] w fun e w' => e = .returned (.bool true) ∧ w' = w := by
  go_enter Tryz.func71, Tryz.ntmps71
  go_wp2
  go_ret
  exact ⟨rfl, rfl⟩

theorem in_no (n a b : Int) (w : World) (h : n < a ∨ b < n) : Calls Tryz.prog 71 #[.int .i64 n, .int .i64 a, .int .i64 b] w fun e w' => e = .returned (.bool false) ∧ w' = w := by
  by_cases h1 : n < a
  · have h1' : ¬ a ≤ n := by omega
    clear h
    go_enter Tryz.func71, Tryz.ntmps71
    go_wp2
    go_ret
    exact ⟨rfl, rfl⟩
  · have h2 : ¬ n ≤ b := by omega
    have h1' : a ≤ n := by omega
    clear h h1
    go_enter Tryz.func71, Tryz.ntmps71
    go_wp2
    go_ret
    exact ⟨rfl, rfl⟩

set_option maxRecDepth 20000 in
set_option maxHeartbeats 2000000 in
theorem name_c (s : ByteArray) (w : World) (hm : s.size ≤ maxLen) : Calls Tryz.prog 75 #[.string s] w fun e w' => e = .returned (.bool (nameB s)) ∧ w' = w := by
  unfold maxLen at hm
  by_cases hl : 1 ≤ s.size ∧ s.size ≤ 12
  · have hl1 : (1 : Int) ≤ s.size := by omega
    have hl2 : (s.size : Int) ≤ 12 := by omega
    have HL : Hid (1 ≤ s.size ∧ s.size ≤ 12) := hl
    clear hl
    go_enter Tryz.func75, Tryz.ntmps75
    go_wp2_with fail
    refine (in_yes (s.size : Int) 1 12 _ hl1 hl2).mono ?_
    rintro e w1 ⟨rfl, rfl⟩
    go_wp2
    go_loop [3] (fun i => ∃ k : Nat, k ≤ s.size ∧ i = .int .i64 (k : Int) ∧ Hid (∀ j (hj : j < s.size), j < k → nb s[j] = true)) (fun i => s.size - (intOf i).toNat)
    case atStart => exact ⟨0, Nat.zero_le _, rfl, fun j hj h => by omega⟩
    case round =>
      obtain ⟨k, hk, rfl, HA⟩ := hrel
      by_cases hlt : k < s.size
      · have hlt' : (k : Int) < s.size := by omega
        have HB : Hid (nb s[k] = false → nameB s = false) := fun h => name_bad k hlt h
        have HN : Hid (nb s[k] = true → ∀ j (hj : j < s.size), j < k + 1 → nb s[j] = true) := fun h j hj hjk => by
          by_cases e : j = k
          · subst e; exact h
          · exact HA.out j hj (by omega)
        have HX : Hid (nb s[k] = ((decide (97 ≤ (s[k]).toNat) && decide ((s[k]).toNat ≤ 122)) || (decide (48 ≤ (s[k]).toNat) && decide ((s[k]).toNat ≤ 57)) || decide ((s[k]).toNat = 46))) := rfl
        clear HA
        obtain ⟨C, hC⟩ : ∃ C : Int, ((s[k]).toNat : Int) = C := ⟨_, rfl⟩
        by_cases ha : 97 ≤ C
        · by_cases hb : C ≤ 122
          · have HT : Hid (nb s[k] = true) := by show _ = _; rw [HX.out]; simp; omega
            have HN2 : Hid (∀ j (hj : j < s.size), j < k + 1 → nb s[j] = true) := HN.out HT.out
            clear HX HB HN HT
            go_wp2
            go_round
            case rel => exact ⟨k + 1, by omega, by go_num, HN2⟩
            case measure => simp [intOf]; omega
          · have h48 : 48 ≤ C := by omega
            have h57 : ¬ C ≤ 57 := by omega
            have h46 : (C == 46) = false := by simp; omega
            have HT : Hid (nb s[k] = false) := by show _ = _; rw [HX.out]; simp; omega
            have HF : Hid (nameB s = false) := HB.out HT.out
            clear HX HB HN HT
            go_wp2
            go_ret
            exact ⟨by rw [HF.out]; rfl, rfl⟩
        · by_cases hb : 48 ≤ C
          · by_cases hc : C ≤ 57
            · have HT : Hid (nb s[k] = true) := by show _ = _; rw [HX.out]; simp; omega
              have HN2 : Hid (∀ j (hj : j < s.size), j < k + 1 → nb s[j] = true) := HN.out HT.out
              clear HX HB HN HT
              go_wp2
              go_round
              case rel => exact ⟨k + 1, by omega, by go_num, HN2⟩
              case measure => simp [intOf]; omega
            · have h46 : (C == 46) = false := by simp; omega
              have HT : Hid (nb s[k] = false) := by show _ = _; rw [HX.out]; simp; omega
              have HF : Hid (nameB s = false) := HB.out HT.out
              clear HX HB HN HT
              go_wp2
              go_ret
              exact ⟨by rw [HF.out]; rfl, rfl⟩
          · by_cases hc : C = 46
            · have h46 : (C == 46) = true := by simp [hc]
              have HT : Hid (nb s[k] = true) := by show _ = _; rw [HX.out]; simp; omega
              have HN2 : Hid (∀ j (hj : j < s.size), j < k + 1 → nb s[j] = true) := HN.out HT.out
              clear HX HB HN HT
              go_wp2
              go_round
              case rel => exact ⟨k + 1, by omega, by go_num, HN2⟩
              case measure => simp [intOf]; omega
            · have h46 : (C == 46) = false := by simp [hc]
              have HT : Hid (nb s[k] = false) := by show _ = _; rw [HX.out]; simp; omega
              have HF : Hid (nameB s = false) := HB.out HT.out
              clear HX HB HN HT
              go_wp2
              go_ret
              exact ⟨by rw [HF.out]; rfl, rfl⟩
      · have hke : k = s.size := by omega
        have HF : Hid (nameB s = true) := name_good HL.out (fun j hj => HA.out j hj (by omega))
        subst hke
        go_wp2
        go_ret
        exact ⟨by rw [HF.out]; rfl, rfl⟩
  · have H : Hid ((s.size : Int) < 1 ∨ 12 < (s.size : Int)) := by show _ ∨ _; omega
    have HF : Hid (nameB s = false) := name_long hl
    clear hl
    go_enter Tryz.func75, Tryz.ntmps75
    go_wp2_with fail
    refine (in_no (s.size : Int) 1 12 _ H.out).mono ?_
    rintro e w1 ⟨rfl, rfl⟩
    go_wp2
    go_ret
    exact ⟨by rw [HF.out]; rfl, rfl⟩

theorem link_cells {w : World} {v : Value} {L : List S_Link} (h : RowR w v L.length 2 (rLink L)) (hl : 0 < L.length) :
    ∃ b off cap, v = .slice (some ⟨b, off, none⟩) L.length cap ∧ b < w.heap.size ∧ ∀ k (hk : k < L.length), w.cell? ⟨b, off + k * 2, none⟩ = some (.string L[k].f0) ∧ w.cell? ⟨b, off + k * 2 + 1, none⟩ = some (.int .i64 L[k].f1) := by
  obtain ⟨b, off, cap, hv, hb, hc⟩ := h.some hl (by decide)
  refine ⟨b, off, cap, hv, hb, fun k hk => ?_⟩
  have c : ∀ q, q < 2 → w.cell? ⟨b, off + (k * 2 + q), none⟩ = (cLink L[k])[q]? := fun q hq => by
    rw [hc (k * 2 + q) (by omega)]
    exact flat_at cLink 2 cLink_len L k q hk hq
  exact ⟨by have := c 0 (by decide); rw [← Nat.add_assoc] at this; exact this, by have := c 1 (by decide); rw [← Nat.add_assoc] at this; exact this⟩

set_option maxRecDepth 20000 in
set_option maxHeartbeats 1000000 in
theorem at4_c (v : Value) (L : List S_Link) (nm : ByteArray) (w : World) (hn : L.length ≤ 1048576) (hr : RowR w v L.length 2 (rLink L)) :
    Calls Tryz.prog 125 #[v, .string nm] w fun e w' => e = .returned (.int .i64 (idx (fun x => decide (x.f0 = nm)) L)) ∧ w' = w := by
  have hn' : (L.length : Int) ≤ 1048576 := by omega
  obtain ⟨p, cap, hv⟩ : ∃ p cap, v = .slice p L.length cap := by obtain ⟨_, p, cap, hv, _⟩ := hr; exact ⟨p, cap, hv⟩
  subst hv
  have HR : Hid (RowR w (.slice p L.length cap) L.length 2 (rLink L)) := hr
  clear hr
  go_enter Tryz.func125, Tryz.ntmps125
  go_wp2
  go_loop [5] (fun i => ∃ k : Nat, k ≤ L.length ∧ i = .int .i64 (k : Int) ∧ Hid (∀ j (hj : j < L.length), j < k → decide (L[j].f0 = nm) = false)) (fun i => L.length - (intOf i).toNat)
  case atStart => exact ⟨0, Nat.zero_le _, rfl, fun j hj h => by omega⟩
  case round =>
    obtain ⟨k, hk, rfl, HA⟩ := hrel
    by_cases hlt : k < L.length
    · have hlt' : (k : Int) < L.length := by omega
      obtain ⟨b, off, cap', hv, hb, hc⟩ := link_cells HR.out (by omega)
      simp only [Value.slice.injEq, true_and] at hv
      obtain ⟨rfl, rfl⟩ := hv
      obtain ⟨c0, _⟩ := hc k hlt
      clear hc
      by_cases he : L[k].f0 = nm
      · have HF : Hid (idx (fun x : S_Link => decide (x.f0 = nm)) L = k) := idx_hit _ L k hlt (fun j hj => HA.out j (by omega) hj) (by simp [he])
        rw [he] at c0
        clear he HA
        go_wp2
        go_ret
        exact ⟨by rw [HF.out]; rfl, rfl⟩
      · have HN : Hid (∀ j (hj : j < L.length), j < k + 1 → decide (L[j].f0 = nm) = false) := fun j hj hjk => by
          by_cases e : j = k
          · subst e; simp [he]
          · exact HA.out j hj (by omega)
        have hq : ((L[k].f0).toList == nm.toList) = false := by rw [beq_txt]; simp [he]
        clear he HA
        generalize L[k].f0 = Y at c0 hq
        go_wp2
        go_round
        case rel => exact ⟨k + 1, by omega, by go_num, HN⟩
        case measure => simp [intOf]; omega
    · have hke : k = L.length := by omega
      subst hke
      have HF : Hid (idx (fun x : S_Link => decide (x.f0 = nm)) L = -1) := idx_miss _ L (fun j hj => HA.out j hj hj)
      go_wp2
      go_ret
      exact ⟨by rw [HF.out]; rfl, rfl⟩

set_option maxRecDepth 20000 in
set_option maxHeartbeats 1000000 in
theorem linked_c (v : Value) (L : List S_Link) (id : Int) (w : World) (hn : L.length ≤ 1048576) (hr : RowR w v L.length 2 (rLink L)) :
    Calls Tryz.prog 73 #[v, .int .i64 id] w fun e w' => e = .returned (.bool (L.any fun x => decide (x.f1 = id))) ∧ w' = w := by
  have hn' : (L.length : Int) ≤ 1048576 := by omega
  obtain ⟨p, cap, hv⟩ : ∃ p cap, v = .slice p L.length cap := by obtain ⟨_, p, cap, hv, _⟩ := hr; exact ⟨p, cap, hv⟩
  subst hv
  have HR : Hid (RowR w (.slice p L.length cap) L.length 2 (rLink L)) := hr
  clear hr
  go_enter Tryz.func73, Tryz.ntmps73
  go_wp2
  go_loop [5] (fun i => ∃ k : Nat, k ≤ L.length ∧ i = .int .i64 (k : Int) ∧ Hid (∀ j (hj : j < L.length), j < k → decide (L[j].f1 = id) = false)) (fun i => L.length - (intOf i).toNat)
  case atStart => exact ⟨0, Nat.zero_le _, rfl, fun j hj h => by omega⟩
  case round =>
    obtain ⟨k, hk, rfl, HA⟩ := hrel
    by_cases hlt : k < L.length
    · have hlt' : (k : Int) < L.length := by omega
      obtain ⟨b, off, cap', hv, hb, hc⟩ := link_cells HR.out (by omega)
      simp only [Value.slice.injEq, true_and] at hv
      obtain ⟨rfl, rfl⟩ := hv
      obtain ⟨_, c1⟩ := hc k hlt
      clear hc
      by_cases he : L[k].f1 = id
      · have HF : Hid ((L.any fun x => decide (x.f1 = id)) = true) := any_hit _ L k hlt (by simp [he])
        rw [he] at c1
        clear he HA
        go_wp2
        go_ret
        exact ⟨by rw [HF.out]; rfl, rfl⟩
      · have HN : Hid (∀ j (hj : j < L.length), j < k + 1 → decide (L[j].f1 = id) = false) := fun j hj hjk => by
          by_cases e : j = k
          · subst e; simp [he]
          · exact HA.out j hj (by omega)
        have hq : (L[k].f1 == id) = false := by simp [he]
        clear he HA
        generalize L[k].f1 = Y at c1 hq
        go_wp2
        go_round
        case rel => exact ⟨k + 1, by omega, by go_num, HN⟩
        case measure => simp [intOf]; omega
    · have hke : k = L.length := by omega
      subst hke
      have HF : Hid ((L.any fun x => decide (x.f1 = id)) = false) := any_miss _ L (fun j hj => HA.out j hj hj)
      go_wp2
      go_ret
      exact ⟨by rw [HF.out]; rfl, rfl⟩

end Go.Proofs.YtoecakjjondeeaaGreat
