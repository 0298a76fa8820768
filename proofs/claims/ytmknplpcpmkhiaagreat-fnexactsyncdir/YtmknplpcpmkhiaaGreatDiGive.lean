/- The program's own disk: names; who has had a name; maps and rows that are copied. -/
import Derived.Test.YtmknplpcpmkhiaaGreatDiWalk
import Derived.Shelf.SlMaps.Clone
namespace Go.Proofs.YtmknplpcpmkhiaaGreat
open Go.RowKit Go.Maps
set_option linter.unusedVariables false

set_option maxRecDepth 20000 in
set_option maxHeartbeats 2000000 in
theorem isName_c (s : ByteArray) (w : World) (hm : s.size ≤ maxLen) : Calls Tryz.prog 88 #[.string s] w fun e w' => e = .returned (.bool (nameB s)) ∧ w' = w := by
  unfold maxLen at hm
  by_cases hl : 1 ≤ s.size ∧ s.size ≤ 12
  · have hl1 : (1 : Int) ≤ s.size := by omega
    have hl2 : (s.size : Int) ≤ 12 := by omega
    have HL : Hid (1 ≤ s.size ∧ s.size ≤ 12) := hl
    have hl3 : ¬ (s.size : Int) < 1 := by omega
    have hl4 : ¬ (12 : Int) < s.size := by omega
    clear hl
    go_enter Tryz.func88, Tryz.ntmps88
    go_wp2
    go_loop [15] (fun i => ∃ k : Nat, k ≤ s.size ∧ i = .int .i64 (k : Int) ∧ Hid (∀ j (hj : j < s.size), j < k → nb s[j] = true)) (fun i => s.size - (intOf i).toNat)
    case atStart => exact ⟨0, Nat.zero_le _, rfl, fun j hj h => by omega⟩
    case round =>
      obtain ⟨k, hk, rfl, HA⟩ := hrel
      by_cases hlt : k < s.size
      · have hlt' : (k : Int) < s.size := by omega
        have HB : Hid (nb s[k] = false → nameB s = false) := fun h => name_bad k hlt h
        have HN : Hid (nb s[k] = true → ∀ j (hj : j < s.size), j < k + 1 → nb s[j] = true) := fun h j hj hjk => by
          by_cases e : j = k
          · subst e; exact h
          · exact HA.out j hj (by omega)
        have HX : Hid (nb s[k] = ((decide (97 ≤ (s[k]).toNat) && decide ((s[k]).toNat ≤ 122)) || (decide (48 ≤ (s[k]).toNat) && decide ((s[k]).toNat ≤ 57)) || decide ((s[k]).toNat = 46))) := rfl
        clear HA
        obtain ⟨C, hC⟩ : ∃ C : Int, ((s[k]).toNat : Int) = C := ⟨_, rfl⟩
        by_cases ha : 97 ≤ C
        · by_cases hb : C ≤ 122
          · have HT : Hid (nb s[k] = true) := by show _ = _; rw [HX.out]; simp; omega
            have HN2 : Hid (∀ j (hj : j < s.size), j < k + 1 → nb s[j] = true) := HN.out HT.out
            clear HX HB HN HT
            go_wp2
            go_round
            case rel => exact ⟨k + 1, by omega, by go_num, HN2⟩
            case measure => simp [intOf]; omega
          · have h48 : 48 ≤ C := by omega
            have h57 : ¬ C ≤ 57 := by omega
            have h46 : (C == 46) = false := by simp; omega
            have HT : Hid (nb s[k] = false) := by show _ = _; rw [HX.out]; simp; omega
            have HF : Hid (nameB s = false) := HB.out HT.out
            clear HX HB HN HT
            go_wp2
            go_ret
            exact ⟨by rw [HF.out]; rfl, rfl⟩
        · by_cases hb : 48 ≤ C
          · by_cases hc : C ≤ 57
            · have HT : Hid (nb s[k] = true) := by show _ = _; rw [HX.out]; simp; omega
              have HN2 : Hid (∀ j (hj : j < s.size), j < k + 1 → nb s[j] = true) := HN.out HT.out
              clear HX HB HN HT
              go_wp2
              go_round
              case rel => exact ⟨k + 1, by omega, by go_num, HN2⟩
              case measure => simp [intOf]; omega
            · have h46 : (C == 46) = false := by simp; omega
              have HT : Hid (nb s[k] = false) := by show _ = _; rw [HX.out]; simp; omega
              have HF : Hid (nameB s = false) := HB.out HT.out
              clear HX HB HN HT
              go_wp2
              go_ret
              exact ⟨by rw [HF.out]; rfl, rfl⟩
          · by_cases hc : C = 46
            · have h46 : (C == 46) = true := by simp [hc]
              have HT : Hid (nb s[k] = true) := by show _ = _; rw [HX.out]; simp; omega
              have HN2 : Hid (∀ j (hj : j < s.size), j < k + 1 → nb s[j] = true) := HN.out HT.out
              clear HX HB HN HT
              go_wp2
              go_round
              case rel => exact ⟨k + 1, by omega, by go_num, HN2⟩
              case measure => simp [intOf]; omega
            · have h46 : (C == 46) = false := by simp [hc]
              have HT : Hid (nb s[k] = false) := by show _ = _; rw [HX.out]; simp; omega
              have HF : Hid (nameB s = false) := HB.out HT.out
              clear HX HB HN HT
              go_wp2
              go_ret
              exact ⟨by rw [HF.out]; rfl, rfl⟩
      · have hke : k = s.size := by omega
        have HF : Hid (nameB s = true) := name_good HL.out (fun j hj => HA.out j hj (by omega))
        subst hke
        go_wp2
        go_ret
        exact ⟨by rw [HF.out]; rfl, rfl⟩
  · have HF : Hid (nameB s = false) := name_long hl
    by_cases h1 : (s.size : Int) < 1
    · clear hl
      go_enter Tryz.func88, Tryz.ntmps88
      go_wp2
      go_ret
      exact ⟨by rw [HF.out]; rfl, rfl⟩
    · have h2 : (12 : Int) < s.size := by omega
      clear hl
      go_enter Tryz.func88, Tryz.ntmps88
      go_wp2
      go_ret
      exact ⟨by rw [HF.out]; rfl, rfl⟩

theorem fObj_set {w : World} {b : Nat} {x : S_Inode} {h : Bool} (hb : w.heap[b]? = some (fObj x h)) (u : Bool) : (w.setCell ⟨b, 2, none⟩ (.bool u)).heap[b]? = some (fObj x u) := by
  have hlt := lt_of_some hb
  obtain ⟨_, he⟩ := Array.getElem?_eq_some_iff.1 hb
  simp [World.setCell, Array.getElem?_modify, hb, fObj]

theorem apart_inj : ∀ {fs : List (S_Inode × Nat)}, (fs.map (·.2)).Nodup → ∀ {p q : S_Inode × Nat}, p ∈ fs → q ∈ fs → p.2 = q.2 → p = q
  | [], _, _, _, hp, _, _ => by simp at hp
  | a :: r, hn, p, q, hp, hq, he => by
    simp only [List.map_cons, List.nodup_cons, List.mem_map, not_exists, not_and] at hn
    rcases List.mem_cons.1 hp with ep | hp'
    · rcases List.mem_cons.1 hq with eq | hq'
      · rw [ep, eq]
      · exact absurd (he.symm.trans (by rw [ep])) (hn.1 q hq')
    · rcases List.mem_cons.1 hq with eq | hq'
      · exact absurd (he.trans (by rw [eq])) (hn.1 p hp')
      · exact apart_inj hn.2 hp' hq' he

/-- Is there a file of this number? -/
def hasF (fs : List (S_Inode × Nat)) (i : Int) : Bool := fs.any fun p => decide (p.1.f0 = i)

/-- Those whose blocks the files are. -/
def ofF (fs : List (S_Inode × Nat)) (k : Nat) : Prop := ∃ p ∈ fs, p.2 = k

def GiR (B bf : Nat) (fs : List (S_Inode × Nat)) (h : Int → Bool) (i : Int) (w : World) (e : Ending) (w' : World) : Prop :=
  ((hasF fs i && !h i) = true ∧ e = .returned (.bool true) ∧ Fls B w' bf fs (fun j => h j || decide (j = i)) ∧ Fr (ofF fs) w w') ∨ ((hasF fs i && !h i) = false ∧ e = .returned (.bool false) ∧ w' = w)

set_option maxRecDepth 20000 in
set_option maxHeartbeats 1000000 in
theorem give_c (B m : Nat) (room next : Int) (bf bd : Nat) (vn vm : Value) (fs : List (S_Inode × Nat)) (h : Int → Bool) (i : Int) (w : World) (hm : w.heap[m]? = some (mObj room next bf bd vn vm)) (F : Fls B w bf fs h) (hi : (Lit.int .i64 i).wf = true) :
    Calls Tryz.prog 106 #[.pointer (some ⟨m, 0, none⟩), .int .i64 i] w (GiR B bf fs h i w) := by
  obtain ⟨_, _, cf, _⟩ := mount_cell hm
  obtain ⟨v, ps, hrun, hv⟩ := F.own.look_ok kInt Tryz.underlying93 (zeroPtr w) ptrElem_nil (keyOf_int_mk Tryz.underlying3 hi)
  rw [has_encF] at hrun
  rw [at_encF] at hv
  cases hh : hasF fs i
  · have hh' : (fs.any fun p => decide (p.1.f0 = i)) = false := hh
    rw [hh'] at hrun
    have hf : fs.find? (fun p => decide (p.1.f0 = i)) = none := by
      rw [List.find?_eq_none]
      intro p hp
      have := (List.any_eq_false.1 hh') p hp
      exact this
    rw [hf] at hv
    have hv' : v = .pointer none := by
      unfold ptrElem at hv
      split at hv <;> simp at hv
      rfl
    subst hv'
    have HP : Hid ((hasF fs i && !h i) = false) := by show _ = _; rw [hh]; rfl
    clear hv hf hh hh' F
    go_enter Tryz.func106, Tryz.ntmps106
    go_wp2
    go_ret
    exact .inr ⟨HP.out, rfl, rfl⟩
  · have hh' : (fs.any fun p => decide (p.1.f0 = i)) = true := hh
    rw [hh'] at hrun
    obtain ⟨p, hp, hpi⟩ := List.any_eq_true.1 hh'
    have hpi' : p.1.f0 = i := by simpa using hpi
    subst hpi'
    rw [find_of_mem F.ris hp] at hv
    have hv' := ptrElem_blk hv
    subst hv'
    have hb := F.blk p hp
    obtain ⟨_, _, c2⟩ := file_cell hb
    have f2 := file_frozen hb 2
    cases h0 : h p.1.f0
    · rw [h0] at c2
      have HP : Hid ((hasF fs p.1.f0 && !h p.1.f0) = true) := by show _ = _; rw [hh, h0]; rfl
      have HF : Hid (Fls B w bf fs h) := F
      have HB : Hid (w.heap[p.2]? = some (fObj p.1 (h p.1.f0))) := hb
      have HM : Hid (p ∈ fs) := hp
      clear hv hh hh' F hp hpi hb h0
      go_enter Tryz.func106, Tryz.ntmps106
      go_wp2
      go_ret
      have hF := HF.out
      have hfr : Fr (fun k => k = p.2) w (w.setCell ⟨p.2, 2, none⟩ (.bool true)) := (Fr.refl _ _).setCell _ (Or.inl rfl)
      have hnb : bf ≠ p.2 := fun e => map_ne hF.own HB.out e.symm
      refine .inl ⟨HP.out, rfl, ⟨hfr.map hF.own hnb, fun q hq => ?_, hF.low, hF.apart, hF.ris, hF.wf⟩, hfr.mono (fun k hk => ⟨p, HM.out, hk.symm⟩)⟩
      by_cases e : q = p
      · subst e
        have := fObj_set HB.out true
        simpa using this
      · have hne : q.2 ≠ p.2 := fun e2 => e (apart_inj hF.apart hq HM.out e2)
        have hid : q.1.f0 ≠ p.1.f0 := fun e2 => by
          have h1 := find_of_mem hF.ris hq
          rw [e2, find_of_mem hF.ris HM.out] at h1
          exact e (Option.some.inj h1).symm
        have := hfr.at (hF.blk q hq) hne
        simpa [hid] using this
    · rw [h0] at c2
      have HP : Hid ((hasF fs p.1.f0 && !h p.1.f0) = false) := by show _ = _; rw [hh, h0]; rfl
      clear hv hh hh' F hp hpi hb h0
      go_enter Tryz.func106, Tryz.ntmps106
      go_wp2
      go_ret
      exact .inr ⟨HP.out, rfl, rfl⟩

end Go.Proofs.YtmknplpcpmkhiaaGreat
