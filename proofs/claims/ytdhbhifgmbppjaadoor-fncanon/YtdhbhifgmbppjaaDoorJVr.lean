/- The walks of the two that read a number told by seven bits a byte. -/
import Derived.Test.YtdhbhifgmbppjaaDoorVarWalk
import Derived.Test.YtdhbhifgmbppjaaDoorRvMath
import Derived.Deep.RegionWith
import Derived.Test.YtdhbhifgmbppjaaDoorVrMath
import Derived.Test.YtdhbhifgmbppjaaDoorVkSpec
import Derived.Test.YtdhbhifgmbppjaaDoorRgHeld
namespace Go.Proofs.YtdhbhifgmbppjaaDoor
open Go.RowKit
set_option linter.unusedVariables false

theorem ret_two {a b c d : Int} (h1 : a = c) (h2 : b = d) : Ending.returned (.tuple #[.int .i64 a, .int .i64 b]) = .returned (.tuple #[.int .i64 c, .int .i64 d]) := by rw [h1, h2]

set_option maxHeartbeats 400000 in
set_option maxRecDepth 100000 in
theorem implRv_any (s : ByteArray) (w : World) (hs : s.size ≤ 1048576) :
    Calls Tryd.prog 40 #[.string s] w fun e w' => e = .returned (.tuple #[.int .i64 (rvAt s (min s.size 7) 0).1, .int .i64 (rvAt s (min s.size 7) 0).2]) ∧ w' = w := by
  obtain ⟨m, hm⟩ : ∃ m, m = min s.size 7 := ⟨_, rfl⟩
  have hm1 : m ≤ s.size := by omega
  have hm7 : m ≤ 7 := by omega
  rw [← hm]
  have hcase : (s.size ≤ 7 ∧ s.size ≤ m) ∨ (7 < s.size ∧ 7 ≤ m) := by omega
  clear hm
  rcases hcase with ⟨hA, hB⟩ | ⟨hA, hB⟩
  all_goals
    go_enter Tryd.func40, Tryd.ntmps40
    go_wp2
    go_step3
    go_wp2
    go_step3
    go_wp2
    go_loop [4, 10] (fun n i => ∃ k : Nat, k ≤ m ∧ i = .int .i64 k ∧ n = .int .i64 (segL (bl s k)) ∧ Hid (rvAt s (m - k) k = rvAt s m 0)) (fun _ i => m - (intOf i).toNat)
    case atStart => exact ⟨0, Nat.zero_le _, rfl, rfl, rfl⟩
    case round =>
      obtain ⟨k, hk, rfl, rfl, HE⟩ := hrel
      by_cases hlt : k < m
      · have hks : k < s.size := by omega
        have hb := byteAt_eq s k hks
        have hr := byteAt_range s k
        rw [hb] at hr
        obtain ⟨hr0, hr1⟩ := hr
        have hm' : m - k = (m - (k + 1)) + 1 := by omega
        have HF : Hid (rvAt s ((m - (k + 1)) + 1) k = rvAt s m 0) := by have := HE.out; rw [hm'] at this; exact this
        have HO : Hid (bits .or .i64 (segL (bl s k)) (wrap64 (((s[k]).toNat : Int) % 128 * 2 ^ (7 * k))) = segL (bl s (k + 1))) := by
          have hsw := shl_wrap ((s[k]).toNat : Int) k (by omega)
          rw [IntWalk.wrap64_in _ (by omega)]
          have := or_seg (bl s k) (byteAt s k) k (bl_length s k) (by omega)
          rw [← bl_succ, hb] at this; exact this
        have HB : Hid (byteAt s k = ((s[k]).toNat : Int)) := hb
        clear hb hm' HE
        by_cases h128 : (128 : Int) ≤ ((s[k]).toNat : Int)
        · go_wp2
          go_round
          case rel => exact ⟨k + 1, by omega, by go_num, by rw [HO.out], by have := HF.out; rw [rvAt_on _ _ _ (by rw [HB.out]; exact h128)] at this; exact this⟩
          case measure => simp [intOf]; omega
        · by_cases hz : ((s[k]).toNat : Int) = 0 ∧ 0 < k
          · obtain ⟨hz0, hk0⟩ := hz
            have e0 : (((s[k]).toNat : Int) == 0) = true := by simp only [hz0]; rfl
            have HZ : Hid (((s[k]).toNat : Int) = 0) := hz0
            clear hz0
            go_wp2
            go_ret2
            have HG : Hid ((0, 0) = rvAt s m 0) := by have := HF.out; rw [rvAt_bad _ _ _ (by rw [HB.out]; exact HZ.out) hk0] at this; exact this
            exact ⟨ret_two (congrArg Prod.fst HG.out) (congrArg Prod.snd HG.out), rfl⟩
          · have HG : Hid ((segL (bl s (k + 1)), ((k + 1 : Nat) : Int)) = rvAt s m 0) := by
              have := HF.out; rw [rvAt_end _ _ _ (by rw [HB.out]; omega) (by rw [HB.out]; exact hz)] at this; exact this
            by_cases hz0 : ((s[k]).toNat : Int) = 0
            · have hk0 : ¬ 0 < k := fun h => hz ⟨hz0, h⟩
              have e0 : (((s[k]).toNat : Int) == 0) = true := by simp only [hz0]; rfl
              clear hz hz0
              go_wp2
              go_ret2
              exact ⟨ret_two (HO.out.trans (congrArg Prod.fst HG.out)) (Eq.trans (by omega) (congrArg Prod.snd HG.out)), rfl⟩
            · have e0 : (((s[k]).toNat : Int) == 0) = false := by simpa using hz0
              clear hz hz0
              go_wp2
              go_ret2
              exact ⟨ret_two (HO.out.trans (congrArg Prod.fst HG.out)) (Eq.trans (by omega) (congrArg Prod.snd HG.out)), rfl⟩
      · have hkm : m - k = 0 := by omega
        have HG : Hid ((0, 0) = rvAt s m 0) := by have := HE.out; rw [hkm] at this; exact this
        clear hkm HE
        go_wp2
        go_ret2
        exact ⟨ret_two (congrArg Prod.fst HG.out) (congrArg Prod.snd HG.out), rfl⟩

set_option maxHeartbeats 400000 in
set_option maxRecDepth 100000 in
theorem specRv_any (s : ByteArray) (w : World) (hs : s.size ≤ 1048576) :
    Calls Tryd.prog 34 #[.string s] w fun e w' => e = .returned (.tuple #[.int .i64 (rvAt s (min s.size 7) 0).1, .int .i64 (rvAt s (min s.size 7) 0).2]) ∧ Below w.heap.size w w' := by
  obtain ⟨m, hm⟩ : ∃ m, m = min s.size 7 := ⟨_, rfl⟩
  have hm1 : m ≤ s.size := by omega
  have hm7 : m ≤ 7 := by omega
  rw [← hm]
  have hcase : s.size ≤ m ∨ 7 ≤ m := by omega
  have HC : Hid (s.size ≤ m ∨ 7 ≤ m) := hcase
  clear hm hcase
  go_enter Tryd.func34, Tryd.ntmps34
  go_wp2
  go_loopw [4] (fun i wr => ∃ k : Nat, k ≤ m ∧ i = .int .i64 ((k : Int) + 1) ∧ Below w.heap.size w wr ∧ Hid (RvState s m k)) (fun i _ => m + 1 - (intOf i).toNat)
  case atStart => exact ⟨0, Nat.zero_le _, rfl, Below.refl _ _, .inl ⟨fun i hi => by omega, rfl⟩⟩
  case round =>
    obtain ⟨k, hk, rfl, hbel, HS⟩ := hrel
    have hsz := hbel.size
    by_cases hlt : k < m
    · have hks : k < s.size := by omega
      go_wp2
      go_loop [5, 6] (fun n i => ∃ j : Nat, j ≤ k + 1 ∧ i = .int .i64 ((j : Int) - 1) ∧ n = .int .i64 (segL ((bl s (k + 1)).drop j))) (fun _ i => (intOf i + 1).toNat)
      case atStart => exact ⟨k + 1, Nat.le_refl _, by go_num, by rw [List.drop_of_length_le (by rw [bl_length]; omega)]; rfl⟩
      case round =>
        obtain ⟨j, hj, rfl, rfl⟩ := hrel
        by_cases hj0 : 0 < j
        · obtain ⟨i, rfl⟩ : ∃ i, j = i + 1 := ⟨j - 1, by omega⟩
          have his : i < s.size := by omega
          have hb := byteAt_eq s i his
          have hd := bl_drop s (k + 1) i (by omega)
          have h0 := segL_nonneg ((bl s (k + 1)).drop (i + 1))
          have h6 := segL_le6 ((bl s (k + 1)).drop (i + 1)) (by simp [bl_length]; omega)
          have HD : Hid (segL ((bl s (k + 1)).drop i) = segL ((bl s (k + 1)).drop (i + 1)) * 128 + ((s[i]).toNat : Int) % 128) := by
            show _ = _
            rw [hd, ← hb]; simp only [segL]; omega
          have hr := byteAt_range s i
          rw [hb] at hr
          obtain ⟨hr0, hr1⟩ := hr
          clear hb hd
          go_wp2
          go_round
          case rel => exact ⟨i, by omega, by go_num, by rw [HD.out]⟩
          case measure => simp [intOf]
        · have hj' : j = 0 := by omega
          subst hj'
          have h0 := segL_nonneg (bl s (k + 1))
          have h7 := segL_le7 (bl s (k + 1)) (by rw [bl_length]; omega)
          rcases rv_step s m k hm1 hlt HS.out with ⟨ht, HG⟩ | ⟨ht, HT⟩
          · have HG' : Hid ((segL (bl s (k + 1)), ((k + 1 : Nat) : Int)) = rvAt s m 0) := HG
            clear HG HS
            go_wp2
            go_region_with (go_at_call 47; refine (specVar_yes _ _ h0 h7).mono ?_; rintro e w1 ⟨rfl, hb1⟩)
            all_goals
              have R2 : Below w.heap.size w w1 := hbel.drew.trans (hb1.mono hsz)
              clear hb1
              go_wp2
              go_ret2
              exact ⟨ret_two (congrArg Prod.fst HG'.out) (Eq.trans (by omega) (congrArg Prod.snd HG'.out)), R2⟩
          · have HT' : Hid (RvState s m (k + 1)) := HT
            clear HT HS
            go_wp2
            go_region_with (go_at_call 47; refine (specVar_yes _ _ h0 h7).mono ?_; rintro e w1 ⟨rfl, hb1⟩)
            all_goals
              have R2 : Below w.heap.size w w1 := hbel.drew.trans (hb1.mono hsz)
              clear hb1
              go_wp2
              go_roundw
              case rel => first | exact ⟨k + 1, by omega, by go_num, R2, HT'⟩ | ((repeat apply Exists.intro); exact ⟨⟨k + 1, by omega, by go_num, R2, HT'⟩, rfl⟩)
              case measure => simp [intOf]; omega
    · have HG : Hid ((0, 0) = rvAt s m 0) := rv_over s m k (by omega) HS.out
      clear HS
      by_cases h7 : (k : Int) + 1 ≤ 7
      · have hks : (s.size : Int) < (k : Int) + 1 := by have := HC.out; omega
        go_wp2
        go_ret2
        exact ⟨ret_two (congrArg Prod.fst HG.out) (congrArg Prod.snd HG.out), hbel⟩
      · go_wp2
        go_ret2
        exact ⟨ret_two (congrArg Prod.fst HG.out) (congrArg Prod.snd HG.out), hbel⟩

end Go.Proofs.YtdhbhifgmbppjaaDoor

/- ReadCanon of the specification. -/
namespace Go.Proofs.YtdhbhifgmbppjaaDoor
open Go.RowKit
set_option linter.unusedVariables false
set_option linter.unusedSimpArgs false

theorem ext_app (a b : ByteArray) (n : Nat) (h : a.size = n) : (a ++ b).extract n (a ++ b).size = b := by
  apply ByteArray.ext
  apply Array.toList_inj.1
  rw [ByteArray.data_extract, Array.toList_extract, ByteArray.size_append, List.extract_eq_take_drop, ByteArray.data_append, Array.toList_append]
  have hl : a.data.toList.length = n := h
  rw [List.drop_left' hl, List.take_of_length_le]
  have h2 : b.data.toList.length = b.size := rfl
  omega

theorem ext_ext (s : ByteArray) (a b : Nat) (h : a + b ≤ s.size) : (s.extract a s.size).extract b (s.extract a s.size).size = s.extract (a + b) s.size := by
  rw [ByteArray.extract_extract]
  congr 1
  simp
  omega

theorem has_tail {s : ByteArray} {L : List S_Pair} (h : okV L) (e : canT L = s) : s.extract 4 s.size = catN (flatP L) ∧ 4 ≤ s.size ∧ s.size ≤ 250 ∧ 3 ≤ s.size := by
  have h1 := canT_cat h
  have h2 := okV_len h
  have hz := canT_size L
  have e1 : (vrV (L.length : Int)).size = 1 := by unfold vrV; rw [strOfNums_size, varL_last _ (by omega)]; rfl
  have e2 : ((⟨#[98, 112, 101]⟩ : ByteArray) ++ vrV (L.length : Int)).size = 4 := by rw [ByteArray.size_append, e1]; rfl
  have e3 : s = ((⟨#[98, 112, 101]⟩ : ByteArray) ++ vrV (L.length : Int)) ++ catN (flatP L) := by
    rw [← e, h1, ba_assoc]; rfl
  have e4 : s.size = 4 + (catN (flatP L)).size := by rw [e3, ByteArray.size_append, e2]
  refine ⟨?_, by omega, by rw [← e]; exact hz, by omega⟩
  have := ext_app _ (catN (flatP L)) 4 e2
  rw [← e3] at this
  exact this

theorem has_inN {L : List S_Pair} (h : okV L) : InN (flatP L) := fun n hn => okV_inN h n (List.mem_cons_of_mem _ hn)

theorem rdc_bad {s : ByteArray} {acc : List S_Pair} {k : Nat} (hA : InN (flatP acc)) (hk : k < s.size) (hs : s.extract 4 s.size = catN (flatP acc) ++ s.extract k s.size)
    (h : (rv0 (s.extract k s.size)).2 = 0 ∨ (rv0 (s.extract (k + (rv0 (s.extract k s.size)).2.toNat) s.size)).2 = 0) : ¬ HasV s := by
  rintro ⟨L, hL, e⟩
  obtain ⟨h1, _⟩ := has_tail hL e
  rw [hs] at h1
  obtain ⟨B, h2, h3⟩ := split_cat _ _ _ hA (has_inN hL) h1
  obtain ⟨K, h4, h5⟩ := flatP_split h2
  have hz : (s.extract k s.size).size = s.size - k := by simp
  cases K with
  | nil =>
    subst h5
    rw [h3] at hz
    have : (catN (flatP [])).size = 0 := rfl
    omega
  | cons p K =>
    have hin := has_inN hL
    rw [h4, flatP_app] at hin
    have hp0 := hin p.f0 (List.mem_append_right _ List.mem_cons_self)
    have hp1 := hin p.f1 (List.mem_append_right _ (List.mem_cons_of_mem _ List.mem_cons_self))
    have e1 : s.extract k s.size = vrV p.f0 ++ (vrV p.f1 ++ catN (flatP K)) := by rw [h3, h5]; rfl
    have r1 := rv_cat p.f0 (vrV p.f1 ++ catN (flatP K)) hp0.1 hp0.2
    rw [← e1] at r1
    have q0 := vrV_pos p.f0
    have q1 := vrV_pos p.f1
    rw [r1] at h
    rcases h with h | h
    · have h' : ((vrV p.f0).size : Int) = 0 := h
      omega
    · have e2 : s.extract (k + (vrV p.f0).size) s.size = vrV p.f1 ++ catN (flatP K) := by
        have hle : k + (vrV p.f0).size ≤ s.size := by
          have := congrArg ByteArray.size e1
          rw [ByteArray.size_append] at this
          omega
        rw [← ext_ext s k _ hle, e1]
        exact ext_app _ _ _ rfl
      have h' : (rv0 (s.extract (k + (vrV p.f0).size) s.size)).2 = 0 := h
      rw [e2, rv_cat p.f1 (catN (flatP K)) hp1.1 hp1.2] at h'
      have h6 : ((vrV p.f1).size : Int) = 0 := h'
      omega

theorem rdc_more {s : ByteArray} {acc : List S_Pair} {k n m : Nat} {a b : Int} (hA : InN (flatP acc)) (hk : k < s.size) (hs : s.extract 4 s.size = catN (flatP acc) ++ s.extract k s.size)
    (h1 : rv0 (s.extract k s.size) = (a, (n : Int))) (h2 : rv0 (s.extract (k + n) s.size) = (b, (m : Int))) (hn : n ≠ 0) (hm : m ≠ 0) :
    InN (flatP (acc ++ ([⟨a, b⟩] : List S_Pair))) ∧ s.extract 4 s.size = catN (flatP (acc ++ ([⟨a, b⟩] : List S_Pair))) ++ s.extract (k + n + m) s.size ∧ k + n + m ≤ s.size := by
  obtain ⟨n', e1, e2, e3, e4, e5⟩ := rv_some (s.extract k s.size) (by rw [h1]; show (n : Int) ≠ 0; omega)
  rw [h1] at e1 e4 e5
  have hn' : n' = n := by have : (n : Int) = (n' : Int) := e1; omega
  subst hn'
  have hz : (s.extract k s.size).size = s.size - k := by simp
  have hz2 : (s.extract (k + n') s.size).size = s.size - (k + n') := by simp
  obtain ⟨m', f1, f2, f3, f4, f5⟩ := rv_some (s.extract (k + n') s.size) (by rw [h2]; show (m : Int) ≠ 0; omega)
  rw [h2] at f1 f4 f5
  have hm' : m' = m := by have : (m : Int) = (m' : Int) := f1; omega
  subst hm'
  refine ⟨?_, ?_, by omega⟩
  · rw [flatP_one]
    intro x hx
    rcases List.mem_append.1 hx with hx | hx
    · exact hA x hx
    · rcases List.mem_cons.1 hx with rfl | hx
      · exact e4
      · rw [List.mem_singleton.1 hx]; exact f4
  · have e5' : s.extract k s.size = vrV a ++ s.extract (k + n') s.size := by rw [← ext_ext s k n' (by omega)]; exact e5
    have f5' : s.extract (k + n') s.size = vrV b ++ s.extract (k + n' + m') s.size := by rw [← ext_ext s (k + n') m' (by omega)]; exact f5
    rw [hs, e5', f5', flatP_one, catN_app]
    show _ = catN (flatP acc) ++ (vrV a ++ (vrV b ++ ⟨#[]⟩)) ++ _
    rw [ba_addE]
    simp only [ba_assoc]

theorem rdc_end {s : ByteArray} {acc : List S_Pair} (hA : InN (flatP acc)) (hs : s.extract 4 s.size = catN (flatP acc)) (h : canT acc ≠ s) : ¬ HasV s := by
  rintro ⟨L, hL, e⟩
  obtain ⟨h1, _⟩ := has_tail hL e
  rw [hs] at h1
  have := flatP_inj (cat_inj hA (has_inN hL) h1)
  exact h (by rw [this]; exact e)

theorem canT_ok {acc : List S_Pair} {s : ByteArray} (h : canT acc = s) (h4 : 4 ≤ s.size) : okV acc := by
  by_cases hk : okV acc
  · exact hk
  · unfold canT at h
    rw [if_neg hk] at h
    rw [← h] at h4
    exact absurd h4 (by decide)

theorem frz1 {w : World} {b : Nat} {a0 : Value} {t : TypeId} (h : w.heap[b]? = some (.cells #[a0] t)) (o : Nat) : w.frozen? ⟨b, o, none⟩ = false := by
  simp [World.frozen?, h]

theorem set1 {w : World} {b : Nat} {a0 : Value} {t : TypeId} (h : w.heap[b]? = some (.cells #[a0] t)) (u : Value) : (w.setCell ⟨b, 0, none⟩ u).heap[b]? = some (.cells #[u] t) := by
  simp only [World.setCell, Array.getElem?_modify, if_true, h]
  rfl

theorem sl_atV (s : ByteArray) (a : Nat) (x : Int) (hx : x = (a : Int)) (h : a ≤ s.size) : ∀ W, (Instr.slice 9 (.string s) (some (.int .i64 x)) none none).run Tryd.prog W = .ok (.string (s.extract a s.size)) W := fun W => by
  subst hx
  rw [run_slice_string_l (P := Tryd.prog) W 9 s Tryd.underlying9 .i64 (a : Int) (by omega) (by omega)]
  rw [Int.toNat_natCast]

theorem infoPr : (Tryd.prog.info? 48).map (fun i => (i.zero, i.size, i.bytes)) = some (some (.agg #[.int .i64 0, .int .i64 0]), 2, 16) := by kernel_rfl

theorem rPair_one (L : List S_Pair) (p : S_Pair) : rPair (L ++ [p]) = rPair L ++ [.int .i64 p.f0, .int .i64 p.f1] := by
  unfold rPair
  rw [List.flatMap_append]
  rfl

theorem srv_c (s : ByteArray) (w : World) (hs : s.size ≤ 1048576) : Calls Tryd.prog 34 #[.string s] w fun e w' => e = .returned (.tuple #[.int .i64 (rv0 s).1, .int .i64 (rv0 s).2]) ∧ Below w.heap.size w w' := specRv_any s w hs

theorem irv_c (s : ByteArray) (w : World) (hs : s.size ≤ 1048576) : Calls Tryd.prog 40 #[.string s] w fun e w' => e = .returned (.tuple #[.int .i64 (rv0 s).1, .int .i64 (rv0 s).2]) ∧ w' = w := implRv_any s w hs

theorem rdc_no {s : ByteArray} {w w' : World} (h : ¬ HasV s) (hb : Below w.heap.size w w') : RdcR s w (.returned (.tuple #[.agg #[.slice none 0 0], .bool false])) w' := ⟨hb, .inr ⟨h, rfl⟩⟩

theorem rdc_yes {s : ByteArray} {w w' : World} {L : List S_Pair} {v : Value} (h : okV L) (e : canT L = s) (ho : w'.ownsRow w.heap.size 48 2 v L.length (rPair L)) (hb : Below w.heap.size w w') : RdcR s w (.returned (.tuple #[.agg #[v], .bool true])) w' := ⟨hb, .inl ⟨L, v, h, e, rfl, ho⟩⟩

/-- What stands between the call's own row and its boxes. -/
theorem heap_grown {w w1 : World} {base k : Nat} {e : TypeId} {size n : Nat} {v : Value} {xs : List Value} {o o2 : Obj} (ho : w.ownsRow base e size v n xs) (hg : (w.alloc o2).grownBy w1 v.ownBlock) (hk : k < base) (h : w.heap[k]? = some o) : w1.heap[k]? = some o := by
  have hlt := lt_of_some h
  rw [hg.block k (by rw [World.size_alloc]; omega) (fun e1 => by have := (ho.lt k e1.symm).1; omega)]
  rw [← h]
  exact (((Below.refl w.heap.size w).alloc (Nat.le_refl _) o2).block k hlt)

theorem ext_emptyV (s : ByteArray) : s.extract s.size s.size = (⟨#[]⟩ : ByteArray) := by
  apply ByteArray.ext
  apply Array.toList_inj.1
  rw [ByteArray.data_extract, Array.toList_extract, List.extract_eq_take_drop]
  simp

theorem cell_two_new (w : World) (a b : Value) (t : TypeId) : ∀ j u, ([a, b] : List Value)[j]? = some u → (w.alloc (.cells #[a, b] t)).cell? ((⟨w.heap.size, 0, none⟩ : Addr).add j) = some u := fun j u h => by
  rw [Addr.add_mid, Nat.zero_add]
  simp only [World.cell?, alloc_last]
  simpa using h

set_option maxRecDepth 20000 in
set_option maxHeartbeats 4000000 in
theorem specRead_c (s : ByteArray) (w : World) (hs : s.size ≤ 1048576) : Calls Tryd.prog 13 #[.string s] w (RdcR s w) := by
  obtain ⟨W0, hW0⟩ : ∃ W, W = w.alloc (.cells #[.slice none 0 0] 26) := ⟨_, rfl⟩
  have HW0 : Hid (w.alloc (.cells #[.slice none 0 0] 26) = W0) := hW0.symm
  have HX0 : Hid (W0.heap[w.heap.size]? = some (.cells #[.slice none 0 0] 26)) := by rw [hW0]; exact alloc_last _ _
  have HZ0 : Hid (W0.heap.size = w.heap.size + 1) := by show _ = _; rw [hW0]; simp
  have HB0 : Hid (Below w.heap.size w W0) := by rw [hW0]; exact (Below.refl _ _).alloc (Nat.le_refl _) _
  clear hW0
  have HS : Hid (s.size ≤ 1048576) := hs
  have hsI : (s.size : Int) ≤ 1048576 := by omega
  obtain ⟨i0, hi, hz0, hz1, hz2⟩ := info_parts infoPr
  have hml : (1048577 : Nat) ≤ maxLen := by unfold maxLen; omega
  by_cases h4 : (s.size : Int) < 4
  · have HF : Hid (¬ HasV s) := fun ⟨L, hL, e⟩ => by have := (has_tail hL e).2.1; omega
    have z0 := box1 HX0.out
    have zf0 := frz1 HX0.out 0
    go_enter Tryd.func13, Tryd.ntmps13
    go_wp2_with fail
    rw [HW0.out]
    refine bodyPost_ret (v := .tuple #[.agg #[.slice none 0 0], .bool false]) (by simp [results, Tryd.results13, go_sem, z0]) rfl ?_
    exact rdc_no HF.out HB0.out
  by_cases h250 : (250 : Int) < (s.size : Int)
  · have HF : Hid (¬ HasV s) := fun ⟨L, hL, e⟩ => by have := (has_tail hL e).2.2.1; omega
    have z0 := box1 HX0.out
    have zf0 := frz1 HX0.out 0
    go_enter Tryd.func13, Tryd.ntmps13
    go_wp2_with fail
    rw [HW0.out]
    refine bodyPost_ret (v := .tuple #[.agg #[.slice none 0 0], .bool false]) (by simp [results, Tryd.results13, go_sem, z0]) rfl ?_
    exact rdc_no HF.out HB0.out
  have H4 : Hid (4 ≤ s.size) := by show _ ≤ _; omega
  have H250 : Hid (s.size ≤ 250) := by show _ ≤ _; omega
  obtain ⟨WB, hWB⟩ : ∃ W, W = W0.alloc (.cells #[.slice none 0 0] 26) := ⟨_, rfl⟩
  have HWB : Hid (W0.alloc (.cells #[.slice none 0 0] 26) = WB) := hWB.symm
  have HXB : Hid (WB.heap[w.heap.size]? = some (.cells #[.slice none 0 0] 26)) := by rw [hWB]; exact (((Below.refl W0.heap.size W0).alloc (Nat.le_refl _) _).block _ (lt_of_some HX0.out)).trans HX0.out
  have HYB : Hid (WB.heap[W0.heap.size]? = some (.cells #[.slice none 0 0] 26)) := by rw [hWB]; exact alloc_last _ _
  have HBB : Hid (Below w.heap.size w WB) := by rw [hWB]; exact HB0.out.alloc HB0.out.size _
  have HZB : Hid (WB.heap.size = w.heap.size + 2) := by show _ = _; rw [hWB]; simp [HZ0.out]
  have hz1' : w.heap.size + 1 = W0.heap.size := HZ0.out.symm
  clear hWB hs
  go_enter Tryd.func13, Tryd.ntmps13
  go_wp2_with fail
  rw [HW0.out]
  go_loopw [5] (fun iv wr => ∃ (k : Nat) (acc : List S_Pair) (v : Value), 4 ≤ k ∧ k ≤ s.size ∧ iv = .int .i64 (k : Int) ∧ Hid (wr.heap[w.heap.size]? = some (.cells #[.slice none 0 0] 26)) ∧ Hid (wr.heap[W0.heap.size]? = some (.cells #[v] 26)) ∧ Hid (wr.ownsRow WB.heap.size 48 2 v acc.length (rPair acc)) ∧ Hid (Below w.heap.size w wr) ∧ Hid (WB.heap.size ≤ wr.heap.size) ∧ Hid (InN (flatP acc)) ∧ Hid (s.extract 4 s.size = catN (flatP acc) ++ s.extract k s.size)) (fun iv _ => s.size - (intOf iv).toNat)
  case atStart => exact ⟨4, [], .slice none 0 0, Nat.le_refl _, H4.out, rfl, by rw [HWB.out]; exact HXB, by rw [HWB.out]; exact HYB, ⟨rfl, Or.inl ⟨rfl, rfl⟩⟩, by rw [HWB.out]; exact HBB, by rw [HWB.out]; exact Nat.le_refl _, (show InN (flatP []) from fun _ h => by cases h), (show s.extract 4 s.size = catN (flatP []) ++ s.extract 4 s.size from (ba_nilE _).symm)⟩
  case round =>
    obtain ⟨k, acc, v, hk4, hk, rfl, HX, HY, HO, HB, HLe, HA, HT⟩ := hrel
    by_cases hlt : k < s.size
    · have hlt' : (k : Int) < s.size := by omega
      have hkI : (k : Int) ≤ s.size := by omega
      obtain ⟨a, n, h1⟩ : ∃ (a : Int) (n : Nat), rv0 (s.extract k s.size) = (a, (n : Int)) := ⟨(rv0 (s.extract k s.size)).1, (rv0 (s.extract k s.size)).2.toNat, by have := (rv_bound (s.extract k s.size)).2.2.1; rw [Int.toNat_of_nonneg this]⟩
      have hnb : n ≤ s.size - k := by
        have := (rv_bound (s.extract k s.size)).2.2.2
        rw [h1] at this
        have hz : (s.extract k s.size).size = s.size - k := by simp
        have h' : (n : Int) ≤ ((s.extract k s.size).size : Int) := this
        omega
      obtain ⟨b, m, h2⟩ : ∃ (b : Int) (m : Nat), rv0 (s.extract (k + n) s.size) = (b, (m : Int)) := ⟨(rv0 (s.extract (k + n) s.size)).1, (rv0 (s.extract (k + n) s.size)).2.toNat, by have := (rv_bound (s.extract (k + n) s.size)).2.2.1; rw [Int.toNat_of_nonneg this]⟩
      have hmb : m ≤ s.size - (k + n) := by
        have := (rv_bound (s.extract (k + n) s.size)).2.2.2
        rw [h2] at this
        have hz : (s.extract (k + n) s.size).size = s.size - (k + n) := by simp
        have h' : (m : Int) ≤ ((s.extract (k + n) s.size).size : Int) := this
        omega
      have HN1 : Hid ((n = 0 ∨ m = 0) → ¬ HasV s) := fun h => rdc_bad HA.out hlt HT.out (h.elim (fun h => .inl (by rw [h1, h]; rfl)) (fun h => .inr (by rw [h1]; show (rv0 (s.extract (k + n) s.size)).2 = 0; rw [h2, h]; rfl)))
      have HM1 : Hid (n ≠ 0 → m ≠ 0 → InN (flatP (acc ++ ([⟨a, b⟩] : List S_Pair))) ∧ s.extract 4 s.size = catN (flatP (acc ++ ([⟨a, b⟩] : List S_Pair))) ++ s.extract (k + n + m) s.size ∧ k + n + m ≤ s.size) := fun hn hm => rdc_more HA.out hlt HT.out h1 h2 hn hm
      have HL : Hid (acc.length ≤ 250) := by
        have e1 := catN_len (flatP acc)
        have e2 := flatP_len acc
        have e3 := congrArg ByteArray.size HT.out
        rw [ByteArray.size_append] at e3
        have e4 : (s.extract 4 s.size).size = s.size - 4 := by simp
        have := H250.out
        show _ ≤ _
        omega
      have H1 : Hid ((rv0 (s.extract k s.size)).1 = a ∧ (rv0 (s.extract k s.size)).2 = (n : Int)) := by show _ ∧ _; rw [h1]; exact ⟨rfl, rfl⟩
      have H2 : Hid ((rv0 (s.extract (k + n) s.size)).1 = b ∧ (rv0 (s.extract (k + n) s.size)).2 = (m : Int)) := by show _ ∧ _; rw [h2]; exact ⟨rfl, rfl⟩
      have HT1 : Hid ((s.extract k s.size).size ≤ 1048576) := by show _ ≤ _; simp; have := H250.out; omega
      have HT2 : Hid ((s.extract (k + n) s.size).size ≤ 1048576) := by show _ ≤ _; simp; have := H250.out; omega
      have hsl1 := sl_atV s k (k : Int) rfl hk
      have hsl2 := sl_atV s (k + n) ((k : Int) + (n : Int)) (by omega) (by omega)
      have hw1 : IntKind.i64.wrap ((k : Int) + (n : Int)) = (k : Int) + (n : Int) := IntWalk.i64_in _ (by omega)
      have hw2 : IntKind.i64.wrap ((k : Int) + (n : Int) + (m : Int)) = (k : Int) + (n : Int) + (m : Int) := IntWalk.i64_in _ (by omega)
      clear h1 h2
      generalize s.extract k s.size = T at H1 HT1 hsl1 HT
      generalize s.extract (k + n) s.size = U at H2 HT2 hsl2
      go_wp2_with fail
      refine (srv_c T wr HT1.out).mono ?_
      rintro e w1 ⟨rfl, b1⟩
      rw [H1.out.1, H1.out.2]
      have HX1 : Hid (w1.heap[w.heap.size]? = some (.cells #[.slice none 0 0] 26)) := (b1.block _ (lt_of_some HX.out)).trans HX.out
      have HY1 : Hid (w1.heap[W0.heap.size]? = some (.cells #[v] 26)) := (b1.block _ (lt_of_some HY.out)).trans HY.out
      have HO1 : Hid (w1.ownsRow WB.heap.size 48 2 v acc.length (rPair acc)) := own_bel HO.out b1 (Nat.le_refl _)
      have HB1 : Hid (Below w.heap.size w w1) := HB.out.trans (b1.mono HB.out.size)
      have HL1 : Hid (WB.heap.size ≤ w1.heap.size) := Nat.le_trans HLe.out b1.size
      clear b1
      go_wp2_with fail
      refine (srv_c U w1 HT2.out).mono ?_
      rintro e w2 ⟨rfl, b2⟩
      rw [H2.out.1, H2.out.2]
      have HX2 : Hid (w2.heap[w.heap.size]? = some (.cells #[.slice none 0 0] 26)) := (b2.block _ (lt_of_some HX1.out)).trans HX1.out
      have HY2 : Hid (w2.heap[W0.heap.size]? = some (.cells #[v] 26)) := (b2.block _ (lt_of_some HY1.out)).trans HY1.out
      have HO2 : Hid (w2.ownsRow WB.heap.size 48 2 v acc.length (rPair acc)) := own_bel HO1.out b2 (Nat.le_refl _)
      have HB2 : Hid (Below w.heap.size w w2) := HB1.out.trans (b2.mono HB1.out.size)
      have HL2 : Hid (WB.heap.size ≤ w2.heap.size) := Nat.le_trans HL1.out b2.size
      clear b2 hsl1 hsl2
      by_cases hn : n = 0
      · have HF : Hid (¬ HasV s) := HN1.out (.inl hn)
        have hq : ((n : Int) == 0) = true := by rw [hn]; rfl
        clear hn
        have z0 := box1 HX2.out
        have zf0 := frz1 HX2.out 0
        go_wp2
        refine bodyPost_ret (v := .tuple #[.agg #[.slice none 0 0], .bool false]) (by simp [results, Tryd.results13, go_sem, z0]) rfl ?_
        exact rdc_no HF.out (HB2.out.setCell (Nat.le_refl _) _)
      have hq : ((n : Int) == 0) = false := by simp; omega
      by_cases hm : m = 0
      · have HF : Hid (¬ HasV s) := HN1.out (.inr hm)
        have hq2 : ((m : Int) == 0) = true := by rw [hm]; rfl
        clear hm hn
        have z0 := box1 HX2.out
        have zf0 := frz1 HX2.out 0
        go_wp2
        refine bodyPost_ret (v := .tuple #[.agg #[.slice none 0 0], .bool false]) (by simp [results, Tryd.results13, go_sem, z0]) rfl ?_
        exact rdc_no HF.out (HB2.out.setCell (Nat.le_refl _) _)
      have hq2 : ((m : Int) == 0) = false := by simp; omega
      obtain ⟨g1, g2, g3⟩ := HM1.out hn hm
      have HA3 : Hid (InN (flatP (acc ++ ([⟨a, b⟩] : List S_Pair)))) := g1
      have HT3 : Hid (s.extract 4 s.size = catN (flatP (acc ++ ([⟨a, b⟩] : List S_Pair))) ++ s.extract (k + n + m) s.size) := g2
      have HK3 : Hid (k + n + m ≤ s.size) := g3
      have HK4 : Hid (1 ≤ n) := by show _ ≤ _; omega
      clear hn hm g1 g2 g3
      have hown1 := HO2.out
      have hlen := HL.out
      have y0 := box1 HY2.out
      have yf := frz1 HY2.out 0
      have hyl := lt_of_some HY2.out
      have hne : ¬ w2.heap.size = W0.heap.size := by omega
      have hbase := HL2.out
      go_wp2_with (at_builtin; refine wpList_append_own _ rfl _ _ 24 rfl WB.heap.size 48 i0 (.agg #[.int .i64 0, .int .i64 0]) 2 16 Tryd.underlying24 hi hz0 hz1 hz2 rfl (by decide) _ _ _ rfl (hown1.alloc _) ⟨w2.heap.size, 0, none⟩ 1 1 [.int .i64 a, .int .i64 b] rfl rfl (cell_two_new _ _ _ _) (by intro u hu; simp at hu; rcases hu with rfl | rfl <;> rfl) (by omega) (by omega) (by simp; omega) ?_)
      intro v' w3 hown3 hgrow _
      have R1 : w3.ownsRow WB.heap.size 48 2 v' (acc ++ ([⟨a, b⟩] : List S_Pair)).length (rPair (acc ++ ([⟨a, b⟩] : List S_Pair))) := by rw [rPair_one, List.length_append]; exact hown3
      have hX3 := heap_grown hown1 hgrow (by rw [HZB.out]; omega) HX2.out
      have hY3 := heap_grown hown1 hgrow (by rw [HZB.out, HZ0.out]; omega) HY2.out
      have hB3 := below_append HB2.out (Nat.le_refl _) (own_low hown1 (by rw [HZB.out]; omega)) hgrow
      have hsz3 : WB.heap.size ≤ w3.heap.size := Nat.le_trans hbase (Nat.le_trans (by simp) hgrow.size)
      have y3 := box1 hY3
      have yf3 := frz1 hY3 0
      have HX4 : Hid ((w3.setCell ⟨W0.heap.size, 0, none⟩ v').heap[w.heap.size]? = some (.cells #[.slice none 0 0] 26)) := by show _ = _; rw [Below.heap_setCell _ _ _ _ (by show w.heap.size ≠ W0.heap.size; rw [HZ0.out]; omega)]; exact hX3
      have HY4 : Hid ((w3.setCell ⟨W0.heap.size, 0, none⟩ v').heap[W0.heap.size]? = some (.cells #[v'] 26)) := set1 hY3 v'
      have HO4 : Hid ((w3.setCell ⟨W0.heap.size, 0, none⟩ v').ownsRow WB.heap.size 48 2 v' (acc ++ ([⟨a, b⟩] : List S_Pair)).length (rPair (acc ++ ([⟨a, b⟩] : List S_Pair)))) := own_set_lt R1 v' (by show W0.heap.size < _; rw [HZB.out, HZ0.out]; omega)
      have HB4 : Hid (Below w.heap.size w (w3.setCell ⟨W0.heap.size, 0, none⟩ v')) := hB3.setCell (by show w.heap.size ≤ W0.heap.size; rw [HZ0.out]; omega) _
      have HL4 : Hid (WB.heap.size ≤ (w3.setCell ⟨W0.heap.size, 0, none⟩ v').heap.size) := by show _ ≤ _; simpa using hsz3
      obtain ⟨q3, c3, hv3⟩ := own_sliceV hown3
      have hone : v'.oneCell' = true := by rw [hv3]; rfl
      clear hown3 hgrow hown1 R1 hX3 hY3 hB3 hsz3 y0 yf
      subst hv3
      go_wp2
      go_roundw
      case rel => exact ⟨k + n + m, acc ++ ([⟨a, b⟩] : List S_Pair), _, by omega, HK3.out, by go_num, HX4, HY4, HO4, HB4, HL4, HA3, HT3⟩
      case measure => simp [intOf]; have := HK3.out; have := HK4.out; omega
    · have hke : k = s.size := by omega
      have HT5 : Hid (s.extract 4 s.size = catN (flatP acc)) := by
        have := HT.out
        rw [hke, ext_emptyV, ba_addE] at this
        exact this
      have HL : Hid (acc.length ≤ 250) := by
        have e1 := catN_len (flatP acc)
        have e2 := flatP_len acc
        have e3 := congrArg ByteArray.size HT5.out
        have e4 : (s.extract 4 s.size).size = s.size - 4 := by simp
        have := H250.out
        show _ ≤ _
        omega
      obtain ⟨q, cq, hv⟩ := own_sliceV HO.out
      subst hv
      have HRw : Hid (RowR wr (.slice q acc.length cq) acc.length 2 (rPair acc)) := RowR.own HO.out
      clear HT
      subst hke
      have y0 := box1 HY.out
      go_wp2_with fail
      refine (specCanon_c acc q cq wr (by have := HL.out; omega) HRw.out).mono ?_
      rintro e w1 ⟨rfl, b1⟩
      have HX1 : Hid (w1.heap[w.heap.size]? = some (.cells #[.slice none 0 0] 26)) := (b1.block _ (lt_of_some HX.out)).trans HX.out
      have HY1 : Hid (w1.heap[W0.heap.size]? = some (.cells #[.slice q acc.length cq] 26)) := (b1.block _ (lt_of_some HY.out)).trans HY.out
      have HO1 : Hid (w1.ownsRow WB.heap.size 48 2 (.slice q acc.length cq) acc.length (rPair acc)) := own_bel HO.out b1 (Nat.le_refl _)
      have HB1 : Hid (Below w.heap.size w w1) := HB.out.trans (b1.mono HB.out.size)
      clear b1 y0
      by_cases he : canT acc = s
      · have hq := tx_yes he
        have HOK : Hid (okV acc) := canT_ok he H4.out
        have HEE : Hid (canT acc = s) := he
        clear he
        generalize canT acc = C at hq
        have z0 := box1 HX1.out
        have zf0 := frz1 HX1.out 0
        have y0 := box1 HY1.out
        have HO9 : Hid ((w1.setCell ⟨w.heap.size, 0, none⟩ (.slice q acc.length cq)).ownsRow w.heap.size 48 2 (.slice q acc.length cq) acc.length (rPair acc)) := own_low (own_set_lt HO1.out _ (by show w.heap.size < _; rw [HZB.out]; omega)) (by rw [HZB.out]; omega)
        have z9 := box1 (set1 HX1.out (.slice q acc.length cq))
        go_wp2
        refine bodyPost_ret (v := .tuple #[.agg #[.slice q acc.length cq], .bool true]) (by simp [results, Tryd.results13, go_sem, z9, z0]) rfl ?_
        exact rdc_yes HOK.out HEE.out HO9.out (HB1.out.setCell (Nat.le_refl _) _)
      · have hq := tx_no he
        have HF : Hid (¬ HasV s) := rdc_end HA.out HT5.out he
        clear he
        generalize canT acc = C at hq
        have z0 := box1 HX1.out
        have zf0 := frz1 HX1.out 0
        go_wp2
        refine bodyPost_ret (v := .tuple #[.agg #[.slice none 0 0], .bool false]) (by simp [results, Tryd.results13, go_sem, z0]) rfl ?_
        exact rdc_no HF.out (HB1.out.setCell (Nat.le_refl _) _)

end Go.Proofs.YtdhbhifgmbppjaaDoor

/- What the program reads a vocabulary by. -/
namespace Go.Proofs.YtdhbhifgmbppjaaDoor
open Go.RowKit
set_option linter.unusedVariables false
set_option linter.unusedSimpArgs false

def pfx : ByteArray := ⟨#[98, 112, 101]⟩

theorem pfx_cut (s : ByteArray) (h3 : 3 ≤ s.size) : s.extract 0 3 = pfx ↔ s = pfx ++ s.extract 3 s.size := by
  have e : s.extract 0 3 ++ s.extract 3 s.size = s := by
    rw [ByteArray.extract_append_extract, Nat.min_eq_left (by omega), Nat.max_eq_right (by omega)]
    exact ByteArray.extract_zero_size
  constructor
  · intro h; rw [← h, e]
  · intro h
    have e2 : s.extract 0 3 ++ s.extract 3 s.size = pfx ++ s.extract 3 s.size := by rw [e]; exact h
    have e3 := congrArg (fun b => b.data.toList) e2
    simp only [ByteArray.data_append, Array.toList_append] at e3
    have e4 := List.append_cancel_right e3
    apply ByteArray.ext
    exact Array.toList_inj.1 e4

set_option maxRecDepth 20000 in
set_option maxHeartbeats 4000000 in
theorem hasPfx_c (s : ByteArray) (r : Bool) (hr : r = decide (3 ≤ s.size ∧ s.extract 0 3 = pfx)) (w : World) (hs : s.size ≤ 1048576) : Calls Tryd.prog 53 #[.string s, .string ⟨#[98, 112, 101]⟩] w fun e w' => e = .returned (.bool r) ∧ w' = w := by
  have hsI : (s.size : Int) ≤ 1048576 := by omega
  have hpz : ((⟨#[98, 112, 101]⟩ : ByteArray).size : Int) = 3 := rfl
  by_cases h3 : 3 ≤ s.size
  · have h3' : (3 : Int) ≤ (s.size : Int) := by omega
    by_cases he : s.extract 0 3 = pfx
    · have HF : Hid (r = true) := by rw [hr]; exact decide_eq_true ⟨h3, he⟩
      have hq : ((s.extract 0 3).toList == [98, 112, 101]) = true := by
        have := tx_yes he
        unfold pfx at this
        rw [ByteArray.toList_eq, ByteArray.toList_eq] at this
        rw [ByteArray.toList_eq]
        exact this
      clear he h3 hr
      go_enter Tryd.func53, Tryd.ntmps53
      go_wp2
      go_ret
      exact ⟨by rw [HF.out]; rfl, rfl⟩
    · have HF : Hid (r = false) := by rw [hr]; exact decide_eq_false fun h => he h.2
      have hq : ((s.extract 0 3).toList == [98, 112, 101]) = false := by
        have := tx_no he
        unfold pfx at this
        rw [ByteArray.toList_eq, ByteArray.toList_eq] at this
        rw [ByteArray.toList_eq]
        exact this
      clear he h3 hr
      go_enter Tryd.func53, Tryd.ntmps53
      go_wp2
      go_ret
      exact ⟨by rw [HF.out]; rfl, rfl⟩
  · have HF : Hid (r = false) := by rw [hr]; exact decide_eq_false fun h => h3 h.1
    have h3' : (s.size : Int) < 3 := by omega
    clear h3 hr
    go_enter Tryd.func53, Tryd.ntmps53
    go_wp2
    go_ret
    exact ⟨by rw [HF.out]; rfl, rfl⟩

set_option maxRecDepth 20000 in
set_option maxHeartbeats 4000000 in
theorem cutIn_c (s : ByteArray) (w : World) (hs : s.size ≤ 1048576) : Calls Tryd.prog 39 #[.string s, .string ⟨#[98, 112, 101]⟩] w fun e w' => ((∃ T, s = pfx ++ T ∧ e = .returned (.tuple #[.string T, .bool true])) ∨ ((∀ T, s ≠ pfx ++ T) ∧ e = .returned (.tuple #[.string s, .bool false]))) ∧ w' = w := by
  have hsI : (s.size : Int) ≤ 1048576 := by omega
  have hpz : ((⟨#[98, 112, 101]⟩ : ByteArray).size : Int) = 3 := rfl
  have HS : Hid (s.size ≤ 1048576) := hs
  clear hs
  by_cases hk : 3 ≤ s.size ∧ s.extract 0 3 = pfx
  · have HK : Hid (s = pfx ++ s.extract 3 s.size) := (pfx_cut s hk.1).1 hk.2
    have HD : Hid (true = decide (3 ≤ s.size ∧ s.extract 0 3 = pfx)) := (decide_eq_true hk).symm
    have hsl := sl_atV s 3 3 rfl hk.1
    clear hk
    go_enter Tryd.func39, Tryd.ntmps39
    go_wp2_with fail
    refine (hasPfx_c s _ HD.out w HS.out).mono ?_
    rintro e wz ⟨rfl, hw⟩
    replace hw := hw.symm
    subst hw
    generalize s.extract 3 s.size = T at HK hsl
    go_wp2
    go_ret2
    exact ⟨.inl ⟨T, HK.out, rfl⟩, rfl⟩
  · have HD : Hid (false = decide (3 ≤ s.size ∧ s.extract 0 3 = pfx)) := (decide_eq_false hk).symm
    have HN : Hid (∀ T, s ≠ pfx ++ T) := fun T e => by
      have h3 : 3 ≤ s.size := by rw [e, ByteArray.size_append]; exact Nat.le_add_right 3 _
      refine hk ⟨h3, (pfx_cut s h3).2 ?_⟩
      have := ext_app pfx T 3 rfl
      rw [← e] at this
      rw [this]
      exact e
    clear hk
    go_enter Tryd.func39, Tryd.ntmps39
    go_wp2_with fail
    refine (hasPfx_c s _ HD.out w HS.out).mono ?_
    rintro e wz ⟨rfl, hw⟩
    replace hw := hw.symm
    subst hw
    go_wp2
    go_ret2
    exact ⟨.inr ⟨HN.out, rfl⟩, rfl⟩

set_option maxRecDepth 20000 in
set_option maxHeartbeats 4000000 in
theorem cut_c (s : ByteArray) (w : World) (hs : s.size ≤ 1048576) : Calls Tryd.prog 21 #[.string s, .string ⟨#[98, 112, 101]⟩] w fun e w' => ((∃ T, s = pfx ++ T ∧ e = .returned (.tuple #[.string T, .bool true])) ∨ ((∀ T, s ≠ pfx ++ T) ∧ e = .returned (.tuple #[.string s, .bool false]))) ∧ w' = w := by
  have HS : Hid (s.size ≤ 1048576) := hs
  clear hs
  go_enter Tryd.func21, Tryd.ntmps21
  go_wp2_with fail
  refine (cutIn_c s w HS.out).mono ?_
  rintro e wz ⟨⟨T, hT, rfl⟩ | ⟨hT, rfl⟩, hw⟩
  · replace hw := hw.symm
    subst hw
    have HT : Hid (s = pfx ++ T) := hT
    clear hT
    go_wp2
    go_ret2
    exact ⟨.inl ⟨T, HT.out, rfl⟩, rfl⟩
  · replace hw := hw.symm
    subst hw
    have HT : Hid (∀ T, s ≠ pfx ++ T) := hT
    clear hT
    go_wp2
    go_ret2
    exact ⟨.inr ⟨HT.out, rfl⟩, rfl⟩

theorem infoInt : (Tryd.prog.info? 3).map (fun i => (i.zero, i.size, i.bytes)) = some (some (.int .i64 0), 1, 8) := by kernel_rfl

def strSz : Value → Nat
  | .string b => b.size
  | _ => 0

/-- What reads numbers hands back. -/
def RvsR (s : ByteArray) (w : World) (e : Ending) (w' : World) : Prop :=
  Below w.heap.size w w' ∧ ((∃ A v, s = catN A ∧ InN A ∧ e = .returned (.tuple #[v, .bool true]) ∧ w'.ownsRow w.heap.size 3 1 v A.length (A.map (Value.int .i64))) ∨ ((∀ A, InN A → s ≠ catN A) ∧ e = .returned (.tuple #[.slice none 0 0, .bool false])))

theorem rvs_bad {s T : ByteArray} {A : List Int} (hA : InN A) (hs : s = catN A ++ T) (hT : T ≠ ⟨#[]⟩) (h : (rv0 T).2 = 0) : ∀ B, InN B → s ≠ catN B := fun B hB e => by
  rw [hs] at e
  obtain ⟨C, h1, h2⟩ := split_cat A B T hA hB e
  cases C with
  | nil => exact hT h2
  | cons c C =>
    have hc := hB c (by rw [h1]; exact List.mem_append_right _ List.mem_cons_self)
    have h2' : T = vrV c ++ catN C := h2
    rw [h2', rv_cat c _ hc.1 hc.2] at h
    have h' : ((vrV c).size : Int) = 0 := h
    have := vrV_pos c
    omega

theorem rvs_more {s T : ByteArray} {A : List Int} {a : Int} {n : Nat} (hA : InN A) (hs : s = catN A ++ T) (h1 : rv0 T = (a, (n : Int))) (hn : n ≠ 0) :
    InN (A ++ [a]) ∧ s = catN (A ++ [a]) ++ T.extract n T.size ∧ n ≤ T.size := by
  obtain ⟨n', e1, e2, e3, e4, e5⟩ := rv_some T (by rw [h1]; show (n : Int) ≠ 0; omega)
  rw [h1] at e1 e4 e5
  have hn' : n' = n := by have : (n : Int) = (n' : Int) := e1; omega
  subst hn'
  refine ⟨?_, ?_, e3⟩
  · intro x hx
    rcases List.mem_append.1 hx with hx | hx
    · exact hA x hx
    · rw [List.mem_singleton.1 hx]; exact e4
  · rw [catN_one, ba_assoc, hs]
    congr 1

theorem own_snocI {w : World} {base : Nat} {v : Value} {acc : List Int} {y : Int} (h : w.ownsRow base 3 1 v (acc.length + 1) (acc.map (Value.int .i64) ++ [.int .i64 y])) : w.ownsRow base 3 1 v (acc ++ [y]).length ((acc ++ [y]).map (Value.int .i64)) := by
  simpa using h

theorem mapI_at (t : List Int) (j : Nat) (h : j < t.length) : (t.map (Value.int .i64))[j]? = some (.int .i64 t[j]) := by
  rw [List.getElem?_map, List.getElem?_eq_getElem h]; rfl

set_option maxRecDepth 20000 in
set_option maxHeartbeats 4000000 in
theorem readVars_c (s : ByteArray) (w : World) (hs : s.size ≤ 1000) : Calls Tryd.prog 22 #[.string s] w (RvsR s w) := by
  obtain ⟨i0, hi, hz0, hz1, hz2⟩ := info_parts infoInt
  have hml : (1048577 : Nat) ≤ maxLen := by unfold maxLen; omega
  have HS : Hid (s.size ≤ 1000) := hs
  clear hs
  go_enter Tryd.func22, Tryd.ntmps22
  go_wp2
  go_loopw [0, 4] (fun sv v wr => ∃ (T : ByteArray) (A : List Int), sv = .string T ∧ Hid (s = catN A ++ T) ∧ Hid (InN A) ∧ Hid (wr.ownsRow w.heap.size 3 1 v A.length (A.map (Value.int .i64))) ∧ Hid (Below w.heap.size w wr)) (fun sv _ _ => strSz sv)
  case atStart => exact ⟨s, [], rfl, (show s = catN [] ++ s from (ba_nilE _).symm), (show InN [] from fun _ h => by cases h), ⟨rfl, Or.inl ⟨rfl, rfl⟩⟩, Below.refl _ _⟩
  case round =>
    obtain ⟨T, A, rfl, HT, HA, HO, HB⟩ := hrel
    have HL : Hid (A.length ≤ 1000 ∧ T.size ≤ 1000) := by
      have e1 := catN_len A
      have e3 := congrArg ByteArray.size HT.out
      rw [ByteArray.size_append] at e3
      have := HS.out
      show _ ∧ _
      omega
    by_cases hT : T = ⟨#[]⟩
    · have HF : Hid (s = catN A) := by have := HT.out; rw [hT, ba_addE] at this; exact this
      subst hT
      go_wp2
      go_ret2
      exact ⟨HB.out, .inl ⟨A, _, HF.out, HA.out, rfl, HO.out⟩⟩
    · have hq0 : T.toList.isEmpty = false := txe_no (by
        rcases Nat.eq_zero_or_pos T.size with h | h
        · exact absurd (by cases T; simp only [ByteArray.mk.injEq]; exact Array.eq_empty_of_size_eq_zero h) hT
        · exact h)
      obtain ⟨a, n, h1⟩ : ∃ (a : Int) (n : Nat), rv0 T = (a, (n : Int)) := ⟨(rv0 T).1, (rv0 T).2.toNat, by have := (rv_bound T).2.2.1; rw [Int.toNat_of_nonneg this]⟩
      have HN1 : Hid (n = 0 → ∀ B, InN B → s ≠ catN B) := fun h => rvs_bad HA.out HT.out hT (by rw [h1, h]; rfl)
      have HM1 : Hid (n ≠ 0 → InN (A ++ [a]) ∧ s = catN (A ++ [a]) ++ T.extract n T.size ∧ n ≤ T.size) := fun h => rvs_more HA.out HT.out h1 h
      have H1 : Hid ((rv0 T).1 = a ∧ (rv0 T).2 = (n : Int)) := by show _ ∧ _; rw [h1]; exact ⟨rfl, rfl⟩
      have HNB : Hid (n ≤ T.size) := by have := (rv_bound T).2.2.2; rw [h1] at this; have h' : (n : Int) ≤ (T.size : Int) := this; show _ ≤ _; omega
      clear h1 hT
      go_wp2_with fail
      refine (irv_c T wr (by have := HL.out; omega)).mono ?_
      rintro e wz ⟨rfl, hw⟩
      replace hw := hw.symm
      subst hw
      rw [H1.out.1, H1.out.2]
      by_cases hn : n = 0
      · have HF : Hid (∀ B, InN B → s ≠ catN B) := HN1.out hn
        have hq : ((n : Int) == 0) = true := by rw [hn]; rfl
        clear hn
        go_wp2
        go_ret2
        exact ⟨HB.out, .inr ⟨HF.out, rfl⟩⟩
      have hq : ((n : Int) == 0) = false := by simp; omega
      obtain ⟨g1, g2, g3⟩ := HM1.out hn
      have HA3 : Hid (InN (A ++ [a])) := g1
      have HT3 : Hid (s = catN (A ++ [a]) ++ T.extract n T.size) := g2
      have HSZ : Hid ((T.extract n T.size).size < T.size) := by show _ < _; simp; omega
      have hsl := sl_atV T n (n : Int) rfl g3
      have hnI : (n : Int) ≤ (T.size : Int) := by omega
      have hTI : (T.size : Int) ≤ 1000 := by have := HL.out; omega
      clear hn g1 g2 g3
      generalize T.extract n T.size = U at HT3 hsl HSZ
      have hown1 := HO.out
      have hlen := HL.out.1
      go_wp2_with (at_builtin; refine wpList_append_own _ rfl _ _ 52 rfl w.heap.size 3 i0 (.int .i64 0) 1 8 Tryd.underlying52 hi hz0 hz1 hz2 rfl (by decide) _ _ _ rfl (hown1.alloc _) ⟨wr.heap.size, 0, none⟩ 1 1 [.int .i64 a] rfl rfl (cell_one_new _ _ _) (by intro u hu; simp at hu; subst hu; rfl) (by omega) (by omega) (by have := HB.out.size; simp; omega) ?_)
      intro v' w3 hown3 hgrow _
      have R1 := own_snocI hown3
      have R2 := below_append HB.out (Nat.le_refl _) hown1 hgrow
      have HR1 : Hid (w3.ownsRow w.heap.size 3 1 v' (A ++ [a]).length ((A ++ [a]).map (Value.int .i64))) := R1
      have HR2 : Hid (Below w.heap.size w w3) := R2
      clear hown3 hgrow hown1 R1 R2
      go_wp2
      go_roundw
      case rel => exact ⟨U, A ++ [a], rfl, HT3, HA3, HR1, HR2⟩
      case measure => first | exact HSZ.out | (simp [strSz]; exact HSZ.out)

end Go.Proofs.YtdhbhifgmbppjaaDoor

/- Pairs of numbers, by the program. -/
namespace Go.Proofs.YtdhbhifgmbppjaaDoor
open Go.RowKit
set_option linter.unusedVariables false
set_option linter.unusedSimpArgs false

theorem cell_allocV {w : World} {a : Addr} {u : Value} {o : Obj} (h : w.cell? a = some u) : (w.alloc o).cell? a = some u := (World.grownBy_alloc w o none).cell h (by simp)

theorem flatP_at : ∀ (L : List S_Pair) (k : Nat) (h : k < L.length), (flatP L)[2 * k]? = some L[k].f0 ∧ (flatP L)[2 * k + 1]? = some L[k].f1
  | p :: L, 0, _ => ⟨rfl, rfl⟩
  | p :: L, k + 1, h => by
    have ih := flatP_at L k (by simpa using h)
    have e1 : 2 * (k + 1) = 2 * k + 1 + 1 := by omega
    rw [e1]
    exact ih

theorem rPair_len2 (L : List S_Pair) : (rPair L).length = L.length * 2 := rPair_len L

set_option maxRecDepth 20000 in
set_option maxHeartbeats 4000000 in
theorem pairs_c (L : List S_Pair) (v : Value) (w : World) (hn : L.length ≤ 1000) (hr : RowR w v (2 * L.length) 1 ((flatP L).map (Value.int .i64))) :
    Calls Tryd.prog 23 #[v] w fun e w' => ∃ v', e = .returned v' ∧ w'.ownsRow w.heap.size 48 2 v' L.length (rPair L) ∧ Below w.heap.size w w' := by
  obtain ⟨iR, hiR, hR0, hR1, hR2⟩ := info_parts infoPr
  obtain ⟨n, hnn⟩ : ∃ n, n = 2 * L.length := ⟨_, rfl⟩
  rw [← hnn] at hr
  have HR : Hid (RowR w v n 1 ((flatP L).map (Value.int .i64))) := hr
  obtain ⟨p, cap, hv⟩ : ∃ p cap, v = .slice p n cap := by obtain ⟨_, p, cap, hv, _⟩ := hr; exact ⟨p, cap, hv⟩
  subst hv
  have HNN : Hid (n = 2 * L.length) := hnn
  have HLn : Hid (L.length ≤ 1000) := hn
  have hn' : (n : Int) ≤ 2000 := by omega
  clear hr hn hnn
  go_enter Tryd.func23, Tryd.ntmps23
  go_wp2
  go_loopw [3, 4] (fun ov iv wr => ∃ k q : Nat, q = 2 * k ∧ q ≤ n ∧ iv = .int .i64 ((q + 1 : Nat) : Int) ∧ Hid (wr.ownsRow w.heap.size 48 2 ov (L.take k).length (rPair (L.take k))) ∧ Hid (Below w.heap.size w wr)) (fun _ iv _ => n + 1 - (intOf iv).toNat)
  case atStart => exact ⟨0, 0, rfl, Nat.zero_le _, rfl, ⟨rfl, Or.inl ⟨rfl, rfl⟩⟩, Below.refl _ _⟩
  case round =>
    obtain ⟨k, q, hq, hqn, rfl, HO, HBr⟩ := hrel
    by_cases hlt : k < L.length
    · have hlt2 : q + 1 < n := by have := HNN.out; omega
      have hlt' : ((q + 1 : Nat) : Int) < (n : Int) := by omega
      have hlq : ((q : Nat) : Int) < (n : Int) := by omega
      obtain ⟨b, off, cap', hv, hb, hc⟩ := HR.out.some (by omega) (by decide)
      simp only [Value.slice.injEq, true_and] at hv
      obtain ⟨rfl, rfl⟩ := hv
      have hat := flatP_at L k hlt
      have c0 : wr.cell? ⟨b, off + q, none⟩ = some (.int .i64 (L[k]).f0) := by rw [HBr.out.cell (by exact hb), hc q (by omega), List.getElem?_map, hq, hat.1]; rfl
      have c1 : wr.cell? ⟨b, off + (q + 1), none⟩ = some (.int .i64 (L[k]).f1) := by rw [HBr.out.cell (by exact hb), hc (q + 1) (by omega), List.getElem?_map, hq, hat.2]; rfl
      have HTK : Hid (L.take (k + 1) = L.take k ++ [L[k]]) := List.take_succ_eq_append_getElem hlt
      have HWQ : Hid (IntKind.i64.wrap (((q + 1 : Nat) : Int) - 1) = ((q : Nat) : Int)) := by show _ = _; rw [IntWalk.i64_in _ (by omega)]; omega
      have HKL : Hid ((L.take k).length ≤ 1000) := by have := HLn.out; show _ ≤ _; rw [List.length_take]; omega
      have HQ : Hid (q = 2 * k) := hq
      have hw3 : IntKind.i64.wrap (((q + 1 : Nat) : Int) + 2) = (((q + 2) + 1 : Nat) : Int) := by rw [IntWalk.i64_in _ (by omega)]; omega
      clear hc hat
      generalize L[k] = X at c0 c1 HTK
      clear hq
      go_upto_region 5 with fail
      refine wp_region_L [⟨11, fun W => W.cell? ⟨b, off + q, none⟩ = some (.int .i64 X.f0)⟩, ⟨11, fun W => W.cell? ⟨b, off + (q + 1), none⟩ = some (.int .i64 X.f1)⟩] (by kernel_rfl) (fun f hf => by
          simp only [List.mem_cons, List.not_mem_nil, or_false] at hf
          rcases hf with rfl | rfl
          · exact c0
          · exact c1
          ) ?_
      refine At.take 0 (some 11) (u3) rfl rfl (by kernel_rfl) (by kernel_rfl) (by kernel_rfl) (by kernel_rfl) (fun _ _ _ h => h) (yl_pure (by kernel_rfl) (fun _ => by kernel_rfl)) ?_
      refine At.take 1 (some 12) (.slice (some ⟨b, off, none⟩) n cap) rfl rfl (by kernel_rfl) (by kernel_rfl) (by kernel_rfl) (by kernel_rfl) (fun _ _ _ h => h) (yl_pure (by kernel_rfl) (fun _ => by kernel_rfl)) ?_
      refine At.take 2 (some 13) (.int .i64 ((q + 1 : Nat) : Int)) rfl rfl (by kernel_rfl) (by kernel_rfl) (by kernel_rfl) (by kernel_rfl) (fun _ _ _ h => h) (yl_pure (by kernel_rfl) (fun _ => by kernel_rfl)) ?_
      refine At.take 3 (some 14) (.int .i64 ((q : Nat) : Int)) rfl rfl (by kernel_rfl) (by kernel_rfl) (by kernel_rfl) (by kernel_rfl) (fun _ _ _ h => h) (yl_is (.int .i64 (IntKind.i64.wrap (((q + 1 : Nat) : Int) - 1))) (by rw [HWQ.out]) (by kernel_rfl) (fun _ => by kernel_rfl)) ?_
      refine At.take 4 (some 15) (.pointer (some ⟨b, off + q, none⟩)) rfl rfl (by kernel_rfl) (by kernel_rfl) (by kernel_rfl) (by kernel_rfl) (fun _ _ _ h => h) (yl_pure (by kernel_rfl) (fun w => by go_simp)) ?_
      refine At.take 5 (some 16) (.int .i64 X.f0) rfl rfl (by kernel_rfl) (by kernel_rfl) (by kernel_rfl) (by kernel_rfl) (fun _ _ _ h => h) (yl_load 11 ⟨b, off + q, none⟩ (.int .i64 X.f0) (List.mem_cons_self) [10, 11] (by kernel_rfl) rfl (by kernel_rfl) (fun _ => by kernel_rfl)) ?_
      refine At.take 6 (some 17) (.slice (some ⟨b, off, none⟩) n cap) rfl rfl (by kernel_rfl) (by kernel_rfl) (by kernel_rfl) (by kernel_rfl) (fun _ _ _ h => h) (yl_pure (by kernel_rfl) (fun _ => by kernel_rfl)) ?_
      refine At.take 7 (some 18) (.int .i64 ((q + 1 : Nat) : Int)) rfl rfl (by kernel_rfl) (by kernel_rfl) (by kernel_rfl) (by kernel_rfl) (fun _ _ _ h => h) (yl_pure (by kernel_rfl) (fun _ => by kernel_rfl)) ?_
      refine At.take 8 (some 19) (.pointer (some ⟨b, off + (q + 1), none⟩)) rfl rfl (by kernel_rfl) (by kernel_rfl) (by kernel_rfl) (by kernel_rfl) (fun _ _ _ h => h) (yl_pure (by kernel_rfl) (fun w => by go_simp; exact fun h => absurd h (by omega))) ?_
      refine At.take 9 (some 20) (.int .i64 X.f1) rfl rfl (by kernel_rfl) (by kernel_rfl) (by kernel_rfl) (by kernel_rfl) (fun _ _ _ h => h) (yl_load 11 ⟨b, off + (q + 1), none⟩ (.int .i64 X.f1) (List.mem_cons_of_mem _ (List.mem_cons_self)) [10, 11] (by kernel_rfl) rfl (by kernel_rfl) (fun _ => by kernel_rfl)) ?_
      refine At.take 10 (some 21) (.agg #[.int .i64 X.f0, .int .i64 X.f1]) rfl rfl (by kernel_rfl) (by kernel_rfl) (by kernel_rfl) (by kernel_rfl) (fun _ _ _ h => h) (yl_pure (by kernel_rfl) (fun _ => by kernel_rfl)) ?_
      refine At.step 11 (some 22) rfl rfl (by kernel_rfl) (by kernel_rfl) (fun u W => u = .slice (some ⟨wr.drew.heap.size, 0, none⟩) 1 1 ∧ W = wr.drew.alloc (.cells #[.int .i64 X.f0, .int .i64 X.f1] 48)) (gives_run (by kernel_rfl)) ?_
      rintro u WB ⟨rfl, hWB⟩
      refine ⟨by subst hWB; exact held_cons (.inl (by kernel_rfl)) (held_cons (.inl (by kernel_rfl)) (held_nil)), ?_⟩
      have HOB : Hid (WB.ownsRow w.heap.size 48 2 u3 (L.take k).length (rPair (L.take k))) := by rw [hWB]; exact (show wr.drew.ownsRow _ _ _ _ _ _ from HO.out).alloc _
      have HBB : Hid (Below w.heap.size w WB) := by rw [hWB]; exact (HBr.out.drew).alloc HBr.out.size _
      obtain ⟨v', WC, hrunC, hownC, hgrowC, _⟩ := run_append_own (P := Tryd.prog) WB w.heap.size 24 24 48 iR (.agg #[.int .i64 0, .int .i64 0]) 2 16 Tryd.underlying24 hiR hR0 hR1 hR2 rfl (by decide) u3 (L.take k).length _ HOB.out ⟨wr.drew.heap.size, 0, none⟩ 1 1 [.int .i64 X.f0, .int .i64 X.f1] rfl (by rw [hWB]; exact cell_two_new wr.drew _ _ _) (by intro u hu; simp at hu; rcases hu with rfl | rfl <;> rfl) (by have := HKL.out; unfold maxLen; omega) (by have := HKL.out; omega) HBB.out.size
      refine At.step 12 (some 23) rfl rfl (by kernel_rfl) (by kernel_rfl) (fun u W => u = v' ∧ W = WC) (gives_append (fun _ => by kernel_rfl) hrunC) ?_
      rintro u WC' ⟨rfl, hWC⟩
      subst hWC
      refine ⟨held_cons (.inl (by kernel_rfl)) (held_cons (.inl (by kernel_rfl)) (held_nil)), ?_⟩
      refine At.take 13 (some 3) (u) rfl rfl (by kernel_rfl) (by kernel_rfl) (by kernel_rfl) (by kernel_rfl) (fun _ _ _ h => h) (yl_pure (by kernel_rfl) (fun _ => by kernel_rfl)) ?_
      refine At.done (by kernel_rfl) ?_
      simp only [Act.put, List.setIfInBounds_toArray, List.set_cons_zero, List.set_cons_succ]
      have HOE : Hid (WC'.ownsRow w.heap.size 48 2 u (L.take (k + 1)).length (rPair (L.take (k + 1)))) := by
        show WC'.ownsRow _ _ _ _ _ _
        rw [HTK.out, rPair_one, List.length_append]
        exact hownC
      have HBE : Hid (Below w.heap.size w WC') := HBB.out.grown hgrowC HBB.out.size (ownBlock_ge HOB.out)
      clear hownC hgrowC hrunC HOB HBB hWB c0 c1 HWQ
      go_wp2
      go_roundw
      case rel => exact ⟨k + 1, q + 2, by have := HQ.out; omega, by omega, by go_num, HOE, HBE⟩
      case measure => simp [intOf]; omega
    · have hq2 : ¬ ((q + 1 : Nat) : Int) < (n : Int) := by have := HNN.out; omega
      have HF : Hid (wr.ownsRow w.heap.size 48 2 u3 L.length (rPair L)) := by have := HO.out; rw [List.take_of_length_le (by omega)] at this; exact this
      clear hq
      go_wp2
      go_ret
      exact ⟨_, rfl, HF.out, HBr.out⟩

end Go.Proofs.YtdhbhifgmbppjaaDoor

/- ReadCanon of the program. -/
namespace Go.Proofs.YtdhbhifgmbppjaaDoor
open Go.RowKit
set_option linter.unusedVariables false
set_option linter.unusedSimpArgs false

theorem pairs_of : ∀ (A : List Int) (n : Nat), A.length = 2 * n → ∃ L, flatP L = A
  | [], _, _ => ⟨[], rfl⟩
  | [a], n, h => by simp at h; omega
  | a :: b :: A, n, h => by
    obtain ⟨L, hL⟩ := pairs_of A (n - 1) (by simp at h; omega)
    exact ⟨⟨a, b⟩ :: L, by show a :: b :: flatP L = _; rw [hL]⟩

set_option maxRecDepth 20000 in
set_option maxHeartbeats 4000000 in
theorem implRead_c (s : ByteArray) (w : World) (hs : s.size ≤ 1048576) : Calls Tryd.prog 7 #[.string s] w (RdcR s w) := by
  obtain ⟨W0, hW0⟩ : ∃ W, W = w.alloc (.cells #[.slice none 0 0] 26) := ⟨_, rfl⟩
  have HW0 : Hid (w.alloc (.cells #[.slice none 0 0] 26) = W0) := hW0.symm
  have HX0 : Hid (W0.heap[w.heap.size]? = some (.cells #[.slice none 0 0] 26)) := by rw [hW0]; exact alloc_last _ _
  have HZ0 : Hid (W0.heap.size = w.heap.size + 1) := by show _ = _; rw [hW0]; simp
  have HB0 : Hid (Below w.heap.size w W0) := by rw [hW0]; exact (Below.refl _ _).alloc (Nat.le_refl _) _
  clear hW0
  have HS : Hid (s.size ≤ 1048576) := hs
  have hsI : (s.size : Int) ≤ 1048576 := by omega
  clear hs
  go_enter Tryd.func7, Tryd.ntmps7
  go_wp2_with fail
  rw [HW0.out]
  refine (cut_c s W0 HS.out).mono ?_
  rintro e wz ⟨⟨T, hT, rfl⟩ | ⟨hT, rfl⟩, hw⟩
  rotate_left
  · replace hw := hw.symm
    subst hw
    have HF : Hid (¬ HasV s) := fun ⟨L, hL, e⟩ => hT (catN ((L.length : Int) :: flatP L)) (by rw [← e]; exact canT_cat hL)
    clear hT
    have z0 := box1 HX0.out
    have zf0 := frz1 HX0.out 0
    go_wp2
    refine bodyPost_ret (v := .tuple #[.agg #[.slice none 0 0], .bool false]) (by simp [results, Tryd.results7, go_sem, z0]) rfl ?_
    exact rdc_no HF.out (HB0.out.setCell (Nat.le_refl _) _)
  replace hw := hw.symm
  subst hw
  have HT : Hid (s = pfx ++ T) := hT
  clear hT
  by_cases h250 : (250 : Int) < (s.size : Int)
  · have HF : Hid (¬ HasV s) := fun ⟨L, hL, e⟩ => by have := (has_tail hL e).2.2.1; omega
    have z0 := box1 HX0.out
    have zf0 := frz1 HX0.out 0
    go_wp2
    refine bodyPost_ret (v := .tuple #[.agg #[.slice none 0 0], .bool false]) (by simp [results, Tryd.results7, go_sem, z0]) rfl ?_
    exact rdc_no HF.out (HB0.out.setCell (Nat.le_refl _) _)
  have HTS : Hid (T.size ≤ 1000) := by have := congrArg ByteArray.size HT.out; rw [ByteArray.size_append] at this; show _ ≤ _; omega
  have HNO : Hid ((∀ A, InN A → T ≠ catN A) → ¬ HasV s) := fun h ⟨L, hL, e⟩ => h _ (okV_inN hL) (by
    have := canT_cat hL
    rw [e, HT.out] at this
    exact ba_cancel this)
  go_wp2_with fail
  refine (readVars_c T W0 HTS.out).mono ?_
  rintro e w1 ⟨b1, ⟨A, v, hA, hin, rfl, ho⟩ | ⟨hA, rfl⟩⟩
  rotate_left
  · have HX1 : Hid (w1.heap[w.heap.size]? = some (.cells #[.slice none 0 0] 26)) := (b1.block _ (lt_of_some HX0.out)).trans HX0.out
    have HB1 : Hid (Below w.heap.size w w1) := HB0.out.trans (b1.mono HB0.out.size)
    have HF : Hid (¬ HasV s) := HNO.out hA
    clear b1 hA
    have z0 := box1 HX1.out
    have zf0 := frz1 HX1.out 0
    go_wp2
    refine bodyPost_ret (v := .tuple #[.agg #[.slice none 0 0], .bool false]) (by simp [results, Tryd.results7, go_sem, z0]) rfl ?_
    exact rdc_no HF.out (HB1.out.setCell (Nat.le_refl _) _)
  have HX1 : Hid (w1.heap[w.heap.size]? = some (.cells #[.slice none 0 0] 26)) := (b1.block _ (lt_of_some HX0.out)).trans HX0.out
  have HB1 : Hid (Below w.heap.size w w1) := HB0.out.trans (b1.mono HB0.out.size)
  have HO1 : Hid (w1.ownsRow W0.heap.size 3 1 v A.length (A.map (Value.int .i64))) := ho
  have HAL : Hid (A.length ≤ 1000) := by have := catN_len A; rw [← hA] at this; have := HTS.out; show _ ≤ _; omega
  have HSE : Hid (∀ L, okV L → canT L = s → A = (L.length : Int) :: flatP L) := fun L hL e => by
    have h1 := canT_cat hL
    rw [e, HT.out] at h1
    have h2 := ba_cancel h1
    rw [hA] at h2
    exact cat_inj hin (okV_inN hL) h2
  have HSA : Hid (s = pfx ++ catN A) := by rw [← hA]; exact HT.out
  obtain ⟨p, cap, rfl⟩ := own_sliceV ho
  have HIN : Hid (InN A) := hin
  clear b1 ho hA hin
  cases A with
  | nil =>
    have HF : Hid (¬ HasV s) := fun ⟨L, hL, e⟩ => by cases HSE.out L hL e
    have hl0 : ((([] : List Int).length : Nat) : Int) = 0 := rfl
    have z0 := box1 HX1.out
    have zf0 := frz1 HX1.out 0
    go_wp2
    refine bodyPost_ret (v := .tuple #[.agg #[.slice none 0 0], .bool false]) (by simp [results, Tryd.results7, go_sem, z0]) rfl ?_
    exact rdc_no HF.out (HB1.out.setCell (Nat.le_refl _) _)
  | cons n0 A =>
    obtain ⟨g, off, cap', hv, hb, hc⟩ := (RowR.own HO1.out).some (by simp) (by decide)
    simp only [Value.slice.injEq, true_and] at hv
    obtain ⟨rfl, rfl⟩ := hv
    have c0 : w1.cell? ⟨g, off, none⟩ = some (.int .i64 n0) := by have := hc 0 (by simp); rw [Nat.add_zero] at this; rw [this]; rfl
    have hn0 := HIN.out n0 List.mem_cons_self
    obtain ⟨len, hlen⟩ : ∃ len, (n0 :: A).length = len := ⟨_, rfl⟩
    have HLEN : Hid (A.length + 1 = len) := hlen
    have hlI : (len : Int) ≤ 1000 := by have := HAL.out; omega
    have hl1 : (1 : Int) ≤ (len : Int) := by have := HLEN.out; omega
    have hl0 : ((len : Int) == 0) = false := by simp; omega
    have hw1 : IntKind.i64.wrap (2 * n0) = 2 * n0 := IntWalk.i64_in _ (by omega)
    have hw2 : IntKind.i64.wrap (1 + 2 * n0) = 1 + 2 * n0 := IntWalk.i64_in _ (by omega)
    rw [hlen] at HO1 ⊢
    have hcapI : len ≤ cap := by
      obtain ⟨_, ⟨h, _⟩ | ⟨g', cap', cur, hv, _, _, hle, _⟩⟩ := HO1.out
      · cases h
      · simp only [Value.slice.injEq] at hv
        obtain ⟨_, _, rfl⟩ := hv
        exact hle
    have hsl : ∀ W, (Instr.slice 52 (.slice (some ⟨g, off, none⟩) len cap) (some (.int .i64 1)) none none).run Tryd.prog W = .ok (.slice (if cap = 1 then some ⟨g, off, none⟩ else some ⟨g, off + 1, none⟩) (len - 1) (cap - 1)) W := fun W => by go_simp
    have HR1 : Hid (RowR w1 (.slice (if cap = 1 then some ⟨g, off, none⟩ else some ⟨g, off + 1, none⟩) (len - 1) (cap - 1)) A.length 1 (A.map (Value.int .i64))) := by
      have hA := HLEN.out
      refine ⟨by simp, (if cap = 1 then some ⟨g, off, none⟩ else some ⟨g, off + 1, none⟩), cap - 1, by rw [← hA]; rfl, fun j hj => ⟨g, off + 1, if_neg (by omega), hb, ?_⟩⟩
      have := hc (j + 1) (by simp; omega)
      rw [show off + 1 + j = off + (j + 1) by omega, this]
      rfl
    generalize (if cap = 1 then some (⟨g, off, none⟩ : Addr) else some ⟨g, off + 1, none⟩) = P1 at hsl HR1
    clear hc hlen
    by_cases hq : (len : Int) = 1 + 2 * n0
    rotate_left
    · have HF : Hid (¬ HasV s) := fun ⟨L, hL, e⟩ => by
        have h1 := HSE.out L hL e
        simp only [List.cons.injEq] at h1
        have h2 := HLEN.out
        rw [h1.2, flatP_len] at h2
        omega
      have hqb : ((len : Int) != 1 + 2 * n0) = true := by simp; exact hq
      clear hq
      have z0 := box1 HX1.out
      have zf0 := frz1 HX1.out 0
      go_wp2
      refine bodyPost_ret (v := .tuple #[.agg #[.slice none 0 0], .bool false]) (by simp [results, Tryd.results7, go_sem, z0]) rfl ?_
      exact rdc_no HF.out (HB1.out.setCell (Nat.le_refl _) _)
    have hqb : ((len : Int) != 1 + 2 * n0) = false := by simp; exact hq
    obtain ⟨L, hL⟩ : ∃ L, flatP L = A := pairs_of A n0.toNat (by have := HLEN.out; omega)
    have HLL : Hid (L.length ≤ 1000 ∧ (L.length : Int) = n0 ∧ 2 * L.length = A.length) := by have h1 := flatP_len L; rw [hL] at h1; have := HLEN.out; show _ ∧ _; omega
    have HSL : Hid ((∀ M, okV M → canT M = s → M = L) ∧ (okV L → canT L = s)) := ⟨fun M hM e => by
      have h1 := HSE.out M hM e
      simp only [List.cons.injEq] at h1
      exact flatP_inj (h1.2.symm.trans hL.symm), fun hk => by
      rw [canT_cat hk, HSA.out, HLL.out.2.1, hL]
      rfl⟩
    have HR2 : Hid (RowR w1 (.slice P1 (len - 1) (cap - 1)) (2 * L.length) 1 ((flatP L).map (Value.int .i64))) := by rw [HLL.out.2.2, hL]; exact HR1.out
    clear hq hL
    go_wp2_with fail
    refine (pairs_c L _ w1 HLL.out.1 HR2.out).mono ?_
    rintro e w2 ⟨v', rfl, ho2, b2⟩
    have HX2 : Hid (w2.heap[w.heap.size]? = some (.cells #[.slice none 0 0] 26)) := (b2.block _ (lt_of_some HX1.out)).trans HX1.out
    have HB2 : Hid (Below w.heap.size w w2) := HB1.out.trans (b2.mono HB1.out.size)
    have HL2 : Hid (w.heap.size < w1.heap.size) := lt_of_some HX1.out
    obtain ⟨p2, cap2, rfl⟩ := own_sliceV ho2
    have HO2 : Hid (w2.ownsRow w1.heap.size 48 2 (.slice p2 L.length cap2) L.length (rPair L)) := ho2
    clear b2 ho2 c0 hsl
    obtain ⟨W3, hW3⟩ : ∃ W, W = w2.alloc (.cells #[.slice p2 L.length cap2] 26) := ⟨_, rfl⟩
    have HW3 : Hid (w2.alloc (.cells #[.slice p2 L.length cap2] 26) = W3) := hW3.symm
    have HY3 : Hid (W3.heap[w2.heap.size]? = some (.cells #[.slice p2 L.length cap2] 26)) := by rw [hW3]; exact alloc_last _ _
    have HX3 : Hid (W3.heap[w.heap.size]? = some (.cells #[.slice none 0 0] 26)) := by rw [hW3]; exact (((Below.refl w2.heap.size w2).alloc (Nat.le_refl _) _).block _ (lt_of_some HX2.out)).trans HX2.out
    have HB3 : Hid (Below w.heap.size w W3) := by rw [hW3]; exact HB2.out.alloc HB2.out.size _
    have HO3 : Hid (W3.ownsRow w1.heap.size 48 2 (.slice p2 L.length cap2) L.length (rPair L)) := by rw [hW3]; exact HO2.out.alloc _
    clear hW3
    have y0 := box1 HY3.out
    go_wp2_with fail
    rw [HW3.out]
    refine (implVok_c L p2 cap2 W3 (by have := HLL.out.1; omega) (RowR.own HO3.out)).mono ?_
    rintro e w4 ⟨rfl, b4⟩
    have HX4 : Hid (w4.heap[w.heap.size]? = some (.cells #[.slice none 0 0] 26)) := (b4.block _ (lt_of_some HX3.out)).trans HX3.out
    have HY4 : Hid (w4.heap[w2.heap.size]? = some (.cells #[.slice p2 L.length cap2] 26)) := (b4.block _ (lt_of_some HY3.out)).trans HY3.out
    have HB4 : Hid (Below w.heap.size w w4) := HB3.out.trans (b4.mono HB3.out.size)
    have HO4 : Hid (w4.ownsRow w1.heap.size 48 2 (.slice p2 L.length cap2) L.length (rPair L)) := own_bel HO3.out b4 (Nat.le_refl _)
    clear b4 y0
    by_cases hok : okV L
    rotate_left
    · have HF : Hid (¬ HasV s) := fun ⟨M, hM, e⟩ => hok (by rw [← HSL.out.1 M hM e]; exact hM)
      rw [decide_eq_false hok]
      clear hok
      have z0 := box1 HX4.out
      have zf0 := frz1 HX4.out 0
      go_wp2
      refine bodyPost_ret (v := .tuple #[.agg #[.slice none 0 0], .bool false]) (by simp [results, Tryd.results7, go_sem, z0]) rfl ?_
      exact rdc_no HF.out (HB4.out.setCell (Nat.le_refl _) _)
    rw [decide_eq_true hok]
    have HOK : Hid (okV L) := hok
    clear hok
    have z0 := box1 HX4.out
    have zf0 := frz1 HX4.out 0
    have y0 := box1 HY4.out
    have HO9 : Hid ((w4.setCell ⟨w.heap.size, 0, none⟩ (.slice p2 L.length cap2)).ownsRow w.heap.size 48 2 (.slice p2 L.length cap2) L.length (rPair L)) := own_low (own_set_lt HO4.out _ (by exact HL2.out)) (Nat.le_of_lt HL2.out)
    have z9 := box1 (set1 HX4.out (.slice p2 L.length cap2))
    go_wp2
    refine bodyPost_ret (v := .tuple #[.agg #[.slice p2 L.length cap2], .bool true]) (by simp [results, Tryd.results7, go_sem, z9, z0]) rfl ?_
    exact rdc_yes HOK.out (HSL.out.2 HOK.out) HO9.out (HB4.out.setCell (Nat.le_refl _) _)

end Go.Proofs.YtdhbhifgmbppjaaDoor
