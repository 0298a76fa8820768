/- Rows of numbers that are the same; what came in. -/
import Derived.Test.YtdhbhifgmbppjaaVwDraw
import Derived.Test.YtdhbhifgmbppjaaHaInts
import Derived.Test.YtdhbhifgmbppjaaJNm
namespace Go.Proofs.Ytdhbhifgmbppjaa
open Go.RowKit
set_option linter.unusedVariables false
set_option linter.unusedSimpArgs false

/-- What the walk is told of a slice of bytes that came in. -/
def IsRow (w : World) (a : Option Addr) (len cap : Nat) (zs : List Int) : Prop :=
  (a = none ∧ len = 0 ∧ cap = 0 ∧ zs = []) ∨
  ∃ x, a = some x ∧ len ≤ cap ∧ cap ≤ maxLen ∧ zs.length = cap ∧ (∀ i, i < zs.length → w.cell? (x.add i) = some (.int .u8 (zs.getD i 0))) ∧ ∀ n ∈ zs, (Lit.int .u8 n).wf = true

theorem IsRow.code {w : World} {a : Option Addr} {len cap : Nat} {zs : List Int} (h : IsRow w a len cap zs) : CodeAt w w.heap.size a len zs := by
  intro j hj
  rcases h with ⟨_, rfl, _⟩ | ⟨x, rfl, hl, hm, hz, hcell, hwz⟩
  · omega
  · obtain ⟨b, off, spot⟩ := x
    have hspot : spot = none := by simpa [Addr.add] using World.cell?_spot (hcell 0 (by omega))
    subst hspot
    have hplain : (⟨b, off, none⟩ : Addr).add j = ⟨b, off + j, none⟩ := by unfold Addr.add; split <;> simp_all
    have hc' := hcell j (by omega)
    rw [hplain] at hc'
    exact ⟨b, off, rfl, World.block_lt_of_cell? w _ hc', hc'⟩

theorem IsRow.range {w : World} {a : Option Addr} {len cap : Nat} {zs : List Int} (h : IsRow w a len cap zs) : ∀ j, 0 ≤ zs.getD j 0 ∧ zs.getD j 0 ≤ 255 := by
  intro j
  rcases h with ⟨_, _, _, rfl⟩ | ⟨x, rfl, hl, hm, hz, hcell, hwz⟩
  · simp
  · by_cases hj : j < zs.length
    · have e : zs.getD j 0 = zs[j] := by simp [List.getD, List.getElem?_eq_getElem hj]
      rw [e]
      have := bounds_u8 (hwz zs[j] (List.getElem_mem hj))
      omega
    · have e : zs.getD j 0 = 0 := by simp [List.getD, List.getElem?_eq_none (Nat.le_of_not_lt hj)]
      rw [e]; omega

theorem IsRow.len {w : World} {a : Option Addr} {len cap : Nat} {zs : List Int} (h : IsRow w a len cap zs) : len ≤ maxLen := by
  rcases h with ⟨_, rfl, _⟩ | ⟨x, rfl, hl, hm, _⟩
  · exact Nat.zero_le _
  · omega

set_option maxRecDepth 20000 in
set_option maxHeartbeats 4000000 in
theorem sameInts_c (v v2 : Value) (L : List Int) (w : World) (hn : L.length ≤ 1048576) (hr : IR w v L) (hr2 : IR w v2 L) :
    Calls Try.prog 15 #[v, v2] w fun e w' => e = .returned (.bool true) ∧ Below w.heap.size w w' := by
  have hn' : (L.length : Int) ≤ 1048576 := by omega
  have HR : Hid (IR w v L) := hr
  have HR2 : Hid (IR w v2 L) := hr2
  obtain ⟨p, cap, rfl⟩ := IR.slice hr
  obtain ⟨p2, cap2, rfl⟩ := IR.slice hr2
  clear hr hr2
  go_enter Try.func15, Try.ntmps15
  go_wp2
  go_loopw [5] (fun i wr => ∃ k : Nat, k ≤ L.length ∧ i = .int .i64 (k : Int) ∧ Hid (Below w.heap.size w wr)) (fun i _ => L.length - (intOf i).toNat)
  case atStart => exact ⟨0, Nat.zero_le _, rfl, Below.refl _ _⟩
  case round =>
    obtain ⟨k, hk, rfl, HB⟩ := hrel
    by_cases hlt : k < L.length
    · have hlt' : (k : Int) < L.length := by omega
      obtain ⟨b, off, rfl, hb, hc⟩ := HR.out.cells (by omega)
      obtain ⟨b2, off2, rfl, hb2, hc2⟩ := HR2.out.cells (by omega)
      have c0 : wr.cell? ⟨b, off + k, none⟩ = some (.int .i64 L[k]) := by rw [HB.out.cell (by exact hb)]; exact hc k hlt
      have d0 : wr.cell? ⟨b2, off2 + k, none⟩ = some (.int .i64 L[k]) := by rw [HB.out.cell (by exact hb2)]; exact hc2 k hlt
      clear hc hc2
      generalize L[k] = X at c0 d0
      go_wp2
      go_quiet (fail)
      go_wp2
      go_roundw
      case rel => exact ⟨k + 1, by omega, by go_num, bel_drewN HB.out _⟩
      case measure => simp [intOf]; omega
    · have hke : k = L.length := by omega
      subst hke
      go_wp2
      go_ret
      exact ⟨rfl, HB.out⟩

end Go.Proofs.Ytdhbhifgmbppjaa

/- Where two rows part; a beginning of a vocabulary. -/
namespace Go.Proofs.Ytdhbhifgmbppjaa
open Go.RowKit
set_option linter.unusedVariables false
set_option linter.unusedSimpArgs false

theorem prCap {w : World} {base : Nat} {p : Option Addr} {n c sz : Nat} {e : TypeId} {xs : List Value} (h : w.ownsRow base e sz (.slice p n c) n xs) : n ≤ c := by
  obtain ⟨_, ⟨hv, h0⟩ | ⟨g, cap, cur, hv, _, _, hc, _⟩⟩ := h
  · simp only [Value.slice.injEq] at hv
    omega
  · simp only [Value.slice.injEq] at hv
    omega

theorem rowPre {w : World} {p : Option Addr} {c : Nat} {L S : List S_Pair} (h : RowR w (.slice p L.length c) L.length 2 (rPair L)) (hS : L.take S.length = S) : RowR w (.slice p S.length c) S.length 2 (rPair S) := by
  have hl : S.length ≤ L.length := by
    have := congrArg List.length hS
    rw [List.length_take] at this
    omega
  obtain ⟨h1, p', cap, hv, hc⟩ := h
  simp only [Value.slice.injEq, true_and] at hv
  obtain ⟨rfl, rfl⟩ := hv
  refine ⟨by rw [rPair_len], _, c, rfl, fun j hj => ?_⟩
  obtain ⟨b', off', e, hlt, hcell⟩ := hc j (by omega)
  refine ⟨b', off', e, hlt, ?_⟩
  rw [hcell]
  have e2 : rPair L = rPair S ++ rPair (L.drop S.length) := by
    have : L = S ++ L.drop S.length := by conv => lhs; rw [← List.take_append_drop S.length L, hS]
    conv => lhs; rw [this]
    unfold rPair
    rw [List.flatMap_append]
  rw [e2, List.getElem?_append_left (by rw [rPair_len]; omega)]

theorem okT_bpe {M : List S_Pair} : ∀ (n : Nat) (ts : List Int), ts.length ≤ n → okT M ts → okT M (bpeL M ts)
  | n, ts, hn, h => by
    rcases hp : placeF M ts with _ | ⟨i, r⟩
    · unfold bpeL; rw [bpeN_none hp]; exact h
    · rw [bpeL_step hp]
      have hl := mgT_len (r := r) (matB_lt (place_is hp)).2
      match n, hn with
      | 0, hn => omega
      | n + 1, hn => exact okT_bpe n _ (by omega) (okT_mg h hp)

theorem om_start {L S : List S_Pair} (hS : L.take S.length = S) (hok : okV L) {s : ByteArray} (h64 : s.size ≤ 64) : bpF S s = bpeL S (bpI s) ∧ OmS L (bpeL L (bpI s)) S.length s.size (bpF S s).length (bpF S s) 0 := by
  have hl : S.length ≤ L.length := by
    have := congrArg List.length hS
    rw [List.length_take] at this
    omega
  have hoS : okV S := by rw [← hS]; exact okV_take hok hl
  have e : bpF S s = bpeL S (bpI s) := if_pos ⟨hoS, h64⟩
  have hT := okT_bpe _ _ (Nat.le_refl _) (okT_bp hoS h64)
  refine ⟨e, ⟨?_, ?_, ?_⟩, ?_, Nat.le_refl _⟩
  · rw [e]
    exact ⟨hok, hT.2.1, fun x hx => by have := hT.2.2 x hx; exact ⟨this.1, by have := this.2; omega⟩⟩
  · rw [e]
    have := bpe_take L S.length _ (bpI s) (Nat.le_refl _)
    rwa [hS] at this
  · rw [e]
    have := bpeN_len S (bpI s).length (bpI s)
    rw [bpI_len] at this
    show (bpeN S (bpI s).length (bpI s)).length + 0 ≤ _
    rw [bpI_len]
    omega
  · rw [e, hS]
    exact bpe_stable S _ _ (Nat.le_refl _)

set_option maxRecDepth 20000 in
set_option maxHeartbeats 4000000 in
theorem place_c (v v2 : Value) (x ts : List Int) (i : Nat) (a b : Int) (w : World) (hn : x.length ≤ 1048576) (hm : ts.length ≤ 1048576) (heq : ∀ j, j < i → x[j]? = ts[j]?) (ha : x[i]? = some a) (hb : ts[i]? = some b) (hne : b ≠ a) (hr : IR w v x) (hr2 : IR w v2 ts) :
    Calls Try.prog 17 #[v, v2] w fun e w' => e = .returned (.int .i64 (i : Int)) ∧ Below w.heap.size w w' := by
  have HR : Hid (IR w v x) := hr
  have HR2 : Hid (IR w v2 ts) := hr2
  have HEQ : Hid (∀ j, j < i → x[j]? = ts[j]?) := heq
  have HA : Hid (x[i]? = some a ∧ ts[i]? = some b) := ⟨ha, hb⟩
  have hix := (List.getElem?_eq_some_iff.1 ha).1
  have hit := (List.getElem?_eq_some_iff.1 hb).1
  have HNE : Hid (b ≠ a) := hne
  obtain ⟨p, cap, rfl⟩ := IR.slice hr
  obtain ⟨p2, cap2, rfl⟩ := IR.slice hr2
  clear hr hr2 heq ha hb hne
  go_enter Try.func17, Try.ntmps17
  go_wp2
  go_loopw [5] (fun iv wr => ∃ k : Nat, k ≤ i ∧ iv = .int .i64 (k : Int) ∧ Hid (Below w.heap.size w wr)) (fun iv _ => i - (intOf iv).toNat)
  case atStart => exact ⟨0, Nat.zero_le _, rfl, Below.refl _ _⟩
  case round =>
    obtain ⟨k, hk, rfl, HB⟩ := hrel
    have hkx : (k : Int) < (x.length : Int) := by omega
    have hkt : (k : Int) < (ts.length : Int) := by omega
    obtain ⟨b1, off, rfl, hb1, hc⟩ := HR.out.cells (by omega)
    obtain ⟨b2, off2, rfl, hb2, hc2⟩ := HR2.out.cells (by omega)
    have hkx' : k < x.length := by omega
    have hkt' : k < ts.length := by omega
    have c0 : wr.cell? ⟨b1, off + k, none⟩ = some (.int .i64 x[k]) := by rw [HB.out.cell (by exact hb1)]; exact hc k hkx'
    have d0 : wr.cell? ⟨b2, off2 + k, none⟩ = some (.int .i64 ts[k]) := by rw [HB.out.cell (by exact hb2)]; exact hc2 k hkt'
    have hge : ¬ (ts.length : Int) ≤ (k : Int) := by omega
    clear hc hc2
    by_cases hlt : k < i
    · have h1 := HEQ.out k hlt
      rw [List.getElem?_eq_getElem hkx', List.getElem?_eq_getElem hkt'] at h1
      rw [Option.some.inj h1] at c0
      clear h1
      generalize ts[k] = X at c0 d0
      go_wp2
      go_quiet (fail)
      go_wp2
      go_roundw
      case rel => exact ⟨k + 1, by omega, by go_num, bel_drewN HB.out _⟩
      case measure => simp [intOf]; omega
    · have hke : k = i := by omega
      subst hke
      have h1 := HA.out.1
      have h2 := HA.out.2
      rw [List.getElem?_eq_getElem hkx'] at h1
      rw [List.getElem?_eq_getElem hkt'] at h2
      rw [Option.some.inj h1] at c0
      rw [Option.some.inj h2] at d0
      clear h1 h2 hlt
      have hne2 : ¬ a = b := fun h => HNE.out h.symm
      go_wp2
      go_quiet (fail)
      go_wp2
      · go_ret
        exact ⟨rfl, bel_drewN HB.out _⟩
      · rename_i h
        exact absurd (by simpa using h.2) hne2

end Go.Proofs.Ytdhbhifgmbppjaa

/- A word's tokens have its bytes, and none of them merge. -/
namespace Go.Proofs.Ytdhbhifgmbppjaa
open Go.RowKit
set_option linter.unusedVariables false
set_option linter.unusedSimpArgs false

theorem de_bpe {M : List S_Pair} : ∀ (n : Nat) (ts : List Int), ts.length ≤ n → okT M ts → deB M (bpeL M ts) = deB M ts
  | n, ts, hn, h => by
    rcases hp : placeF M ts with _ | ⟨i, r⟩
    · unfold bpeL; rw [bpeN_none hp]
    · rw [bpeL_step hp, ← de_mg h hp]
      have hl := mgT_len (r := r) (matB_lt (place_is hp)).2
      match n, hn with
      | 0, hn => omega
      | n + 1, hn => exact de_bpe n _ (by omega) (okT_mg h hp)

theorem cat_nums : ∀ (xs : List Int), catB (xs.map fun x => strOfNums [x]) = strOfNums xs
  | [] => rfl
  | x :: xs => by
    have e1 : catB (strOfNums [x] :: xs.map fun x => strOfNums [x]) = strOfNums [x] ++ catB (xs.map fun x => strOfNums [x]) := by
      show (xs.map fun x => strOfNums [x]).foldl (· ++ ·) ((⟨#[]⟩ : ByteArray) ++ strOfNums [x]) = _
      rw [catB_fold, show ((⟨#[]⟩ : ByteArray) ++ strOfNums [x]) = strOfNums [x] from ByteArray.empty_append]
    rw [List.map_cons, e1, cat_nums xs, strOfNums_append]
    rfl

theorem word_nums (s : ByteArray) : strOfNums (bpI s) = s := by
  apply ByteArray.ext
  apply Array.toList_inj.mp
  have e : bpI s = bl s s.size := rfl
  rw [e, strOfNums_data, ← bl_take s s.size (Nat.le_refl _), List.map_map, List.take_of_length_le (i := s.size) (l := s.data.toList) (Nat.le_of_eq Array.length_toList)]
  conv => rhs; rw [← List.map_id s.data.toList]
  apply List.map_congr_left
  intro c _
  simp

theorem de_word {L : List S_Pair} (h : okV L) {s : ByteArray} (h64 : s.size ≤ 64) : deB L (bpI s) = s := by
  obtain ⟨t, ht⟩ := okV_tab h
  rw [deB_yes (okT_bp h h64) ht]
  have e : (bpI s).map (bytV t) = (bpI s).map fun x => strOfNums [x] := by
    apply List.map_congr_left
    intro x hx
    unfold bpI at hx
    obtain ⟨i, _, rfl⟩ := List.mem_map.1 hx
    have := byteAt_rng s i
    unfold bytV
    rw [if_pos (by omega)]
  rw [e, cat_nums, word_nums]

/-- What Bpe answers: the word's bytes, stable. -/
theorem bpF_all (L : List S_Pair) (s : ByteArray) : (¬ (okV L ∧ s.size ≤ 64) → (bpF L s).length = 0) ∧ (okV L ∧ s.size ≤ 64 → decide (okT L (bpF L s)) = true ∧ deB L (bpF L s) = s ∧ stB L (bpF L s) = true) := by
  refine ⟨fun h => by unfold bpF; rw [if_neg h]; rfl, fun h => ?_⟩
  have e : bpF L s = bpeL L (bpI s) := if_pos h
  have h1 := okT_bp h.1 h.2
  have h2 := okT_bpe _ _ (Nat.le_refl _) h1
  rw [e]
  refine ⟨decide_eq_true h2, by rw [de_bpe _ _ (Nat.le_refl _) h1, de_word h.1 h.2], ?_⟩
  unfold stB
  rw [decide_eq_true h2, bpe_stable L _ _ (Nat.le_refl _)]
  rfl

/-- What MergeOnce answers. -/
theorem mo_all (L : List S_Pair) (ts : List Int) : (okT L ts ∧ moO L ts = true ∧ ((moB L ts).length : Int) = (ts.length : Int) - 1 ∧ decide (okT L (moB L ts)) = true ∧ deB L (moB L ts) = deB L ts) ∨ (okT L ts ∧ moO L ts = false ∧ stB L ts = true) ∨ (¬ okT L ts ∧ moO L ts = false) := by
  by_cases h : okT L ts
  · rcases hp : placeF L ts with _ | ⟨i, r⟩
    · refine .inr (.inl ⟨h, (moB_none h hp).2, ?_⟩)
      unfold stB
      rw [decide_eq_true h, hp]
      rfl
    · obtain ⟨e1, e2⟩ := moB_yes h hp
      have hl := mgT_len (r := r) (matB_lt (place_is hp)).2
      exact .inl ⟨h, e2, by rw [e1]; omega, by rw [e1]; exact decide_eq_true (okT_mg h hp), by rw [e1]; exact de_mg h hp⟩
  · exact .inr (.inr ⟨h, (moB_bad h).2⟩)

end Go.Proofs.Ytdhbhifgmbppjaa
