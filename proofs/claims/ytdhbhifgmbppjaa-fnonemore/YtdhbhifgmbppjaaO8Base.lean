/- Where two rows part; a beginning of a vocabulary. -/
import Derived.Test.YtdhbhifgmbppjaaO8Math
import Derived.Test.YtdhbhifgmbppjaaN8Base
namespace Go.Proofs.Ytdhbhifgmbppjaa
open Go.RowKit
set_option linter.unusedVariables false
set_option linter.unusedSimpArgs false

theorem prCap {w : World} {base : Nat} {p : Option Addr} {n c sz : Nat} {e : TypeId} {xs : List Value} (h : w.ownsRow base e sz (.slice p n c) n xs) : n ≤ c := by
  obtain ⟨_, ⟨hv, h0⟩ | ⟨g, cap, cur, hv, _, _, hc, _⟩⟩ := h
  · simp only [Value.slice.injEq] at hv
    omega
  · simp only [Value.slice.injEq] at hv
    omega

theorem rowPre {w : World} {p : Option Addr} {c : Nat} {L S : List S_Pair} (h : RowR w (.slice p L.length c) L.length 2 (rPair L)) (hS : L.take S.length = S) : RowR w (.slice p S.length c) S.length 2 (rPair S) := by
  have hl : S.length ≤ L.length := by
    have := congrArg List.length hS
    rw [List.length_take] at this
    omega
  obtain ⟨h1, p', cap, hv, hc⟩ := h
  simp only [Value.slice.injEq, true_and] at hv
  obtain ⟨rfl, rfl⟩ := hv
  refine ⟨by rw [rPair_len], _, c, rfl, fun j hj => ?_⟩
  obtain ⟨b', off', e, hlt, hcell⟩ := hc j (by omega)
  refine ⟨b', off', e, hlt, ?_⟩
  rw [hcell]
  have e2 : rPair L = rPair S ++ rPair (L.drop S.length) := by
    have : L = S ++ L.drop S.length := by conv => lhs; rw [← List.take_append_drop S.length L, hS]
    conv => lhs; rw [this]
    unfold rPair
    rw [List.flatMap_append]
  rw [e2, List.getElem?_append_left (by rw [rPair_len]; omega)]

theorem okT_bpe {M : List S_Pair} : ∀ (n : Nat) (ts : List Int), ts.length ≤ n → okT M ts → okT M (bpeL M ts)
  | n, ts, hn, h => by
    rcases hp : placeF M ts with _ | ⟨i, r⟩
    · unfold bpeL; rw [bpeN_none hp]; exact h
    · rw [bpeL_step hp]
      have hl := mgT_len (r := r) (matB_lt (place_is hp)).2
      match n, hn with
      | 0, hn => omega
      | n + 1, hn => exact okT_bpe n _ (by omega) (okT_mg h hp)

theorem om_start {L S : List S_Pair} (hS : L.take S.length = S) (hok : okV L) {s : ByteArray} (h64 : s.size ≤ 64) : bpF S s = bpeL S (bpI s) ∧ OmS L (bpeL L (bpI s)) S.length s.size (bpF S s).length (bpF S s) 0 := by
  have hl : S.length ≤ L.length := by
    have := congrArg List.length hS
    rw [List.length_take] at this
    omega
  have hoS : okV S := by rw [← hS]; exact okV_take hok hl
  have e : bpF S s = bpeL S (bpI s) := if_pos ⟨hoS, h64⟩
  have hT := okT_bpe _ _ (Nat.le_refl _) (okT_bp hoS h64)
  refine ⟨e, ⟨?_, ?_, ?_⟩, ?_, Nat.le_refl _⟩
  · rw [e]
    exact ⟨hok, hT.2.1, fun x hx => by have := hT.2.2 x hx; exact ⟨this.1, by have := this.2; omega⟩⟩
  · rw [e]
    have := bpe_take L S.length _ (bpI s) (Nat.le_refl _)
    rwa [hS] at this
  · rw [e]
    have := bpeN_len S (bpI s).length (bpI s)
    rw [bpI_len] at this
    show (bpeN S (bpI s).length (bpI s)).length + 0 ≤ _
    rw [bpI_len]
    omega
  · rw [e, hS]
    exact bpe_stable S _ _ (Nat.le_refl _)

set_option maxRecDepth 20000 in
set_option maxHeartbeats 4000000 in
theorem place_c (v v2 : Value) (x ts : List Int) (i : Nat) (a b : Int) (w : World) (hn : x.length ≤ 1048576) (hm : ts.length ≤ 1048576) (heq : ∀ j, j < i → x[j]? = ts[j]?) (ha : x[i]? = some a) (hb : ts[i]? = some b) (hne : b ≠ a) (hr : IR w v x) (hr2 : IR w v2 ts) :
    Calls Try.prog 17 #[v, v2] w fun e w' => e = .returned (.int .i64 (i : Int)) ∧ Below w.heap.size w w' := by
  have HR : Hid (IR w v x) := hr
  have HR2 : Hid (IR w v2 ts) := hr2
  have HEQ : Hid (∀ j, j < i → x[j]? = ts[j]?) := heq
  have HA : Hid (x[i]? = some a ∧ ts[i]? = some b) := ⟨ha, hb⟩
  have hix := (List.getElem?_eq_some_iff.1 ha).1
  have hit := (List.getElem?_eq_some_iff.1 hb).1
  have HNE : Hid (b ≠ a) := hne
  obtain ⟨p, cap, rfl⟩ := IR.slice hr
  obtain ⟨p2, cap2, rfl⟩ := IR.slice hr2
  clear hr hr2 heq ha hb hne
  go_enter Try.func17, Try.ntmps17
  go_wp2
  go_loopw [5] (fun iv wr => ∃ k : Nat, k ≤ i ∧ iv = .int .i64 (k : Int) ∧ Hid (Below w.heap.size w wr)) (fun iv _ => i - (intOf iv).toNat)
  case atStart => exact ⟨0, Nat.zero_le _, rfl, Below.refl _ _⟩
  case round =>
    obtain ⟨k, hk, rfl, HB⟩ := hrel
    have hkx : (k : Int) < (x.length : Int) := by omega
    have hkt : (k : Int) < (ts.length : Int) := by omega
    obtain ⟨b1, off, rfl, hb1, hc⟩ := HR.out.cells (by omega)
    obtain ⟨b2, off2, rfl, hb2, hc2⟩ := HR2.out.cells (by omega)
    have hkx' : k < x.length := by omega
    have hkt' : k < ts.length := by omega
    have c0 : wr.cell? ⟨b1, off + k, none⟩ = some (.int .i64 x[k]) := by rw [HB.out.cell (by exact hb1)]; exact hc k hkx'
    have d0 : wr.cell? ⟨b2, off2 + k, none⟩ = some (.int .i64 ts[k]) := by rw [HB.out.cell (by exact hb2)]; exact hc2 k hkt'
    have hge : ¬ (ts.length : Int) ≤ (k : Int) := by omega
    clear hc hc2
    by_cases hlt : k < i
    · have h1 := HEQ.out k hlt
      rw [List.getElem?_eq_getElem hkx', List.getElem?_eq_getElem hkt'] at h1
      rw [Option.some.inj h1] at c0
      clear h1
      generalize ts[k] = X at c0 d0
      go_wp2
      go_quiet (fail)
      go_wp2
      go_roundw
      case rel => exact ⟨k + 1, by omega, by go_num, bel_drewN HB.out _⟩
      case measure => simp [intOf]; omega
    · have hke : k = i := by omega
      subst hke
      have h1 := HA.out.1
      have h2 := HA.out.2
      rw [List.getElem?_eq_getElem hkx'] at h1
      rw [List.getElem?_eq_getElem hkt'] at h2
      rw [Option.some.inj h1] at c0
      rw [Option.some.inj h2] at d0
      clear h1 h2 hlt
      have hne2 : ¬ a = b := fun h => HNE.out h.symm
      go_wp2
      go_quiet (fail)
      go_wp2
      · go_ret
        exact ⟨rfl, bel_drewN HB.out _⟩
      · rename_i h
        exact absurd (by simpa using h.2) hne2

end Go.Proofs.Ytdhbhifgmbppjaa
