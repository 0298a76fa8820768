/- The contracts of what the exact laws hold rows of numbers by. -/
import Derived.Test.YtdggkcohidijcaaMtWalk
import Derived.Test.YtdggkcohidijcaaHaOpC
import Derived.ProofKit
import Derived.OpenShut
import Derived.Deep.Slices
namespace Go.Proofs.Ytdggkcohidijcaa
open Go.RowKit Go.ChangeShapes Go.WideShapes
set_option linter.unusedVariables false

def rI (L : List Int) : List Value := L.map (Value.int .i64)

theorem rI_len (L : List Int) : (rI L).length = L.length := by unfold rI; simp

theorem rI_at {L : List Int} {j : Nat} (h : j < L.length) : (rI L)[j]? = some (.int .i64 L[j]) := by
  unfold rI
  rw [List.getElem?_map, List.getElem?_eq_getElem h]
  rfl

/-- A row of numbers that can be read. -/
def IR (w : World) (v : Value) (L : List Int) : Prop := RowR w v L.length 1 (rI L)

/-- A row of numbers of the call's own. -/
def IO (w : World) (base : Nat) (v : Value) (L : List Int) : Prop := w.ownsRow base 3 1 v L.length (rI L)

theorem IO.row {w : World} {base : Nat} {v : Value} {L : List Int} (h : IO w base v L) : IR w v L := RowR.own h

theorem IR.keep {w w' : World} {v : Value} {L : List Int} {N : Nat} (h : IR w v L) (hb : Below N w w') (hN : w.heap.size ≤ N) : IR w' v L := RowR.keep h hb hN

theorem IR.slice {w : World} {v : Value} {L : List Int} (h : IR w v L) : ∃ p cap, v = .slice p L.length cap := by
  obtain ⟨_, p, cap, hv, _⟩ := h
  exact ⟨p, cap, hv⟩

/-- Where its numbers stand. -/
theorem IR.cells {w : World} {p : Option Addr} {cap : Nat} {L : List Int} (h : IR w (.slice p L.length cap) L) (hn : 0 < L.length) : ∃ b off, p = some ⟨b, off, none⟩ ∧ b < w.heap.size ∧ ∀ j (hj : j < L.length), w.cell? ⟨b, off + j, none⟩ = some (.int .i64 L[j]) := by
  obtain ⟨b, off, cap', hv, hb, hc⟩ := RowR.some h hn (by decide)
  simp only [Value.slice.injEq, true_and] at hv
  refine ⟨b, off, hv.1, hb, fun j hj => ?_⟩
  rw [hc j (by omega)]
  exact rI_at hj

theorem infoInt : (Try.prog.info? 3).map (fun i => (i.zero, i.size, i.bytes)) = some (some (.int .i64 0), 1, 8) := by kernel_rfl

set_option maxRecDepth 20000 in
set_option maxHeartbeats 2000000 in
theorem eqIntS_c (v v2 : Value) (L : List Int) (w : World) (hn : L.length ≤ 1048576) (hr : IR w v L) (hr2 : IR w v2 L) :
    Calls Try.prog 28 #[v, v2] w fun e w' => e = .returned (.bool true) ∧ Below w.heap.size w w' := by
  have hn' : (L.length : Int) ≤ 1048576 := by omega
  have HR : Hid (IR w v L) := hr
  have HR2 : Hid (IR w v2 L) := hr2
  obtain ⟨p, cap, hv⟩ := hr.slice
  obtain ⟨p2, cap2, hv2⟩ := hr2.slice
  subst hv
  subst hv2
  clear hr hr2
  go_enter Try.func28, Try.ntmps28
  go_wp2
  go_loopw [5] (fun i wr => ∃ k : Nat, k ≤ L.length ∧ i = .int .i64 (k : Int) ∧ Hid (Below w.heap.size w wr)) (fun i _ => L.length - (intOf i).toNat)
  case atStart => exact ⟨0, Nat.zero_le _, rfl, Below.refl _ _⟩
  case round =>
    obtain ⟨k, hk, rfl, HB⟩ := hrel
    by_cases hlt : k < L.length
    · have hlt' : (k : Int) < L.length := by omega
      obtain ⟨b, off, rfl, hb, hc⟩ := HR.out.cells (by omega)
      obtain ⟨b2, off2, rfl, hb2, hc2⟩ := HR2.out.cells (by omega)
      have c0 : wr.cell? ⟨b, off + k, none⟩ = some (.int .i64 L[k]) := by rw [HB.out.cell (by exact hb)]; exact hc k hlt
      have d0 : wr.cell? ⟨b2, off2 + k, none⟩ = some (.int .i64 L[k]) := by rw [HB.out.cell (by exact hb2)]; exact hc2 k hlt
      clear hc hc2
      generalize L[k] = X at c0 d0
      go_wp2
      go_quiet (fail)
      go_wp2
      go_roundw
      case rel => exact ⟨k + 1, by omega, by go_num, bel_drewN HB.out _⟩
      case measure => simp [intOf]; omega
    · have hke : k = L.length := by omega
      subst hke
      go_wp2
      go_ret
      exact ⟨rfl, HB.out⟩

/-- Numbers that are marked from k on. -/
def mI (k : Int) (n : Nat) : List Value := (List.range n).map fun (i : Nat) => Value.int .i64 (k + (i : Int))

theorem mI_len (k : Int) (n : Nat) : (mI k n).length = n := by unfold mI; simp

theorem mI_at (k : Int) (n i : Nat) (hi : i < n) : (mI k n)[i]? = some (.int .i64 (k + (i : Int))) := by
  unfold mI
  rw [List.getElem?_map, List.getElem?_eq_getElem (by simpa using hi), List.getElem_range]
  rfl

set_option maxRecDepth 20000 in
set_option maxHeartbeats 2000000 in
theorem markIntS_c (v : Value) (n : Nat) (xs0 : List Value) (k0 : Int) (base : Nat) (w : World) (hn : n ≤ 1048576) (hk0 : 0 < k0) (hk1 : k0 ≤ 100000000) (h : w.ownsRow base 3 1 v n xs0) :
    Calls Try.prog 31 #[v, .int .i64 k0] w fun e w' => e = .returned (.int .i64 (k0 + (n : Int))) ∧ w'.ownsRow base 3 1 v n (mI k0 n) ∧ ButV v w w' := by
  have hn' : (n : Int) ≤ 1048576 := by omega
  rcases Nat.eq_zero_or_pos n with hl | hl
  · have HO : Hid (w.ownsRow base 3 1 v n (mI k0 n)) := by
      have e1 : xs0 = [] := List.eq_nil_of_length_eq_zero (by rw [h.1, hl])
      have e2 : mI k0 n = [] := List.eq_nil_of_length_eq_zero (by rw [mI_len, hl])
      show World.ownsRow _ _ _ _ _ _ _
      rw [e2, ← e1]; exact h
    obtain ⟨p, cap, hv⟩ : ∃ p cap, v = .slice p 0 cap := by obtain ⟨_, p, cap, hv, _⟩ := RowR.own h; rw [hl] at hv; exact ⟨p, cap, hv⟩
    subst hv
    have HE : Hid (k0 + (n : Int) = k0) := by show _ = _; omega
    clear h hl
    go_enter Try.func31, Try.ntmps31
    go_wp2
    go_loopw [1, 5] (fun m i wr => m = .int .i64 k0 ∧ i = .int .i64 0 ∧ wr = w) (fun _ _ _ => 0)
    case atStart => exact ⟨rfl, rfl, rfl⟩
    case round =>
      obtain ⟨rfl, rfl, rfl⟩ := hrel
      go_wp2
      go_ret
      exact ⟨by rw [HE.out]; rfl, HO.out, Or.inl rfl⟩
  · obtain ⟨g, cap, hv, hbg⟩ : ∃ g cap, v = .slice (some ⟨g, 0, none⟩) n cap ∧ base ≤ g := by
      obtain ⟨_, ⟨_, h2⟩ | ⟨g, cap, cur, h2, h3, _⟩⟩ := h
      · omega
      · exact ⟨g, cap, h2, h3⟩
    subst hv
    have HM : Hid (Mkd w base 3 1 (.slice (some ⟨g, 0, none⟩) n cap) n (mI k0 n) 0) := ⟨_, h, rfl⟩
    clear h
    go_enter Try.func31, Try.ntmps31
    go_wp2
    go_loopw [1, 5] (fun m i wr => ∃ k : Nat, k ≤ n ∧ i = .int .i64 (k : Int) ∧ m = .int .i64 (k0 + (k : Int)) ∧ Hid (Mkd wr base 3 1 (.slice (some ⟨g, 0, none⟩) n cap) n (mI k0 n) k) ∧ Hid (But g w wr)) (fun _ i _ => n - (intOf i).toNat)
    case atStart => exact ⟨0, Nat.zero_le _, rfl, by simp, HM, But.refl _ _⟩
    case round =>
      obtain ⟨k, hk, rfl, rfl, HR0, HB0⟩ := hrel
      have hsz := HB0.out.size
      by_cases hlt : k < n
      · have hlt' : (k : Int) < n := by omega
        have m0 : (mI k0 n)[k]? = some (.int .i64 (k0 + (k : Int))) := mI_at k0 n k hlt
        obtain ⟨A, hA⟩ : ∃ A : Int, k0 + (k : Int) = A := ⟨_, rfl⟩
        have HAn : Hid (k0 + ((k + 1 : Nat) : Int) = A + 1) := by show _ = _; omega
        rw [hA] at m0 ⊢
        have hA0 : 0 < A := by omega
        have hA1 : A ≤ 200000000 := by omega
        clear hA
        obtain ⟨⟨u0, c0⟩, z0⟩ := HR0.out.cell k (by omega)
        have HR1 : Hid (Mkd (wr.setCell ⟨g, k, none⟩ (.int .i64 A)) base 3 1 (.slice (some ⟨g, 0, none⟩) n cap) n (mI k0 n) (k + 1)) := HR0.out.set _ m0 (by omega)
        have HB1 : Hid (But g w (wr.setCell ⟨g, k, none⟩ (.int .i64 A))) := HB0.out.setCell _
        clear HR0 HB0
        go_wp2
        go_roundw
        case rel => exact ⟨k + 1, by omega, by go_num, by rw [HAn.out], HR1, HB1⟩
        case measure => simp [intOf]; omega
      · have hke : k = n := by omega
        subst hke
        have HF : Hid (wr.ownsRow base 3 1 (.slice (some ⟨g, 0, none⟩) k cap) k (mI k0 k)) := by
          have := HR0.out
          exact Mkd.all (by rw [Nat.mul_one]; exact this) (by rw [mI_len, Nat.mul_one])
        obtain ⟨Z, hZ⟩ : ∃ Z : Int, k0 + (k : Int) = Z := ⟨_, rfl⟩
        have HZ : Hid (k0 + (k : Int) = Z) := hZ
        rw [hZ]
        clear hZ
        go_wp2
        go_ret
        exact ⟨by rw [HZ.out]; rfl, HF.out, Or.inr ⟨g, rfl, HB0.out⟩⟩

set_option maxRecDepth 20000 in
set_option maxHeartbeats 4000000 in
theorem heldIntS_c (v : Value) (len : Nat) (k0 : Int) (w : World) (hn : len ≤ 1048576) (hk0 : 0 < k0) (hk1 : k0 ≤ 100000000) (hr : RowR w v len 1 (mI k0 len)) :
    Calls Try.prog 32 #[v, .int .i64 k0] w fun e w' => e = .returned (.int .i64 (k0 + (len : Int))) ∧ Below w.heap.size w w' := by
  have hn' : (len : Int) ≤ 1048576 := by omega
  have HR : Hid (RowR w v len 1 (mI k0 len)) := hr
  obtain ⟨p, cap, hv⟩ : ∃ p cap, v = .slice p len cap := by obtain ⟨_, p, cap, hv, _⟩ := hr; exact ⟨p, cap, hv⟩
  subst hv
  clear hr
  go_enter Try.func32, Try.ntmps32
  go_wp2
  go_loopw [1, 5] (fun m i wr => ∃ k : Nat, k ≤ len ∧ i = .int .i64 (k : Int) ∧ m = .int .i64 (k0 + (k : Int)) ∧ Hid (Below w.heap.size w wr)) (fun _ i _ => len - (intOf i).toNat)
  case atStart => exact ⟨0, Nat.zero_le _, rfl, by simp, Below.refl _ _⟩
  case round =>
    obtain ⟨k, hk, rfl, rfl, HB⟩ := hrel
    by_cases hlt : k < len
    · have hlt' : (k : Int) < len := by omega
      obtain ⟨b, off, cap', hv, hb, hc⟩ := HR.out.some (by omega) (by decide)
      simp only [Value.slice.injEq, true_and] at hv
      obtain ⟨rfl, rfl⟩ := hv
      obtain ⟨A, hA⟩ : ∃ A : Int, k0 + (k : Int) = A := ⟨_, rfl⟩
      have d0 : Hid (w.cell? ⟨b, off + k, none⟩ = some (.int .i64 A)) := by
        have h1 := hc k (by omega)
        rw [mI_at k0 len k hlt] at h1
        rw [← hA]
        exact h1
      have HAn : Hid (k0 + ((k + 1 : Nat) : Int) = A + 1) := by show _ = _; omega
      rw [hA]
      have hA0 : 0 < A := by omega
      have hA1 : A ≤ 200000000 := by omega
      clear hA hc
      have e0 : wr.cell? ⟨b, off + k, none⟩ = some (.int .i64 A) := by rw [HB.out.cell (by exact hb)]; exact d0.out
      go_wp2
      go_roundw
      case rel => exact ⟨k + 1, by omega, by go_num, by rw [HAn.out], HB⟩
      case measure => simp [intOf]; omega
    · have hke : k = len := by omega
      subst hke
      obtain ⟨Z, hZ⟩ : ∃ Z : Int, k0 + (k : Int) = Z := ⟨_, rfl⟩
      have HZ : Hid (k0 + (k : Int) = Z) := hZ
      rw [hZ]
      clear hZ
      go_wp2
      go_ret
      exact ⟨by rw [HZ.out]; rfl, HB.out⟩

set_option maxRecDepth 20000 in
/-- A row of numbers that came in can be read. -/
theorem opInts {H : Type} {enc : TypeId × Value → H} {W : World} {base b0 : Nat} {sp : Nat → Bool} {held : Bool} {r : Reach} {v : Value} {d : DataW H} {p : List MemPlace}
    (hv : Value.okWide Try.prog W r b0 29 v) (h : DataW.Trod enc Try.prog W base sp held 29 v d p) : ∃ L : List Int, IR W v L ∧ L.length ≤ maxLen := by
  obtain ⟨a, len, cap, rfl⟩ := okWide_slice Try.underlying29 hv
  obtain ⟨fuel, hf⟩ := h
  rcases open_ints Try.underlying29 Try.underlying3 (by kernel_rfl) hf with ⟨hcs, _⟩ | ⟨x, l, c, zs, hcs, _, hl, hm, hz, _, hcell, hwz⟩
  · simp [Value.cells] at hcs
    obtain ⟨rfl, rfl, rfl⟩ := hcs
    exact ⟨[], ⟨rfl, none, 0, rfl, fun j hj => by simp at hj⟩, Nat.zero_le _⟩
  · simp [Value.cells] at hcs
    obtain ⟨rfl, rfl, rfl⟩ := hcs
    have hzl : len ≤ zs.length := by rw [hz]; split <;> omega
    have hlen : (zs.take len).length = len := by rw [List.length_take]; omega
    refine ⟨zs.take len, ⟨by rw [rI_len, Nat.mul_one], some x, cap, by rw [hlen], fun j hj => ?_⟩, by rw [hlen]; omega⟩
    rw [hlen, Nat.mul_one] at hj
    have c0 := hcell j (by omega)
    obtain ⟨b, off, spot⟩ := x
    have hspot : spot = none := by
      have := hcell 0 (by omega)
      simpa [Addr.add] using World.cell?_spot this
    subst hspot
    have hplain : (⟨b, off, none⟩ : Addr).add j = ⟨b, off + j, none⟩ := by unfold Addr.add; split <;> simp_all
    rw [hplain] at c0
    refine ⟨b, off, rfl, World.block_lt_of_cell? W _ c0, ?_⟩
    have hj' : j < (zs.take len).length := by omega
    rw [c0, rI_at hj', List.getElem_take]
    simp [List.getD, List.getElem?_eq_getElem (show j < zs.length by omega)]

end Go.Proofs.Ytdggkcohidijcaa
