/- What a row of tokens tells. -/
import Derived.Test.YtdggkcohidijcaaR8Next
namespace Go.Proofs.Ytdggkcohidijcaa
open Go.RowKit
set_option linter.unusedVariables false
set_option linter.unusedSimpArgs false

/-- How many symbols are left from a pointer on. -/
def leftAt (l : List Sy) (v : Value) : Nat := match v with
  | .pointer (some a) => l.length - (l.findIdx fun y => y.b == a.block)
  | _ => 0

theorem leftAt_at {l : List Sy} (h : Mono8 l) {k : Nat} {y : Sy} (hy : l[k]? = some y) : leftAt l (.pointer (some ⟨y.b, 0, none⟩)) = l.length - k := by
  have hk := (List.getElem?_eq_some_iff.1 hy).1
  have e : l[k] = y := by rw [List.getElem?_eq_getElem hk] at hy; exact Option.some.inj hy
  have hf : (l.findIdx fun z => z.b == y.b) = k := by
    refine (List.findIdx_eq hk).2 ⟨by rw [e]; exact beq_self_eq_true _, fun j hj => ?_⟩
    have := (h j k _ y hj (List.getElem?_eq_getElem (by omega)) hy).1
    rw [beq_eq_false_iff_ne]
    omega
  show l.length - (l.findIdx fun z => z.b == y.b) = _
  rw [hf]

theorem leftAt_next {l : List Sy} (h : Mono8 l) {k : Nat} : leftAt l (ptrO l[k + 1]?) ≤ l.length - (k + 1) := by
  rcases hz : l[k + 1]? with _ | z
  · exact Nat.zero_le _
  · exact Nat.le_of_eq (leftAt_at h hz)

set_option maxRecDepth 20000 in
set_option maxHeartbeats 4000000 in
theorem tell_c {w : World} {R B : Nat} {mp : Option Addr} {mc : Nat} {M : List S_Pair} {l : List Sy} {X : List Jt} {p : Option Addr} {n c : Nat} {C : Nat → Prop} (S : RowS w R B mp mc M l X p n c C) (hl : l.length ≤ 1000) :
    Calls Try.prog 50 #[.pointer (some ⟨R, 0, none⟩)] w fun e w' => ∃ v, e = .returned v ∧ IO w' w.heap.size v (l.map Sy.tok) ∧ Below w.heap.size w w' := by
  have HS : Hid (RowS w R B mp mc M l X p n c C) := S
  obtain ⟨i0, hi, hz0, hz1, hz2⟩ := info_parts infoInt
  have y1 := S.q.cells.2.1
  clear S
  go_enter Try.func50, Try.ntmps50
  go_wp2_with fail
  clear y1
  go_loopw [3, 4] (fun ov sv wr => ∃ k : Nat, k ≤ l.length ∧ sv = ptrO l[k]? ∧ Hid (wr.ownsRow w.heap.size 3 1 ov ((l.take k).map Sy.tok).length (rI ((l.take k).map Sy.tok))) ∧ Hid (Below w.heap.size w wr)) (fun _ sv wr => leftAt l sv)
  case atStart => exact ⟨0, Nat.zero_le _, rfl, World.ownsRow_nil _ _ _ _, Below.refl _ _⟩
  case round =>
    obtain ⟨k, hk, hsv, HOV, HB⟩ := hrel
    have S1 : Hid (RowS wr R B mp mc M l X p n c C) := HS.out.bel HB.out
    by_cases hlt : k < l.length
    · obtain ⟨y, hy⟩ : ∃ y, l[k]? = some y := ⟨_, List.getElem?_eq_getElem hlt⟩
      rw [ptrO_some hy] at hsv
      subst hsv
      have HTK : Hid ((l.take (k + 1)).map Sy.tok = (l.take k).map Sy.tok ++ [y.tok]) := by
        show _ = _
        rw [take_snoc l k hlt, List.map_append]
        have : l[k] = y := by rw [List.getElem?_eq_getElem hlt] at hy; exact Option.some.inj hy
        rw [this]; rfl
      have HKL : Hid (((l.take k).map Sy.tok).length ≤ 1000) := by show _ ≤ _; rw [List.length_map, List.length_take]; omega
      have hyc := S1.out.live k y hy
      obtain ⟨y0, y1, y2, y3⟩ := cell4 hyc
      have HYL : Hid (y.b < wr.heap.size) := lt_of_some hyc
      have HME : Hid (leftAt l (.pointer (some ⟨y.b, 0, none⟩)) = l.length - k) := leftAt_at S1.out.mono hy
      have HMN : Hid (leftAt l (ptrO l[k + 1]?) ≤ l.length - (k + 1)) := leftAt_next S1.out.mono
      generalize (l.take k).map Sy.tok = P at HTK HKL HOV
      have HYC : Hid (wr.heap[y.b]? = some (.cells #[.int .i64 y.tok, .int .i64 y.pl, prvV l k, ptrO l[k + 1]?] 109)) := hyc
      clear hyc hy
      have hsz1 := HB.out.size
      have hml : (1048577 : Nat) ≤ maxLen := by unfold maxLen; omega
      have hPl := HKL.out
      have hown := HOV.out
      have hyl := HYL.out
      go_wp2_with (at_builtin; refine wpList_append_own _ rfl _ _ 29 rfl w.heap.size 3 i0 (.int .i64 0) 1 8 Try.underlying29 hi hz0 hz1 hz2 rfl (by decide) _ _ _ rfl (hown.alloc _) ⟨wr.heap.size, 0, none⟩ 1 1 [.int .i64 y.tok] rfl rfl (cell_one_new _ _ _) (by intro u hu; simp at hu; subst hu; rfl) (by omega) (by omega) (by simp; omega) ?_)
      intro v' w5 hown5 hgrow _
      have R1 : w5.ownsRow w.heap.size 3 1 v' (P ++ [y.tok]).length (rI (P ++ [y.tok])) := by
        have := hown5
        unfold rI at this ⊢
        simpa using this
      have R2 := below_append HB.out (Nat.le_refl _) hown hgrow
      rw [← HTK.out] at R1
      have hg3 : w5.cell? ⟨y.b, 3, none⟩ = some (ptrO l[k + 1]?) := by
        refine hgrow.cell (by rw [World.cell?_alloc_lt _ _ ⟨y.b, 3, none⟩ hyl]; exact y3) (fun e => ?_)
        exact kind_ne (w := wr) hown HYC.out (by decide) e.symm
      clear hown5 hgrow hown y0 y1 y2 y3
      go_wp2
      go_roundw
      case rel => first | exact ⟨k + 1, by omega, rfl, R1, R2⟩ | ((repeat apply Exists.intro); exact ⟨⟨k + 1, by omega, rfl, R1, R2⟩, rfl⟩)
      case measure => have h1 := HME.out; have h2 := HMN.out; omega
    · have hke : k = l.length := by omega
      rw [ptrO_none (List.getElem?_eq_none (by omega))] at hsv
      subst hsv
      have HV : Hid (IO wr w.heap.size u3 (l.map Sy.tok)) := by
        have := HOV.out
        rw [hke, List.take_length] at this
        exact this
      clear HOV
      go_wp2
      go_ret
      exact ⟨_, rfl, HV.out, HB.out⟩

end Go.Proofs.Ytdggkcohidijcaa
