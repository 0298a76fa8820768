/- Rows of texts of the call's own: equal, marked, held. -/
import Derived.Test.YtdggkcohidijcaaHaBut
import Derived.Test.YtdggkcohidijcaaMtWalk
import Derived.Deep.RegionWith
import Derived.Maps.AppendAt
import Derived.Test.YtdggkcohidijcaaVcOk
import Derived.Test.YtdggkcohidijcaaHaInts
import Derived.Test.YtdggkcohidijcaaT8Math
import Derived.Test.YtdggkcohidijcaaC9Math
import Derived.Test.YtdggkcohidijcaaM8Bpe
namespace Go.Proofs.Ytdggkcohidijcaa
open Go.RowKit
set_option linter.unusedVariables false

/-- The marks from k on. -/
def marks (k : Int) (n : Nat) : List ByteArray := (List.range n).map fun (i : Nat) => mt (k + (i : Int))

theorem marks_length (k : Int) (n : Nat) : (marks k n).length = n := by simp [marks]

theorem marks_at (k : Int) (n i : Nat) (h : i < n) : (marks k n)[i]? = some (mt (k + (i : Int))) := by
  simp [marks, h]

theorem marks_set (k : Int) (L : List ByteArray) (i : Nat) (h : i < L.length) :
    (marks k i ++ L.drop i).set i (mt (k + (i : Int))) = marks k (i + 1) ++ L.drop (i + 1) := by
  have hl := marks_length k i
  rw [List.set_append_right _ _ (by omega), hl, Nat.sub_self, List.drop_eq_getElem_cons h, List.set_cons_zero]
  have e : marks k (i + 1) = marks k i ++ [mt (k + (i : Int))] := by
    simp [marks, List.range_succ]
  rw [e, List.append_assoc]
  rfl

theorem infoS : (Try.prog.info? 9).map (fun i => (i.zero, i.size, i.bytes)) = some (some (.string ⟨#[]⟩), 1, 16) := by kernel_rfl

/-- A row of texts of the call's own. -/
def OwnS (w : World) (base : Nat) (v : Value) (L : List ByteArray) : Prop := w.ownsRow base 9 1 v L.length (L.map Value.string)

theorem OwnS.keep {w w' : World} {base : Nat} {v : Value} {L : List ByteArray} (h : OwnS w base v L) (hb : Below w.heap.size w w') : OwnS w' base v L := own_bel h hb (Nat.le_refl _)

theorem OwnS.low {w : World} {base base' : Nat} {v : Value} {L : List ByteArray} (h : OwnS w base v L) (hb : base' ≤ base) : OwnS w base' v L := by
  obtain ⟨h1, h2⟩ := h
  refine ⟨h1, ?_⟩
  rcases h2 with h2 | ⟨g, cap, cur, hv, hg, r⟩
  · exact Or.inl h2
  · exact Or.inr ⟨g, cap, cur, hv, Nat.le_trans hb hg, r⟩

theorem own_snocS {w : World} {base : Nat} {v : Value} {acc : List ByteArray} {y : ByteArray} (h : w.ownsRow base 9 1 v (acc.length + 1) (acc.map Value.string ++ [.string y])) : OwnS w base v (acc ++ [y]) := by
  unfold OwnS
  simpa using h

theorem own_forms {w : World} {base : Nat} {v : Value} {L : List ByteArray} (h : OwnS w base v L) :
    (v = .slice none 0 0 ∧ L = []) ∨ ∃ g cap, v = .slice (some ⟨g, 0, none⟩) L.length cap ∧ base ≤ g ∧ g < w.heap.size ∧ ∀ j, j < L.length → w.cell? ⟨g, j, none⟩ = (L.map Value.string)[j]? := by
  have h' := h
  obtain ⟨h1, ⟨rfl, h2⟩ | ⟨g, cap, cur, rfl, hg, hh, _⟩⟩ := h'
  · exact Or.inl ⟨rfl, List.eq_nil_of_length_eq_zero h2⟩
  · exact Or.inr ⟨g, cap, rfl, hg, lt_of_some hh, fun j hj => World.ownsRow.cellAt h j (by omega)⟩

theorem cell_str {L : List ByteArray} {j : Nat} (h : j < L.length) : (L.map Value.string)[j]? = some (.string L[j]) := by
  rw [List.getElem?_map, List.getElem?_eq_getElem h]; rfl

set_option maxRecDepth 20000 in
set_option maxHeartbeats 1000000 in
theorem eqS_c (v1 v2 : Value) (L : List ByteArray) (b1 b2 : Nat) (w : World) (hl : L.length ≤ 1048576) (h1 : OwnS w b1 v1 L) (h2 : OwnS w b2 v2 L) :
    Calls Try.prog 22 #[v1, v2] w fun e w' => e = .returned (.bool true) ∧ Below w.heap.size w w' := by
  rcases Nat.eq_zero_or_pos L.length with hn | hn
  · have hL : L = [] := List.eq_nil_of_length_eq_zero hn
    subst hL
    have f1 : ∃ a c, v1 = .slice a 0 c := by
      rcases own_forms h1 with ⟨rfl, _⟩ | ⟨g, cap, rfl, _⟩
      · exact ⟨_, _, rfl⟩
      · exact ⟨_, _, rfl⟩
    have f2 : ∃ a c, v2 = .slice a 0 c := by
      rcases own_forms h2 with ⟨rfl, _⟩ | ⟨g, cap, rfl, _⟩
      · exact ⟨_, _, rfl⟩
      · exact ⟨_, _, rfl⟩
    obtain ⟨p1, c1, rfl⟩ := f1
    obtain ⟨p2, c2, rfl⟩ := f2
    clear h1 h2 hn hl
    go_enter Try.func22, Try.ntmps22
    go_wp2
    go_loopw [5] (fun i wr => i = .int .i64 0 ∧ wr = w) (fun _ _ => 0)
    case atStart => exact ⟨rfl, rfl⟩
    case round =>
      obtain ⟨rfl, rfl⟩ := hrel
      go_wp2
      go_ret
      exact ⟨rfl, Below.refl _ _⟩
  · obtain ⟨g1, c1, rfl, _, hg1, r1⟩ : ∃ g cap, v1 = .slice (some ⟨g, 0, none⟩) L.length cap ∧ b1 ≤ g ∧ g < w.heap.size ∧ ∀ j, j < L.length → w.cell? ⟨g, j, none⟩ = (L.map Value.string)[j]? := by
      rcases own_forms h1 with ⟨_, rfl⟩ | h
      · simp at hn
      · exact h
    obtain ⟨g2, c2, rfl, _, hg2, r2⟩ : ∃ g cap, v2 = .slice (some ⟨g, 0, none⟩) L.length cap ∧ b2 ≤ g ∧ g < w.heap.size ∧ ∀ j, j < L.length → w.cell? ⟨g, j, none⟩ = (L.map Value.string)[j]? := by
      rcases own_forms h2 with ⟨_, rfl⟩ | h
      · simp at hn
      · exact h
    have R1 : Hid (∀ j, j < L.length → w.cell? ⟨g1, j, none⟩ = (L.map Value.string)[j]?) := r1
    have R2 : Hid (∀ j, j < L.length → w.cell? ⟨g2, j, none⟩ = (L.map Value.string)[j]?) := r2
    have hl' : (L.length : Int) ≤ 1048576 := by omega
    clear h1 h2 r1 r2 hl
    go_enter Try.func22, Try.ntmps22
    go_wp2
    go_loopw [5] (fun i wr => ∃ k : Nat, k ≤ L.length ∧ i = .int .i64 (k : Int) ∧ Hid (Below w.heap.size w wr)) (fun i _ => L.length - (intOf i).toNat)
    case atStart => exact ⟨0, Nat.zero_le _, rfl, Below.refl _ _⟩
    case round =>
      obtain ⟨k, hk, rfl, HB⟩ := hrel
      by_cases hlt : k < L.length
      · have e1 : wr.cell? ⟨g1, k, none⟩ = some (.string L[k]) := by rw [HB.out.cell (by exact hg1), R1.out k hlt, cell_str hlt]
        have e2 : wr.cell? ⟨g2, k, none⟩ = some (.string L[k]) := by rw [HB.out.cell (by exact hg2), R2.out k hlt, cell_str hlt]
        have hlt' : (k : Int) < L.length := by omega
        generalize L[k] = Y at e1 e2
        go_wp2
        go_quiet (fail)
        go_wp2
        go_roundw
        case rel => exact ⟨k + 1, by omega, by go_num, bel_drewN HB.out _⟩
        case measure => simp [intOf]; omega
      · have hke : k = L.length := by omega
        subst hke
        go_wp2
        go_ret
        exact ⟨rfl, HB.out⟩

theorem cell_mark {k : Int} {n j : Nat} (h : j < n) : ((marks k n).map Value.string)[j]? = some (.string (mt (k + (j : Int)))) := by
  rw [List.getElem?_map, marks_at k n j h]; rfl

theorem row_nil_marks (v : Value) (b : Nat) (w : World) (h : OwnS w b v []) : OwnS w b v (marks 1 0) := h

set_option maxRecDepth 20000 in
set_option maxHeartbeats 1000000 in
theorem mark_c (v : Value) (L : List ByteArray) (b : Nat) (w : World) (hl : L.length ≤ 1048576) (h : OwnS w b v L) (hb : b ≤ w.heap.size) :
    Calls Try.prog 23 #[v, .int .i64 1] w fun e w' => e = .returned (.int .i64 (1 + (L.length : Int))) ∧ OwnS w' b v (marks 1 L.length) ∧ Below b w w' := by
  rcases Nat.eq_zero_or_pos L.length with hn | hn
  · have hL : L = [] := List.eq_nil_of_length_eq_zero hn
    subst hL
    have HO : Hid (OwnS w b v []) := h
    have f1 : ∃ a c, v = .slice a 0 c := by
      rcases own_forms h with ⟨rfl, _⟩ | ⟨g, cap, rfl, _⟩
      · exact ⟨_, _, rfl⟩
      · exact ⟨_, _, rfl⟩
    obtain ⟨p1, c1, rfl⟩ := f1
    clear h hn hl
    go_enter Try.func23, Try.ntmps23
    go_wp2
    go_loopw [1, 5] (fun m i wr => m = .int .i64 1 ∧ i = .int .i64 0 ∧ wr = w) (fun _ _ _ => 0)
    case atStart => exact ⟨rfl, rfl, rfl⟩
    case round =>
      obtain ⟨rfl, rfl, rfl⟩ := hrel
      go_wp2
      go_ret
      exact ⟨rfl, HO.out, Below.refl _ _⟩
  · obtain ⟨g, c, rfl, hbg, hg, _⟩ : ∃ g cap, v = .slice (some ⟨g, 0, none⟩) L.length cap ∧ b ≤ g ∧ g < w.heap.size ∧ ∀ j, j < L.length → w.cell? ⟨g, j, none⟩ = (L.map Value.string)[j]? := by
      rcases own_forms h with ⟨_, rfl⟩ | h
      · simp at hn
      · exact h
    have HO : Hid (w.ownsRow b 9 1 (.slice (some ⟨g, 0, none⟩) L.length c) L.length ((marks 1 0 ++ L.drop 0).map Value.string)) := h
    have hl' : (L.length : Int) ≤ 1048576 := by omega
    clear h hl
    go_enter Try.func23, Try.ntmps23
    go_wp2
    go_loopw [1, 5] (fun m i wr => ∃ k : Nat, k ≤ L.length ∧ i = .int .i64 (k : Int) ∧ m = .int .i64 (1 + (k : Int)) ∧ Hid (wr.ownsRow b 9 1 (.slice (some ⟨g, 0, none⟩) L.length c) L.length ((marks 1 k ++ L.drop k).map Value.string)) ∧ Hid (Below b w wr)) (fun _ i _ => L.length - (intOf i).toNat)
    case atStart => exact ⟨0, Nat.zero_le _, rfl, rfl, HO, Below.refl _ _⟩
    case round =>
      obtain ⟨k, hk, rfl, rfl, HR, HB⟩ := hrel
      have hsz := HB.out.size
      by_cases hlt : k < L.length
      · have hlt' : (k : Int) < L.length := by omega
        go_wp2_with fail
        refine (markText_c (1 + (k : Int)) _ (by omega) (by omega)).mono ?_
        rintro e w2 ⟨rfl, b2⟩
        have HR2 : Hid (w2.ownsRow b 9 1 (.slice (some ⟨g, 0, none⟩) L.length c) L.length ((marks 1 k ++ L.drop k).map Value.string)) := own_bel HR.out b2 (Nat.le_refl _)
        have HB2 : Hid (Below b w w2) := HB.out.trans (b2.mono (by omega))
        have hcl : w2.cell? ⟨g, k, none⟩ = ((marks 1 k ++ L.drop k).map Value.string)[k]? := HR2.out.cellAt k (by omega)
        have hcl2 : ∃ Y, ((marks 1 k ++ L.drop k).map Value.string)[k]? = some (.string Y) := by
          have hlen : k < (marks 1 k ++ L.drop k).length := by simp [marks_length]; omega
          exact ⟨_, by rw [List.getElem?_map, List.getElem?_eq_getElem hlen]; rfl⟩
        obtain ⟨Y, hY⟩ := hcl2
        rw [hY] at hcl
        have hfz := HR2.out.frozenAt k
        clear b2 hY HR HB
        go_wp2
        have hst := (HR2.out.stored k (.string (mt (1 + (k : Int))))).1
        have R1 : Hid ((w2.setCell ⟨g, k, none⟩ (.string (mt (1 + (k : Int))))).ownsRow b 9 1 (.slice (some ⟨g, 0, none⟩) L.length c) L.length ((marks 1 (k + 1) ++ L.drop (k + 1)).map Value.string)) := by
          show World.ownsRow _ _ _ _ _ _ _
          rw [← marks_set 1 L k hlt, List.map_set]
          exact hst
        have R2 : Hid (Below b w (w2.setCell ⟨g, k, none⟩ (.string (mt (1 + (k : Int)))))) := HB2.out.setCell (by exact hbg) _
        clear hst
        go_roundw
        case rel => first | exact ⟨k + 1, by omega, by go_num, by go_num, R1, R2⟩ | ((repeat apply Exists.intro); exact ⟨⟨k + 1, by omega, by go_num, by go_num, R1, R2⟩, rfl⟩)
        case measure => simp [intOf]; omega
      · have hke : k = L.length := by omega
        subst hke
        have HR2 : Hid (OwnS wr b (.slice (some ⟨g, 0, none⟩) L.length c) (marks 1 L.length)) := by
          have := HR.out
          rw [List.drop_length, List.append_nil] at this
          show World.ownsRow _ _ _ _ _ _ _
          rw [marks_length]
          exact this
        go_wp2
        go_ret
        exact ⟨rfl, HR2.out, HB.out⟩

set_option maxRecDepth 20000 in
set_option maxHeartbeats 1000000 in
theorem held_c (v : Value) (n b : Nat) (w : World) (hl : n ≤ 1048576) (h : OwnS w b v (marks 1 n)) :
    Calls Try.prog 24 #[v, .int .i64 1] w fun e w' => e = .returned (.int .i64 (1 + (n : Int))) ∧ Below w.heap.size w w' := by
  rcases Nat.eq_zero_or_pos n with hn | hn
  · subst hn
    have f1 : ∃ a c, v = .slice a 0 c := by
      rcases own_forms h with ⟨rfl, _⟩ | ⟨g, cap, rfl, _⟩
      · exact ⟨_, _, rfl⟩
      · exact ⟨_, _, rfl⟩
    obtain ⟨p1, c1, rfl⟩ := f1
    clear h hl
    go_enter Try.func24, Try.ntmps24
    go_wp2
    go_loopw [1, 5] (fun m i wr => m = .int .i64 1 ∧ i = .int .i64 0 ∧ wr = w) (fun _ _ _ => 0)
    case atStart => exact ⟨rfl, rfl, rfl⟩
    case round =>
      obtain ⟨rfl, rfl, rfl⟩ := hrel
      go_wp2
      go_ret
      exact ⟨rfl, Below.refl _ _⟩
  · have hln := marks_length 1 n
    obtain ⟨g, c, rfl, _, hg, r⟩ : ∃ g cap, v = .slice (some ⟨g, 0, none⟩) (marks 1 n).length cap ∧ b ≤ g ∧ g < w.heap.size ∧ ∀ j, j < (marks 1 n).length → w.cell? ⟨g, j, none⟩ = ((marks 1 n).map Value.string)[j]? := by
      rcases own_forms h with ⟨_, h⟩ | h
      · rw [h] at hln; simp at hln; omega
      · exact h
    rw [hln] at r ⊢
    have R : Hid (∀ j, j < n → w.cell? ⟨g, j, none⟩ = ((marks 1 n).map Value.string)[j]?) := r
    have hl' : (n : Int) ≤ 1048576 := by omega
    clear h hl r hln
    go_enter Try.func24, Try.ntmps24
    go_wp2
    go_loopw [1, 5] (fun m i wr => ∃ k : Nat, k ≤ n ∧ i = .int .i64 (k : Int) ∧ m = .int .i64 (1 + (k : Int)) ∧ Hid (Below w.heap.size w wr)) (fun _ i _ => n - (intOf i).toNat)
    case atStart => exact ⟨0, Nat.zero_le _, rfl, rfl, Below.refl _ _⟩
    case round =>
      obtain ⟨k, hk, rfl, rfl, HB⟩ := hrel
      by_cases hlt : k < n
      · have e1 : wr.cell? ⟨g, k, none⟩ = some (.string (mt (1 + (k : Int)))) := by rw [HB.out.cell (by exact hg), R.out k hlt, cell_mark hlt]
        have hlt' : (k : Int) < n := by omega
        go_wp2
        refine wp_region_any (by kernel_rfl) ?_
        refine wpAny_take (i := 0) (v := ?_) rfl (by kernel_rfl) (by kernel_rfl) (by kernel_rfl) (fun _ _ _ h => h) (Or.inl ⟨by rfl, ?_⟩) ?_
        rotate_left
        · (intro W; go_simp; try with_reducible rfl)
        simp only [Act.put, List.setIfInBounds_toArray, List.set_cons_zero, List.set_cons_succ, List.getElem_toArray, List.getElem_cons_zero]
        refine wpAny_take (i := 1) (v := ?_) rfl (by kernel_rfl) (by kernel_rfl) (by kernel_rfl) (fun _ _ _ h => h) (Or.inl ⟨by rfl, ?_⟩) ?_
        rotate_left
        · (intro W; go_simp; try with_reducible rfl)
        simp only [Act.put, List.setIfInBounds_toArray, List.set_cons_zero, List.set_cons_succ, List.getElem_toArray, List.getElem_cons_zero, List.getElem_cons_succ]
        refine wpAny_take (i := 2) (v := ?_) rfl (by kernel_rfl) (by kernel_rfl) (by kernel_rfl) (fun _ _ _ h => h) (Or.inl ⟨by rfl, ?_⟩) ?_
        rotate_left
        · (intro W; go_simp; try with_reducible rfl)
        simp only [Act.put, List.setIfInBounds_toArray, List.set_cons_zero, List.set_cons_succ, List.getElem_toArray, List.getElem_cons_zero, List.getElem_cons_succ]
        refine wpAny_take (i := 4) (v := ?_) rfl (by kernel_rfl) (by kernel_rfl) (by kernel_rfl) (fun _ _ _ h => h) (Or.inl ⟨by rfl, ?_⟩) ?_
        rotate_left
        · (intro W; go_simp; try with_reducible rfl)
        simp only [Act.put, List.setIfInBounds_toArray, List.set_cons_zero, List.set_cons_succ, List.getElem_toArray, List.getElem_cons_zero, List.getElem_cons_succ]
        refine wpAny_ready (rs := [3, 5]) (by kernel_rfl) (by simp) ?_
        refine AllReady.cons rfl (fun K hK => ?_) (AllReady.cons rfl (fun K hK => ?_) AllReady.nil)
        · go_simp
          refine hK _ _ ?_
          clear hK K
          refine wpAny_ready (rs := [5]) (by kernel_rfl) (by simp) ?_
          refine AllReady.cons rfl (fun K hK => ?_) AllReady.nil
          go_simp
          refine (markText_c (1 + (k : Int)) _ (by omega) (by omega)).mono ?_
          rintro e w2 ⟨rfl, b2⟩
          refine hK _ _ ?_
          clear hK K
          refine wpAny_take (i := 6) (v := ?_) rfl (by kernel_rfl) (by kernel_rfl) (by kernel_rfl) (fun _ _ _ h => h) (Or.inl ⟨by rfl, ?_⟩) ?_
          rotate_left
          · (intro W; go_simp; try with_reducible rfl)
          simp only [Act.put, List.setIfInBounds_toArray, List.set_cons_zero, List.set_cons_succ, List.getElem_toArray, List.getElem_cons_zero, List.getElem_cons_succ]
          refine wpAny_done (by kernel_rfl) ?_ _
          have HB2 : Hid (Below w.heap.size w w2) := (HB.out.drew).trans (b2.mono HB.out.size)
          clear b2
          go_wp2
          go_roundw
          case rel => exact ⟨k + 1, by omega, by go_num, by go_num, HB2⟩
          case measure => simp [intOf]; omega
        · go_simp
          refine (markText_c (1 + (k : Int)) _ (by omega) (by omega)).mono ?_
          rintro e w2 ⟨rfl, b2⟩
          refine hK _ _ ?_
          clear hK K
          have HB2 : Hid (Below w.heap.size w w2) := (HB.out.drew).trans (b2.mono HB.out.size)
          have e3 : w2.cell? ⟨g, k, none⟩ = some (.string (mt (1 + (k : Int)))) := by rw [HB2.out.cell (by exact hg), R.out k hlt, cell_mark hlt]
          clear b2
          refine wpAny_ready (rs := [3]) (by kernel_rfl) (by simp) ?_
          refine AllReady.cons rfl (fun K hK => ?_) AllReady.nil
          go_simp
          refine hK _ _ ?_
          clear hK K
          refine wpAny_take (i := 6) (v := ?_) rfl (by kernel_rfl) (by kernel_rfl) (by kernel_rfl) (fun _ _ _ h => h) (Or.inl ⟨by rfl, ?_⟩) ?_
          rotate_left
          · (intro W; go_simp; try with_reducible rfl)
          simp only [Act.put, List.setIfInBounds_toArray, List.set_cons_zero, List.set_cons_succ, List.getElem_toArray, List.getElem_cons_zero, List.getElem_cons_succ]
          refine wpAny_done (by kernel_rfl) ?_ _
          go_wp2
          go_roundw
          case rel => exact ⟨k + 1, by omega, by go_num, by go_num, HB2⟩
          case measure => simp [intOf]; omega
      · have hke : k = n := by omega
        subst hke
        go_wp2
        go_ret
        exact ⟨rfl, HB.out⟩

end Go.Proofs.Ytdggkcohidijcaa

/- What is right, of the specification; its Decode. -/
namespace Go.Proofs.Ytdggkcohidijcaa
open Go.RowKit
set_option linter.unusedVariables false
set_option linter.unusedSimpArgs false

end Go.Proofs.Ytdggkcohidijcaa

/- The specification's Ends. -/
namespace Go.Proofs.Ytdggkcohidijcaa
open Go.RowKit
set_option linter.unusedVariables false
set_option linter.unusedSimpArgs false

/-- Rows of two kinds of elements lie in two blocks. -/
theorem rows_apart8 {w : World} {B1 B2 : Nat} {e1 e2 : TypeId} {s1 s2 n1 n2 : Nat} {v1 v2 : Value} {x1 x2 : List Value} (h1 : w.ownsRow B1 e1 s1 v1 n1 x1) (h2 : w.ownsRow B2 e2 s2 v2 n2 x2) (he : e1 ≠ e2) : v1.ownBlock = none ∨ v1.ownBlock ≠ v2.ownBlock := by
  obtain ⟨_, ⟨rfl, _⟩ | ⟨g, c, cur, rfl, _, hh, _⟩⟩ := h1
  · exact Or.inl rfl
  · right
    obtain ⟨_, ⟨rfl, _⟩ | ⟨g2, c2, cur2, rfl, _, hh2, _⟩⟩ := h2
    · simp [Value.ownBlock]
    · intro hk
      simp only [Value.ownBlock, Option.some.injEq] at hk
      subst hk
      rw [hh] at hh2
      simp only [Option.some.injEq, Obj.cells.injEq] at hh2
      exact he hh2.2.1

end Go.Proofs.Ytdggkcohidijcaa

/- What Encode answers. -/
namespace Go.Proofs.Ytdggkcohidijcaa
open Go.RowKit
set_option linter.unusedVariables false
set_option linter.unusedSimpArgs false

/-- What the words of a text merge to, the first i of them. -/
def enW (L : List S_Pair) (W : List ByteArray) (i : Nat) : List Int := (W.take i).flatMap (bpF L)

theorem enW_more (L : List S_Pair) (W : List ByteArray) (i : Nat) (h : i < W.length) : enW L W (i + 1) = enW L W i ++ bpF L W[i] := by
  unfold enW
  rw [List.take_add_one, List.getElem?_eq_getElem h, List.flatMap_append]
  simp

theorem bpF_len2 (L : List S_Pair) (s : ByteArray) : (bpF L s).length ≤ s.size := by
  unfold bpF
  split
  · have := bpeN_len L (bpI s).length (bpI s)
    rw [bpI_len] at this
    show (bpeN L (bpI s).length (bpI s)).length ≤ _
    rw [bpI_len]
    exact this
  · exact Nat.zero_le _

theorem cutA_sum (L : List S_Pair) (s : ByteArray) : ∀ (f a : Nat), s.size - a ≤ f → ((cutA s a).flatMap (bpF L)).length ≤ s.size - a
  | 0, a, h => by rw [cutA_end s a (by omega)]; exact Nat.zero_le _
  | f + 1, a, h => by
    by_cases hlt : a < s.size
    · have hin := neE_in hlt
      have h1 := cutA_sum L s f (neE s a) (by omega)
      have h2 := bpF_len2 L (s.extract a (neE s a))
      rw [size_rest s a _ hin.2.1] at h2
      rw [cutA_more s a hlt, List.flatMap_cons, List.length_append]
      omega
    · rw [cutA_end s a (by omega)]; exact Nat.zero_le _

theorem enW_le (L : List S_Pair) (s : ByteArray) (i : Nat) : (enW L (cutF s) i).length ≤ 1000 := by
  have h0 : ((cutF s).flatMap (bpF L)).length ≤ 1000 := by
    unfold cutF
    split
    · have := cutA_sum L s _ 0 (Nat.le_refl _); omega
    · exact Nat.zero_le _
  have h1 : ((cutF s).flatMap (bpF L)) = enW L (cutF s) i ++ ((cutF s).drop i).flatMap (bpF L) := by
    unfold enW
    rw [← List.flatMap_append, List.take_append_drop]
  rw [h1, List.length_append] at h0
  omega

/-- What Encode answers. -/
def encF (L : List S_Pair) (s : ByteArray) : List Int := if okV L ∧ s.size ≤ 1000 then enW L (cutF s) (cutF s).length else []
def enC (L : List S_Pair) (s : ByteArray) : Int := if okV L then (if s.size ≤ 1000 then 0 else 2) else 1
theorem encF_len (L : List S_Pair) (s : ByteArray) : (encF L s).length ≤ 1000 := by
  unfold encF
  split
  · exact enW_le L s _
  · exact Nat.zero_le _
theorem encF_yes {L : List S_Pair} {s : ByteArray} (h : okV L) (h2 : s.size ≤ 1000) : encF L s = enW L (cutF s) (cutF s).length ∧ enC L s = 0 := by
  unfold encF enC
  rw [if_pos ⟨h, h2⟩, if_pos h, if_pos h2]
  exact ⟨rfl, rfl⟩
theorem encF_bad {L : List S_Pair} {s : ByteArray} (h : ¬ okV L) : encF L s = [] ∧ enC L s = 1 := by
  unfold encF enC
  rw [if_neg (fun g => h g.1), if_neg h]
  exact ⟨rfl, rfl⟩
theorem encF_large {L : List S_Pair} {s : ByteArray} (h : okV L) (h2 : ¬ s.size ≤ 1000) : encF L s = [] ∧ enC L s = 2 := by
  unfold encF enC
  rw [if_neg (fun g => h2 g.2), if_pos h, if_neg h2]
  exact ⟨rfl, rfl⟩

theorem ownS_cells {w : World} {base : Nat} {q : Option Addr} {n c : Nat} {W : List ByteArray} (h : w.ownsRow base 9 1 (.slice q n c) n (W.map Value.string)) (hn : 0 < n) (hl : W.length = n) : ∃ g, q = some ⟨g, 0, none⟩ ∧ g < w.heap.size ∧ ∀ j (hj : j < W.length), w.cell? ⟨g, j, none⟩ = some (.string W[j]) := by
  have h' := h
  obtain ⟨h1, ⟨hv, h2⟩ | ⟨g, cap, cur, hv, hg, hh, _⟩⟩ := h'
  · omega
  · simp only [Value.slice.injEq] at hv
    obtain ⟨rfl, _, rfl⟩ := hv
    exact ⟨g, rfl, lt_of_some hh, fun j hj => by rw [World.ownsRow.cellAt h j (by omega)]; rw [List.getElem?_map, List.getElem?_eq_getElem hj]; rfl⟩

theorem rows_apartE {w : World} {B1 B2 : Nat} {e1 e2 : TypeId} {v1 v2 : Value} {n1 n2 : Nat} {x1 x2 : List Value} (h1 : w.ownsRow B1 e1 1 v1 n1 x1) (h2 : w.ownsRow B2 e2 1 v2 n2 x2) (he : e1 ≠ e2) : v1.ownBlock = none ∨ v1.ownBlock ≠ v2.ownBlock := by
  obtain ⟨_, ⟨rfl, _⟩ | ⟨g, c, cur, rfl, _, hh, _⟩⟩ := h1
  · exact Or.inl rfl
  · right
    obtain ⟨_, ⟨rfl, _⟩ | ⟨g2, c2, cur2, rfl, _, hh2, _⟩⟩ := h2
    · simp [Value.ownBlock]
    · intro e
      simp only [Value.ownBlock, Option.some.injEq] at e
      rw [e, hh2] at hh
      simp only [Option.some.injEq, Obj.cells.injEq] at hh
      exact he hh.2.1.symm

theorem bel_undrewE {B : Nat} {w w' : World} (h : Below B w.drew w') : Below B w w' := ⟨h.os, h.tape, h.output, h.size, h.block⟩
theorem cell1E {w : World} {b : Nat} {v : Value} (h : w.cell? ⟨b, 0, none⟩ = some v) : ∀ j u, ([v] : List Value)[j]? = some u → w.cell? ((⟨b, 0, none⟩ : Addr).add j) = some u := fun j u hu => by
  cases j with
  | zero => simp at hu; subst hu; simpa [Addr.add] using h
  | succ j => simp at hu

theorem app_intsG {w : World} {base : Nat} {v : Value} {xs T : List Int} {p : Option Addr} {n m c : Nat} (hn : xs.length = n) (hm : T.length = m) (ho : w.ownsRow base 3 1 v n (rI xs)) (hr : RowR w (.slice p m c) m 1 (rI T)) (hb : base ≤ w.heap.size) (hl : n + m ≤ 1000000) :
    ∃ v' c' w', (Builtin.append_ #[29, 29] 29 #[v, .slice p m c]).run Try.prog w = .ok (.slice v' (n + m) c') w' ∧ w'.ownsRow base 3 1 (.slice v' (n + m) c') (n + m) (rI (xs ++ T)) ∧ Below base w w' ∧ w.grownBy w' v.ownBlock := by
  obtain ⟨i0, hi, hz0, hz1, hz2⟩ := info_parts infoInt
  have hrI : rI (xs ++ T) = rI xs ++ rI T := by unfold rI; rw [List.map_append]
  have hbl : ∀ k, v.ownBlock = some k → base ≤ k := fun k hk => (ho.lt k hk).1
  rcases Nat.eq_zero_or_pos m with h0 | h0
  · subst h0
    have hT : T = [] := List.eq_nil_of_length_eq_zero hm
    subst hT
    cases p with
    | none =>
      have hrun := run_append_owned_none (P := Try.prog) (w := w) base 29 29 3 i0 1 Try.underlying29 hi v n (rI xs) ho
      obtain ⟨q, d, rfl⟩ := own_sliceV ho
      have hc : c = c := rfl
      refine ⟨q, d, w, ?_, ?_, Below.refl _ _, World.grownBy.refl _ _⟩
      · exact hrun
      · rw [List.append_nil]; exact ho
    | some a =>
      obtain ⟨v', w', hrun, hown, hgrow, _⟩ := run_append_own (P := Try.prog) w base 29 29 3 i0 (.int .i64 0) 1 8 Try.underlying29 hi hz0 hz1 hz2 rfl (by decide) v n (rI xs) ho a 0 c [] rfl (fun j u hj => by simp at hj) (fun u hu => by cases hu) (by unfold maxLen; omega) (by omega) hb
      obtain ⟨q, d, rfl⟩ := own_sliceV hown
      refine ⟨q, d, w', hrun, by rw [List.append_nil]; simpa using hown, (Below.refl _ _).grown hgrow hb (fun k hk => hbl k hk), hgrow⟩
  · obtain ⟨b, off, c2, hv, hlt, hc⟩ := hr.some h0 (by decide)
    simp only [Value.slice.injEq, true_and] at hv
    obtain ⟨rfl, rfl⟩ := hv
    obtain ⟨v', w', hrun, hown, hgrow, _⟩ := run_append_own (P := Try.prog) w base 29 29 3 i0 (.int .i64 0) 1 8 Try.underlying29 hi hz0 hz1 hz2 rfl (by decide) v n (rI xs) ho ⟨b, off, none⟩ m c (rI T) (by rw [rI_len, hm, Nat.mul_one]) (fun j u hj => by
      have hjl : j < m := by
        have := (List.getElem?_eq_some_iff.1 hj).1
        rw [rI_len] at this
        omega
      rw [Addr.add_mid, hc j (by omega)]
      exact hj) (fun u hu => by
      unfold rI at hu
      obtain ⟨y, _, rfl⟩ := List.mem_map.1 hu
      rfl) (by unfold maxLen; omega) (by omega) hb
    obtain ⟨q, d, rfl⟩ := own_sliceV hown
    exact ⟨q, d, w', hrun, by rw [hrI]; exact hown, (Below.refl _ _).grown hgrow hb (fun k hk => hbl k hk), hgrow⟩

end Go.Proofs.Ytdggkcohidijcaa
