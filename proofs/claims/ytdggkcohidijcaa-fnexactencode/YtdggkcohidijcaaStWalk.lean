/- Rows of texts of the call's own: equal, marked, held. -/
import Derived.Test.YtdggkcohidijcaaHaBut
import Derived.Test.YtdggkcohidijcaaMtWalk
import Derived.Deep.RegionWith
import Derived.Maps.AppendAt
namespace Go.Proofs.Ytdggkcohidijcaa
open Go.RowKit
set_option linter.unusedVariables false

/-- The marks from k on. -/
def marks (k : Int) (n : Nat) : List ByteArray := (List.range n).map fun (i : Nat) => mt (k + (i : Int))

theorem marks_length (k : Int) (n : Nat) : (marks k n).length = n := by simp [marks]

theorem marks_at (k : Int) (n i : Nat) (h : i < n) : (marks k n)[i]? = some (mt (k + (i : Int))) := by
  simp [marks, h]

theorem marks_set (k : Int) (L : List ByteArray) (i : Nat) (h : i < L.length) :
    (marks k i ++ L.drop i).set i (mt (k + (i : Int))) = marks k (i + 1) ++ L.drop (i + 1) := by
  have hl := marks_length k i
  rw [List.set_append_right _ _ (by omega), hl, Nat.sub_self, List.drop_eq_getElem_cons h, List.set_cons_zero]
  have e : marks k (i + 1) = marks k i ++ [mt (k + (i : Int))] := by
    simp [marks, List.range_succ]
  rw [e, List.append_assoc]
  rfl

theorem infoS : (Try.prog.info? 9).map (fun i => (i.zero, i.size, i.bytes)) = some (some (.string ⟨#[]⟩), 1, 16) := by kernel_rfl

/-- A row of texts of the call's own. -/
def OwnS (w : World) (base : Nat) (v : Value) (L : List ByteArray) : Prop := w.ownsRow base 9 1 v L.length (L.map Value.string)

theorem OwnS.keep {w w' : World} {base : Nat} {v : Value} {L : List ByteArray} (h : OwnS w base v L) (hb : Below w.heap.size w w') : OwnS w' base v L := own_bel h hb (Nat.le_refl _)

theorem OwnS.low {w : World} {base base' : Nat} {v : Value} {L : List ByteArray} (h : OwnS w base v L) (hb : base' ≤ base) : OwnS w base' v L := by
  obtain ⟨h1, h2⟩ := h
  refine ⟨h1, ?_⟩
  rcases h2 with h2 | ⟨g, cap, cur, hv, hg, r⟩
  · exact Or.inl h2
  · exact Or.inr ⟨g, cap, cur, hv, Nat.le_trans hb hg, r⟩

theorem own_snocS {w : World} {base : Nat} {v : Value} {acc : List ByteArray} {y : ByteArray} (h : w.ownsRow base 9 1 v (acc.length + 1) (acc.map Value.string ++ [.string y])) : OwnS w base v (acc ++ [y]) := by
  unfold OwnS
  simpa using h

theorem own_forms {w : World} {base : Nat} {v : Value} {L : List ByteArray} (h : OwnS w base v L) :
    (v = .slice none 0 0 ∧ L = []) ∨ ∃ g cap, v = .slice (some ⟨g, 0, none⟩) L.length cap ∧ base ≤ g ∧ g < w.heap.size ∧ ∀ j, j < L.length → w.cell? ⟨g, j, none⟩ = (L.map Value.string)[j]? := by
  have h' := h
  obtain ⟨h1, ⟨rfl, h2⟩ | ⟨g, cap, cur, rfl, hg, hh, _⟩⟩ := h'
  · exact Or.inl ⟨rfl, List.eq_nil_of_length_eq_zero h2⟩
  · exact Or.inr ⟨g, cap, rfl, hg, lt_of_some hh, fun j hj => World.ownsRow.cellAt h j (by omega)⟩

theorem cell_str {L : List ByteArray} {j : Nat} (h : j < L.length) : (L.map Value.string)[j]? = some (.string L[j]) := by
  rw [List.getElem?_map, List.getElem?_eq_getElem h]; rfl

set_option maxRecDepth 20000 in
set_option maxHeartbeats 1000000 in
theorem eqS_c (v1 v2 : Value) (L : List ByteArray) (b1 b2 : Nat) (w : World) (hl : L.length ≤ 1048576) (h1 : OwnS w b1 v1 L) (h2 : OwnS w b2 v2 L) :
    Calls Try.prog 22 #[v1, v2] w fun e w' => e = .returned (.bool true) ∧ Below w.heap.size w w' := by
  rcases Nat.eq_zero_or_pos L.length with hn | hn
  · have hL : L = [] := List.eq_nil_of_length_eq_zero hn
    subst hL
    have f1 : ∃ a c, v1 = .slice a 0 c := by
      rcases own_forms h1 with ⟨rfl, _⟩ | ⟨g, cap, rfl, _⟩
      · exact ⟨_, _, rfl⟩
      · exact ⟨_, _, rfl⟩
    have f2 : ∃ a c, v2 = .slice a 0 c := by
      rcases own_forms h2 with ⟨rfl, _⟩ | ⟨g, cap, rfl, _⟩
      · exact ⟨_, _, rfl⟩
      · exact ⟨_, _, rfl⟩
    obtain ⟨p1, c1, rfl⟩ := f1
    obtain ⟨p2, c2, rfl⟩ := f2
    clear h1 h2 hn hl
    go_enter Try.func22, Try.ntmps22
    go_wp2
    go_loopw [5] (fun i wr => i = .int .i64 0 ∧ wr = w) (fun _ _ => 0)
    case atStart => exact ⟨rfl, rfl⟩
    case round =>
      obtain ⟨rfl, rfl⟩ := hrel
      go_wp2
      go_ret
      exact ⟨rfl, Below.refl _ _⟩
  · obtain ⟨g1, c1, rfl, _, hg1, r1⟩ : ∃ g cap, v1 = .slice (some ⟨g, 0, none⟩) L.length cap ∧ b1 ≤ g ∧ g < w.heap.size ∧ ∀ j, j < L.length → w.cell? ⟨g, j, none⟩ = (L.map Value.string)[j]? := by
      rcases own_forms h1 with ⟨_, rfl⟩ | h
      · simp at hn
      · exact h
    obtain ⟨g2, c2, rfl, _, hg2, r2⟩ : ∃ g cap, v2 = .slice (some ⟨g, 0, none⟩) L.length cap ∧ b2 ≤ g ∧ g < w.heap.size ∧ ∀ j, j < L.length → w.cell? ⟨g, j, none⟩ = (L.map Value.string)[j]? := by
      rcases own_forms h2 with ⟨_, rfl⟩ | h
      · simp at hn
      · exact h
    have R1 : Hid (∀ j, j < L.length → w.cell? ⟨g1, j, none⟩ = (L.map Value.string)[j]?) := r1
    have R2 : Hid (∀ j, j < L.length → w.cell? ⟨g2, j, none⟩ = (L.map Value.string)[j]?) := r2
    have hl' : (L.length : Int) ≤ 1048576 := by omega
    clear h1 h2 r1 r2 hl
    go_enter Try.func22, Try.ntmps22
    go_wp2
    go_loopw [5] (fun i wr => ∃ k : Nat, k ≤ L.length ∧ i = .int .i64 (k : Int) ∧ Hid (Below w.heap.size w wr)) (fun i _ => L.length - (intOf i).toNat)
    case atStart => exact ⟨0, Nat.zero_le _, rfl, Below.refl _ _⟩
    case round =>
      obtain ⟨k, hk, rfl, HB⟩ := hrel
      by_cases hlt : k < L.length
      · have e1 : wr.cell? ⟨g1, k, none⟩ = some (.string L[k]) := by rw [HB.out.cell (by exact hg1), R1.out k hlt, cell_str hlt]
        have e2 : wr.cell? ⟨g2, k, none⟩ = some (.string L[k]) := by rw [HB.out.cell (by exact hg2), R2.out k hlt, cell_str hlt]
        have hlt' : (k : Int) < L.length := by omega
        generalize L[k] = Y at e1 e2
        go_wp2
        go_quiet (fail)
        go_wp2
        go_roundw
        case rel => exact ⟨k + 1, by omega, by go_num, bel_drewN HB.out _⟩
        case measure => simp [intOf]; omega
      · have hke : k = L.length := by omega
        subst hke
        go_wp2
        go_ret
        exact ⟨rfl, HB.out⟩

theorem cell_mark {k : Int} {n j : Nat} (h : j < n) : ((marks k n).map Value.string)[j]? = some (.string (mt (k + (j : Int)))) := by
  rw [List.getElem?_map, marks_at k n j h]; rfl

theorem row_nil_marks (v : Value) (b : Nat) (w : World) (h : OwnS w b v []) : OwnS w b v (marks 1 0) := h

set_option maxRecDepth 20000 in
set_option maxHeartbeats 1000000 in
theorem mark_c (v : Value) (L : List ByteArray) (b : Nat) (w : World) (hl : L.length ≤ 1048576) (h : OwnS w b v L) (hb : b ≤ w.heap.size) :
    Calls Try.prog 23 #[v, .int .i64 1] w fun e w' => e = .returned (.int .i64 (1 + (L.length : Int))) ∧ OwnS w' b v (marks 1 L.length) ∧ Below b w w' := by
  rcases Nat.eq_zero_or_pos L.length with hn | hn
  · have hL : L = [] := List.eq_nil_of_length_eq_zero hn
    subst hL
    have HO : Hid (OwnS w b v []) := h
    have f1 : ∃ a c, v = .slice a 0 c := by
      rcases own_forms h with ⟨rfl, _⟩ | ⟨g, cap, rfl, _⟩
      · exact ⟨_, _, rfl⟩
      · exact ⟨_, _, rfl⟩
    obtain ⟨p1, c1, rfl⟩ := f1
    clear h hn hl
    go_enter Try.func23, Try.ntmps23
    go_wp2
    go_loopw [1, 5] (fun m i wr => m = .int .i64 1 ∧ i = .int .i64 0 ∧ wr = w) (fun _ _ _ => 0)
    case atStart => exact ⟨rfl, rfl, rfl⟩
    case round =>
      obtain ⟨rfl, rfl, rfl⟩ := hrel
      go_wp2
      go_ret
      exact ⟨rfl, HO.out, Below.refl _ _⟩
  · obtain ⟨g, c, rfl, hbg, hg, _⟩ : ∃ g cap, v = .slice (some ⟨g, 0, none⟩) L.length cap ∧ b ≤ g ∧ g < w.heap.size ∧ ∀ j, j < L.length → w.cell? ⟨g, j, none⟩ = (L.map Value.string)[j]? := by
      rcases own_forms h with ⟨_, rfl⟩ | h
      · simp at hn
      · exact h
    have HO : Hid (w.ownsRow b 9 1 (.slice (some ⟨g, 0, none⟩) L.length c) L.length ((marks 1 0 ++ L.drop 0).map Value.string)) := h
    have hl' : (L.length : Int) ≤ 1048576 := by omega
    clear h hl
    go_enter Try.func23, Try.ntmps23
    go_wp2
    go_loopw [1, 5] (fun m i wr => ∃ k : Nat, k ≤ L.length ∧ i = .int .i64 (k : Int) ∧ m = .int .i64 (1 + (k : Int)) ∧ Hid (wr.ownsRow b 9 1 (.slice (some ⟨g, 0, none⟩) L.length c) L.length ((marks 1 k ++ L.drop k).map Value.string)) ∧ Hid (Below b w wr)) (fun _ i _ => L.length - (intOf i).toNat)
    case atStart => exact ⟨0, Nat.zero_le _, rfl, rfl, HO, Below.refl _ _⟩
    case round =>
      obtain ⟨k, hk, rfl, rfl, HR, HB⟩ := hrel
      have hsz := HB.out.size
      by_cases hlt : k < L.length
      · have hlt' : (k : Int) < L.length := by omega
        go_wp2_with fail
        refine (markText_c (1 + (k : Int)) _ (by omega) (by omega)).mono ?_
        rintro e w2 ⟨rfl, b2⟩
        have HR2 : Hid (w2.ownsRow b 9 1 (.slice (some ⟨g, 0, none⟩) L.length c) L.length ((marks 1 k ++ L.drop k).map Value.string)) := own_bel HR.out b2 (Nat.le_refl _)
        have HB2 : Hid (Below b w w2) := HB.out.trans (b2.mono (by omega))
        have hcl : w2.cell? ⟨g, k, none⟩ = ((marks 1 k ++ L.drop k).map Value.string)[k]? := HR2.out.cellAt k (by omega)
        have hcl2 : ∃ Y, ((marks 1 k ++ L.drop k).map Value.string)[k]? = some (.string Y) := by
          have hlen : k < (marks 1 k ++ L.drop k).length := by simp [marks_length]; omega
          exact ⟨_, by rw [List.getElem?_map, List.getElem?_eq_getElem hlen]; rfl⟩
        obtain ⟨Y, hY⟩ := hcl2
        rw [hY] at hcl
        have hfz := HR2.out.frozenAt k
        clear b2 hY HR HB
        go_wp2
        have hst := (HR2.out.stored k (.string (mt (1 + (k : Int))))).1
        have R1 : Hid ((w2.setCell ⟨g, k, none⟩ (.string (mt (1 + (k : Int))))).ownsRow b 9 1 (.slice (some ⟨g, 0, none⟩) L.length c) L.length ((marks 1 (k + 1) ++ L.drop (k + 1)).map Value.string)) := by
          show World.ownsRow _ _ _ _ _ _ _
          rw [← marks_set 1 L k hlt, List.map_set]
          exact hst
        have R2 : Hid (Below b w (w2.setCell ⟨g, k, none⟩ (.string (mt (1 + (k : Int)))))) := HB2.out.setCell (by exact hbg) _
        clear hst
        go_roundw
        case rel => first | exact ⟨k + 1, by omega, by go_num, by go_num, R1, R2⟩ | ((repeat apply Exists.intro); exact ⟨⟨k + 1, by omega, by go_num, by go_num, R1, R2⟩, rfl⟩)
        case measure => simp [intOf]; omega
      · have hke : k = L.length := by omega
        subst hke
        have HR2 : Hid (OwnS wr b (.slice (some ⟨g, 0, none⟩) L.length c) (marks 1 L.length)) := by
          have := HR.out
          rw [List.drop_length, List.append_nil] at this
          show World.ownsRow _ _ _ _ _ _ _
          rw [marks_length]
          exact this
        go_wp2
        go_ret
        exact ⟨rfl, HR2.out, HB.out⟩

set_option maxRecDepth 20000 in
set_option maxHeartbeats 1000000 in
theorem held_c (v : Value) (n b : Nat) (w : World) (hl : n ≤ 1048576) (h : OwnS w b v (marks 1 n)) :
    Calls Try.prog 24 #[v, .int .i64 1] w fun e w' => e = .returned (.int .i64 (1 + (n : Int))) ∧ Below w.heap.size w w' := by
  rcases Nat.eq_zero_or_pos n with hn | hn
  · subst hn
    have f1 : ∃ a c, v = .slice a 0 c := by
      rcases own_forms h with ⟨rfl, _⟩ | ⟨g, cap, rfl, _⟩
      · exact ⟨_, _, rfl⟩
      · exact ⟨_, _, rfl⟩
    obtain ⟨p1, c1, rfl⟩ := f1
    clear h hl
    go_enter Try.func24, Try.ntmps24
    go_wp2
    go_loopw [1, 5] (fun m i wr => m = .int .i64 1 ∧ i = .int .i64 0 ∧ wr = w) (fun _ _ _ => 0)
    case atStart => exact ⟨rfl, rfl, rfl⟩
    case round =>
      obtain ⟨rfl, rfl, rfl⟩ := hrel
      go_wp2
      go_ret
      exact ⟨rfl, Below.refl _ _⟩
  · have hln := marks_length 1 n
    obtain ⟨g, c, rfl, _, hg, r⟩ : ∃ g cap, v = .slice (some ⟨g, 0, none⟩) (marks 1 n).length cap ∧ b ≤ g ∧ g < w.heap.size ∧ ∀ j, j < (marks 1 n).length → w.cell? ⟨g, j, none⟩ = ((marks 1 n).map Value.string)[j]? := by
      rcases own_forms h with ⟨_, h⟩ | h
      · rw [h] at hln; simp at hln; omega
      · exact h
    rw [hln] at r ⊢
    have R : Hid (∀ j, j < n → w.cell? ⟨g, j, none⟩ = ((marks 1 n).map Value.string)[j]?) := r
    have hl' : (n : Int) ≤ 1048576 := by omega
    clear h hl r hln
    go_enter Try.func24, Try.ntmps24
    go_wp2
    go_loopw [1, 5] (fun m i wr => ∃ k : Nat, k ≤ n ∧ i = .int .i64 (k : Int) ∧ m = .int .i64 (1 + (k : Int)) ∧ Hid (Below w.heap.size w wr)) (fun _ i _ => n - (intOf i).toNat)
    case atStart => exact ⟨0, Nat.zero_le _, rfl, rfl, Below.refl _ _⟩
    case round =>
      obtain ⟨k, hk, rfl, rfl, HB⟩ := hrel
      by_cases hlt : k < n
      · have e1 : wr.cell? ⟨g, k, none⟩ = some (.string (mt (1 + (k : Int)))) := by rw [HB.out.cell (by exact hg), R.out k hlt, cell_mark hlt]
        have hlt' : (k : Int) < n := by omega
        go_wp2
        refine wp_region_any (by kernel_rfl) ?_
        refine wpAny_take (i := 0) (v := ?_) rfl (by kernel_rfl) (by kernel_rfl) (by kernel_rfl) (fun _ _ _ h => h) (Or.inl ⟨by rfl, ?_⟩) ?_
        rotate_left
        · (intro W; go_simp; try with_reducible rfl)
        simp only [Act.put, List.setIfInBounds_toArray, List.set_cons_zero, List.set_cons_succ, List.getElem_toArray, List.getElem_cons_zero]
        refine wpAny_take (i := 1) (v := ?_) rfl (by kernel_rfl) (by kernel_rfl) (by kernel_rfl) (fun _ _ _ h => h) (Or.inl ⟨by rfl, ?_⟩) ?_
        rotate_left
        · (intro W; go_simp; try with_reducible rfl)
        simp only [Act.put, List.setIfInBounds_toArray, List.set_cons_zero, List.set_cons_succ, List.getElem_toArray, List.getElem_cons_zero, List.getElem_cons_succ]
        refine wpAny_take (i := 2) (v := ?_) rfl (by kernel_rfl) (by kernel_rfl) (by kernel_rfl) (fun _ _ _ h => h) (Or.inl ⟨by rfl, ?_⟩) ?_
        rotate_left
        · (intro W; go_simp; try with_reducible rfl)
        simp only [Act.put, List.setIfInBounds_toArray, List.set_cons_zero, List.set_cons_succ, List.getElem_toArray, List.getElem_cons_zero, List.getElem_cons_succ]
        refine wpAny_take (i := 4) (v := ?_) rfl (by kernel_rfl) (by kernel_rfl) (by kernel_rfl) (fun _ _ _ h => h) (Or.inl ⟨by rfl, ?_⟩) ?_
        rotate_left
        · (intro W; go_simp; try with_reducible rfl)
        simp only [Act.put, List.setIfInBounds_toArray, List.set_cons_zero, List.set_cons_succ, List.getElem_toArray, List.getElem_cons_zero, List.getElem_cons_succ]
        refine wpAny_ready (rs := [3, 5]) (by kernel_rfl) (by simp) ?_
        refine AllReady.cons rfl (fun K hK => ?_) (AllReady.cons rfl (fun K hK => ?_) AllReady.nil)
        · go_simp
          refine hK _ _ ?_
          clear hK K
          refine wpAny_ready (rs := [5]) (by kernel_rfl) (by simp) ?_
          refine AllReady.cons rfl (fun K hK => ?_) AllReady.nil
          go_simp
          refine (markText_c (1 + (k : Int)) _ (by omega) (by omega)).mono ?_
          rintro e w2 ⟨rfl, b2⟩
          refine hK _ _ ?_
          clear hK K
          refine wpAny_take (i := 6) (v := ?_) rfl (by kernel_rfl) (by kernel_rfl) (by kernel_rfl) (fun _ _ _ h => h) (Or.inl ⟨by rfl, ?_⟩) ?_
          rotate_left
          · (intro W; go_simp; try with_reducible rfl)
          simp only [Act.put, List.setIfInBounds_toArray, List.set_cons_zero, List.set_cons_succ, List.getElem_toArray, List.getElem_cons_zero, List.getElem_cons_succ]
          refine wpAny_done (by kernel_rfl) ?_ _
          have HB2 : Hid (Below w.heap.size w w2) := (HB.out.drew).trans (b2.mono HB.out.size)
          clear b2
          go_wp2
          go_roundw
          case rel => exact ⟨k + 1, by omega, by go_num, by go_num, HB2⟩
          case measure => simp [intOf]; omega
        · go_simp
          refine (markText_c (1 + (k : Int)) _ (by omega) (by omega)).mono ?_
          rintro e w2 ⟨rfl, b2⟩
          refine hK _ _ ?_
          clear hK K
          have HB2 : Hid (Below w.heap.size w w2) := (HB.out.drew).trans (b2.mono HB.out.size)
          have e3 : w2.cell? ⟨g, k, none⟩ = some (.string (mt (1 + (k : Int)))) := by rw [HB2.out.cell (by exact hg), R.out k hlt, cell_mark hlt]
          clear b2
          refine wpAny_ready (rs := [3]) (by kernel_rfl) (by simp) ?_
          refine AllReady.cons rfl (fun K hK => ?_) AllReady.nil
          go_simp
          refine hK _ _ ?_
          clear hK K
          refine wpAny_take (i := 6) (v := ?_) rfl (by kernel_rfl) (by kernel_rfl) (by kernel_rfl) (fun _ _ _ h => h) (Or.inl ⟨by rfl, ?_⟩) ?_
          rotate_left
          · (intro W; go_simp; try with_reducible rfl)
          simp only [Act.put, List.setIfInBounds_toArray, List.set_cons_zero, List.set_cons_succ, List.getElem_toArray, List.getElem_cons_zero, List.getElem_cons_succ]
          refine wpAny_done (by kernel_rfl) ?_ _
          go_wp2
          go_roundw
          case rel => exact ⟨k + 1, by omega, by go_num, by go_num, HB2⟩
          case measure => simp [intOf]; omega
      · have hke : k = n := by omega
        subst hke
        go_wp2
        go_ret
        exact ⟨rfl, HB.out⟩

end Go.Proofs.Ytdggkcohidijcaa
