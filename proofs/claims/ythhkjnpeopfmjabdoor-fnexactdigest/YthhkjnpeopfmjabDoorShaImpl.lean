/- The walk of the program's own sum, whole. -/
import Derived.Test.YthhkjnpeopfmjabDoorShaNew
namespace Go.Proofs.YthhkjnpeopfmjabDoor
open Go.RowKit
set_option linter.unusedVariables false
attribute [local go_sem ↓] Go.wp_at_zero Go.wp_at_succ

/-- At the beginning. -/
theorem ShaAt.start {w : World} {B : Nat} (ks : List Int) (h : w.ownsRow B 63 1 (.slice (some ⟨B, 0, none⟩) 73 73) 73 cells0) : ShaAt w B ks H0 [] (List.replicate 64 0) :=
  ⟨by simp, fun j => by simp only [List.getD, List.getElem?_replicate]; split <;> simp, by simp, h⟩

theorem H0_ok : H0.ok := by unfold V8.ok H0; simp

theorem own_setCells_from {base : Nat} {e : TypeId} {g n cap : Nat} : ∀ (vs : List Value) (o : Nat) (w : World) (xs : List Value), w.ownsRow base e 1 (.slice (some ⟨g, 0, none⟩) n cap) n xs → o + vs.length ≤ xs.length →
    (w.setCells g o vs).ownsRow base e 1 (.slice (some ⟨g, 0, none⟩) n cap) n (xs.take o ++ vs ++ xs.drop (o + vs.length))
  | [], o, w, xs, h, hl => by
    simp only [World.setCells, List.append_nil, List.length_nil, Nat.add_zero, List.take_append_drop]
    exact h
  | v :: r, o, w, xs, h, hl => by
    simp only [List.length_cons] at hl
    have h1 := own_setCells_from r (o + 1) _ _ (h.stored o v).1 (by rw [List.length_set]; omega)
    have e1 : (xs.set o v).take (o + 1) = xs.take o ++ [v] := by
      rw [List.take_succ_eq_append_getElem (by rw [List.length_set]; omega), List.take_set, List.set_eq_of_length_le (by rw [List.length_take]; omega)]
      simp
    have e2 : (xs.set o v).drop (o + 1 + r.length) = xs.drop (o + (r.length + 1)) := by
      rw [List.drop_set_of_lt (by omega)]
      congr 1
      omega
    rw [e1, e2] at h1
    simpa [World.setCells] using h1

/-- A whole row of the call's own, written anew. -/
theorem own_setCellsS {w : World} {base : Nat} {e : TypeId} {g n cap : Nat} {xs : List Value} (vs : List Value) (h : w.ownsRow base e 1 (.slice (some ⟨g, 0, none⟩) n cap) n xs) (hl : vs.length = n) :
    (w.setCells g 0 vs).ownsRow base e 1 (.slice (some ⟨g, 0, none⟩) n cap) n vs := by
  have h0 := h.1
  have h1 := own_setCells_from vs 0 w xs h (by omega)
  rw [List.take_zero, List.nil_append, List.drop_eq_nil_of_le (by omega), List.append_nil] at h1
  exact h1

set_option maxRecDepth 20000 in
set_option maxHeartbeats 2000000 in
theorem implSha (s : ByteArray) (w : World) (ks : List Int) (hs : s.size ≤ 1048576) (hB0 : 0 < w.heap.size) (hT : Tab w ks) (hkr : ∀ j, 0 ≤ ks.getD j 0 ∧ ks.getD j 0 ≤ 4294967295) :
    Calls Tryd.prog 15 #[.string s] w fun e w' => e = .returned (.string (strOfNums (outL (shaN ks H0 (padL (nums s)) ((padL (nums s)).length / 64)).l 8))) ∧ Below w.heap.size w w' := by
  obtain ⟨hz, hi⟩ := zero_of_info info_sum
  have hz73 : zero73.size = 73 := by kernel_rfl
  have H1 : Hid (cells0.toArray.size = 73) := by show _ = _; kernel_rfl
  have H2 : Hid ((Tryd.prog.info? 63).map (·.size) = some cells0.toArray.size) := by show _ = _; rw [H1.out]; exact hi
  have H3 : Hid (cells0.toArray.all (·.oneCell') = true) := by show _ = _; kernel_rfl
  have H4 : Hid (zero73.size = cells0.toArray.size) := by show _ = _; rw [H1.out, hz73]
  have HI : Hid ((Tryd.prog.info? 63).map (·.size) = some 73) := hi
  have HT : Hid (Tab w ks) := hT
  have HK : Hid (∀ j, 0 ≤ ks.getD j 0 ∧ ks.getD j 0 ≤ 4294967295) := hkr
  clear hi hz73 hT hkr
  go_enter Tryd.func15, Tryd.ntmps15
  go_wp2_with fail
  refine (new_any _).mono ?_
  rintro e w1 ⟨rfl, hb1⟩
  generalize hC : cells0 = C at *
  have HC : Hid (cells0 = C) := hC
  clear hC
  generalize zero73 = Z at *
  go_wp2_with (first
    | (refine wpList_store_mid (by rfl) 63 (.tmp 3) (.tmp 4) (by rfl) w1.heap.size 0 C.toArray (by rfl) (by rfl) (new_there _ _ _ _ H4.out) H2.out H3.out ?_)
    | fail)
  have hZ : Z.size = 73 := by rw [H4.out, H1.out]
  have hown1 := World.ownsRow_lit (base := w1.heap.size) (size := 1) (e := 63) w1 Z 73 (Nat.le_refl _) (by decide) (by rw [hZ])
  have hown2 := own_setCellsS C hown1 (by rw [← List.size_toArray, H1.out])
  rw [← HC.out] at hown2
  have hA := ShaAt.start ks hown2
  have hbA : Below w1.heap.size w1 ((w1.alloc (.cells Z 63)).setCells w1.heap.size 0 C) := below_setCells _ (Nat.le_refl _) _ _ _ ((Below.refl _ _).alloc (Nat.le_refl _) _)
  have hT1 := HT.out.below hb1 hB0
  have hs1 := hb1.size
  rw [HC.out] at hA
  refine (take_any _ w1.heap.size ks H0 [] _ s (by omega) hA (hT1.below hbA (by omega)) HK.out H0_ok (by simp; omega)).mono ?_
  rintro e w2 ⟨rfl, hA2, hb2⟩
  obtain ⟨wt2, hA2⟩ := hA2
  rw [List.nil_append] at hA2
  have hb3 : Below w1.heap.size w1 w2 := hbA.trans hb2
  have hT2 := hT1.below hb3 (by omega)
  have hs2 := hb3.size
  have H5 : Hid (w2.rangeAt w1.heap.size 0 (sCells (shaN ks H0 (nums s) ((nums s).length / 64)).l wt2 (nums s).length)) := own_range hA2.own
  have hcl : (sCells (shaN ks H0 (nums s) ((nums s).length / 64)).l wt2 (nums s).length).length = 73 := by simp [sCells, V8.l, hA2.len]
  have H6 : Hid ((Tryd.prog.info? 63).map (·.size) = some (sCells (shaN ks H0 (nums s) ((nums s).length / 64)).l wt2 (nums s).length).length) := by show _ = _; rw [hcl]; exact HI.out
  have HA2 : Hid (ShaAt w2 w1.heap.size ks H0 (nums s) wt2) := hA2
  have HT2 : Hid (Tab w2 ks) := hT2
  have HB : Hid (Below w.heap.size w w2) := hb1.trans (hb3.mono hs1)
  have hnl := nums_length s
  clear hZ hown1 hown2 hA hbA hT1 hb2 hA2 hb3 hT2 hcl hz
  generalize hD : sCells (shaN ks H0 (nums s) ((nums s).length / 64)).l wt2 (nums s).length = D at *
  have HD : Hid (sCells (shaN ks H0 (nums s) ((nums s).length / 64)).l wt2 (nums s).length = D) := hD
  have HNL : Hid ((nums s).length = s.size) := hnl
  clear hD hnl
  go_wp2_with (first
    | (refine wpList_load_mid (by rfl) 63 (.tmp 3) (by rfl) w1.heap.size 0 (by rfl) D _ H5.out Tryd.underlying63 rfl H6.out ?_)
    | fail)
  have ht := tell_any w2 ks H0 (nums s) wt2 (by omega) HT2.out HK.out H0_ok (by rw [HNL.out]; exact hs) HA2.out.len HA2.out.range HA2.out.wait
  rw [HD.out] at ht
  refine ht.mono ?_
  clear ht
  rintro e w3 ⟨rfl, hb4⟩
  have HB3 : Hid (Below w.heap.size w w3) := HB.out.trans (hb4.mono (by omega))
  clear hb4
  go_wp2
  go_ret
  exact ⟨rfl, HB3.out⟩

end Go.Proofs.YthhkjnpeopfmjabDoor
