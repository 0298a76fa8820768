/- MergeOnce and Stable of the program. -/
import Derived.Test.YtdhbhifgmbppjaaM8Row
import Derived.Test.YtdhbhifgmbppjaaT8Impl
namespace Go.Proofs.Ytdhbhifgmbppjaa
open Go.RowKit
set_option linter.unusedVariables false
set_option linter.unusedSimpArgs false

set_option maxRecDepth 20000 in
set_option maxHeartbeats 4000000 in
theorem implMo_c (L : List S_Pair) (p : Option Addr) (cap : Nat) (ts : List Int) (q : Option Addr) (cq : Nat) (w : World) (hn : L.length ≤ 1048576) (hm : ts.length ≤ 1048576) (hr : RowR w (.slice p L.length cap) L.length 2 (rPair L)) (ht : IR w (.slice q ts.length cq) ts) :
    Calls Try.prog 8 #[.agg #[.slice p L.length cap], .slice q ts.length cq] w fun e w' => ∃ v, e = .returned (.tuple #[v, .bool (moO L ts)]) ∧ IO w' w.heap.size v (moB L ts) ∧ Below w.heap.size w w' := by
  have hn' : (L.length : Int) ≤ 1048576 := by omega
  have hm' : (ts.length : Int) ≤ 1048576 := by omega
  have HN : Hid (L.length ≤ 1048576) := hn
  have HM : Hid (ts.length ≤ 1048576) := hm
  have HR : Hid (RowR w (.slice p L.length cap) L.length 2 (rPair L)) := hr
  have HT : Hid (IR w (.slice q ts.length cq) ts) := ht
  obtain ⟨W0, hW0⟩ : ∃ W, W = w.alloc (.cells #[.slice p L.length cap] 26) := ⟨_, rfl⟩
  have HW0 : Hid (w.alloc (.cells #[.slice p L.length cap] 26) = W0) := hW0.symm
  have HZ0 : Hid (W0.heap.size = w.heap.size + 1) := by show _ = _; rw [hW0]; simp
  have HB0 : Hid (Below w.heap.size w W0) := by rw [hW0]; exact (Below.refl _ _).alloc (Nat.le_refl _) _
  have HX : Hid (∀ W', Below W0.heap.size W0 W' → W'.cell? ⟨w.heap.size, 0, none⟩ = some (.slice p L.length cap)) := fun W' hW => by
    have hk : W'.heap[w.heap.size]? = some (.cells #[.slice p L.length cap] 26) := by rw [hW.block _ (by rw [HZ0.out]; exact Nat.lt_succ_self _), hW0]; exact alloc_last _ _
    exact box1 hk
  have d := HX.out W0 (Below.refl _ _)
  have HR0 : Hid (RowR W0 (.slice p L.length cap) L.length 2 (rPair L)) := RowR.keep HR.out HB0.out (Nat.le_refl _)
  have HT0 : Hid (IR W0 (.slice q ts.length cq) ts) := IR.keep HT.out HB0.out (Nat.le_refl _)
  have HDN : Hid (∀ W', Below W0.heap.size W0 W' → Below w.heap.size w W') := fun W' hbel => HB0.out.trans (hbel.mono (by rw [HZ0.out]; exact Nat.le_succ _))
  clear hr ht hW0 hn hm
  go_enter Try.func8, Try.ntmps8
  go_wp2_with fail
  rw [HW0.out]
  refine (toksOk_c L p cap ts q cq W0 HN.out HM.out HR0.out HT0.out).mono ?_
  rintro e w1 ⟨rfl, b1⟩
  have HC1 : Hid (Below W0.heap.size W0 w1) := b1
  clear b1 d
  by_cases hok : okT L ts
  rotate_left
  · have HF : Hid (¬ okT L ts) := hok
    rw [decide_eq_false hok]
    go_wp2
    go_ret2
    refine ⟨.slice none 0 0, by unfold moO; rw [decide_eq_false HF.out]; rfl, ?_, HDN.out _ HC1.out⟩
    unfold moB
    rw [if_neg HF.out]
    exact World.ownsRow_nil _ _ _ _
  rw [decide_eq_true hok]
  have HOK : Hid (okT L ts) := hok
  have HLE : Hid (ts.length ≤ 1000) := hok.2.1
  clear hok
  have d := HX.out w1 HC1.out
  go_wp2_with fail
  refine (rowOf_c L p cap ts q cq w1 HN.out HLE.out (RowR.keep HR0.out HC1.out (Nat.le_refl _)) (IR.keep HT0.out HC1.out (Nat.le_refl _))).mono ?_
  rintro e w2 ⟨R, l, X, pp, n, c, rfl, hmap, S, hn, b2⟩
  have HC2 : Hid (Below W0.heap.size W0 w2) := HC1.out.trans (b2.mono HC1.out.size)
  have HS2 : Hid (RowS w2 R w1.heap.size p cap L l X pp n c (fun _ => True)) := S
  have HMAP : Hid (l.map Sy.tok = ts) := hmap
  have HLL : Hid (l.length ≤ 1000 ∧ n ≤ 1000) := by have h1 := congrArg List.length hmap; rw [List.length_map] at h1; have h2 := HLE.out; exact ⟨by omega, by omega⟩
  have HSZ : Hid (w1.heap.size ≤ w2.heap.size) := b2.size
  have HWS : Hid (w.heap.size ≤ w1.heap.size) := (HDN.out _ HC1.out).size
  clear S hmap hn b2 d
  go_wp2_with fail
  refine (mergeNext_c (C := fun _ => True) HS2.out HN.out (by have := HLL.out; omega) HSZ.out).mono ?_
  rintro e w3 ⟨b3, ⟨rfl, hnp, X', p', c', S⟩ | ⟨i, y, z, r, l', X', p', n', c', rfl, hy, hz, hf, hb, hm, hll, S, _⟩⟩
  · have HB3 : Hid (Below w.heap.size w w3) := (HDN.out _ HC2.out).trans (b3.mono HWS.out)
    have HS3 : Hid (RowS w3 R w1.heap.size p cap L l X' p' 0 c' (fun _ => True)) := S
    have HNP : Hid (NoPair L l) := hnp
    have HS3w : Hid (w.heap.size ≤ w3.heap.size) := HB3.out.size
    clear b3 hnp S
    go_wp2_with fail
    refine (tell_c HS3.out HLL.out.1).mono ?_
    rintro e w4 ⟨v, rfl, ho, b4⟩
    have HO : Hid (IO w4 w3.heap.size v (l.map Sy.tok)) := ho
    have HB4 : Hid (Below w.heap.size w w4) := HB3.out.trans (b4.mono HS3w.out)
    have HE : Hid (moO L ts = false ∧ moB L ts = l.map Sy.tok) := by
      have h := none_moF HNP.out
      rw [HMAP.out] at h ⊢
      unfold moO moB
      rw [decide_eq_true HOK.out, h.1, if_pos HOK.out, h.2]
      exact ⟨rfl, rfl⟩
    clear ho b4
    go_wp2
    go_ret2
    refine ⟨v, by rw [HE.out.1]; rfl, ?_, HB4.out⟩
    rw [HE.out.2]
    exact own_low HO.out HS3w.out
  · have HB3 : Hid (Below w.heap.size w w3) := (HDN.out _ HC2.out).trans (b3.mono HWS.out)
    have HS3 : Hid (RowS w3 R w1.heap.size p cap L l' X' p' n' c' (fun _ => True)) := S
    have HNX : Hid ((placeF L (l.map Sy.tok)).isSome = true ∧ l'.map Sy.tok = moF L (l.map Sy.tok)) := next_moF hy hz hf hb hm
    have HLL' : Hid (l'.length ≤ 1000) := by have := HLL.out; show _ ≤ _; omega
    have HS3w : Hid (w.heap.size ≤ w3.heap.size) := HB3.out.size
    clear b3 hy hz hf hb hm hll S
    go_wp2_with fail
    refine (tell_c HS3.out HLL'.out).mono ?_
    rintro e w4 ⟨v, rfl, ho, b4⟩
    have HO : Hid (IO w4 w3.heap.size v (l'.map Sy.tok)) := ho
    have HB4 : Hid (Below w.heap.size w w4) := HB3.out.trans (b4.mono HS3w.out)
    have HE : Hid (moO L ts = true ∧ moB L ts = l'.map Sy.tok) := by
      have h := HNX.out
      rw [HMAP.out] at h
      unfold moO moB
      rw [decide_eq_true HOK.out, h.1, if_pos HOK.out, h.2]
      exact ⟨rfl, rfl⟩
    clear ho b4
    go_wp2
    go_ret2
    refine ⟨v, by rw [HE.out.1]; rfl, ?_, HB4.out⟩
    rw [HE.out.2]
    exact own_low HO.out HS3w.out

set_option maxRecDepth 20000 in
set_option maxHeartbeats 4000000 in
theorem implSt_c (L : List S_Pair) (p : Option Addr) (cap : Nat) (ts : List Int) (q : Option Addr) (cq : Nat) (w : World) (hn : L.length ≤ 1048576) (hm : ts.length ≤ 1048576) (hr : RowR w (.slice p L.length cap) L.length 2 (rPair L)) (ht : IR w (.slice q ts.length cq) ts) :
    Calls Try.prog 11 #[.agg #[.slice p L.length cap], .slice q ts.length cq] w fun e w' => e = .returned (.bool (stB L ts)) ∧ Below w.heap.size w w' := by
  have hn' : (L.length : Int) ≤ 1048576 := by omega
  have hm' : (ts.length : Int) ≤ 1048576 := by omega
  have HN : Hid (L.length ≤ 1048576) := hn
  have HM : Hid (ts.length ≤ 1048576) := hm
  have HR : Hid (RowR w (.slice p L.length cap) L.length 2 (rPair L)) := hr
  have HT : Hid (IR w (.slice q ts.length cq) ts) := ht
  obtain ⟨W0, hW0⟩ : ∃ W, W = w.alloc (.cells #[.slice p L.length cap] 26) := ⟨_, rfl⟩
  have HW0 : Hid (w.alloc (.cells #[.slice p L.length cap] 26) = W0) := hW0.symm
  have HZ0 : Hid (W0.heap.size = w.heap.size + 1) := by show _ = _; rw [hW0]; simp
  have HB0 : Hid (Below w.heap.size w W0) := by rw [hW0]; exact (Below.refl _ _).alloc (Nat.le_refl _) _
  have HX : Hid (∀ W', Below W0.heap.size W0 W' → W'.cell? ⟨w.heap.size, 0, none⟩ = some (.slice p L.length cap)) := fun W' hW => by
    have hk : W'.heap[w.heap.size]? = some (.cells #[.slice p L.length cap] 26) := by rw [hW.block _ (by rw [HZ0.out]; exact Nat.lt_succ_self _), hW0]; exact alloc_last _ _
    exact box1 hk
  have d := HX.out W0 (Below.refl _ _)
  have HR0 : Hid (RowR W0 (.slice p L.length cap) L.length 2 (rPair L)) := RowR.keep HR.out HB0.out (Nat.le_refl _)
  have HT0 : Hid (IR W0 (.slice q ts.length cq) ts) := IR.keep HT.out HB0.out (Nat.le_refl _)
  have HDN : Hid (∀ W', Below W0.heap.size W0 W' → Below w.heap.size w W') := fun W' hbel => HB0.out.trans (hbel.mono (by rw [HZ0.out]; exact Nat.le_succ _))
  clear hr ht hW0 hn hm
  go_enter Try.func11, Try.ntmps11
  go_wp2_with fail
  rw [HW0.out]
  refine (toksOk_c L p cap ts q cq W0 HN.out HM.out HR0.out HT0.out).mono ?_
  rintro e w1 ⟨rfl, b1⟩
  have HC1 : Hid (Below W0.heap.size W0 w1) := b1
  clear b1 d
  by_cases hok : okT L ts
  rotate_left
  · have HF : Hid (¬ okT L ts) := hok
    rw [decide_eq_false hok]
    go_wp2
    go_ret
    exact ⟨by unfold stB; rw [decide_eq_false HF.out]; rfl, HDN.out _ HC1.out⟩
  rw [decide_eq_true hok]
  have HOK : Hid (okT L ts) := hok
  have HLE : Hid (ts.length ≤ 1000) := hok.2.1
  clear hok
  have d := HX.out w1 HC1.out
  go_wp2_with fail
  refine (rowOf_c L p cap ts q cq w1 HN.out HLE.out (RowR.keep HR0.out HC1.out (Nat.le_refl _)) (IR.keep HT0.out HC1.out (Nat.le_refl _))).mono ?_
  rintro e w2 ⟨R, l, X, pp, n, c, rfl, hmap, S, hn, b2⟩
  have HC2 : Hid (Below W0.heap.size W0 w2) := HC1.out.trans (b2.mono HC1.out.size)
  have HS2 : Hid (RowS w2 R w1.heap.size p cap L l X pp n c (fun _ => True)) := S
  have HMAP : Hid (l.map Sy.tok = ts) := hmap
  have HLL : Hid (l.length ≤ 1000 ∧ n ≤ 1000) := by have h1 := congrArg List.length hmap; rw [List.length_map] at h1; have h2 := HLE.out; exact ⟨by omega, by omega⟩
  have HSZ : Hid (w1.heap.size ≤ w2.heap.size) := b2.size
  have HWS : Hid (w.heap.size ≤ w1.heap.size) := (HDN.out _ HC1.out).size
  clear S hmap hn b2 d
  go_wp2_with fail
  refine (mergeNext_c (C := fun _ => True) HS2.out HN.out (by have := HLL.out; omega) HSZ.out).mono ?_
  rintro e w3 ⟨b3, ⟨rfl, hnp, X', p', c', S⟩ | ⟨i, y, z, r, l', X', p', n', c', rfl, hy, hz, hf, hb, hm, hll, S, _⟩⟩
  · have HB3 : Hid (Below w.heap.size w w3) := (HDN.out _ HC2.out).trans (b3.mono HWS.out)
    have HE : Hid (stB L ts = true) := by
      have h := none_moF hnp
      rw [HMAP.out] at h
      show _ = _
      unfold stB
      rw [decide_eq_true HOK.out, h.1]
      rfl
    clear b3 hnp S
    go_wp2
    go_ret
    exact ⟨by rw [HE.out]; rfl, HB3.out⟩
  · have HB3 : Hid (Below w.heap.size w w3) := (HDN.out _ HC2.out).trans (b3.mono HWS.out)
    have HE : Hid (stB L ts = false) := by
      have h := (next_moF hy hz hf hb hm).1
      rw [HMAP.out] at h
      obtain ⟨o, ho⟩ := Option.isSome_iff_exists.1 h
      show _ = _
      unfold stB
      rw [decide_eq_true HOK.out, ho]
      rfl
    clear b3 hy hz hf hb hm hll S
    go_wp2
    go_ret
    exact ⟨by rw [HE.out]; rfl, HB3.out⟩

end Go.Proofs.Ytdhbhifgmbppjaa
