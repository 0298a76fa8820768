/- MergeOnce and Stable of the specification. -/
import Derived.Test.YtgfbmcibmlpafaaM8Spec
import Derived.Test.YtgfbmcibmlpafaaM8Place
namespace Go.Proofs.Ytgfbmcibmlpafaa
open Go.RowKit
set_option linter.unusedVariables false
set_option linter.unusedSimpArgs false

set_option maxRecDepth 20000 in
set_option maxHeartbeats 4000000 in
theorem specMo_c (L : List S_Pair) (p : Option Addr) (cap : Nat) (ts : List Int) (q : Option Addr) (cq : Nat) (w : World) (hn : L.length ≤ 1048576) (hm : ts.length ≤ 1048576) (hr : RowR w (.slice p L.length cap) L.length 2 (rPair L)) (hcap : ts.length ≤ cq) (ht : IR w (.slice q ts.length cq) ts) :
    Calls Try.prog 9 #[.agg #[.slice p L.length cap], .slice q ts.length cq] w fun e w' => ∃ v, e = .returned (.tuple #[v, .bool (moO L ts)]) ∧ IO w' w.heap.size v (moB L ts) ∧ Below w.heap.size w w' := by
  have hn' : (L.length : Int) ≤ 1048576 := by omega
  have hm' : (ts.length : Int) ≤ 1048576 := by omega
  have HN : Hid (L.length ≤ 1048576) := hn
  have HM : Hid (ts.length ≤ 1048576) := hm
  have HR : Hid (RowR w (.slice p L.length cap) L.length 2 (rPair L)) := hr
  have HT : Hid (IR w (.slice q ts.length cq) ts) := ht
  obtain ⟨W0, hW0⟩ : ∃ W, W = w.alloc (.cells #[.slice p L.length cap] 31) := ⟨_, rfl⟩
  have HW0 : Hid (w.alloc (.cells #[.slice p L.length cap] 31) = W0) := hW0.symm
  have HZ0 : Hid (W0.heap.size = w.heap.size + 1) := by show _ = _; rw [hW0]; simp
  have HB0 : Hid (Below w.heap.size w W0) := by rw [hW0]; exact (Below.refl _ _).alloc (Nat.le_refl _) _
  have HX : Hid (∀ W', Below W0.heap.size W0 W' → W'.cell? ⟨w.heap.size, 0, none⟩ = some (.slice p L.length cap)) := fun W' hW => by
    have hk : W'.heap[w.heap.size]? = some (.cells #[.slice p L.length cap] 31) := by rw [hW.block _ (by rw [HZ0.out]; exact Nat.lt_succ_self _), hW0]; exact alloc_last _ _
    exact box1 hk
  have d := HX.out W0 (Below.refl _ _)
  have HR0 : Hid (RowR W0 (.slice p L.length cap) L.length 2 (rPair L)) := RowR.keep HR.out HB0.out (Nat.le_refl _)
  have HT0 : Hid (IR W0 (.slice q ts.length cq) ts) := IR.keep HT.out HB0.out (Nat.le_refl _)
  have HDN : Hid (∀ W', Below W0.heap.size W0 W' → Below w.heap.size w W') := fun W' hbel => HB0.out.trans (hbel.mono (by rw [HZ0.out]; exact Nat.le_succ _))
  clear hr ht hW0 hn hm
  go_enter Try.func9, Try.ntmps9
  go_wp2_with fail
  rw [HW0.out]
  have HCAP : Hid (ts.length ≤ cq) := hcap
  have HWS : Hid (w.heap.size ≤ W0.heap.size) := by show _ ≤ _; rw [HZ0.out]; exact Nat.le_succ _
  clear hcap
  refine (l8Ok_c L p cap ts q cq W0 HN.out HM.out HR0.out HT0.out).mono ?_
  rintro e w1 ⟨rfl, b1⟩
  have HC1 : Hid (Below W0.heap.size W0 w1) := b1
  have HS1 : Hid (w.heap.size ≤ w1.heap.size) := (HDN.out _ b1).size
  clear b1 d
  by_cases hok : okT L ts
  rotate_left
  · have HF : Hid (¬ okT L ts) := hok
    rw [decide_eq_false hok]
    have HE : Hid ((w1.alloc (.cells #[] 3)).ownsRow w.heap.size 3 1 (.slice (some ⟨w1.heap.size, 0, none⟩) 0 0) 0 []) := World.ownsRow_made (base := w.heap.size) (e := 3) (size := 1) w1 #[] 0 HS1.out (by decide) rfl
    have HBE : Hid (Below w.heap.size w (w1.alloc (.cells #[] 3))) := (HDN.out _ HC1.out).alloc HS1.out _
    go_wp2
    go_ret2
    refine ⟨_, by unfold moO; rw [decide_eq_false HF.out]; rfl, ?_, HBE.out⟩
    unfold moB
    rw [if_neg HF.out]
    exact HE.out
  rw [decide_eq_true hok]
  have HOK : Hid (okT L ts) := hok
  have HLE : Hid (ts.length ≤ 1000) := hok.2.1
  clear hok
  have d := HX.out w1 HC1.out
  go_wp2_with fail
  refine (l8Place_c L p cap ts q cq w1 HN.out HM.out (RowR.keep HR0.out HC1.out (Nat.le_refl _)) (IR.keep HT0.out HC1.out (Nat.le_refl _))).mono ?_
  rintro e w2 ⟨rfl, b2⟩
  have HC2 : Hid (Below W0.heap.size W0 w2) := HC1.out.trans (b2.mono HC1.out.size)
  have HT2 : Hid (IR w2 (.slice q ts.length cq) ts) := IR.keep HT0.out HC2.out (Nat.le_refl _)
  have HS2 : Hid (w.heap.size ≤ w2.heap.size) := (HDN.out _ HC2.out).size
  clear b2 d
  rcases hp : placeF L ts with _ | ⟨i, r⟩
  · have HP : Hid (placeF L ts = none) := hp
    rw [show pl1 none = -1 from rfl, show pl2 none = -1 from rfl]
    obtain ⟨W3, hW3⟩ : ∃ W, W = w2.alloc (.cells #[] 3) := ⟨_, rfl⟩
    have HO3 : W3.ownsRow w.heap.size 3 1 (.slice (some ⟨w2.heap.size, 0, none⟩) 0 0) 0 (rI []) := by rw [hW3]; exact World.ownsRow_made (base := w.heap.size) (e := 3) (size := 1) w2 #[] 0 HS2.out (by decide) rfl
    have HB3 : Hid (Below w.heap.size w W3) := by rw [hW3]; exact (HDN.out _ HC2.out).alloc HS2.out _
    obtain ⟨v4, c4, W4, hrun4, hown4, hb4⟩ := app_ints (xs := []) (n := 0) rfl (show ts.length = ts.length from rfl) HO3 (RowR.keep HT2.out (by rw [hW3]; exact (Below.refl _ _).alloc (Nat.le_refl _) _) (Nat.le_refl _)) HB3.out.size (by have := HLE.out; omega)
    rw [Nat.zero_add, List.nil_append] at hown4
    rw [Nat.zero_add] at hrun4
    have HF : Hid (IO W4 w.heap.size (.slice v4 ts.length c4) (moB L ts)) := by
      unfold moB moF
      rw [if_pos HOK.out, HP.out]
      exact hown4
    have HB4 : Hid (Below w.heap.size w W4) := HB3.out.trans hb4
    have HMO : Hid (moO L ts = false) := by show _ = _; unfold moO; rw [HP.out, decide_eq_true HOK.out]; rfl
    rw [hW3] at hrun4
    clear hown4 hb4 HO3 hp hW3
    go_wp2_with (at_builtin; refine wpList_append_run8 rfl _ _ 25 rfl _ _ rfl rfl _ _ hrun4 ?_)
    go_ret2
    exact ⟨_, by rw [HMO.out]; rfl, HF.out, HB4.out⟩
  · have HP : Hid (placeF L ts = some (i, r)) := hp
    have hm := matB_lt (place_is hp)
    have HML : Hid (r < L.length ∧ i + 1 < ts.length) := hm
    rw [show pl1 (some (i, r)) = (i : Int) from rfl, show pl2 (some (i, r)) = (r : Int) from rfl]
    have hi0 : ¬ (i : Int) < 0 := by omega
    clear hp hm
    go_wp2_with fail
    refine (l8Merged_c ts q cq i r w2 HLE.out HCAP.out HT2.out HML.out.2 (by have := HML.out.1; have := HN.out; omega)).mono ?_
    rintro e w3 ⟨v, rfl, ho, b3⟩
    have HF : Hid (IO w3 w.heap.size v (moB L ts)) := by
      unfold moB moF
      rw [if_pos HOK.out, HP.out]
      exact own_low ho HS2.out
    have HB3 : Hid (Below w.heap.size w w3) := (HDN.out _ HC2.out).trans (b3.mono HS2.out)
    have HMO : Hid (moO L ts = true) := by show _ = _; unfold moO; rw [HP.out, decide_eq_true HOK.out]; rfl
    clear ho b3
    go_wp2
    go_ret2
    exact ⟨v, by rw [HMO.out]; rfl, HF.out, HB3.out⟩

set_option maxRecDepth 20000 in
set_option maxHeartbeats 4000000 in
theorem specSt_c (L : List S_Pair) (p : Option Addr) (cap : Nat) (ts : List Int) (q : Option Addr) (cq : Nat) (w : World) (hn : L.length ≤ 1048576) (hm : ts.length ≤ 1048576) (hr : RowR w (.slice p L.length cap) L.length 2 (rPair L)) (ht : IR w (.slice q ts.length cq) ts) :
    Calls Try.prog 18 #[.agg #[.slice p L.length cap], .slice q ts.length cq] w fun e w' => e = .returned (.bool (stB L ts)) ∧ Below w.heap.size w w' := by
  have hn' : (L.length : Int) ≤ 1048576 := by omega
  have hm' : (ts.length : Int) ≤ 1048576 := by omega
  have HN : Hid (L.length ≤ 1048576) := hn
  have HM : Hid (ts.length ≤ 1048576) := hm
  have HR : Hid (RowR w (.slice p L.length cap) L.length 2 (rPair L)) := hr
  have HT : Hid (IR w (.slice q ts.length cq) ts) := ht
  obtain ⟨W0, hW0⟩ : ∃ W, W = w.alloc (.cells #[.slice p L.length cap] 31) := ⟨_, rfl⟩
  have HW0 : Hid (w.alloc (.cells #[.slice p L.length cap] 31) = W0) := hW0.symm
  have HZ0 : Hid (W0.heap.size = w.heap.size + 1) := by show _ = _; rw [hW0]; simp
  have HB0 : Hid (Below w.heap.size w W0) := by rw [hW0]; exact (Below.refl _ _).alloc (Nat.le_refl _) _
  have HX : Hid (∀ W', Below W0.heap.size W0 W' → W'.cell? ⟨w.heap.size, 0, none⟩ = some (.slice p L.length cap)) := fun W' hW => by
    have hk : W'.heap[w.heap.size]? = some (.cells #[.slice p L.length cap] 31) := by rw [hW.block _ (by rw [HZ0.out]; exact Nat.lt_succ_self _), hW0]; exact alloc_last _ _
    exact box1 hk
  have d := HX.out W0 (Below.refl _ _)
  have HR0 : Hid (RowR W0 (.slice p L.length cap) L.length 2 (rPair L)) := RowR.keep HR.out HB0.out (Nat.le_refl _)
  have HT0 : Hid (IR W0 (.slice q ts.length cq) ts) := IR.keep HT.out HB0.out (Nat.le_refl _)
  have HDN : Hid (∀ W', Below W0.heap.size W0 W' → Below w.heap.size w W') := fun W' hbel => HB0.out.trans (hbel.mono (by rw [HZ0.out]; exact Nat.le_succ _))
  clear hr ht hW0 hn hm
  go_enter Try.func18, Try.ntmps18
  go_wp2_with fail
  rw [HW0.out]
  refine (l8Place_c L p cap ts q cq W0 HN.out HM.out HR0.out HT0.out).mono ?_
  rintro e w1 ⟨rfl, b1⟩
  have HC1 : Hid (Below W0.heap.size W0 w1) := b1
  clear b1 d
  have d := HX.out w1 HC1.out
  go_wp2_with fail
  refine (l8Ok_c L p cap ts q cq w1 HN.out HM.out (RowR.keep HR0.out HC1.out (Nat.le_refl _)) (IR.keep HT0.out HC1.out (Nat.le_refl _))).mono ?_
  rintro e w2 ⟨rfl, b2⟩
  have HC2 : Hid (Below W0.heap.size W0 w2) := HC1.out.trans (b2.mono HC1.out.size)
  clear b2 d
  by_cases hok : okT L ts
  rotate_left
  · have HF : Hid (stB L ts = false) := by show _ = _; unfold stB; rw [decide_eq_false hok]; rfl
    rw [decide_eq_false hok]
    clear hok
    go_wp2
    go_ret
    exact ⟨by rw [HF.out]; rfl, HDN.out _ HC2.out⟩
  rw [decide_eq_true hok]
  rcases hp : placeF L ts with _ | ⟨i, r⟩
  · have HF : Hid (stB L ts = true) := by show _ = _; unfold stB; rw [decide_eq_true hok, hp]; rfl
    rw [show pl1 none = -1 from rfl, show pl2 none = -1 from rfl]
    clear hok hp
    go_wp2
    go_ret
    exact ⟨by rw [HF.out]; rfl, HDN.out _ HC2.out⟩
  · have HF : Hid (stB L ts = false) := by show _ = _; unfold stB; rw [decide_eq_true hok, hp]; rfl
    rw [show pl1 (some (i, r)) = (i : Int) from rfl, show pl2 (some (i, r)) = (r : Int) from rfl]
    have hi0 : ¬ (i : Int) < 0 := by omega
    clear hok hp
    go_wp2
    go_ret
    exact ⟨by rw [HF.out]; rfl, HDN.out _ HC2.out⟩

end Go.Proofs.Ytgfbmcibmlpafaa
