/- Digest of both sides. -/
import Derived.Test.YthhkjnpeopfmjabDoorVkSpec
import Derived.Test.YthhkjnpeopfmjabDoorVkImpl
import Derived.Test.YthhkjnpeopfmjabDoorShaLaw
namespace Go.Proofs.YthhkjnpeopfmjabDoor
open Go.RowKit
set_option linter.unusedVariables false
set_option linter.unusedSimpArgs false

def digT (L : List S_Pair) : ByteArray := if okV L then shaOut (canT L) else ⟨#[]⟩

set_option maxRecDepth 20000 in
set_option maxHeartbeats 4000000 in
theorem specDig_c (L : List S_Pair) (p : Option Addr) (cap : Nat) (w : World) (hn : L.length ≤ 1048576) (hr : RowR w (.slice p L.length cap) L.length 2 (rPair L)) :
    Calls Tryd.prog 5 #[.agg #[.slice p L.length cap]] w fun e w' => e = .returned (.string (digT L)) ∧ Below w.heap.size w w' := by
  have HN : Hid (L.length ≤ 1048576) := hn
  have HR : Hid (RowR w (.slice p L.length cap) L.length 2 (rPair L)) := hr
  obtain ⟨W0, hW0⟩ : ∃ W, W = w.alloc (.cells #[.slice p L.length cap] 29) := ⟨_, rfl⟩
  have HW0 : Hid (w.alloc (.cells #[.slice p L.length cap] 29) = W0) := hW0.symm
  have HZ0 : Hid (W0.heap.size = w.heap.size + 1) := by show _ = _; rw [hW0]; simp
  have HB0 : Hid (Below w.heap.size w W0) := by rw [hW0]; exact (Below.refl _ _).alloc (Nat.le_refl _) _
  have HX : Hid (∀ W', Below W0.heap.size W0 W' → W'.cell? ⟨w.heap.size, 0, none⟩ = some (.slice p L.length cap)) := fun W' hW => by
    have hk : W'.heap[w.heap.size]? = some (.cells #[.slice p L.length cap] 29) := by rw [hW.block _ (by rw [HZ0.out]; exact Nat.lt_succ_self _), hW0]; exact alloc_last _ _
    exact box1 hk
  have d := HX.out W0 (Below.refl _ _)
  have HR0 : Hid (RowR W0 (.slice p L.length cap) L.length 2 (rPair L)) := RowR.keep HR.out HB0.out (Nat.le_refl _)
  clear hn hr hW0
  go_enter Tryd.func5, Tryd.ntmps5
  go_wp2_with fail
  rw [HW0.out]
  refine (specVok_c L p cap W0 HN.out HR0.out).mono ?_
  rintro e w1 ⟨rfl, b1⟩
  have HC1 : Hid (Below W0.heap.size W0 w1) := b1
  have HB1 : Hid (Below w.heap.size w w1) := HB0.out.trans (b1.mono (by rw [HZ0.out]; omega))
  clear b1 d
  by_cases hok : okV L
  rotate_left
  · have HF : Hid (digT L = ⟨#[]⟩) := if_neg hok
    rw [decide_eq_false hok]
    go_wp2
    go_ret
    exact ⟨by rw [HF.out]; rfl, HB1.out⟩
  rw [decide_eq_true hok]
  have HF : Hid (digT L = shaOut (canT L)) := if_pos hok
  clear hok
  have d := HX.out w1 HC1.out
  go_wp2_with fail
  refine (specCanon_c L p cap w1 HN.out (RowR.keep HR.out HB1.out (Nat.le_refl _))).mono ?_
  rintro e w2 ⟨rfl, b2⟩
  have HB2 : Hid (Below w.heap.size w w2) := HB1.out.trans (b2.mono HB1.out.size)
  have HSZ : Hid ((canT L).size ≤ 250) := canT_size L
  clear b2 d
  generalize canT L = B at HF HSZ ⊢
  go_wp2_with fail
  refine (specSha2 B w2 (by have := HSZ.out; omega)).mono ?_
  rintro e w3 ⟨rfl, b3⟩
  have HB3 : Hid (Below w.heap.size w w3) := HB2.out.trans (b3.mono HB2.out.size)
  clear b3
  generalize shaOut B = C at HF ⊢
  go_wp2
  go_ret
  exact ⟨by rw [HF.out]; rfl, HB3.out⟩

set_option maxRecDepth 20000 in
set_option maxHeartbeats 4000000 in
theorem implDig_c (L : List S_Pair) (p : Option Addr) (cap : Nat) (w : World) (hG : 0 < w.heap.size) (hT : Tab w kL) (hn : L.length ≤ 1048576) (hr : RowR w (.slice p L.length cap) L.length 2 (rPair L)) :
    Calls Tryd.prog 7 #[.agg #[.slice p L.length cap]] w fun e w' => e = .returned (.string (digT L)) ∧ Below w.heap.size w w' := by
  have HG : Hid (0 < w.heap.size) := hG
  have HT : Hid (Tab w kL) := hT
  clear hG hT
  have HN : Hid (L.length ≤ 1048576) := hn
  have HR : Hid (RowR w (.slice p L.length cap) L.length 2 (rPair L)) := hr
  obtain ⟨W0, hW0⟩ : ∃ W, W = w.alloc (.cells #[.slice p L.length cap] 29) := ⟨_, rfl⟩
  have HW0 : Hid (w.alloc (.cells #[.slice p L.length cap] 29) = W0) := hW0.symm
  have HZ0 : Hid (W0.heap.size = w.heap.size + 1) := by show _ = _; rw [hW0]; simp
  have HB0 : Hid (Below w.heap.size w W0) := by rw [hW0]; exact (Below.refl _ _).alloc (Nat.le_refl _) _
  have HX : Hid (∀ W', Below W0.heap.size W0 W' → W'.cell? ⟨w.heap.size, 0, none⟩ = some (.slice p L.length cap)) := fun W' hW => by
    have hk : W'.heap[w.heap.size]? = some (.cells #[.slice p L.length cap] 29) := by rw [hW.block _ (by rw [HZ0.out]; exact Nat.lt_succ_self _), hW0]; exact alloc_last _ _
    exact box1 hk
  have d := HX.out W0 (Below.refl _ _)
  have HR0 : Hid (RowR W0 (.slice p L.length cap) L.length 2 (rPair L)) := RowR.keep HR.out HB0.out (Nat.le_refl _)
  clear hn hr hW0
  go_enter Tryd.func7, Tryd.ntmps7
  go_wp2_with fail
  rw [HW0.out]
  refine (implCanon_c L p cap W0 HN.out HR0.out).mono ?_
  rintro e w1 ⟨rfl, b1⟩
  have HB1 : Hid (Below w.heap.size w w1) := HB0.out.trans (b1.mono (by rw [HZ0.out]; omega))
  have HSZ : Hid ((canT L).size ≤ 250) := canT_size L
  clear b1 d
  by_cases hok : okV L
  rotate_left
  · have HF : Hid (digT L = ⟨#[]⟩) := if_neg hok
    have HC : Hid (canT L = ⟨#[]⟩) := if_neg hok
    rw [HC.out]
    clear hok
    go_wp2
    go_ret
    exact ⟨by rw [HF.out]; rfl, HB1.out⟩
  have HF : Hid (digT L = shaOut (canT L)) := if_pos hok
  have hne : (canT L).toList.isEmpty = false := txe_no (canT_pos hok)
  clear hok
  generalize canT L = B at HF HSZ hne ⊢
  go_wp2_with fail
  refine (implSha2 B w1 (by have := HSZ.out; omega) (Nat.lt_of_lt_of_le HG.out HB1.out.size) (HT.out.below HB1.out HG.out)).mono ?_
  rintro e w3 ⟨rfl, b3⟩
  have HB3 : Hid (Below w.heap.size w w3) := HB1.out.trans (b3.mono HB1.out.size)
  clear b3
  generalize shaOut B = C at HF ⊢
  go_wp2
  go_ret
  exact ⟨by rw [HF.out]; rfl, HB3.out⟩

end Go.Proofs.YthhkjnpeopfmjabDoor
