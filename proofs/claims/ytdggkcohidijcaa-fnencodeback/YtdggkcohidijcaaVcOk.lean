/- VocabOk of both sides. -/
import Derived.Test.YtdggkcohidijcaaVcImpl
namespace Go.Proofs.Ytdggkcohidijcaa
open Go.RowKit
set_option linter.unusedVariables false
set_option linter.unusedSimpArgs false

theorem retV_t {p : Prop} [Decidable p] (h : p) : Ending.returned (.bool true) = .returned (.bool (decide p)) := by rw [decide_eq_true h]

theorem retV_f {p : Prop} [Decidable p] (h : ¬ p) : Ending.returned (.bool false) = .returned (.bool (decide p)) := by rw [decide_eq_false h]

set_option maxRecDepth 20000 in
set_option maxHeartbeats 4000000 in
theorem specVok_c (L : List S_Pair) (p : Option Addr) (cap : Nat) (w : World) (hn : L.length ≤ 1048576) (hr : RowR w (.slice p L.length cap) L.length 2 (rPair L)) :
    Calls Try.prog 11 #[.agg #[.slice p L.length cap]] w fun e w' => e = .returned (.bool (decide (okV L))) ∧ Below w.heap.size w w' := by
  have HN : Hid (L.length ≤ 1048576) := hn
  have HR : Hid (RowR w (.slice p L.length cap) L.length 2 (rPair L)) := hr
  obtain ⟨W0, hW0⟩ : ∃ W, W = w.alloc (.cells #[.slice p L.length cap] 26) := ⟨_, rfl⟩
  have HW0 : Hid (w.alloc (.cells #[.slice p L.length cap] 26) = W0) := hW0.symm
  have HZ0 : Hid (W0.heap.size = w.heap.size + 1) := by show _ = _; rw [hW0]; simp
  have HB0 : Hid (Below w.heap.size w W0) := by rw [hW0]; exact (Below.refl _ _).alloc (Nat.le_refl _) _
  have HX : Hid (∀ W', Below W0.heap.size W0 W' → W'.cell? ⟨w.heap.size, 0, none⟩ = some (.slice p L.length cap)) := fun W' hW => by
    have hk : W'.heap[w.heap.size]? = some (.cells #[.slice p L.length cap] 26) := by rw [hW.block _ (by rw [HZ0.out]; exact Nat.lt_succ_self _), hW0]; exact alloc_last _ _
    exact box1 hk
  have d := HX.out W0 (Below.refl _ _)
  have HR0 : Hid (RowR W0 (.slice p L.length cap) L.length 2 (rPair L)) := RowR.keep HR.out HB0.out (Nat.le_refl _)
  clear hn hr hW0
  go_enter Try.func11, Try.ntmps11
  go_wp2_with fail
  rw [HW0.out]
  refine (specTab_c L p cap W0 HN.out HR0.out).mono ?_
  rintro e w1 ⟨b1, ⟨t, v, ht, rfl, ho⟩ | ⟨v, ht, rfl⟩⟩
  · have HB1 : Hid (Below w.heap.size w w1) := HB0.out.trans (b1.mono (by rw [HZ0.out]; omega))
    have HT : Hid (okV L) := okV_yes ht
    clear b1 ho ht d
    go_wp2
    go_ret
    exact ⟨retV_t HT.out, HB1.out⟩
  · have HB1 : Hid (Below w.heap.size w w1) := HB0.out.trans (b1.mono (by rw [HZ0.out]; omega))
    have HT : Hid (¬ okV L) := okV_no ht
    clear b1 ht d
    go_wp2
    go_ret
    exact ⟨retV_f HT.out, HB1.out⟩

set_option maxRecDepth 20000 in
set_option maxHeartbeats 4000000 in
theorem implVok_c (L : List S_Pair) (p : Option Addr) (cap : Nat) (w : World) (hn : L.length ≤ 1048576) (hr : RowR w (.slice p L.length cap) L.length 2 (rPair L)) :
    Calls Try.prog 37 #[.agg #[.slice p L.length cap]] w fun e w' => e = .returned (.bool (decide (okV L))) ∧ Below w.heap.size w w' := by
  have HN : Hid (L.length ≤ 1048576) := hn
  have HR : Hid (RowR w (.slice p L.length cap) L.length 2 (rPair L)) := hr
  obtain ⟨W0, hW0⟩ : ∃ W, W = w.alloc (.cells #[.slice p L.length cap] 26) := ⟨_, rfl⟩
  have HW0 : Hid (w.alloc (.cells #[.slice p L.length cap] 26) = W0) := hW0.symm
  have HZ0 : Hid (W0.heap.size = w.heap.size + 1) := by show _ = _; rw [hW0]; simp
  have HB0 : Hid (Below w.heap.size w W0) := by rw [hW0]; exact (Below.refl _ _).alloc (Nat.le_refl _) _
  have HX : Hid (∀ W', Below W0.heap.size W0 W' → W'.cell? ⟨w.heap.size, 0, none⟩ = some (.slice p L.length cap)) := fun W' hW => by
    have hk : W'.heap[w.heap.size]? = some (.cells #[.slice p L.length cap] 26) := by rw [hW.block _ (by rw [HZ0.out]; exact Nat.lt_succ_self _), hW0]; exact alloc_last _ _
    exact box1 hk
  have d := HX.out W0 (Below.refl _ _)
  have HR0 : Hid (RowR W0 (.slice p L.length cap) L.length 2 (rPair L)) := RowR.keep HR.out HB0.out (Nat.le_refl _)
  clear hn hr hW0
  go_enter Try.func37, Try.ntmps37
  go_wp2_with fail
  rw [HW0.out]
  refine (implTab_c L p cap W0 HN.out HR0.out).mono ?_
  rintro e w1 ⟨b1, ⟨t, v, ht, rfl, ho⟩ | ⟨v, ht, rfl⟩⟩
  · have HB1 : Hid (Below w.heap.size w w1) := HB0.out.trans (b1.mono (by rw [HZ0.out]; omega))
    have HT : Hid (okV L) := okV_yes ht
    clear b1 ho ht d
    go_wp2
    go_ret
    exact ⟨retV_t HT.out, HB1.out⟩
  · have HB1 : Hid (Below w.heap.size w w1) := HB0.out.trans (b1.mono (by rw [HZ0.out]; omega))
    have HT : Hid (¬ okV L) := okV_no ht
    clear b1 ht d
    go_wp2
    go_ret
    exact ⟨retV_f HT.out, HB1.out⟩

end Go.Proofs.Ytdggkcohidijcaa
