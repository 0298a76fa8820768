/- The program's Decode. -/
import Derived.Test.YtdggkcohidijcaaT8Impl
import Derived.Test.YtdggkcohidijcaaJoLay
namespace Go.Proofs.Ytdggkcohidijcaa
open Go.RowKit
set_option linter.unusedVariables false
set_option linter.unusedSimpArgs false

set_option maxRecDepth 20000 in
set_option maxHeartbeats 4000000 in
theorem implDe_c (L : List S_Pair) (p : Option Addr) (cap : Nat) (ts : List Int) (q : Option Addr) (cq : Nat) (w : World) (hn : L.length ≤ 1048576) (hm : ts.length ≤ 1048576) (hr : RowR w (.slice p L.length cap) L.length 2 (rPair L)) (ht : IR w (.slice q ts.length cq) ts) :
    Calls Try.prog 12 #[.agg #[.slice p L.length cap], .slice q ts.length cq] w fun e w' => e = .returned (.tuple #[.string (deB L ts), .bool (decide (okT L ts))]) ∧ Below w.heap.size w w' := by
  have hn' : (L.length : Int) ≤ 1048576 := by omega
  have hm' : (ts.length : Int) ≤ 1048576 := by omega
  have HN : Hid (L.length ≤ 1048576) := hn
  have HM : Hid (ts.length ≤ 1048576) := hm
  have HR : Hid (RowR w (.slice p L.length cap) L.length 2 (rPair L)) := hr
  have HT : Hid (IR w (.slice q ts.length cq) ts) := ht
  obtain ⟨W0, hW0⟩ : ∃ W, W = w.alloc (.cells #[.slice p L.length cap] 26) := ⟨_, rfl⟩
  have HW0 : Hid (w.alloc (.cells #[.slice p L.length cap] 26) = W0) := hW0.symm
  have HZ0 : Hid (W0.heap.size = w.heap.size + 1) := by show _ = _; rw [hW0]; simp
  have HB0 : Hid (Below w.heap.size w W0) := by rw [hW0]; exact (Below.refl _ _).alloc (Nat.le_refl _) _
  have HX : Hid (∀ W', Below W0.heap.size W0 W' → W'.cell? ⟨w.heap.size, 0, none⟩ = some (.slice p L.length cap)) := fun W' hW => by
    have hk : W'.heap[w.heap.size]? = some (.cells #[.slice p L.length cap] 26) := by rw [hW.block _ (by rw [HZ0.out]; exact Nat.lt_succ_self _), hW0]; exact alloc_last _ _
    exact box1 hk
  have d := HX.out W0 (Below.refl _ _)
  have HR0 : Hid (RowR W0 (.slice p L.length cap) L.length 2 (rPair L)) := RowR.keep HR.out HB0.out (Nat.le_refl _)
  have HT0 : Hid (IR W0 (.slice q ts.length cq) ts) := IR.keep HT.out HB0.out (Nat.le_refl _)
  have HDN : Hid (∀ W', Below W0.heap.size W0 W' → Below w.heap.size w W') := fun W' hbel => HB0.out.trans (hbel.mono (by rw [HZ0.out]; exact Nat.le_succ _))
  clear hr ht hW0 hn hm
  go_enter Try.func12, Try.ntmps12
  go_wp2_with fail
  rw [HW0.out]
  refine (partsOf_c L p cap ts q cq W0 HN.out HM.out HR0.out HT0.out).mono ?_
  rintro e w1 ⟨v, rfl, ho, b1⟩
  have HC1 : Hid (Below W0.heap.size W0 w1) := b1
  have HO : Hid (w1.ownsRow W0.heap.size 9 1 v (ptB L ts).length ((ptB L ts).map Value.string)) := ho
  have HPL : Hid ((ptB L ts).length ≤ 1000) := ptB_len L ts
  have HP24 : Hid (∀ b ∈ ptB L ts, b.size ≤ 24) := ptB_24 L ts
  clear b1 ho d
  obtain ⟨B, hB⟩ : ∃ B, decide (okT L ts) = B := ⟨_, rfl⟩
  have HBB : Hid (decide (okT L ts) = B) := hB
  rw [hB]
  clear hB
  obtain ⟨P, hP⟩ : ∃ P, ptB L ts = P := ⟨_, rfl⟩
  have HPP : Hid (deB L ts = catB P) := by show _ = _; rw [deB_pt, hP]
  rw [hP] at HO HPL HP24
  clear hP
  go_wp2_with fail
  refine (joinS_c v P _ w1 HO.out HPL.out HP24.out).mono ?_
  rintro e w2 ⟨rfl, b2⟩
  have HC2 : Hid (Below W0.heap.size W0 w2) := HC1.out.trans (b2.mono HC1.out.size)
  have HCS : Hid ((catB P).size ≤ 281474976710656) := by have h1 := catB_size HP24.out; have h2 := HPL.out; show _ ≤ _; omega
  clear b2
  obtain ⟨S, hS⟩ : ∃ S, catB P = S := ⟨_, rfl⟩
  have HSS : Hid (catB P = S) := hS
  rw [hS] at HCS ⊢
  clear hS
  go_wp2_with fail
  refine (clone_c S w2 HCS.out).mono ?_
  rintro e w3 ⟨rfl, b3⟩
  have HC3 : Hid (Below W0.heap.size W0 w3) := HC2.out.trans (b3.mono HC2.out.size)
  clear b3
  go_wp2
  go_ret2
  exact ⟨by rw [HPP.out, HBB.out, HSS.out]; rfl, HDN.out _ HC3.out⟩

end Go.Proofs.Ytdggkcohidijcaa
