/- The walk of the law on the two sums, where the table of the rounds lies in its place. -/
import Derived.Test.YtdhbhifgmbppjaaDoorJSb
import Derived.Test.YtdhbhifgmbppjaaDoorShaSpec
import Derived.Test.YtdhbhifgmbppjaaDoorShaBlock
import Derived.Test.YtdhbhifgmbppjaaDoorVkSpec
import Derived.Test.YtdhbhifgmbppjaaDoorVkImpl
import Derived.Test.YtdhbhifgmbppjaaDoorDraw3Walk
import Derived.OpenShut
namespace Go.Proofs.YtdhbhifgmbppjaaDoor
open Go.RowKit
set_option linter.unusedVariables false

theorem blockSays : BlockSays := fun w hb hcap kb kcap st ks b h1 h2 h3 h4 h5 h6 h7 h8 => block_any w hb hcap kb kcap st ks b h1 h2 h3 h4 h5 h6 h7 h8

/-- What both answer. -/
def shaOut (s : ByteArray) : ByteArray := strOfNums (outL (shaN kL H0 (padL (nums s)) ((padL (nums s)).length / 64)).l 8)

theorem specSha2 (s : ByteArray) (w : World) (hs : s.size ≤ 1048576) :
    Calls Tryd.prog 11 #[.string s] w fun e w' => e = .returned (.string (shaOut s)) ∧ Below w.heap.size w w' := specSha blockSays s w hs

theorem implSha2 (s : ByteArray) (w : World) (hs : s.size ≤ 1048576) (hB0 : 0 < w.heap.size) (hT : Tab w kL) :
    Calls Tryd.prog 25 #[.string s] w fun e w' => e = .returned (.string (shaOut s)) ∧ Below w.heap.size w w' := implSha s w kL hs hB0 hT kL_range

end Go.Proofs.YtdhbhifgmbppjaaDoor

/- Digest of both sides. -/
namespace Go.Proofs.YtdhbhifgmbppjaaDoor
open Go.RowKit
set_option linter.unusedVariables false
set_option linter.unusedSimpArgs false

def digT (L : List S_Pair) : ByteArray := if okV L then shaOut (canT L) else ⟨#[]⟩

set_option maxRecDepth 20000 in
set_option maxHeartbeats 4000000 in
theorem implDig_c (L : List S_Pair) (p : Option Addr) (cap : Nat) (w : World) (hG : 0 < w.heap.size) (hT : Tab w kL) (hn : L.length ≤ 1048576) (hr : RowR w (.slice p L.length cap) L.length 2 (rPair L)) :
    Calls Tryd.prog 10 #[.agg #[.slice p L.length cap]] w fun e w' => e = .returned (.string (digT L)) ∧ Below w.heap.size w w' := by
  have HG : Hid (0 < w.heap.size) := hG
  have HT : Hid (Tab w kL) := hT
  clear hG hT
  have HN : Hid (L.length ≤ 1048576) := hn
  have HR : Hid (RowR w (.slice p L.length cap) L.length 2 (rPair L)) := hr
  obtain ⟨W0, hW0⟩ : ∃ W, W = w.alloc (.cells #[.slice p L.length cap] 26) := ⟨_, rfl⟩
  have HW0 : Hid (w.alloc (.cells #[.slice p L.length cap] 26) = W0) := hW0.symm
  have HZ0 : Hid (W0.heap.size = w.heap.size + 1) := by show _ = _; rw [hW0]; simp
  have HB0 : Hid (Below w.heap.size w W0) := by rw [hW0]; exact (Below.refl _ _).alloc (Nat.le_refl _) _
  have HX : Hid (∀ W', Below W0.heap.size W0 W' → W'.cell? ⟨w.heap.size, 0, none⟩ = some (.slice p L.length cap)) := fun W' hW => by
    have hk : W'.heap[w.heap.size]? = some (.cells #[.slice p L.length cap] 26) := by rw [hW.block _ (by rw [HZ0.out]; exact Nat.lt_succ_self _), hW0]; exact alloc_last _ _
    exact box1 hk
  have d := HX.out W0 (Below.refl _ _)
  have HR0 : Hid (RowR W0 (.slice p L.length cap) L.length 2 (rPair L)) := RowR.keep HR.out HB0.out (Nat.le_refl _)
  clear hn hr hW0
  go_enter Tryd.func10, Tryd.ntmps10
  go_wp2_with fail
  rw [HW0.out]
  refine (implCanon_c L p cap W0 HN.out HR0.out).mono ?_
  rintro e w1 ⟨rfl, b1⟩
  have HB1 : Hid (Below w.heap.size w w1) := HB0.out.trans (b1.mono (by rw [HZ0.out]; omega))
  have HSZ : Hid ((canT L).size ≤ 250) := canT_size L
  clear b1 d
  by_cases hok : okV L
  rotate_left
  · have HF : Hid (digT L = ⟨#[]⟩) := if_neg hok
    have HC : Hid (canT L = ⟨#[]⟩) := if_neg hok
    rw [HC.out]
    clear hok
    go_wp2
    go_ret
    exact ⟨by rw [HF.out]; rfl, HB1.out⟩
  have HF : Hid (digT L = shaOut (canT L)) := if_pos hok
  have hne : (canT L).toList.isEmpty = false := txe_no (canT_pos hok)
  clear hok
  generalize canT L = B at HF HSZ hne ⊢
  go_wp2_with fail
  refine (implSha2 B w1 (by have := HSZ.out; omega) (Nat.lt_of_lt_of_le HG.out HB1.out.size) (HT.out.below HB1.out HG.out)).mono ?_
  rintro e w3 ⟨rfl, b3⟩
  have HB3 : Hid (Below w.heap.size w w3) := HB1.out.trans (b3.mono HB1.out.size)
  clear b3
  generalize shaOut B = C at HF ⊢
  go_wp2
  go_ret
  exact ⟨by rw [HF.out]; rfl, HB3.out⟩

end Go.Proofs.YtdhbhifgmbppjaaDoor

/- The walk of the draw of a text, and what a walk is told of a slice of bytes that came in. -/
namespace Go.Proofs.YtdhbhifgmbppjaaDoor
open Go.RowKit
set_option linter.unusedVariables false

/-- The cursor's block is new: what the caller had is as it was. -/
theorem below_new {w w1 w2 : World} {B : Nat} (h1 : w.grownBy w1 none) (hB : B = w.heap.size) (h2 : w1.grownBy w2 (some B)) : w.grownBy w2 none :=
  ⟨h2.os.trans h1.os, h2.tape.trans h1.tape, h2.output.trans h1.output, Nat.le_trans h1.size h2.size, fun k hk _ => (h2.block k (by have := h1.size; omega) (by simp; omega)).trans (h1.block k hk (by simp))⟩

theorem grown_of_below {w w' : World} (h : Below w.heap.size w w') : w.grownBy w' none := ⟨h.os, h.tape, h.output, h.size, fun k hk _ => h.block k hk⟩

theorem below_of_grown {w w' : World} (h : w.grownBy w' none) : Below w.heap.size w w' := ⟨h.os, h.tape, h.output, h.size, fun k hk => h.block k hk (by simp)⟩

/-- What the walk is told of a slice of bytes that came in. -/
def IsRow (w : World) (a : Option Addr) (len cap : Nat) (zs : List Int) : Prop :=
  (a = none ∧ len = 0 ∧ cap = 0 ∧ zs = []) ∨
  ∃ x, a = some x ∧ len ≤ cap ∧ cap ≤ maxLen ∧ zs.length = cap ∧ (∀ i, i < zs.length → w.cell? (x.add i) = some (.int .u8 (zs.getD i 0))) ∧ ∀ n ∈ zs, (Lit.int .u8 n).wf = true

theorem IsRow.code {w : World} {a : Option Addr} {len cap : Nat} {zs : List Int} (h : IsRow w a len cap zs) : CodeAt w w.heap.size a len zs := by
  intro j hj
  rcases h with ⟨_, rfl, _⟩ | ⟨x, rfl, hl, hm, hz, hcell, hwz⟩
  · omega
  · obtain ⟨b, off, spot⟩ := x
    have hspot : spot = none := by simpa [Addr.add] using World.cell?_spot (hcell 0 (by omega))
    subst hspot
    have hplain : (⟨b, off, none⟩ : Addr).add j = ⟨b, off + j, none⟩ := by unfold Addr.add; split <;> simp_all
    have hc' := hcell j (by omega)
    rw [hplain] at hc'
    exact ⟨b, off, rfl, World.block_lt_of_cell? w _ hc', hc'⟩

theorem IsRow.range {w : World} {a : Option Addr} {len cap : Nat} {zs : List Int} (h : IsRow w a len cap zs) : ∀ j, 0 ≤ zs.getD j 0 ∧ zs.getD j 0 ≤ 255 := by
  intro j
  rcases h with ⟨_, _, _, rfl⟩ | ⟨x, rfl, hl, hm, hz, hcell, hwz⟩
  · simp
  · by_cases hj : j < zs.length
    · have e : zs.getD j 0 = zs[j] := by simp [List.getD, List.getElem?_eq_getElem hj]
      rw [e]
      have := bounds_u8 (hwz zs[j] (List.getElem_mem hj))
      omega
    · have e : zs.getD j 0 = 0 := by simp [List.getD, List.getElem?_eq_none (Nat.le_of_not_lt hj)]
      rw [e]; omega

theorem IsRow.len {w : World} {a : Option Addr} {len cap : Nat} {zs : List Int} (h : IsRow w a len cap zs) : len ≤ maxLen := by
  rcases h with ⟨_, rfl, _⟩ | ⟨x, rfl, hl, hm, _⟩
  · exact Nat.zero_le _
  · omega

end Go.Proofs.YtdhbhifgmbppjaaDoor
