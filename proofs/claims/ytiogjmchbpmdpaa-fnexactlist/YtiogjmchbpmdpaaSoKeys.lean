/- slices.Sorted(maps.Keys(m)) by contracts, at the program's own maps: names in order, Ids in order. -/
import Derived.Test.YtiogjmchbpmdpaaSoLay
import Derived.Test.YtiogjmchbpmdpaaDiWalk
import Derived.Sort.Walk0
import Derived.Maps.Ext
namespace Go.Proofs.Ytiogjmchbpmdpaa
open Go.RowKit Go.Maps Go.Sort Go.Shelf
set_option linter.unusedVariables false

theorem keysS_c (mb : Option Nat) (W : World) : Calls Try.prog 48 #[.map mb] W fun e w' => e = .returned (.func (.func 70) #[] #[.pointer (some ⟨W.heap.size, 0, none⟩)]) ∧ w' = W.alloc (.cells #[.map mb] 81) :=
  (callsIn_wide (n := 5)).1 (AnyZ.keys_in lKeysS Fence.wide 5 trivial rfl mb W)

theorem sortsS (m : Nat) : AnyZ.SortsIn Try.prog lSortedSR Fence.wide m :=
  ⟨fun blk off cap ss W hH hblk hsz => callsIn_wide.2 (AnyM.slices_Sort_string lSortS blk off cap ss W hH hblk hsz), fun p cap W => callsIn_wide.2 (AnyM.slices_Sort_string_none lSortS p cap W)⟩

set_option maxHeartbeats 1000000 in
theorem sortedS_any {H : Type} (b nn : Nat) (D0 : DataW H) (R : Value → Option (DataW H × List MemPlace)) (w : World) (hown : w.ownsMap Try.prog 9 R b nn D0) (hmax : Maps.size D0 ≤ maxLen) (hbytes : Maps.size D0 * 16 ≤ 140737488355328) :
    Calls Try.prog 47 #[.func (.func 70) #[] #[.pointer (some ⟨w.heap.size, 0, none⟩)]] (w.alloc (.cells #[.map (some b)] 81)) fun e w' => ∃ (v : Value) (ss : List (List UInt8)), e = .returned v ∧ ss.Perm (strKeys D0) ∧
      w'.ownsRow (w.alloc (.cells #[.map (some b)] 81)).heap.size 9 1 v ss.length ((ss.mergeSort (fun x y => decide (x ≤ y))).map encStr) ∧ (v = .slice none 0 0 ↔ ss = []) ∧ Below (w.alloc (.cells #[.map (some b)] 81)).heap.size (w.alloc (.cells #[.map (some b)] 81)) w' := by
  have hbl := hown.lt
  have hseq : SeqGives Fence.wide 2 Try.prog 70 #[.pointer (some ⟨w.heap.size, 0, none⟩)] encStr (fun ss => ss.Perm (strKeys D0)) (Maps.size D0) (w.alloc (.cells #[.map (some b)] 81)) :=
    AnyZ.keys_gives (ρ := lKeysSR) { lKeysS with } Fence.wide _ trivial rfl (by omega) w.heap.size b nn D0 _ (by simp) (by simp) (by
      obtain ⟨es, clock, hb, Ft, hs, hD⟩ := hown
      exact ⟨es, clock, (Below.heap_alloc _ _ b hbl).trans hb, Ft, hs, hD⟩)
  exact (callsIn_wide (n := 5)).1 (AnyZ.sorted_in lSortedS Fence.wide 5 trivial trivial trivial trivial rfl (by omega) (sortsS _) (enters_of Try.func69 (by kernel_rfl) rfl) 70 #[.pointer (some ⟨w.heap.size, 0, none⟩)] trivial (enters_of Try.func70 (by kernel_rfl) rfl) _ _ hmax hbytes _ hseq)

theorem keys_encL (L : List S_Link) : strKeys (encL L) = L.map fun x => x.f0.data.toList := by
  simp only [strKeys, encL, List.map_map]
  rfl

/-- Links that a map holds are in order. -/
theorem sorted_encL {w : World} {R : Value → Option (DataW Unit × List MemPlace)} {b n : Nat} {L : List S_Link} (h : w.ownsMap Try.prog 9 R b n (encL L)) : L.Pairwise (fun x y => lt4 x y = true) := by
  obtain ⟨es, he, hp, _⟩ := h.canon kStr
  simp only [encL, DataW.map.injEq] at he
  subst he
  rw [List.pairwise_map] at hp
  exact hp.imp fun {x y} hxy => by rw [← before_name]; exact hxy

theorem sort_names {L : List S_Link} (h : L.Pairwise (fun x y => lt4 x y = true)) {ss : List (List UInt8)} (hp : ss.Perm (L.map fun x => x.f0.data.toList)) : ss.mergeSort (fun x y => decide (x ≤ y)) = L.map fun x => x.f0.data.toList := by
  have h1 : ss.mergeSort leB = (L.map fun x => x.f0.data.toList).mergeSort leB := mergeSort_of_perm hp
  have h2 : (L.map fun x => x.f0.data.toList).mergeSort leB = L.map fun x => x.f0.data.toList := List.mergeSort_of_pairwise (by
    rw [List.pairwise_map]
    refine h.imp fun {x y} hxy => ?_
    unfold lt4 at hxy
    rw [ByteArray.toList_eq, ByteArray.toList_eq, bytesLess_eq, decide_eq_true_eq] at hxy
    simp only [leB, decide_eq_true_eq]
    exact List.le_of_lt hxy)
  exact h1.trans h2

/-- The names of a map, in order. -/
theorem sortedS_c (b nn : Nat) (L : List S_Link) (R : Value → Option (DataW Unit × List MemPlace)) (w : World) (hown : w.ownsMap Try.prog 9 R b nn (encL L)) (hl : L.length ≤ 1048576) :
    Calls Try.prog 47 #[.func (.func 70) #[] #[.pointer (some ⟨w.heap.size, 0, none⟩)]] (w.alloc (.cells #[.map (some b)] 81)) fun e w' => ∃ v : Value, e = .returned v ∧
      w'.ownsRow (w.heap.size + 1) 9 1 v L.length (L.map fun x => .string x.f0) ∧ Below w.heap.size w w' := by
  refine (sortedS_any b nn (encL L) R w hown (by rw [size_encL]; unfold maxLen; omega) (by rw [size_encL]; omega)).mono ?_
  rintro e w' ⟨v, ss, rfl, hS, hrow, _, hb⟩
  rw [keys_encL] at hS
  have hlen : ss.length = L.length := by rw [hS.length_eq, List.length_map]
  rw [sort_names (sorted_encL hown) hS, hlen, List.map_map, World.size_alloc] at hrow
  refine ⟨v, rfl, ?_, ((Below.refl _ _).alloc (Nat.le_refl _) _).trans (hb.mono (by simp))⟩
  have e : (encStr ∘ fun x : S_Link => x.f0.data.toList) = fun x => .string x.f0 := by
    funext x
    simp [encStr]
  rw [e] at hrow
  exact hrow

end Go.Proofs.Ytiogjmchbpmdpaa
