/- slices.Sorted(maps.Keys(m)) by contracts, at the program's own maps: names in order, Ids in order. -/
import Derived.Test.YtmknplpcpmkhiaaGreatSoLay
import Derived.Test.YtmknplpcpmkhiaaGreatDiWalk
import Derived.Sort.Walk0
import Derived.Maps.Ext
namespace Go.Proofs.YtmknplpcpmkhiaaGreat
open Go.RowKit Go.Maps Go.Sort Go.Shelf
set_option linter.unusedVariables false

theorem keysS_c (mb : Option Nat) (W : World) : Calls Tryz.prog 67 #[.map mb] W fun e w' => e = .returned (.func (.func 112) #[] #[.pointer (some ⟨W.heap.size, 0, none⟩)]) ∧ w' = W.alloc (.cells #[.map mb] 95) :=
  (callsIn_wide (n := 5)).1 (AnyZ.keys_in lKeysS Fence.wide 5 trivial rfl mb W)

theorem sortsS (m : Nat) : AnyZ.SortsIn Tryz.prog lSortedSR Fence.wide m :=
  ⟨fun blk off cap ss W hH hblk hsz => callsIn_wide.2 (AnyM.slices_Sort_string lSortS blk off cap ss W hH hblk hsz), fun p cap W => callsIn_wide.2 (AnyM.slices_Sort_string_none lSortS p cap W)⟩

set_option maxHeartbeats 1000000 in
theorem sortedS_any {H : Type} (b nn : Nat) (D0 : DataW H) (R : Value → Option (DataW H × List MemPlace)) (w : World) (hown : w.ownsMap Tryz.prog 9 R b nn D0) (hmax : Maps.size D0 ≤ maxLen) (hbytes : Maps.size D0 * 16 ≤ 140737488355328) :
    Calls Tryz.prog 66 #[.func (.func 112) #[] #[.pointer (some ⟨w.heap.size, 0, none⟩)]] (w.alloc (.cells #[.map (some b)] 95)) fun e w' => ∃ (v : Value) (ss : List (List UInt8)), e = .returned v ∧ ss.Perm (strKeys D0) ∧
      w'.ownsRow (w.alloc (.cells #[.map (some b)] 95)).heap.size 9 1 v ss.length ((ss.mergeSort (fun x y => decide (x ≤ y))).map encStr) ∧ (v = .slice none 0 0 ↔ ss = []) ∧ Below (w.alloc (.cells #[.map (some b)] 95)).heap.size (w.alloc (.cells #[.map (some b)] 95)) w' := by
  have hbl := hown.lt
  have hseq : SeqGives Fence.wide 2 Tryz.prog 112 #[.pointer (some ⟨w.heap.size, 0, none⟩)] encStr (fun ss => ss.Perm (strKeys D0)) (Maps.size D0) (w.alloc (.cells #[.map (some b)] 95)) :=
    AnyZ.keys_gives (ρ := lKeysSR) { lKeysS with } Fence.wide _ trivial rfl (by omega) w.heap.size b nn D0 _ (by simp) (by simp) (by
      obtain ⟨es, clock, hb, Ft, hs, hD⟩ := hown
      exact ⟨es, clock, (Below.heap_alloc _ _ b hbl).trans hb, Ft, hs, hD⟩)
  exact (callsIn_wide (n := 5)).1 (AnyZ.sorted_in lSortedS Fence.wide 5 trivial trivial trivial trivial rfl (by omega) (sortsS _) (enters_of Tryz.func111 (by kernel_rfl) rfl) 112 #[.pointer (some ⟨w.heap.size, 0, none⟩)] trivial (enters_of Tryz.func112 (by kernel_rfl) rfl) _ _ hmax hbytes _ hseq)

theorem keys_encL (L : List S_Link) : strKeys (encL L) = L.map fun x => x.f0.data.toList := by
  simp only [strKeys, encL, List.map_map]
  rfl

/-- Links that a map holds are in order. -/
theorem sorted_encL {w : World} {R : Value → Option (DataW Unit × List MemPlace)} {b n : Nat} {L : List S_Link} (h : w.ownsMap Tryz.prog 9 R b n (encL L)) : L.Pairwise (fun x y => lt4 x y = true) := by
  obtain ⟨es, he, hp, _⟩ := h.canon kStr
  simp only [encL, DataW.map.injEq] at he
  subst he
  rw [List.pairwise_map] at hp
  exact hp.imp fun {x y} hxy => by rw [← before_name]; exact hxy

theorem sort_names {L : List S_Link} (h : L.Pairwise (fun x y => lt4 x y = true)) {ss : List (List UInt8)} (hp : ss.Perm (L.map fun x => x.f0.data.toList)) : ss.mergeSort (fun x y => decide (x ≤ y)) = L.map fun x => x.f0.data.toList := by
  have h1 : ss.mergeSort leB = (L.map fun x => x.f0.data.toList).mergeSort leB := mergeSort_of_perm hp
  have h2 : (L.map fun x => x.f0.data.toList).mergeSort leB = L.map fun x => x.f0.data.toList := List.mergeSort_of_pairwise (by
    rw [List.pairwise_map]
    refine h.imp fun {x y} hxy => ?_
    unfold lt4 at hxy
    rw [ByteArray.toList_eq, ByteArray.toList_eq, bytesLess_eq, decide_eq_true_eq] at hxy
    simp only [leB, decide_eq_true_eq]
    exact List.le_of_lt hxy)
  exact h1.trans h2

/-- The names of a map, in order. -/
theorem sortedS_c (b nn : Nat) (L : List S_Link) (R : Value → Option (DataW Unit × List MemPlace)) (w : World) (hown : w.ownsMap Tryz.prog 9 R b nn (encL L)) (hl : L.length ≤ 1048576) :
    Calls Tryz.prog 66 #[.func (.func 112) #[] #[.pointer (some ⟨w.heap.size, 0, none⟩)]] (w.alloc (.cells #[.map (some b)] 95)) fun e w' => ∃ v : Value, e = .returned v ∧
      w'.ownsRow (w.heap.size + 1) 9 1 v L.length (L.map fun x => .string x.f0) ∧ Below w.heap.size w w' := by
  refine (sortedS_any b nn (encL L) R w hown (by rw [size_encL]; unfold maxLen; omega) (by rw [size_encL]; omega)).mono ?_
  rintro e w' ⟨v, ss, rfl, hS, hrow, _, hb⟩
  rw [keys_encL] at hS
  have hlen : ss.length = L.length := by rw [hS.length_eq, List.length_map]
  rw [sort_names (sorted_encL hown) hS, hlen, List.map_map, World.size_alloc] at hrow
  refine ⟨v, rfl, ?_, ((Below.refl _ _).alloc (Nat.le_refl _) _).trans (hb.mono (by simp))⟩
  have e : (encStr ∘ fun x : S_Link => x.f0.data.toList) = fun x => .string x.f0 := by
    funext x
    simp [encStr]
  rw [e] at hrow
  exact hrow

theorem keysI_c (mb : Option Nat) (W : World) : Calls Tryz.prog 55 #[.map mb] W fun e w' => e = .returned (.func (.func 103) #[] #[.pointer (some ⟨W.heap.size, 0, none⟩)]) ∧ w' = W.alloc (.cells #[.map mb] 93) :=
  (callsIn_wide (n := 5)).1 (AnyZI.keys_in lKeysI Fence.wide 5 trivial rfl mb W)

theorem sortsI (m : Nat) (hF : 54 = 54) : AnyZI.SortsIn Tryz.prog lSortedIR Fence.wide m :=
  ⟨fun blk off cap ss W hH hblk hsz => callsIn_wide.2 (AnyM.slices_Sort_int lSortI blk off cap ss W hH hblk hsz), fun p cap W => callsIn_wide.2 (AnyM.slices_Sort_int_none lSortI p cap W)⟩

set_option maxHeartbeats 1000000 in
theorem sortedI_any {H : Type} (b nn : Nat) (D0 : DataW H) (R : Value → Option (DataW H × List MemPlace)) (w : World) (hown : w.ownsMap Tryz.prog 3 R b nn D0) (hmax : Maps.size D0 ≤ maxLen) (hbytes : Maps.size D0 * 8 ≤ 140737488355328) :
    Calls Tryz.prog 54 #[.func (.func 103) #[] #[.pointer (some ⟨w.heap.size, 0, none⟩)]] (w.alloc (.cells #[.map (some b)] 93)) fun e w' => ∃ (v : Value) (ss : List Int), e = .returned v ∧ ss.Perm (intKeys D0) ∧
      w'.ownsRow (w.alloc (.cells #[.map (some b)] 93)).heap.size 3 1 v ss.length ((ss.mergeSort (fun x y => decide (x ≤ y))).map encZ) ∧ (v = .slice none 0 0 ↔ ss = []) ∧ Below (w.alloc (.cells #[.map (some b)] 93)).heap.size (w.alloc (.cells #[.map (some b)] 93)) w' := by
  have hbl := hown.lt
  have hseq : SeqGives Fence.wide 2 Tryz.prog 103 #[.pointer (some ⟨w.heap.size, 0, none⟩)] encZ (fun ss => ss.Perm (intKeys D0)) (Maps.size D0) (w.alloc (.cells #[.map (some b)] 93)) :=
    AnyZI.keys_gives (ρ := lKeysIR) { lKeysI with } Fence.wide _ trivial rfl (by omega) w.heap.size b nn D0 _ (by simp) (by simp) (by
      obtain ⟨es, clock, hb, Ft, hs, hD⟩ := hown
      exact ⟨es, clock, (Below.heap_alloc _ _ b hbl).trans hb, Ft, hs, hD⟩)
  exact (callsIn_wide (n := 5)).1 (AnyZI.sorted_in lSortedI Fence.wide 5 trivial trivial trivial trivial rfl (by omega) (sortsI _ rfl) (enters_of Tryz.func102 (by kernel_rfl) rfl) 103 #[.pointer (some ⟨w.heap.size, 0, none⟩)] trivial (enters_of Tryz.func103 (by kernel_rfl) rfl) _ _ hmax hbytes _ hseq)

/-- The Ids of a map of files, in order. -/
theorem sortedI_c (b nn : Nat) (fs : List (S_Inode × Nat)) (R : Value → Option (DataW Unit × List MemPlace)) (w : World) (hown : w.ownsMap Tryz.prog 3 R b nn (encF fs)) (hr : fs.Pairwise (fun p q => p.1.f0 < q.1.f0)) (hl : fs.length ≤ 1048576) :
    Calls Tryz.prog 54 #[.func (.func 103) #[] #[.pointer (some ⟨w.heap.size, 0, none⟩)]] (w.alloc (.cells #[.map (some b)] 93)) fun e w' => ∃ v : Value, e = .returned v ∧
      w'.ownsRow (w.heap.size + 1) 3 1 v fs.length (fs.map fun p => .int .i64 p.1.f0) ∧ Below w.heap.size w w' := by
  refine (sortedI_any b nn (encF fs) R w hown (by rw [size_encF]; unfold maxLen; omega) (by rw [size_encF]; omega)).mono ?_
  rintro e w' ⟨v, ss, rfl, hS, hrow, _, hb⟩
  have hk : intKeys (encF fs) = fs.map fun p => p.1.f0 := by
    simp only [intKeys, encF, List.map_map]
    rfl
  rw [hk] at hS
  have hlen : ss.length = fs.length := by rw [hS.length_eq, List.length_map]
  have hsort : ss.mergeSort (fun x y => decide (x ≤ y)) = fs.map fun p => p.1.f0 := by
    have h1 : ss.mergeSort leI = (fs.map fun p => p.1.f0).mergeSort leI := mergeSort_of_perm_i hS
    have h2 : (fs.map fun p => p.1.f0).mergeSort leI = fs.map fun p => p.1.f0 := List.mergeSort_of_pairwise (by
      rw [List.pairwise_map]
      refine hr.imp fun {x y} hxy => ?_
      simp only [leI, decide_eq_true_eq]
      omega)
    exact h1.trans h2
  rw [hsort, hlen, List.map_map, World.size_alloc] at hrow
  exact ⟨v, rfl, hrow, ((Below.refl _ _).alloc (Nat.le_refl _) _).trans (hb.mono (by simp))⟩

end Go.Proofs.YtmknplpcpmkhiaaGreat
