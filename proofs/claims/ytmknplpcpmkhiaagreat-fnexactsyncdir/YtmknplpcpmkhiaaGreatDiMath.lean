/- Maps of the program's own disk: how they read, and frames; no program's walk is here. -/
import Derived.Test.YtmknplpcpmkhiaaGreatJD
import Derived.Maps.OwnOps
import Derived.Maps.OwnSet
import Derived.Maps.RangeWalk
namespace Go.Proofs.YtmknplpcpmkhiaaGreat
open Go.RowKit Go.Maps
set_option linter.unusedVariables false

/-- What was there is as it was, but for blocks of S. -/
structure Fr (S : Nat → Prop) (w w' : World) : Prop where
  os : w'.os = w.os
  tape : w'.tape = w.tape
  output : w'.output = w.output
  size : w.heap.size ≤ w'.heap.size
  block : ∀ k, k < w.heap.size → ¬ S k → w'.heap[k]? = w.heap[k]?

theorem Fr.refl (S : Nat → Prop) (w : World) : Fr S w w := ⟨rfl, rfl, rfl, Nat.le_refl _, fun _ _ _ => rfl⟩

theorem Fr.trans {S : Nat → Prop} {a b c : World} (h : Fr S a b) (k : Fr S b c) : Fr S a c :=
  ⟨k.os.trans h.os, k.tape.trans h.tape, k.output.trans h.output, Nat.le_trans h.size k.size, fun i hi hne => (k.block i (Nat.lt_of_lt_of_le hi h.size) hne).trans (h.block i hi hne)⟩

/-- What the second may write beyond S is new. -/
theorem Fr.trans' {S T : Nat → Prop} {a b c : World} (h : Fr S a b) (k : Fr T b c) (hT : ∀ i, T i → S i ∨ a.heap.size ≤ i) : Fr S a c :=
  ⟨k.os.trans h.os, k.tape.trans h.tape, k.output.trans h.output, Nat.le_trans h.size k.size, fun i hi hne => (k.block i (Nat.lt_of_lt_of_le hi h.size) (fun ht => by rcases hT i ht with h1 | h1; exact hne h1; omega)).trans (h.block i hi hne)⟩

theorem Fr.mono {S T : Nat → Prop} {a b : World} (h : Fr S a b) (hs : ∀ i, S i → T i) : Fr T a b :=
  ⟨h.os, h.tape, h.output, h.size, fun i hi hne => h.block i hi (fun hs' => hne (hs i hs'))⟩

theorem Fr.alloc {S : Nat → Prop} {a b : World} (h : Fr S a b) (o : Obj) : Fr S a (b.alloc o) :=
  ⟨h.os, h.tape, h.output, by have := h.size; simp; omega, fun i hi hne => (Below.heap_alloc b o i (Nat.lt_of_lt_of_le hi h.size)).trans (h.block i hi hne)⟩

theorem Fr.drewN {S : Nat → Prop} {a b : World} (h : Fr S a b) (n : Nat) : Fr S a (b.drewN n) := ⟨h.os, h.tape, h.output, h.size, h.block⟩

theorem Fr.drew {S : Nat → Prop} {a b : World} (h : Fr S a b) : Fr S a b.drew := ⟨h.os, h.tape, h.output, h.size, h.block⟩

theorem Fr.setCell {S : Nat → Prop} {a b : World} (h : Fr S a b) {d : Addr} (u : Value) (hd : S d.block ∨ a.heap.size ≤ d.block) : Fr S a (b.setCell d u) :=
  ⟨h.os, h.tape, h.output, by have := h.size; simpa using this, fun i hi hne => (Below.heap_setCell b d u i (fun e => by subst e; rcases hd with h1 | h1; exact hne h1; omega)).trans (h.block i hi hne)⟩

theorem Fr.grown {S : Nat → Prop} {a b c : World} (h : Fr S a b) {row : Option Nat} (g : b.grownBy c row) (hr : ∀ j, row = some j → S j ∨ a.heap.size ≤ j) : Fr S a c :=
  ⟨g.os.trans h.os, g.tape.trans h.tape, g.output.trans h.output, Nat.le_trans h.size g.size, fun i hi hne => (g.block i (Nat.lt_of_lt_of_le hi h.size) (fun e => by rcases hr i e.symm with h1 | h1; exact hne h1; omega)).trans (h.block i hi hne)⟩

theorem Fr.bel {S : Nat → Prop} {a b c : World} (h : Fr S a b) (k : Below b.heap.size b c) : Fr S a c :=
  ⟨k.os.trans h.os, k.tape.trans h.tape, k.output.trans h.output, Nat.le_trans h.size k.size, fun i hi hne => (k.block i (Nat.lt_of_lt_of_le hi h.size)).trans (h.block i hi hne)⟩

theorem Fr.below {S : Nat → Prop} {a b : World} (h : Fr S a b) {B : Nat} (hS : ∀ i, S i → B ≤ i) (hB : B ≤ a.heap.size) : Below B a b :=
  ⟨h.os, h.tape, h.output, h.size, fun i hi => h.block i (by omega) (fun hs => by have := hS i hs; omega)⟩

theorem Fr.map {S : Nat → Prop} {a b : World} (h : Fr S a b) {P : Program} {k : TypeId} {R : Value → Option (DataW Unit × List MemPlace)} {i n : Nat} {D : DataW Unit} (ho : a.ownsMap P k R i n D) (hi : ¬ S i) : b.ownsMap P k R i n D := by
  have hlt := ho.lt
  obtain ⟨es, clock, hb, r⟩ := ho
  exact ⟨es, clock, (h.block i hlt hi).trans hb, r⟩

theorem Fr.at {S : Nat → Prop} {a b : World} (h : Fr S a b) {i : Nat} {o : Obj} (ho : a.heap[i]? = some o) (hi : ¬ S i) : b.heap[i]? = some o := (h.block i (lt_of_some ho) hi).trans ho

/-- A map's own count of entries. -/
theorem own_tight {w : World} {P : Program} {k : TypeId} {R : Value → Option (DataW Unit × List MemPlace)} {b n : Nat} {D : DataW Unit} (h : w.ownsMap P k R b n D) : w.ownsMap P k R b (Maps.size D) D := by
  obtain ⟨es, clock, hb, F, hs, rfl⟩ := h
  exact ⟨es, clock, hb, F, by simp [Maps.size, length_sorted], rfl⟩

theorem map_ne {w : World} {P : Program} {k : TypeId} {R : Value → Option (DataW Unit × List MemPlace)} {b n i : Nat} {D : DataW Unit} (h : w.ownsMap P k R b n D) {c : Array Value} {t : TypeId} {z : Nat × Nat} (hi : w.heap[i]? = some (.cells c t z)) : i ≠ b := by
  obtain ⟨es, clock, hb, _⟩ := h
  intro e
  rw [e, hb] at hi
  cases hi

/-- How a pointer to a block reads. -/
def ptrElem : Value → Option (DataW Unit × List MemPlace)
  | .pointer (some ⟨b, 0, none⟩) => some (.lit (.int .i64 b), [])
  | .pointer none => some (.nil, [])
  | _ => none

theorem ptrElem_some (b : Nat) : ptrElem (.pointer (some ⟨b, 0, none⟩)) = some (.lit (.int .i64 b), []) := rfl

theorem ptrElem_nil : ptrElem (.pointer none) = some (.nil, []) := rfl

theorem ptrElem_inv {v : Value} {y : DataW Unit × List MemPlace} (h : ptrElem v = some y) : ∃ c : Option Nat, v = .pointer (c.map fun b => ⟨b, 0, none⟩) := by
  unfold ptrElem at h
  split at h
  · rename_i b; exact ⟨some b, rfl⟩
  · exact ⟨none, rfl⟩
  · cases h

theorem ptrElem_blk {v : Value} {b : Nat} {ps : List MemPlace} (h : ptrElem v = some (.lit (.int .i64 b), ps)) : v = .pointer (some ⟨b, 0, none⟩) := by
  unfold ptrElem at h
  split at h
  · rename_i b'
    simp only [Option.some.injEq, Prod.mk.injEq, DataW.lit.injEq, Lit.int.injEq, true_and] at h
    have : b' = b := by omega
    rw [this]
  · simp at h
  · cases h

/-- Links as a map's datum. -/
def encL (L : List S_Link) : DataW Unit := .map (L.map fun x => (.string x.f0.data.toList, .lit (.int .i64 x.f1)))

theorem size_encL (L : List S_Link) : Maps.size (encL L) = L.length := by simp [encL, Maps.size]

theorem ba_list_inj {a b : ByteArray} : a.data.toList = b.data.toList ↔ a = b := ⟨ba_ext2, fun h => by rw [h]⟩

theorem same_name (a b : ByteArray) : (Lit.string a.data.toList).sameKey (.string b.data.toList) = decide (a = b) := by
  simp only [Lit.sameKey]
  by_cases h : a = b
  · subst h; simp
  · have : ¬ a.data = b.data := fun e => h (by cases a; cases b; simpa using e)
    simp [h, this]

theorem less_before : ∀ x y : List UInt8, bytesBefore x y = Op.bytesLess x y
  | [], [] => rfl
  | [], _ :: _ => rfl
  | _ :: _, [] => rfl
  | a :: x, b :: y => by
    have := less_before x y
    simp only [bytesBefore, Op.bytesLess, this]

theorem before_name (x y : S_Link) : (Lit.string x.f0.data.toList).before (.string y.f0.data.toList) = lt4 x y := by
  simp only [Lit.before, lt4, less_before, ByteArray.toList_eq]

theorem encL_del (L : List S_Link) (nm : ByteArray) : (encL L).del (.string nm.data.toList) = encL (wo nm L) := by
  simp only [encL, DataW.del, wo, List.filter_map, Function.comp_def, same_name]

theorem encL_ins (x : S_Link) : ∀ L : List S_Link, DataW.insert (H := Unit) (.string x.f0.data.toList, .lit (.int .i64 x.f1)) (L.map fun x => (.string x.f0.data.toList, .lit (.int .i64 x.f1))) = (insF x L).map fun x => (.string x.f0.data.toList, .lit (.int .i64 x.f1))
  | [] => rfl
  | y :: ys => by
    simp only [List.map_cons, DataW.insert, before_name, insF]
    cases h : lt4 x y
    · simp [encL_ins x ys]
    · simp

theorem encL_put (L : List S_Link) (nm : ByteArray) (i : Int) : (encL L).put (.string nm.data.toList) (.lit (.int .i64 i)) = encL (wi ⟨nm, i⟩ L) := by
  have := encL_ins ⟨nm, i⟩ (wo nm L)
  simp only [encL, DataW.put, wi, wo, List.filter_map, Function.comp_def, same_name]
  simp only [wo] at this
  rw [this]

theorem idx_any {α : Type} (p : α → Bool) : ∀ L : List α, L.any p = !decide (idx p L < 0)
  | [] => by simp [idx]
  | x :: xs => by
    have ih := idx_any p xs
    simp only [List.any_cons, idx, ih]
    by_cases hp : p x = true
    · simp [hp]
    · by_cases h : idx p xs < 0
      · simp [hp, h]
      · have : ¬ idx p xs + 1 < 0 := by omega
        simp [hp, h, this]

theorem has_encL (L : List S_Link) (nm : ByteArray) : Maps.has (encL L) (.string nm.data.toList) = !decide (at4 L nm < 0) := by
  unfold at4
  rw [← idx_any, encL, Maps.has_eq, List.any_map]
  simp only [Function.comp_def, same_name]

theorem idx_find {α : Type} (p : α → Bool) : ∀ L : List α, 0 ≤ idx p L → L.find? p = L[(idx p L).toNat]?
  | [], h => by simp [idx] at h
  | x :: xs, h => by
    simp only [idx] at h ⊢
    cases hp : p x
    · simp only [hp, Bool.false_eq_true, if_false] at h ⊢
      by_cases h2 : idx p xs < 0
      · simp [h2] at h
      · have ih := idx_find p xs (by omega)
        rw [if_neg h2, List.find?_cons_of_neg (by simp [hp]), ih]
        have : (idx p xs + 1).toNat = (idx p xs).toNat + 1 := by omega
        rw [this, List.getElem?_cons_succ]
    · simp [hp]

theorem at_encL (L : List S_Link) (nm : ByteArray) (z : DataW Unit) (h : ¬ at4 L nm < 0) : (encL L).atKey (.string nm.data.toList) z = .lit (.int .i64 ((L[(at4 L nm).toNat]?.map (·.f1)).getD 0)) := by
  have hr := idx_range (fun x : S_Link => decide (x.f0 = nm)) L
  have hf := idx_find (fun x : S_Link => decide (x.f0 = nm)) L (by unfold at4 at h; omega)
  unfold at4 at h ⊢
  simp only [encL, DataW.atKey, List.find?_map, Function.comp_def, same_name]
  rw [hf, List.getElem?_eq_getElem (by omega)]
  rfl

/-- Files as a map's datum. -/
def encF (fs : List (S_Inode × Nat)) : DataW Unit := .map (fs.map fun p => (.int .i64 p.1.f0, .lit (.int .i64 p.2)))

theorem size_encF (fs : List (S_Inode × Nat)) : Maps.size (encF fs) = fs.length := by simp [encF, Maps.size]

theorem same_id (a b : Int) : (Lit.int .i64 a).sameKey (.int .i64 b) = decide (a = b) := by simp [Lit.sameKey]

theorem has_encF (fs : List (S_Inode × Nat)) (i : Int) : Maps.has (encF fs) (.int .i64 i) = fs.any fun p => decide (p.1.f0 = i) := by
  rw [encF, Maps.has_eq, List.any_map]
  simp only [Function.comp_def, same_id]

theorem at_encF (fs : List (S_Inode × Nat)) (i : Int) (z : DataW Unit) : (encF fs).atKey (.int .i64 i) z = match fs.find? fun p => decide (p.1.f0 = i) with | some p => .lit (.int .i64 p.2) | none => z := by
  simp only [encF, DataW.atKey, List.find?_map, Function.comp_def, same_id]
  cases fs.find? fun p => decide (p.1.f0 = i) <;> rfl

theorem encF_del (fs : List (S_Inode × Nat)) (i : Int) : (encF fs).del (.int .i64 i) = encF (fs.filter fun p => !decide (p.1.f0 = i)) := by
  simp only [encF, DataW.del, List.filter_map, Function.comp_def, same_id]

theorem encF_ins (x : S_Inode × Nat) : ∀ fs : List (S_Inode × Nat), (∀ p ∈ fs, p.1.f0 < x.1.f0) → DataW.insert (H := Unit) (.int .i64 x.1.f0, .lit (.int .i64 x.2)) (fs.map fun p => (.int .i64 p.1.f0, .lit (.int .i64 p.2))) = (fs ++ [x]).map fun p => (.int .i64 p.1.f0, .lit (.int .i64 p.2))
  | [], _ => rfl
  | y :: ys, h => by
    have h1 := h y (by simp)
    have hb : (Lit.int .i64 x.1.f0).before (.int .i64 y.1.f0) = false := by simp only [Lit.before, decide_eq_false_iff_not]; omega
    have ih := encF_ins x ys (fun p hp => h p (by simp [hp]))
    simp only [List.map_cons, DataW.insert, hb, List.cons_append]
    simpa using ih

/-- One more, behind all. -/
theorem encF_put (fs : List (S_Inode × Nat)) (x : S_Inode × Nat) (h : ∀ p ∈ fs, p.1.f0 < x.1.f0) : (encF fs).put (.int .i64 x.1.f0) (.lit (.int .i64 x.2)) = encF (fs ++ [x]) := by
  have hf : fs.filter (fun p => !decide (p.1.f0 = x.1.f0)) = fs := List.filter_eq_self.2 fun p hp => by have := h p hp; simp; omega
  have := encF_ins x fs h
  simp only [encF, DataW.put, ← this, List.filter_map, Function.comp_def, same_id, hf]

theorem insF_last (x : S_Link) : ∀ L : List S_Link, (∀ y ∈ L, lt4 x y = false) → insF x L = L ++ [x]
  | [], _ => rfl
  | y :: ys, h => by rw [insF_no x y ys (h y (by simp)), insF_last x ys (fun z hz => h z (by simp [hz]))]; rfl

end Go.Proofs.YtmknplpcpmkhiaaGreat
