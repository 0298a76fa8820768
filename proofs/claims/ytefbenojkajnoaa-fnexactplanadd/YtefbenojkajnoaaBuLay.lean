/- strings.Builder: WriteString and String by their contracts. -/
import Derived.Test.YtefbenojkajnoaaRows
import Derived.Shelf.Strings.BuilderK
import Derived.WalkKit
import Derived.Below
namespace Go.Proofs.Ytefbenojkajnoaa
open Go.RowKit Go.Shelf
set_option linter.unusedVariables false

def renBu : Go.Shelf.Ren := ⟨fun
  | 166 => 19
  | 169 => 22
  | 240 => 40
  | 276 => 52
  | k => k, fun
  | 0 => 0
  | 3 => 3
  | 4 => 4
  | 5 => 5
  | 9 => 9
  | 20 => 20
  | 37 => 49
  | 70 => 48
  | 72 => 51
  | 75 => 53
  | 80 => 56
  | 127 => 83
  | 164 => 92
  | k => k, fun k => k⟩

set_option maxRecDepth 100000 in
theorem laysBu166 : Go.Proofs.Lays.n166 Try.prog renBu :=
  { mixed := by kernel_rfl,
    f166 := by kernel_rfl,
    f240 := by kernel_rfl,
    f276 := by kernel_rfl,
    t0 := by kernel_rfl,
    a0 := fun _ => by kernel_rfl,
    z0 := fun _ => by kernel_rfl,
    v0 := fun _ => by kernel_rfl,
    t3 := by kernel_rfl,
    a3 := fun _ => by kernel_rfl,
    z3 := fun _ => by kernel_rfl,
    v3 := fun _ => by kernel_rfl,
    t4 := by kernel_rfl,
    a4 := fun _ => by kernel_rfl,
    z4 := fun _ => by kernel_rfl,
    v4 := fun _ => by kernel_rfl,
    t9 := by kernel_rfl,
    a9 := fun _ => by kernel_rfl,
    z9 := fun _ => by kernel_rfl,
    v9 := fun _ => by kernel_rfl,
    t20 := by kernel_rfl,
    a20 := fun _ => by kernel_rfl,
    z20 := fun _ => by kernel_rfl,
    v20 := fun _ => by kernel_rfl,
    t37 := by kernel_rfl,
    a37 := fun _ => by kernel_rfl,
    z37 := fun _ => by kernel_rfl,
    v37 := fun _ => by kernel_rfl,
    t70 := by kernel_rfl,
    a70 := fun _ => by kernel_rfl,
    z70 := fun _ => by kernel_rfl,
    v70 := fun _ => by kernel_rfl,
    t72 := by kernel_rfl,
    a72 := fun _ => by kernel_rfl,
    z72 := fun _ => by kernel_rfl,
    v72 := fun _ => by kernel_rfl,
    t75 := by kernel_rfl,
    a75 := fun _ => by kernel_rfl,
    z75 := fun _ => by kernel_rfl,
    v75 := fun _ => by kernel_rfl,
    t164 := by kernel_rfl,
    a164 := fun _ => by kernel_rfl,
    z164 := fun _ => by kernel_rfl,
    v164 := fun _ => by kernel_rfl }

set_option maxRecDepth 100000 in
theorem laysBu169 : Go.Proofs.Lays.n169 Try.prog renBu :=
  { mixed := by kernel_rfl,
    f169 := by kernel_rfl,
    t0 := by kernel_rfl,
    a0 := fun _ => by kernel_rfl,
    z0 := fun _ => by kernel_rfl,
    v0 := fun _ => by kernel_rfl,
    t3 := by kernel_rfl,
    a3 := fun _ => by kernel_rfl,
    z3 := fun _ => by kernel_rfl,
    v3 := fun _ => by kernel_rfl,
    t9 := by kernel_rfl,
    a9 := fun _ => by kernel_rfl,
    z9 := fun _ => by kernel_rfl,
    v9 := fun _ => by kernel_rfl,
    t37 := by kernel_rfl,
    a37 := fun _ => by kernel_rfl,
    z37 := fun _ => by kernel_rfl,
    v37 := fun _ => by kernel_rfl,
    t70 := by kernel_rfl,
    a70 := fun _ => by kernel_rfl,
    z70 := fun _ => by kernel_rfl,
    v70 := fun _ => by kernel_rfl,
    t72 := by kernel_rfl,
    a72 := fun _ => by kernel_rfl,
    z72 := fun _ => by kernel_rfl,
    v72 := fun _ => by kernel_rfl,
    t127 := by kernel_rfl,
    a127 := fun _ => by kernel_rfl,
    z127 := fun _ => by kernel_rfl,
    v127 := fun _ => by kernel_rfl }

theorem exBu : Go.Proofs.Builder.Extra Try.prog renBu where
  sizeBuilder := by kernel_rfl
  liesBuilder := by kernel_rfl
  t5 := by kernel_rfl
  a5 := fun _ => by kernel_rfl
  z5 := fun _ => by kernel_rfl
  v5 := fun _ => by kernel_rfl
  infoByte := by kernel_rfl
  cellsByte := by kernel_rfl
  sizeByte := by kernel_rfl
  neB5 := by decide

/-- A builder in block b (its row at B or above) that holds the bytes of s. -/
def Bu (B b : Nat) (s : ByteArray) (w : World) : Prop := Lib.IsBuilderF 51 5 B b (Lib.strCells s) w

/-- It stays where its own block, and all bytes, do. -/
theorem Bu.keep {B b : Nat} {s : ByteArray} {w w' : World} (h : Bu B b s w) (hk : ∀ k o, w.heap[k]? = some o → (k = b ∨ ∃ c fz, o = .cells c 5 fz) → w'.heap[k]? = some o) : Bu B b s w' := by
  have key : ∀ p, Lib.BuilderAtF 51 5 B b p (Lib.strCells s) w → Lib.BuilderAtF 51 5 B b p (Lib.strCells s) w' := by
    rintro p ⟨hB, v, hb, hown, hne⟩
    refine ⟨hB, v, hk b _ hb (.inl rfl), ⟨hown.1, ?_⟩, hne⟩
    rcases hown.2 with hn | ⟨g, cap, cur, fz, hv, hbg, hg, rest⟩
    · exact .inl hn
    · exact .inr ⟨g, cap, cur, fz, hv, hbg, hk g _ hg (.inr ⟨_, _, rfl⟩), rest⟩
  exact h.elim (fun x => .inl (key _ x)) (fun x => .inr (key _ x))

theorem Bu.bel {B b : Nat} {s : ByteArray} {w w' : World} (h : Bu B b s w) (hb : Below w.heap.size w w') : Bu B b s w' :=
  h.keep fun k o ho _ => (hb.block k (Array.getElem?_eq_some_iff.1 ho).1).trans ho

theorem Bu.block {B b : Nat} {s : ByteArray} {w : World} (h : Bu B b s w) : ∃ cs, w.heap[b]? = some (.cells cs 51 (0, 0)) := by
  rcases h with ⟨_, v, hb, _⟩ | ⟨_, v, hb, _⟩ <;> exact ⟨_, hb⟩

/-- What neither is the builder nor bytes stands. -/
def BuK (b : Nat) (w w' : World) : Prop := Lib.OthersKept 5 (some b) w w'

theorem BuK.own {B b : Nat} {s : ByteArray} {w w' : World} (h : BuK b w w') (hB : Bu B b s w) {base : Nat} {e : TypeId} {size n : Nat} {v : Value} {xs : List Value} (he : e ≠ 5) (he' : e ≠ 51) (ho : w.ownsRow base e size v n xs) : w'.ownsRow base e size v n xs := by
  obtain ⟨h1, ⟨rfl, h2⟩ | ⟨g, cap, cur, rfl, hg, hh, r⟩⟩ := ho
  · exact ⟨h1, .inl ⟨rfl, h2⟩⟩
  · refine ⟨h1, .inr ⟨g, cap, cur, rfl, hg, h g _ hh (fun e1 => ?_) (fun c fz e1 => ?_), r⟩⟩
    · obtain ⟨cs, hcs⟩ := hB.block
      simp only [Option.some.injEq] at e1
      subst e1
      rw [hh] at hcs
      simp only [Option.some.injEq, Obj.cells.injEq] at hcs
      exact he' hcs.2.1
    · simp only [Obj.cells.injEq] at e1
      exact he e1.2.1

theorem strCells_add (a b : ByteArray) : Lib.strCells (a ++ b) = Lib.strCells a ++ Lib.strCells b := by
  unfold Lib.strCells
  rw [ByteArray.data_append, Array.toList_append, List.map_append]

theorem buWrite_c (B b : Nat) (t s : ByteArray) (w : World) (h : Bu B b t w) (hlen : t.size + s.size ≤ 140737488355328) (hBw : B ≤ w.heap.size) :
    Calls Try.prog 19 #[.pointer (some ⟨b, 0, none⟩), .string s] w fun e w' => e = .returned (.tuple #[.int .i64 s.size, .nilIface]) ∧ Bu B b (t ++ s) w' ∧ Below B w w' ∧ BuK b w w' := by
  refine (Any.Builder_WriteString_k laysBu166 exBu B b (Lib.strCells t) s w h (by rw [Lib.strCells_length]; exact hlen) hBw).mono ?_
  rintro e w' ⟨rfl, h1, h2, h3⟩
  refine ⟨rfl, ?_, h2, h3⟩
  unfold Bu
  rw [strCells_add]
  exact .inr h1

theorem buString_c (B b : Nat) (t : ByteArray) (w : World) (h : Bu B b t w) (hBw : B ≤ w.heap.size) :
    Calls Try.prog 22 #[.pointer (some ⟨b, 0, none⟩)] w fun e w' => e = .returned (.string t) ∧ Below B w w' := by
  have h' : Lib.IsBuilderF 51 5 B b (Lib.byteCells t.data.toList) w := by
    have := h
    unfold Bu at this
    rw [Lib.strCells_eq] at this
    exact this
  refine (Any.Builder_String_any_k laysBu169 exBu B b t.data.toList w h' hBw).mono ?_
  rintro e w' ⟨rfl, _, h2, _⟩
  exact ⟨rfl, h2⟩

theorem bu_fresh (w : World) : Bu w.heap.size w.heap.size ⟨#[]⟩ (w.alloc (.cells #[.pointer none, .slice none 0 0] 51)) := Lib.IsBuilderF.of (Lib.fresh_isBuilder _ _ w)

end Go.Proofs.Ytefbenojkajnoaa
