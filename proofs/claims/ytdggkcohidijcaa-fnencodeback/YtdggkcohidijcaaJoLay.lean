/- strings.Join with nothing between, by its contract. -/
import Derived.Test.YtdggkcohidijcaaVcMath
import Derived.Test.YtdggkcohidijcaaT8Math
import Derived.Shelf.Strings.OnBuilder
import Derived.WalkKit
import Derived.Below
namespace Go.Proofs.Ytdggkcohidijcaa
open Go.RowKit Go.Shelf
set_option linter.unusedVariables false

def renJo : Go.Shelf.Ren := ⟨fun
  | 156 => 41
  | 165 => 67
  | 166 => 68
  | 169 => 69
  | 240 => 83
  | 241 => 84
  | 276 => 89
  | 277 => 90
  | k => k, fun
  | 0 => 0
  | 3 => 3
  | 4 => 4
  | 5 => 5
  | 9 => 9
  | 20 => 20
  | 31 => 38
  | 37 => 22
  | 70 => 90
  | 72 => 92
  | 75 => 95
  | 76 => 96
  | 80 => 98
  | 127 => 124
  | 164 => 129
  | k => k, fun k => k⟩

set_option maxRecDepth 100000 in
theorem laysJo156 : Go.Proofs.Lays.n156 Try.prog renJo :=
  { mixed := by kernel_rfl,
    f156 := by kernel_rfl,
    f165 := by kernel_rfl,
    f166 := by kernel_rfl,
    f169 := by kernel_rfl,
    f240 := by kernel_rfl,
    f241 := by kernel_rfl,
    f276 := by kernel_rfl,
    f277 := by kernel_rfl,
    t0 := by kernel_rfl,
    a0 := fun _ => by kernel_rfl,
    z0 := fun _ => by kernel_rfl,
    v0 := fun _ => by kernel_rfl,
    t3 := by kernel_rfl,
    a3 := fun _ => by kernel_rfl,
    z3 := fun _ => by kernel_rfl,
    v3 := fun _ => by kernel_rfl,
    t4 := by kernel_rfl,
    a4 := fun _ => by kernel_rfl,
    z4 := fun _ => by kernel_rfl,
    v4 := fun _ => by kernel_rfl,
    t9 := by kernel_rfl,
    a9 := fun _ => by kernel_rfl,
    z9 := fun _ => by kernel_rfl,
    v9 := fun _ => by kernel_rfl,
    t20 := by kernel_rfl,
    a20 := fun _ => by kernel_rfl,
    z20 := fun _ => by kernel_rfl,
    v20 := fun _ => by kernel_rfl,
    t31 := by kernel_rfl,
    a31 := fun _ => by kernel_rfl,
    z31 := fun _ => by kernel_rfl,
    v31 := fun _ => by kernel_rfl,
    t37 := by kernel_rfl,
    a37 := fun _ => by kernel_rfl,
    z37 := fun _ => by kernel_rfl,
    v37 := fun _ => by kernel_rfl,
    t70 := by kernel_rfl,
    a70 := fun _ => by kernel_rfl,
    z70 := fun _ => by kernel_rfl,
    v70 := fun _ => by kernel_rfl,
    t72 := by kernel_rfl,
    a72 := fun _ => by kernel_rfl,
    z72 := fun _ => by kernel_rfl,
    v72 := fun _ => by kernel_rfl,
    t75 := by kernel_rfl,
    a75 := fun _ => by kernel_rfl,
    z75 := fun _ => by kernel_rfl,
    v75 := fun _ => by kernel_rfl,
    t76 := by kernel_rfl,
    a76 := fun _ => by kernel_rfl,
    z76 := fun _ => by kernel_rfl,
    v76 := fun _ => by kernel_rfl,
    t127 := by kernel_rfl,
    a127 := fun _ => by kernel_rfl,
    z127 := fun _ => by kernel_rfl,
    v127 := fun _ => by kernel_rfl,
    t164 := by kernel_rfl,
    a164 := fun _ => by kernel_rfl,
    z164 := fun _ => by kernel_rfl,
    v164 := fun _ => by kernel_rfl }

theorem exJo : Go.Proofs.Builder.Extra Try.prog renJo where
  sizeBuilder := by kernel_rfl
  liesBuilder := by kernel_rfl
  t5 := by kernel_rfl
  a5 := fun _ => by kernel_rfl
  z5 := fun _ => by kernel_rfl
  v5 := fun _ => by kernel_rfl
  infoByte := by kernel_rfl
  cellsByte := by kernel_rfl
  sizeByte := by kernel_rfl
  neB5 := by decide

theorem joinTail_nil (r : List (List UInt8)) : Lib.joinTail [] r = r.flatten := by
  unfold Lib.joinTail
  simp

theorem catB_toList (l : List ByteArray) : ∀ acc : ByteArray, (l.foldl (· ++ ·) acc).data.toList = acc.data.toList ++ (l.map (·.data.toList)).flatten := by
  induction l with
  | nil => intro acc; simp
  | cons b l ih => intro acc; simp only [List.foldl_cons, List.map_cons, List.flatten_cons]; rw [ih, ByteArray.data_append, Array.toList_append, List.append_assoc]

theorem join_cat (l : List ByteArray) : Lib.join (l.map (·.data.toList)) (⟨#[]⟩ : ByteArray).data.toList = (catB l).data.toList := by
  unfold catB
  rw [catB_toList]
  cases l with
  | nil => rfl
  | cons b l =>
    simp only [List.map_cons]
    rw [Lib.join_cons]
    show _ ++ Lib.joinTail [] _ = _
    rw [joinTail_nil]
    rfl

theorem mk_toList (s : ByteArray) : (⟨s.data.toList.toArray⟩ : ByteArray) = s := by cases s; simp

theorem joinS_c (v : Value) (xs : List ByteArray) (base : Nat) (w : World) (h : w.ownsRow base 9 1 v xs.length (xs.map Value.string)) (hN : xs.length ≤ 1000) (hsz : ∀ b ∈ xs, b.size ≤ 24) :
    Calls Try.prog 41 #[v, .string ⟨#[]⟩] w fun e w' => e = .returned (.string (catB xs)) ∧ Below w.heap.size w w' := by
  have h' := h
  obtain ⟨h1, ⟨rfl, h2⟩ | ⟨g, cap, cur, rfl, hg, hh, hc, r⟩⟩ := h'
  · have hx : xs = [] := List.eq_nil_of_length_eq_zero h2
    subst hx
    refine (Any.strings_Join_none laysJo156 exJo none 0 ⟨#[]⟩ w).mono ?_
    rintro e w' ⟨rfl, rfl⟩
    exact ⟨rfl, Below.refl _ _⟩
  · have hj : (Lib.join (xs.map (·.data.toList)) (⟨#[]⟩ : ByteArray).data.toList).length ≤ 140737488355328 := by
      rw [join_cat]
      have := catB_size hsz
      rw [ByteArray.size] at this
      rw [Array.length_toList]
      omega
    refine (Any.strings_Join laysJo156 exJo g 0 cap xs ⟨#[]⟩ w (fun j x hx => ?_) (lt_of_some hh) (by omega) hc hj).mono ?_
    · have hjl : j < xs.length := by
        rcases Nat.lt_or_ge j xs.length with h' | h'
        · exact h'
        · rw [List.getElem?_eq_none h'] at hx; cases hx
      rw [Nat.zero_add, h.cellAt j (by omega), List.getElem?_map, hx]
      rfl
    · rintro e w' ⟨rfl, hb⟩
      refine ⟨?_, hb⟩
      rw [join_cat, mk_toList]

end Go.Proofs.Ytdggkcohidijcaa
