/- Maps and rows that are copied: by their contracts. -/
import Derived.Test.YtmknplpcpmkhiaaGreatDiGive
namespace Go.Proofs.YtmknplpcpmkhiaaGreat
open Go.RowKit Go.Maps Go.Shelf
set_option linter.unusedVariables false

def renMap : Go.Shelf.Ren := ⟨fun
  | 5 => 105
  | 7 => 129
  | k => k, fun
  | 3 => 3
  | 4 => 4
  | 20 => 20
  | 23 => 95
  | 25 => 9
  | k => k, fun k => k⟩

theorem laysMap : SlLaysW.n5 Tryz.prog renMap :=
  { mixed := by kernel_rfl, f5 := Exists.intro "maps.Clone[map[string]int,string,int]" ⟨by kernel_rfl, by kernel_rfl⟩, f7 := by kernel_rfl,
    t4 := by kernel_rfl, a4 := fun _ => by kernel_rfl, z4 := fun _ => by kernel_rfl, v4 := fun _ => by kernel_rfl,
    t20 := by kernel_rfl, a20 := fun _ => by kernel_rfl, z20 := fun _ => by kernel_rfl, v20 := fun _ => by kernel_rfl,
    t23 := by kernel_rfl, a23 := fun _ => by kernel_rfl, z23 := fun _ => by kernel_rfl, v23 := fun _ => by kernel_rfl }

theorem cloneMap_c (b n : Nat) (D : DataW Unit) (w : World) (hown : w.ownsMap Tryz.prog 9 (plainElem Tryz.prog 3) b n D) :
    Calls Tryz.prog 105 #[.map (some b)] w fun e w' => e = .returned (.map (some w.heap.size)) ∧ w'.ownsMap Tryz.prog 9 (plainElem Tryz.prog 3) w.heap.size n D ∧ w'.ownsMap Tryz.prog 9 (plainElem Tryz.prog 3) b n D ∧ Below w.heap.size w w' ∧ w.heap.size < w'.heap.size := by
  refine (AnyW.maps_Clone_owns laysMap 9 (plainElem Tryz.prog 3) b n D w hown).mono ?_
  rintro e w' ⟨he, h1, h2, h3⟩
  exact ⟨he, h1, h2, h3, h1.lt⟩

end Go.Proofs.YtmknplpcpmkhiaaGreat
