/- The shelf's layings on slices.Sorted(maps.Keys(m)), in plain words. -/
import Derived.Shelf.SlIter.Nil
import Derived.Shelf.SlIterI.Nil
import Derived.Shelf.SlIterI.Sorted
import Derived.Shelf.SortM.Plain
import Derived.Shelf.SortM.SortNone
import Derived.Test.YtiogjmchbpmdpaaRows
namespace Go.Proofs.Ytiogjmchbpmdpaa
open Go.RowKit Go.Maps Go.Sort Go.Shelf
set_option linter.unusedVariables false

def lKeysSR : Go.Shelf.Ren := ⟨fun
  | 7 => 48
  | 10 => 70
  | k => k, fun
  | 23 => 81
  | 26 => 9
  | 3 => 3
  | 28 => 79
  | 0 => 0
  | 27 => 78
  | 33 => 65
  | 4 => 4
  | k => k, fun k => k⟩

set_option maxRecDepth 100000 in
theorem lKeysS : Go.Proofs.SlLaysZ.n7 Try.prog lKeysSR :=
  { mixed := by kernel_rfl,
    f7 := ⟨Try.f48.name, by decide, by kernel_rfl⟩,
    f10 := ⟨Try.f70.name, by decide, by kernel_rfl⟩,
    t0 := by kernel_rfl,
    a0 := fun _ => by kernel_rfl,
    z0 := fun _ => by kernel_rfl,
    v0 := fun _ => by kernel_rfl,
    t4 := by kernel_rfl,
    a4 := fun _ => by kernel_rfl,
    z4 := fun _ => by kernel_rfl,
    v4 := fun _ => by kernel_rfl,
    t23 := by kernel_rfl,
    a23 := fun _ => by kernel_rfl,
    z23 := fun _ => by kernel_rfl,
    v23 := fun _ => by kernel_rfl,
    t26 := by kernel_rfl,
    a26 := fun _ => by kernel_rfl,
    z26 := fun _ => by kernel_rfl,
    v26 := fun _ => by kernel_rfl,
    t27 := by kernel_rfl,
    a27 := fun _ => by kernel_rfl,
    z27 := fun _ => by kernel_rfl,
    v27 := fun _ => by kernel_rfl,
    t28 := by kernel_rfl,
    a28 := fun _ => by kernel_rfl,
    z28 := fun _ => by kernel_rfl,
    v28 := fun _ => by kernel_rfl,
    t33 := by kernel_rfl,
    a33 := fun _ => by kernel_rfl,
    z33 := fun _ => by kernel_rfl,
    v33 := fun _ => by kernel_rfl }

def lSortedSR : Go.Shelf.Ren := ⟨fun
  | 6 => 47
  | 8 => 68
  | 9 => 69
  | 11 => 78
  | 13 => 80
  | 12 => 79
  | 23 => 91
  | 24 => 92
  | 14 => 82
  | 15 => 83
  | 16 => 84
  | 17 => 85
  | 18 => 86
  | 19 => 87
  | 20 => 88
  | 21 => 89
  | 22 => 90
  | 25 => 93
  | 26 => 94
  | 27 => 95
  | 28 => 96
  | 29 => 97
  | 30 => 98
  | 31 => 99
  | k => k, fun
  | 26 => 9
  | 28 => 79
  | 24 => 41
  | 0 => 0
  | 3 => 3
  | 37 => 120
  | 48 => 133
  | 50 => 135
  | 4 => 4
  | 40 => 126
  | 39 => 125
  | 45 => 123
  | 5 => 5
  | 9 => 9
  | 51 => 136
  | 55 => 140
  | 57 => 142
  | 58 => 143
  | 33 => 65
  | k => k, fun k => k⟩

set_option maxRecDepth 100000 in
theorem lSortedS : Go.Proofs.SlLaysZ.n6 Try.prog lSortedSR :=
  { mixed := by kernel_rfl,
    f6 := ⟨Try.f47.name, by decide, by kernel_rfl⟩,
    f8 := ⟨Try.f68.name, by decide, by kernel_rfl⟩,
    f11 := ⟨Try.f78.name, by decide, by kernel_rfl⟩,
    t0 := by kernel_rfl,
    a0 := fun _ => by kernel_rfl,
    z0 := fun _ => by kernel_rfl,
    v0 := fun _ => by kernel_rfl,
    t24 := by kernel_rfl,
    a24 := fun _ => by kernel_rfl,
    z24 := fun _ => by kernel_rfl,
    v24 := fun _ => by kernel_rfl,
    t26 := by kernel_rfl,
    a26 := fun _ => by kernel_rfl,
    z26 := fun _ => by kernel_rfl,
    v26 := fun _ => by kernel_rfl,
    t28 := by kernel_rfl,
    a28 := fun _ => by kernel_rfl,
    z28 := fun _ => by kernel_rfl,
    v28 := fun _ => by kernel_rfl,
    i26 := by kernel_rfl }

def lSortSR : Go.Shelf.Ren := ⟨fun
  | 6 => 69
  | 8 => 80
  | 9 => 79
  | 19 => 91
  | 20 => 92
  | 21 => 82
  | 22 => 83
  | 23 => 84
  | 24 => 85
  | 25 => 86
  | 26 => 87
  | 27 => 88
  | 28 => 89
  | 29 => 90
  | 36 => 93
  | 31 => 94
  | 32 => 95
  | 37 => 96
  | 38 => 97
  | 39 => 98
  | 41 => 99
  | k => k, fun
  | 27 => 41
  | 29 => 9
  | 3 => 3
  | 32 => 120
  | 26 => 41
  | 0 => 0
  | 44 => 133
  | 46 => 135
  | 4 => 4
  | 36 => 126
  | 35 => 125
  | 41 => 123
  | 5 => 5
  | 9 => 9
  | 53 => 136
  | 57 => 140
  | 63 => 142
  | 64 => 143
  | k => k, fun k => k⟩

set_option maxRecDepth 100000 in
theorem lSortS : Go.Proofs.SlLaysM.n6 Try.prog lSortSR :=
  { mixed := by kernel_rfl,
    f6 := ⟨Try.f69.name, by decide, by kernel_rfl⟩,
    f8 := by kernel_rfl,
    f9 := ⟨Try.f79.name, by decide, by kernel_rfl⟩,
    f19 := by kernel_rfl,
    f20 := by kernel_rfl,
    f21 := ⟨Try.f82.name, by decide, by kernel_rfl⟩,
    f22 := ⟨Try.f83.name, by decide, by kernel_rfl⟩,
    f23 := ⟨Try.f84.name, by decide, by kernel_rfl⟩,
    f24 := ⟨Try.f85.name, by decide, by kernel_rfl⟩,
    f25 := ⟨Try.f86.name, by decide, by kernel_rfl⟩,
    f26 := ⟨Try.f87.name, by decide, by kernel_rfl⟩,
    f27 := ⟨Try.f88.name, by decide, by kernel_rfl⟩,
    f28 := ⟨Try.f89.name, by decide, by kernel_rfl⟩,
    f29 := ⟨Try.f90.name, by decide, by kernel_rfl⟩,
    f31 := by kernel_rfl,
    f32 := by kernel_rfl,
    f36 := ⟨Try.f93.name, by decide, by kernel_rfl⟩,
    f37 := ⟨Try.f96.name, by decide, by kernel_rfl⟩,
    f38 := ⟨Try.f97.name, by decide, by kernel_rfl⟩,
    f39 := ⟨Try.f98.name, by decide, by kernel_rfl⟩,
    f41 := ⟨Try.f99.name, by decide, by kernel_rfl⟩,
    t0 := by kernel_rfl,
    a0 := fun _ => by kernel_rfl,
    z0 := fun _ => by kernel_rfl,
    v0 := fun _ => by kernel_rfl,
    t3 := by kernel_rfl,
    a3 := fun _ => by kernel_rfl,
    z3 := fun _ => by kernel_rfl,
    v3 := fun _ => by kernel_rfl,
    t4 := by kernel_rfl,
    a4 := fun _ => by kernel_rfl,
    z4 := fun _ => by kernel_rfl,
    v4 := fun _ => by kernel_rfl,
    t5 := by kernel_rfl,
    a5 := fun _ => by kernel_rfl,
    z5 := fun _ => by kernel_rfl,
    v5 := fun _ => by kernel_rfl,
    t9 := by kernel_rfl,
    a9 := fun _ => by kernel_rfl,
    z9 := fun _ => by kernel_rfl,
    v9 := fun _ => by kernel_rfl,
    t26 := by kernel_rfl,
    a26 := fun _ => by kernel_rfl,
    z26 := fun _ => by kernel_rfl,
    v26 := fun _ => by kernel_rfl,
    t27 := by kernel_rfl,
    a27 := fun _ => by kernel_rfl,
    z27 := fun _ => by kernel_rfl,
    v27 := fun _ => by kernel_rfl,
    t29 := by kernel_rfl,
    a29 := fun _ => by kernel_rfl,
    z29 := fun _ => by kernel_rfl,
    v29 := fun _ => by kernel_rfl,
    t32 := by kernel_rfl,
    a32 := fun _ => by kernel_rfl,
    z32 := fun _ => by kernel_rfl,
    v32 := fun _ => by kernel_rfl,
    t35 := by kernel_rfl,
    a35 := fun _ => by kernel_rfl,
    z35 := fun _ => by kernel_rfl,
    v35 := fun _ => by kernel_rfl,
    t36 := by kernel_rfl,
    a36 := fun _ => by kernel_rfl,
    z36 := fun _ => by kernel_rfl,
    v36 := fun _ => by kernel_rfl,
    t41 := by kernel_rfl,
    a41 := fun _ => by kernel_rfl,
    z41 := fun _ => by kernel_rfl,
    v41 := fun _ => by kernel_rfl,
    t44 := by kernel_rfl,
    a44 := fun _ => by kernel_rfl,
    z44 := fun _ => by kernel_rfl,
    v44 := fun _ => by kernel_rfl,
    t46 := by kernel_rfl,
    a46 := fun _ => by kernel_rfl,
    z46 := fun _ => by kernel_rfl,
    v46 := fun _ => by kernel_rfl,
    t53 := by kernel_rfl,
    a53 := fun _ => by kernel_rfl,
    z53 := fun _ => by kernel_rfl,
    v53 := fun _ => by kernel_rfl,
    t57 := by kernel_rfl,
    a57 := fun _ => by kernel_rfl,
    z57 := fun _ => by kernel_rfl,
    v57 := fun _ => by kernel_rfl,
    t63 := by kernel_rfl,
    a63 := fun _ => by kernel_rfl,
    z63 := fun _ => by kernel_rfl,
    v63 := fun _ => by kernel_rfl,
    t64 := by kernel_rfl,
    a64 := fun _ => by kernel_rfl,
    z64 := fun _ => by kernel_rfl,
    v64 := fun _ => by kernel_rfl }

end Go.Proofs.Ytiogjmchbpmdpaa
