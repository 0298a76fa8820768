/- The shelf's layings on slices.Sorted(maps.Keys(m)), in plain words. -/
import Derived.Shelf.SlIter.Nil
import Derived.Shelf.SlIterI.Nil
import Derived.Shelf.SlIterI.Sorted
import Derived.Shelf.SortM.Plain
import Derived.Shelf.SortM.SortNone
import Derived.Test.YtiogjmchbpmdpabGreatRows
namespace Go.Proofs.YtiogjmchbpmdpabGreat
open Go.RowKit Go.Maps Go.Sort Go.Shelf
set_option linter.unusedVariables false

def lKeysIR : Go.Shelf.Ren := ⟨fun
  | 7 => 93
  | 10 => 101
  | k => k, fun
  | 23 => 74
  | 26 => 3
  | 3 => 99
  | 28 => 121
  | 0 => 0
  | 27 => 120
  | 33 => 112
  | 4 => 4
  | k => k, fun k => k⟩

set_option maxRecDepth 100000 in
theorem lKeysI : Go.Proofs.SlLaysZI.n7 Tryz.prog lKeysIR :=
  { mixed := by kernel_rfl,
    f7 := ⟨Tryz.f93.name, by decide, by kernel_rfl⟩,
    f10 := ⟨Tryz.f101.name, by decide, by kernel_rfl⟩,
    t0 := by kernel_rfl,
    a0 := fun _ => by kernel_rfl,
    z0 := fun _ => by kernel_rfl,
    v0 := fun _ => by kernel_rfl,
    t4 := by kernel_rfl,
    a4 := fun _ => by kernel_rfl,
    z4 := fun _ => by kernel_rfl,
    v4 := fun _ => by kernel_rfl,
    t23 := by kernel_rfl,
    a23 := fun _ => by kernel_rfl,
    z23 := fun _ => by kernel_rfl,
    v23 := fun _ => by kernel_rfl,
    t26 := by kernel_rfl,
    a26 := fun _ => by kernel_rfl,
    z26 := fun _ => by kernel_rfl,
    v26 := fun _ => by kernel_rfl,
    t27 := by kernel_rfl,
    a27 := fun _ => by kernel_rfl,
    z27 := fun _ => by kernel_rfl,
    v27 := fun _ => by kernel_rfl,
    t28 := by kernel_rfl,
    a28 := fun _ => by kernel_rfl,
    z28 := fun _ => by kernel_rfl,
    v28 := fun _ => by kernel_rfl,
    t33 := by kernel_rfl,
    a33 := fun _ => by kernel_rfl,
    z33 := fun _ => by kernel_rfl,
    v33 := fun _ => by kernel_rfl }

def lSortedIR : Go.Shelf.Ren := ⟨fun
  | 6 => 92
  | 8 => 99
  | 9 => 100
  | 11 => 106
  | 13 => 108
  | 12 => 107
  | 23 => 120
  | 24 => 121
  | 14 => 111
  | 15 => 112
  | 16 => 113
  | 17 => 114
  | 18 => 115
  | 19 => 116
  | 20 => 117
  | 21 => 118
  | 22 => 119
  | 25 => 131
  | 26 => 132
  | 27 => 133
  | 28 => 134
  | 29 => 135
  | 30 => 136
  | 31 => 141
  | k => k, fun
  | 26 => 3
  | 28 => 121
  | 24 => 118
  | 0 => 0
  | 3 => 3
  | 37 => 137
  | 48 => 150
  | 50 => 152
  | 4 => 4
  | 40 => 143
  | 39 => 142
  | 45 => 98
  | 5 => 5
  | 9 => 9
  | 51 => 159
  | 55 => 163
  | 57 => 167
  | 58 => 168
  | 33 => 112
  | k => k, fun k => k⟩

set_option maxRecDepth 100000 in
theorem lSortedI : Go.Proofs.SlLaysZI.n6 Tryz.prog lSortedIR :=
  { mixed := by kernel_rfl,
    f6 := ⟨Tryz.f92.name, by decide, by kernel_rfl⟩,
    f8 := ⟨Tryz.f99.name, by decide, by kernel_rfl⟩,
    f11 := ⟨Tryz.f106.name, by decide, by kernel_rfl⟩,
    t0 := by kernel_rfl,
    a0 := fun _ => by kernel_rfl,
    z0 := fun _ => by kernel_rfl,
    v0 := fun _ => by kernel_rfl,
    t24 := by kernel_rfl,
    a24 := fun _ => by kernel_rfl,
    z24 := fun _ => by kernel_rfl,
    v24 := fun _ => by kernel_rfl,
    t26 := by kernel_rfl,
    a26 := fun _ => by kernel_rfl,
    z26 := fun _ => by kernel_rfl,
    v26 := fun _ => by kernel_rfl,
    t28 := by kernel_rfl,
    a28 := fun _ => by kernel_rfl,
    z28 := fun _ => by kernel_rfl,
    v28 := fun _ => by kernel_rfl,
    i26 := by kernel_rfl }

def lSortIR : Go.Shelf.Ren := ⟨fun
  | 5 => 100
  | 8 => 108
  | 7 => 107
  | 19 => 120
  | 20 => 121
  | 10 => 111
  | 11 => 112
  | 12 => 113
  | 13 => 114
  | 14 => 115
  | 15 => 116
  | 16 => 117
  | 17 => 118
  | 18 => 119
  | 30 => 131
  | 31 => 132
  | 32 => 133
  | 33 => 134
  | 34 => 135
  | 35 => 136
  | 40 => 141
  | k => k, fun
  | 23 => 118
  | 25 => 3
  | 3 => 3
  | 32 => 137
  | 22 => 118
  | 0 => 0
  | 44 => 150
  | 46 => 152
  | 4 => 4
  | 36 => 143
  | 35 => 142
  | 41 => 98
  | 5 => 5
  | 9 => 9
  | 53 => 159
  | 57 => 163
  | 63 => 167
  | 64 => 168
  | k => k, fun k => k⟩

set_option maxRecDepth 100000 in
theorem lSortI : Go.Proofs.SlLaysM.n5 Tryz.prog lSortIR :=
  { mixed := by kernel_rfl,
    f5 := ⟨Tryz.f100.name, by decide, by kernel_rfl⟩,
    f7 := ⟨Tryz.f107.name, by decide, by kernel_rfl⟩,
    f8 := by kernel_rfl,
    f10 := ⟨Tryz.f111.name, by decide, by kernel_rfl⟩,
    f11 := ⟨Tryz.f112.name, by decide, by kernel_rfl⟩,
    f12 := ⟨Tryz.f113.name, by decide, by kernel_rfl⟩,
    f13 := ⟨Tryz.f114.name, by decide, by kernel_rfl⟩,
    f14 := ⟨Tryz.f115.name, by decide, by kernel_rfl⟩,
    f15 := ⟨Tryz.f116.name, by decide, by kernel_rfl⟩,
    f16 := ⟨Tryz.f117.name, by decide, by kernel_rfl⟩,
    f17 := ⟨Tryz.f118.name, by decide, by kernel_rfl⟩,
    f18 := ⟨Tryz.f119.name, by decide, by kernel_rfl⟩,
    f19 := by kernel_rfl,
    f20 := by kernel_rfl,
    f30 := ⟨Tryz.f131.name, by decide, by kernel_rfl⟩,
    f31 := by kernel_rfl,
    f32 := by kernel_rfl,
    f33 := ⟨Tryz.f134.name, by decide, by kernel_rfl⟩,
    f34 := ⟨Tryz.f135.name, by decide, by kernel_rfl⟩,
    f35 := ⟨Tryz.f136.name, by decide, by kernel_rfl⟩,
    f40 := ⟨Tryz.f141.name, by decide, by kernel_rfl⟩,
    t0 := by kernel_rfl,
    a0 := fun _ => by kernel_rfl,
    z0 := fun _ => by kernel_rfl,
    v0 := fun _ => by kernel_rfl,
    t3 := by kernel_rfl,
    a3 := fun _ => by kernel_rfl,
    z3 := fun _ => by kernel_rfl,
    v3 := fun _ => by kernel_rfl,
    t4 := by kernel_rfl,
    a4 := fun _ => by kernel_rfl,
    z4 := fun _ => by kernel_rfl,
    v4 := fun _ => by kernel_rfl,
    t5 := by kernel_rfl,
    a5 := fun _ => by kernel_rfl,
    z5 := fun _ => by kernel_rfl,
    v5 := fun _ => by kernel_rfl,
    t9 := by kernel_rfl,
    a9 := fun _ => by kernel_rfl,
    z9 := fun _ => by kernel_rfl,
    v9 := fun _ => by kernel_rfl,
    t22 := by kernel_rfl,
    a22 := fun _ => by kernel_rfl,
    z22 := fun _ => by kernel_rfl,
    v22 := fun _ => by kernel_rfl,
    t23 := by kernel_rfl,
    a23 := fun _ => by kernel_rfl,
    z23 := fun _ => by kernel_rfl,
    v23 := fun _ => by kernel_rfl,
    t25 := by kernel_rfl,
    a25 := fun _ => by kernel_rfl,
    z25 := fun _ => by kernel_rfl,
    v25 := fun _ => by kernel_rfl,
    t32 := by kernel_rfl,
    a32 := fun _ => by kernel_rfl,
    z32 := fun _ => by kernel_rfl,
    v32 := fun _ => by kernel_rfl,
    t35 := by kernel_rfl,
    a35 := fun _ => by kernel_rfl,
    z35 := fun _ => by kernel_rfl,
    v35 := fun _ => by kernel_rfl,
    t36 := by kernel_rfl,
    a36 := fun _ => by kernel_rfl,
    z36 := fun _ => by kernel_rfl,
    v36 := fun _ => by kernel_rfl,
    t41 := by kernel_rfl,
    a41 := fun _ => by kernel_rfl,
    z41 := fun _ => by kernel_rfl,
    v41 := fun _ => by kernel_rfl,
    t44 := by kernel_rfl,
    a44 := fun _ => by kernel_rfl,
    z44 := fun _ => by kernel_rfl,
    v44 := fun _ => by kernel_rfl,
    t46 := by kernel_rfl,
    a46 := fun _ => by kernel_rfl,
    z46 := fun _ => by kernel_rfl,
    v46 := fun _ => by kernel_rfl,
    t53 := by kernel_rfl,
    a53 := fun _ => by kernel_rfl,
    z53 := fun _ => by kernel_rfl,
    v53 := fun _ => by kernel_rfl,
    t57 := by kernel_rfl,
    a57 := fun _ => by kernel_rfl,
    z57 := fun _ => by kernel_rfl,
    v57 := fun _ => by kernel_rfl,
    t63 := by kernel_rfl,
    a63 := fun _ => by kernel_rfl,
    z63 := fun _ => by kernel_rfl,
    v63 := fun _ => by kernel_rfl,
    t64 := by kernel_rfl,
    a64 := fun _ => by kernel_rfl,
    z64 := fun _ => by kernel_rfl,
    v64 := fun _ => by kernel_rfl }

def lKeysSR : Go.Shelf.Ren := ⟨fun
  | 7 => 96
  | 10 => 105
  | k => k, fun
  | 23 => 75
  | 26 => 9
  | 3 => 3
  | 28 => 127
  | 0 => 0
  | 27 => 126
  | 33 => 47
  | 4 => 4
  | k => k, fun k => k⟩

set_option maxRecDepth 100000 in
theorem lKeysS : Go.Proofs.SlLaysZ.n7 Tryz.prog lKeysSR :=
  { mixed := by kernel_rfl,
    f7 := ⟨Tryz.f96.name, by decide, by kernel_rfl⟩,
    f10 := ⟨Tryz.f105.name, by decide, by kernel_rfl⟩,
    t0 := by kernel_rfl,
    a0 := fun _ => by kernel_rfl,
    z0 := fun _ => by kernel_rfl,
    v0 := fun _ => by kernel_rfl,
    t4 := by kernel_rfl,
    a4 := fun _ => by kernel_rfl,
    z4 := fun _ => by kernel_rfl,
    v4 := fun _ => by kernel_rfl,
    t23 := by kernel_rfl,
    a23 := fun _ => by kernel_rfl,
    z23 := fun _ => by kernel_rfl,
    v23 := fun _ => by kernel_rfl,
    t26 := by kernel_rfl,
    a26 := fun _ => by kernel_rfl,
    z26 := fun _ => by kernel_rfl,
    v26 := fun _ => by kernel_rfl,
    t27 := by kernel_rfl,
    a27 := fun _ => by kernel_rfl,
    z27 := fun _ => by kernel_rfl,
    v27 := fun _ => by kernel_rfl,
    t28 := by kernel_rfl,
    a28 := fun _ => by kernel_rfl,
    z28 := fun _ => by kernel_rfl,
    v28 := fun _ => by kernel_rfl,
    t33 := by kernel_rfl,
    a33 := fun _ => by kernel_rfl,
    z33 := fun _ => by kernel_rfl,
    v33 := fun _ => by kernel_rfl }

def lSortedSR : Go.Shelf.Ren := ⟨fun
  | 6 => 95
  | 8 => 103
  | 9 => 104
  | 11 => 109
  | 13 => 108
  | 12 => 110
  | 23 => 120
  | 24 => 121
  | 14 => 122
  | 15 => 123
  | 16 => 124
  | 17 => 125
  | 18 => 126
  | 19 => 127
  | 20 => 128
  | 21 => 129
  | 22 => 130
  | 25 => 137
  | 26 => 132
  | 27 => 133
  | 28 => 138
  | 29 => 139
  | 30 => 140
  | 31 => 142
  | k => k, fun
  | 26 => 9
  | 28 => 127
  | 24 => 124
  | 0 => 0
  | 3 => 3
  | 37 => 137
  | 48 => 150
  | 50 => 152
  | 4 => 4
  | 40 => 143
  | 39 => 142
  | 45 => 98
  | 5 => 5
  | 9 => 9
  | 51 => 159
  | 55 => 163
  | 57 => 167
  | 58 => 168
  | 33 => 47
  | k => k, fun k => k⟩

set_option maxRecDepth 100000 in
theorem lSortedS : Go.Proofs.SlLaysZ.n6 Tryz.prog lSortedSR :=
  { mixed := by kernel_rfl,
    f6 := ⟨Tryz.f95.name, by decide, by kernel_rfl⟩,
    f8 := ⟨Tryz.f103.name, by decide, by kernel_rfl⟩,
    f11 := ⟨Tryz.f109.name, by decide, by kernel_rfl⟩,
    t0 := by kernel_rfl,
    a0 := fun _ => by kernel_rfl,
    z0 := fun _ => by kernel_rfl,
    v0 := fun _ => by kernel_rfl,
    t24 := by kernel_rfl,
    a24 := fun _ => by kernel_rfl,
    z24 := fun _ => by kernel_rfl,
    v24 := fun _ => by kernel_rfl,
    t26 := by kernel_rfl,
    a26 := fun _ => by kernel_rfl,
    z26 := fun _ => by kernel_rfl,
    v26 := fun _ => by kernel_rfl,
    t28 := by kernel_rfl,
    a28 := fun _ => by kernel_rfl,
    z28 := fun _ => by kernel_rfl,
    v28 := fun _ => by kernel_rfl,
    i26 := by kernel_rfl }

def lSortSR : Go.Shelf.Ren := ⟨fun
  | 6 => 104
  | 8 => 108
  | 9 => 110
  | 19 => 120
  | 20 => 121
  | 21 => 122
  | 22 => 123
  | 23 => 124
  | 24 => 125
  | 25 => 126
  | 26 => 127
  | 27 => 128
  | 28 => 129
  | 29 => 130
  | 36 => 137
  | 31 => 132
  | 32 => 133
  | 37 => 138
  | 38 => 139
  | 39 => 140
  | 41 => 142
  | k => k, fun
  | 27 => 124
  | 29 => 9
  | 3 => 3
  | 32 => 137
  | 26 => 124
  | 0 => 0
  | 44 => 150
  | 46 => 152
  | 4 => 4
  | 36 => 143
  | 35 => 142
  | 41 => 98
  | 5 => 5
  | 9 => 9
  | 53 => 159
  | 57 => 163
  | 63 => 167
  | 64 => 168
  | k => k, fun k => k⟩

set_option maxRecDepth 100000 in
theorem lSortS : Go.Proofs.SlLaysM.n6 Tryz.prog lSortSR :=
  { mixed := by kernel_rfl,
    f6 := ⟨Tryz.f104.name, by decide, by kernel_rfl⟩,
    f8 := by kernel_rfl,
    f9 := ⟨Tryz.f110.name, by decide, by kernel_rfl⟩,
    f19 := by kernel_rfl,
    f20 := by kernel_rfl,
    f21 := ⟨Tryz.f122.name, by decide, by kernel_rfl⟩,
    f22 := ⟨Tryz.f123.name, by decide, by kernel_rfl⟩,
    f23 := ⟨Tryz.f124.name, by decide, by kernel_rfl⟩,
    f24 := ⟨Tryz.f125.name, by decide, by kernel_rfl⟩,
    f25 := ⟨Tryz.f126.name, by decide, by kernel_rfl⟩,
    f26 := ⟨Tryz.f127.name, by decide, by kernel_rfl⟩,
    f27 := ⟨Tryz.f128.name, by decide, by kernel_rfl⟩,
    f28 := ⟨Tryz.f129.name, by decide, by kernel_rfl⟩,
    f29 := ⟨Tryz.f130.name, by decide, by kernel_rfl⟩,
    f31 := by kernel_rfl,
    f32 := by kernel_rfl,
    f36 := ⟨Tryz.f137.name, by decide, by kernel_rfl⟩,
    f37 := ⟨Tryz.f138.name, by decide, by kernel_rfl⟩,
    f38 := ⟨Tryz.f139.name, by decide, by kernel_rfl⟩,
    f39 := ⟨Tryz.f140.name, by decide, by kernel_rfl⟩,
    f41 := ⟨Tryz.f142.name, by decide, by kernel_rfl⟩,
    t0 := by kernel_rfl,
    a0 := fun _ => by kernel_rfl,
    z0 := fun _ => by kernel_rfl,
    v0 := fun _ => by kernel_rfl,
    t3 := by kernel_rfl,
    a3 := fun _ => by kernel_rfl,
    z3 := fun _ => by kernel_rfl,
    v3 := fun _ => by kernel_rfl,
    t4 := by kernel_rfl,
    a4 := fun _ => by kernel_rfl,
    z4 := fun _ => by kernel_rfl,
    v4 := fun _ => by kernel_rfl,
    t5 := by kernel_rfl,
    a5 := fun _ => by kernel_rfl,
    z5 := fun _ => by kernel_rfl,
    v5 := fun _ => by kernel_rfl,
    t9 := by kernel_rfl,
    a9 := fun _ => by kernel_rfl,
    z9 := fun _ => by kernel_rfl,
    v9 := fun _ => by kernel_rfl,
    t26 := by kernel_rfl,
    a26 := fun _ => by kernel_rfl,
    z26 := fun _ => by kernel_rfl,
    v26 := fun _ => by kernel_rfl,
    t27 := by kernel_rfl,
    a27 := fun _ => by kernel_rfl,
    z27 := fun _ => by kernel_rfl,
    v27 := fun _ => by kernel_rfl,
    t29 := by kernel_rfl,
    a29 := fun _ => by kernel_rfl,
    z29 := fun _ => by kernel_rfl,
    v29 := fun _ => by kernel_rfl,
    t32 := by kernel_rfl,
    a32 := fun _ => by kernel_rfl,
    z32 := fun _ => by kernel_rfl,
    v32 := fun _ => by kernel_rfl,
    t35 := by kernel_rfl,
    a35 := fun _ => by kernel_rfl,
    z35 := fun _ => by kernel_rfl,
    v35 := fun _ => by kernel_rfl,
    t36 := by kernel_rfl,
    a36 := fun _ => by kernel_rfl,
    z36 := fun _ => by kernel_rfl,
    v36 := fun _ => by kernel_rfl,
    t41 := by kernel_rfl,
    a41 := fun _ => by kernel_rfl,
    z41 := fun _ => by kernel_rfl,
    v41 := fun _ => by kernel_rfl,
    t44 := by kernel_rfl,
    a44 := fun _ => by kernel_rfl,
    z44 := fun _ => by kernel_rfl,
    v44 := fun _ => by kernel_rfl,
    t46 := by kernel_rfl,
    a46 := fun _ => by kernel_rfl,
    z46 := fun _ => by kernel_rfl,
    v46 := fun _ => by kernel_rfl,
    t53 := by kernel_rfl,
    a53 := fun _ => by kernel_rfl,
    z53 := fun _ => by kernel_rfl,
    v53 := fun _ => by kernel_rfl,
    t57 := by kernel_rfl,
    a57 := fun _ => by kernel_rfl,
    z57 := fun _ => by kernel_rfl,
    v57 := fun _ => by kernel_rfl,
    t63 := by kernel_rfl,
    a63 := fun _ => by kernel_rfl,
    z63 := fun _ => by kernel_rfl,
    v63 := fun _ => by kernel_rfl,
    t64 := by kernel_rfl,
    a64 := fun _ => by kernel_rfl,
    z64 := fun _ => by kernel_rfl,
    v64 := fun _ => by kernel_rfl }

end Go.Proofs.YtiogjmchbpmdpabGreat
