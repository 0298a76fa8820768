/- The shelf's layings on slices.Sorted(maps.Keys(m)), in plain words. -/
import Derived.Shelf.SlIter.Nil
import Derived.Shelf.SlIterI.Nil
import Derived.Shelf.SlIterI.Sorted
import Derived.Shelf.SortM.Plain
import Derived.Shelf.SortM.SortNone
import Derived.Test.YtmknplpcpmkhiaaGreatRows
namespace Go.Proofs.YtmknplpcpmkhiaaGreat
open Go.RowKit Go.Maps Go.Sort Go.Shelf
set_option linter.unusedVariables false

def lKeysIR : Go.Shelf.Ren := ⟨fun
  | 7 => 55
  | 10 => 103
  | k => k, fun
  | 23 => 93
  | 26 => 3
  | 3 => 94
  | 28 => 91
  | 0 => 0
  | 27 => 90
  | 33 => 141
  | 4 => 4
  | k => k, fun k => k⟩

set_option maxRecDepth 100000 in
theorem lKeysI : Go.Proofs.SlLaysZI.n7 Tryz.prog lKeysIR :=
  { mixed := by kernel_rfl,
    f7 := ⟨Tryz.f55.name, by decide, by kernel_rfl⟩,
    f10 := ⟨Tryz.f103.name, by decide, by kernel_rfl⟩,
    t0 := by kernel_rfl,
    a0 := fun _ => by kernel_rfl,
    z0 := fun _ => by kernel_rfl,
    v0 := fun _ => by kernel_rfl,
    t4 := by kernel_rfl,
    a4 := fun _ => by kernel_rfl,
    z4 := fun _ => by kernel_rfl,
    v4 := fun _ => by kernel_rfl,
    t23 := by kernel_rfl,
    a23 := fun _ => by kernel_rfl,
    z23 := fun _ => by kernel_rfl,
    v23 := fun _ => by kernel_rfl,
    t26 := by kernel_rfl,
    a26 := fun _ => by kernel_rfl,
    z26 := fun _ => by kernel_rfl,
    v26 := fun _ => by kernel_rfl,
    t27 := by kernel_rfl,
    a27 := fun _ => by kernel_rfl,
    z27 := fun _ => by kernel_rfl,
    v27 := fun _ => by kernel_rfl,
    t28 := by kernel_rfl,
    a28 := fun _ => by kernel_rfl,
    z28 := fun _ => by kernel_rfl,
    v28 := fun _ => by kernel_rfl,
    t33 := by kernel_rfl,
    a33 := fun _ => by kernel_rfl,
    z33 := fun _ => by kernel_rfl,
    v33 := fun _ => by kernel_rfl }

def lSortedIR : Go.Shelf.Ren := ⟨fun
  | 6 => 54
  | 8 => 101
  | 9 => 102
  | 11 => 126
  | 13 => 128
  | 12 => 127
  | 23 => 141
  | 24 => 142
  | 14 => 132
  | 15 => 133
  | 16 => 134
  | 17 => 135
  | 18 => 136
  | 19 => 137
  | 20 => 138
  | 21 => 139
  | 22 => 140
  | 25 => 152
  | 26 => 153
  | 27 => 154
  | 28 => 155
  | 29 => 156
  | 30 => 157
  | 31 => 162
  | k => k, fun
  | 26 => 3
  | 28 => 91
  | 24 => 38
  | 0 => 0
  | 3 => 3
  | 37 => 160
  | 48 => 180
  | 50 => 182
  | 4 => 4
  | 40 => 173
  | 39 => 172
  | 45 => 131
  | 5 => 5
  | 9 => 9
  | 51 => 188
  | 55 => 192
  | 57 => 196
  | 58 => 197
  | 33 => 141
  | k => k, fun k => k⟩

set_option maxRecDepth 100000 in
theorem lSortedI : Go.Proofs.SlLaysZI.n6 Tryz.prog lSortedIR :=
  { mixed := by kernel_rfl,
    f6 := ⟨Tryz.f54.name, by decide, by kernel_rfl⟩,
    f8 := ⟨Tryz.f101.name, by decide, by kernel_rfl⟩,
    f11 := ⟨Tryz.f126.name, by decide, by kernel_rfl⟩,
    t0 := by kernel_rfl,
    a0 := fun _ => by kernel_rfl,
    z0 := fun _ => by kernel_rfl,
    v0 := fun _ => by kernel_rfl,
    t24 := by kernel_rfl,
    a24 := fun _ => by kernel_rfl,
    z24 := fun _ => by kernel_rfl,
    v24 := fun _ => by kernel_rfl,
    t26 := by kernel_rfl,
    a26 := fun _ => by kernel_rfl,
    z26 := fun _ => by kernel_rfl,
    v26 := fun _ => by kernel_rfl,
    t28 := by kernel_rfl,
    a28 := fun _ => by kernel_rfl,
    z28 := fun _ => by kernel_rfl,
    v28 := fun _ => by kernel_rfl,
    i26 := by kernel_rfl }

def lSortIR : Go.Shelf.Ren := ⟨fun
  | 5 => 102
  | 8 => 128
  | 7 => 127
  | 19 => 141
  | 20 => 142
  | 10 => 132
  | 11 => 133
  | 12 => 134
  | 13 => 135
  | 14 => 136
  | 15 => 137
  | 16 => 138
  | 17 => 139
  | 18 => 140
  | 30 => 152
  | 31 => 153
  | 32 => 154
  | 33 => 155
  | 34 => 156
  | 35 => 157
  | 40 => 162
  | k => k, fun
  | 23 => 38
  | 25 => 3
  | 3 => 3
  | 32 => 160
  | 22 => 38
  | 0 => 0
  | 44 => 180
  | 46 => 182
  | 4 => 4
  | 36 => 173
  | 35 => 172
  | 41 => 131
  | 5 => 5
  | 9 => 9
  | 53 => 188
  | 57 => 192
  | 63 => 196
  | 64 => 197
  | k => k, fun k => k⟩

set_option maxRecDepth 100000 in
theorem lSortI : Go.Proofs.SlLaysM.n5 Tryz.prog lSortIR :=
  { mixed := by kernel_rfl,
    f5 := ⟨Tryz.f102.name, by decide, by kernel_rfl⟩,
    f7 := ⟨Tryz.f127.name, by decide, by kernel_rfl⟩,
    f8 := by kernel_rfl,
    f10 := ⟨Tryz.f132.name, by decide, by kernel_rfl⟩,
    f11 := ⟨Tryz.f133.name, by decide, by kernel_rfl⟩,
    f12 := ⟨Tryz.f134.name, by decide, by kernel_rfl⟩,
    f13 := ⟨Tryz.f135.name, by decide, by kernel_rfl⟩,
    f14 := ⟨Tryz.f136.name, by decide, by kernel_rfl⟩,
    f15 := ⟨Tryz.f137.name, by decide, by kernel_rfl⟩,
    f16 := ⟨Tryz.f138.name, by decide, by kernel_rfl⟩,
    f17 := ⟨Tryz.f139.name, by decide, by kernel_rfl⟩,
    f18 := ⟨Tryz.f140.name, by decide, by kernel_rfl⟩,
    f19 := by kernel_rfl,
    f20 := by kernel_rfl,
    f30 := ⟨Tryz.f152.name, by decide, by kernel_rfl⟩,
    f31 := by kernel_rfl,
    f32 := by kernel_rfl,
    f33 := ⟨Tryz.f155.name, by decide, by kernel_rfl⟩,
    f34 := ⟨Tryz.f156.name, by decide, by kernel_rfl⟩,
    f35 := ⟨Tryz.f157.name, by decide, by kernel_rfl⟩,
    f40 := ⟨Tryz.f162.name, by decide, by kernel_rfl⟩,
    t0 := by kernel_rfl,
    a0 := fun _ => by kernel_rfl,
    z0 := fun _ => by kernel_rfl,
    v0 := fun _ => by kernel_rfl,
    t3 := by kernel_rfl,
    a3 := fun _ => by kernel_rfl,
    z3 := fun _ => by kernel_rfl,
    v3 := fun _ => by kernel_rfl,
    t4 := by kernel_rfl,
    a4 := fun _ => by kernel_rfl,
    z4 := fun _ => by kernel_rfl,
    v4 := fun _ => by kernel_rfl,
    t5 := by kernel_rfl,
    a5 := fun _ => by kernel_rfl,
    z5 := fun _ => by kernel_rfl,
    v5 := fun _ => by kernel_rfl,
    t9 := by kernel_rfl,
    a9 := fun _ => by kernel_rfl,
    z9 := fun _ => by kernel_rfl,
    v9 := fun _ => by kernel_rfl,
    t22 := by kernel_rfl,
    a22 := fun _ => by kernel_rfl,
    z22 := fun _ => by kernel_rfl,
    v22 := fun _ => by kernel_rfl,
    t23 := by kernel_rfl,
    a23 := fun _ => by kernel_rfl,
    z23 := fun _ => by kernel_rfl,
    v23 := fun _ => by kernel_rfl,
    t25 := by kernel_rfl,
    a25 := fun _ => by kernel_rfl,
    z25 := fun _ => by kernel_rfl,
    v25 := fun _ => by kernel_rfl,
    t32 := by kernel_rfl,
    a32 := fun _ => by kernel_rfl,
    z32 := fun _ => by kernel_rfl,
    v32 := fun _ => by kernel_rfl,
    t35 := by kernel_rfl,
    a35 := fun _ => by kernel_rfl,
    z35 := fun _ => by kernel_rfl,
    v35 := fun _ => by kernel_rfl,
    t36 := by kernel_rfl,
    a36 := fun _ => by kernel_rfl,
    z36 := fun _ => by kernel_rfl,
    v36 := fun _ => by kernel_rfl,
    t41 := by kernel_rfl,
    a41 := fun _ => by kernel_rfl,
    z41 := fun _ => by kernel_rfl,
    v41 := fun _ => by kernel_rfl,
    t44 := by kernel_rfl,
    a44 := fun _ => by kernel_rfl,
    z44 := fun _ => by kernel_rfl,
    v44 := fun _ => by kernel_rfl,
    t46 := by kernel_rfl,
    a46 := fun _ => by kernel_rfl,
    z46 := fun _ => by kernel_rfl,
    v46 := fun _ => by kernel_rfl,
    t53 := by kernel_rfl,
    a53 := fun _ => by kernel_rfl,
    z53 := fun _ => by kernel_rfl,
    v53 := fun _ => by kernel_rfl,
    t57 := by kernel_rfl,
    a57 := fun _ => by kernel_rfl,
    z57 := fun _ => by kernel_rfl,
    v57 := fun _ => by kernel_rfl,
    t63 := by kernel_rfl,
    a63 := fun _ => by kernel_rfl,
    z63 := fun _ => by kernel_rfl,
    v63 := fun _ => by kernel_rfl,
    t64 := by kernel_rfl,
    a64 := fun _ => by kernel_rfl,
    z64 := fun _ => by kernel_rfl,
    v64 := fun _ => by kernel_rfl }

def lKeysSR : Go.Shelf.Ren := ⟨fun
  | 7 => 67
  | 10 => 112
  | k => k, fun
  | 23 => 95
  | 26 => 9
  | 3 => 3
  | 28 => 112
  | 0 => 0
  | 27 => 111
  | 33 => 71
  | 4 => 4
  | k => k, fun k => k⟩

set_option maxRecDepth 100000 in
theorem lKeysS : Go.Proofs.SlLaysZ.n7 Tryz.prog lKeysSR :=
  { mixed := by kernel_rfl,
    f7 := ⟨Tryz.f67.name, by decide, by kernel_rfl⟩,
    f10 := ⟨Tryz.f112.name, by decide, by kernel_rfl⟩,
    t0 := by kernel_rfl,
    a0 := fun _ => by kernel_rfl,
    z0 := fun _ => by kernel_rfl,
    v0 := fun _ => by kernel_rfl,
    t4 := by kernel_rfl,
    a4 := fun _ => by kernel_rfl,
    z4 := fun _ => by kernel_rfl,
    v4 := fun _ => by kernel_rfl,
    t23 := by kernel_rfl,
    a23 := fun _ => by kernel_rfl,
    z23 := fun _ => by kernel_rfl,
    v23 := fun _ => by kernel_rfl,
    t26 := by kernel_rfl,
    a26 := fun _ => by kernel_rfl,
    z26 := fun _ => by kernel_rfl,
    v26 := fun _ => by kernel_rfl,
    t27 := by kernel_rfl,
    a27 := fun _ => by kernel_rfl,
    z27 := fun _ => by kernel_rfl,
    v27 := fun _ => by kernel_rfl,
    t28 := by kernel_rfl,
    a28 := fun _ => by kernel_rfl,
    z28 := fun _ => by kernel_rfl,
    v28 := fun _ => by kernel_rfl,
    t33 := by kernel_rfl,
    a33 := fun _ => by kernel_rfl,
    z33 := fun _ => by kernel_rfl,
    v33 := fun _ => by kernel_rfl }

def lSortedSR : Go.Shelf.Ren := ⟨fun
  | 6 => 66
  | 8 => 110
  | 9 => 111
  | 11 => 130
  | 13 => 128
  | 12 => 131
  | 23 => 141
  | 24 => 142
  | 14 => 143
  | 15 => 144
  | 16 => 145
  | 17 => 146
  | 18 => 147
  | 19 => 148
  | 20 => 149
  | 21 => 150
  | 22 => 151
  | 25 => 158
  | 26 => 153
  | 27 => 154
  | 28 => 159
  | 29 => 160
  | 30 => 161
  | 31 => 163
  | k => k, fun
  | 26 => 9
  | 28 => 112
  | 24 => 52
  | 0 => 0
  | 3 => 3
  | 37 => 160
  | 48 => 180
  | 50 => 182
  | 4 => 4
  | 40 => 173
  | 39 => 172
  | 45 => 131
  | 5 => 5
  | 9 => 9
  | 51 => 188
  | 55 => 192
  | 57 => 196
  | 58 => 197
  | 33 => 71
  | k => k, fun k => k⟩

set_option maxRecDepth 100000 in
theorem lSortedS : Go.Proofs.SlLaysZ.n6 Tryz.prog lSortedSR :=
  { mixed := by kernel_rfl,
    f6 := ⟨Tryz.f66.name, by decide, by kernel_rfl⟩,
    f8 := ⟨Tryz.f110.name, by decide, by kernel_rfl⟩,
    f11 := ⟨Tryz.f130.name, by decide, by kernel_rfl⟩,
    t0 := by kernel_rfl,
    a0 := fun _ => by kernel_rfl,
    z0 := fun _ => by kernel_rfl,
    v0 := fun _ => by kernel_rfl,
    t24 := by kernel_rfl,
    a24 := fun _ => by kernel_rfl,
    z24 := fun _ => by kernel_rfl,
    v24 := fun _ => by kernel_rfl,
    t26 := by kernel_rfl,
    a26 := fun _ => by kernel_rfl,
    z26 := fun _ => by kernel_rfl,
    v26 := fun _ => by kernel_rfl,
    t28 := by kernel_rfl,
    a28 := fun _ => by kernel_rfl,
    z28 := fun _ => by kernel_rfl,
    v28 := fun _ => by kernel_rfl,
    i26 := by kernel_rfl }

def lSortSR : Go.Shelf.Ren := ⟨fun
  | 6 => 111
  | 8 => 128
  | 9 => 131
  | 19 => 141
  | 20 => 142
  | 21 => 143
  | 22 => 144
  | 23 => 145
  | 24 => 146
  | 25 => 147
  | 26 => 148
  | 27 => 149
  | 28 => 150
  | 29 => 151
  | 36 => 158
  | 31 => 153
  | 32 => 154
  | 37 => 159
  | 38 => 160
  | 39 => 161
  | 41 => 163
  | k => k, fun
  | 27 => 52
  | 29 => 9
  | 3 => 3
  | 32 => 160
  | 26 => 52
  | 0 => 0
  | 44 => 180
  | 46 => 182
  | 4 => 4
  | 36 => 173
  | 35 => 172
  | 41 => 131
  | 5 => 5
  | 9 => 9
  | 53 => 188
  | 57 => 192
  | 63 => 196
  | 64 => 197
  | k => k, fun k => k⟩

set_option maxRecDepth 100000 in
theorem lSortS : Go.Proofs.SlLaysM.n6 Tryz.prog lSortSR :=
  { mixed := by kernel_rfl,
    f6 := ⟨Tryz.f111.name, by decide, by kernel_rfl⟩,
    f8 := by kernel_rfl,
    f9 := ⟨Tryz.f131.name, by decide, by kernel_rfl⟩,
    f19 := by kernel_rfl,
    f20 := by kernel_rfl,
    f21 := ⟨Tryz.f143.name, by decide, by kernel_rfl⟩,
    f22 := ⟨Tryz.f144.name, by decide, by kernel_rfl⟩,
    f23 := ⟨Tryz.f145.name, by decide, by kernel_rfl⟩,
    f24 := ⟨Tryz.f146.name, by decide, by kernel_rfl⟩,
    f25 := ⟨Tryz.f147.name, by decide, by kernel_rfl⟩,
    f26 := ⟨Tryz.f148.name, by decide, by kernel_rfl⟩,
    f27 := ⟨Tryz.f149.name, by decide, by kernel_rfl⟩,
    f28 := ⟨Tryz.f150.name, by decide, by kernel_rfl⟩,
    f29 := ⟨Tryz.f151.name, by decide, by kernel_rfl⟩,
    f31 := by kernel_rfl,
    f32 := by kernel_rfl,
    f36 := ⟨Tryz.f158.name, by decide, by kernel_rfl⟩,
    f37 := ⟨Tryz.f159.name, by decide, by kernel_rfl⟩,
    f38 := ⟨Tryz.f160.name, by decide, by kernel_rfl⟩,
    f39 := ⟨Tryz.f161.name, by decide, by kernel_rfl⟩,
    f41 := ⟨Tryz.f163.name, by decide, by kernel_rfl⟩,
    t0 := by kernel_rfl,
    a0 := fun _ => by kernel_rfl,
    z0 := fun _ => by kernel_rfl,
    v0 := fun _ => by kernel_rfl,
    t3 := by kernel_rfl,
    a3 := fun _ => by kernel_rfl,
    z3 := fun _ => by kernel_rfl,
    v3 := fun _ => by kernel_rfl,
    t4 := by kernel_rfl,
    a4 := fun _ => by kernel_rfl,
    z4 := fun _ => by kernel_rfl,
    v4 := fun _ => by kernel_rfl,
    t5 := by kernel_rfl,
    a5 := fun _ => by kernel_rfl,
    z5 := fun _ => by kernel_rfl,
    v5 := fun _ => by kernel_rfl,
    t9 := by kernel_rfl,
    a9 := fun _ => by kernel_rfl,
    z9 := fun _ => by kernel_rfl,
    v9 := fun _ => by kernel_rfl,
    t26 := by kernel_rfl,
    a26 := fun _ => by kernel_rfl,
    z26 := fun _ => by kernel_rfl,
    v26 := fun _ => by kernel_rfl,
    t27 := by kernel_rfl,
    a27 := fun _ => by kernel_rfl,
    z27 := fun _ => by kernel_rfl,
    v27 := fun _ => by kernel_rfl,
    t29 := by kernel_rfl,
    a29 := fun _ => by kernel_rfl,
    z29 := fun _ => by kernel_rfl,
    v29 := fun _ => by kernel_rfl,
    t32 := by kernel_rfl,
    a32 := fun _ => by kernel_rfl,
    z32 := fun _ => by kernel_rfl,
    v32 := fun _ => by kernel_rfl,
    t35 := by kernel_rfl,
    a35 := fun _ => by kernel_rfl,
    z35 := fun _ => by kernel_rfl,
    v35 := fun _ => by kernel_rfl,
    t36 := by kernel_rfl,
    a36 := fun _ => by kernel_rfl,
    z36 := fun _ => by kernel_rfl,
    v36 := fun _ => by kernel_rfl,
    t41 := by kernel_rfl,
    a41 := fun _ => by kernel_rfl,
    z41 := fun _ => by kernel_rfl,
    v41 := fun _ => by kernel_rfl,
    t44 := by kernel_rfl,
    a44 := fun _ => by kernel_rfl,
    z44 := fun _ => by kernel_rfl,
    v44 := fun _ => by kernel_rfl,
    t46 := by kernel_rfl,
    a46 := fun _ => by kernel_rfl,
    z46 := fun _ => by kernel_rfl,
    v46 := fun _ => by kernel_rfl,
    t53 := by kernel_rfl,
    a53 := fun _ => by kernel_rfl,
    z53 := fun _ => by kernel_rfl,
    v53 := fun _ => by kernel_rfl,
    t57 := by kernel_rfl,
    a57 := fun _ => by kernel_rfl,
    z57 := fun _ => by kernel_rfl,
    v57 := fun _ => by kernel_rfl,
    t63 := by kernel_rfl,
    a63 := fun _ => by kernel_rfl,
    z63 := fun _ => by kernel_rfl,
    v63 := fun _ => by kernel_rfl,
    t64 := by kernel_rfl,
    a64 := fun _ => by kernel_rfl,
    z64 := fun _ => by kernel_rfl,
    v64 := fun _ => by kernel_rfl }

end Go.Proofs.YtmknplpcpmkhiaaGreat
