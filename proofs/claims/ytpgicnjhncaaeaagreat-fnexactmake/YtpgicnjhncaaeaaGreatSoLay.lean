/- The shelf's layings on slices.Sorted(maps.Keys(m)), in plain words. -/
import Derived.Shelf.SlIter.Nil
import Derived.Shelf.SlIterI.Nil
import Derived.Shelf.SlIterI.Sorted
import Derived.Shelf.SortM.Plain
import Derived.Shelf.SortM.SortNone
import Derived.Test.YtpgicnjhncaaeaaGreatRows
namespace Go.Proofs.YtpgicnjhncaaeaaGreat
open Go.RowKit Go.Maps Go.Sort Go.Shelf
set_option linter.unusedVariables false

def lKeysIR : Go.Shelf.Ren := ⟨fun
  | 7 => 57
  | 10 => 108
  | k => k, fun
  | 23 => 91
  | 26 => 3
  | 3 => 92
  | 28 => 89
  | 0 => 0
  | 27 => 88
  | 33 => 140
  | 4 => 4
  | k => k, fun k => k⟩

set_option maxRecDepth 100000 in
theorem lKeysI : Go.Proofs.SlLaysZI.n7 Tryz.prog lKeysIR :=
  { mixed := by kernel_rfl,
    f7 := ⟨Tryz.f57.name, by decide, by kernel_rfl⟩,
    f10 := ⟨Tryz.f108.name, by decide, by kernel_rfl⟩,
    t0 := by kernel_rfl,
    a0 := fun _ => by kernel_rfl,
    z0 := fun _ => by kernel_rfl,
    v0 := fun _ => by kernel_rfl,
    t4 := by kernel_rfl,
    a4 := fun _ => by kernel_rfl,
    z4 := fun _ => by kernel_rfl,
    v4 := fun _ => by kernel_rfl,
    t23 := by kernel_rfl,
    a23 := fun _ => by kernel_rfl,
    z23 := fun _ => by kernel_rfl,
    v23 := fun _ => by kernel_rfl,
    t26 := by kernel_rfl,
    a26 := fun _ => by kernel_rfl,
    z26 := fun _ => by kernel_rfl,
    v26 := fun _ => by kernel_rfl,
    t27 := by kernel_rfl,
    a27 := fun _ => by kernel_rfl,
    z27 := fun _ => by kernel_rfl,
    v27 := fun _ => by kernel_rfl,
    t28 := by kernel_rfl,
    a28 := fun _ => by kernel_rfl,
    z28 := fun _ => by kernel_rfl,
    v28 := fun _ => by kernel_rfl,
    t33 := by kernel_rfl,
    a33 := fun _ => by kernel_rfl,
    z33 := fun _ => by kernel_rfl,
    v33 := fun _ => by kernel_rfl }

def lSortedIR : Go.Shelf.Ren := ⟨fun
  | 6 => 56
  | 8 => 106
  | 9 => 107
  | 11 => 131
  | 13 => 133
  | 12 => 132
  | 23 => 146
  | 24 => 147
  | 14 => 137
  | 15 => 138
  | 16 => 139
  | 17 => 140
  | 18 => 141
  | 19 => 142
  | 20 => 143
  | 21 => 144
  | 22 => 145
  | 25 => 157
  | 26 => 158
  | 27 => 159
  | 28 => 160
  | 29 => 161
  | 30 => 162
  | 31 => 167
  | k => k, fun
  | 26 => 3
  | 28 => 89
  | 24 => 38
  | 0 => 0
  | 3 => 3
  | 37 => 160
  | 48 => 179
  | 50 => 181
  | 4 => 4
  | 40 => 172
  | 39 => 171
  | 45 => 130
  | 5 => 5
  | 9 => 9
  | 51 => 187
  | 55 => 191
  | 57 => 195
  | 58 => 196
  | 33 => 140
  | k => k, fun k => k⟩

set_option maxRecDepth 100000 in
theorem lSortedI : Go.Proofs.SlLaysZI.n6 Tryz.prog lSortedIR :=
  { mixed := by kernel_rfl,
    f6 := ⟨Tryz.f56.name, by decide, by kernel_rfl⟩,
    f8 := ⟨Tryz.f106.name, by decide, by kernel_rfl⟩,
    f11 := ⟨Tryz.f131.name, by decide, by kernel_rfl⟩,
    t0 := by kernel_rfl,
    a0 := fun _ => by kernel_rfl,
    z0 := fun _ => by kernel_rfl,
    v0 := fun _ => by kernel_rfl,
    t24 := by kernel_rfl,
    a24 := fun _ => by kernel_rfl,
    z24 := fun _ => by kernel_rfl,
    v24 := fun _ => by kernel_rfl,
    t26 := by kernel_rfl,
    a26 := fun _ => by kernel_rfl,
    z26 := fun _ => by kernel_rfl,
    v26 := fun _ => by kernel_rfl,
    t28 := by kernel_rfl,
    a28 := fun _ => by kernel_rfl,
    z28 := fun _ => by kernel_rfl,
    v28 := fun _ => by kernel_rfl,
    i26 := by kernel_rfl }

def lSortIR : Go.Shelf.Ren := ⟨fun
  | 5 => 107
  | 8 => 133
  | 7 => 132
  | 19 => 146
  | 20 => 147
  | 10 => 137
  | 11 => 138
  | 12 => 139
  | 13 => 140
  | 14 => 141
  | 15 => 142
  | 16 => 143
  | 17 => 144
  | 18 => 145
  | 30 => 157
  | 31 => 158
  | 32 => 159
  | 33 => 160
  | 34 => 161
  | 35 => 162
  | 40 => 167
  | k => k, fun
  | 23 => 38
  | 25 => 3
  | 3 => 3
  | 32 => 160
  | 22 => 38
  | 0 => 0
  | 44 => 179
  | 46 => 181
  | 4 => 4
  | 36 => 172
  | 35 => 171
  | 41 => 130
  | 5 => 5
  | 9 => 9
  | 53 => 187
  | 57 => 191
  | 63 => 195
  | 64 => 196
  | k => k, fun k => k⟩

set_option maxRecDepth 100000 in
theorem lSortI : Go.Proofs.SlLaysM.n5 Tryz.prog lSortIR :=
  { mixed := by kernel_rfl,
    f5 := ⟨Tryz.f107.name, by decide, by kernel_rfl⟩,
    f7 := ⟨Tryz.f132.name, by decide, by kernel_rfl⟩,
    f8 := by kernel_rfl,
    f10 := ⟨Tryz.f137.name, by decide, by kernel_rfl⟩,
    f11 := ⟨Tryz.f138.name, by decide, by kernel_rfl⟩,
    f12 := ⟨Tryz.f139.name, by decide, by kernel_rfl⟩,
    f13 := ⟨Tryz.f140.name, by decide, by kernel_rfl⟩,
    f14 := ⟨Tryz.f141.name, by decide, by kernel_rfl⟩,
    f15 := ⟨Tryz.f142.name, by decide, by kernel_rfl⟩,
    f16 := ⟨Tryz.f143.name, by decide, by kernel_rfl⟩,
    f17 := ⟨Tryz.f144.name, by decide, by kernel_rfl⟩,
    f18 := ⟨Tryz.f145.name, by decide, by kernel_rfl⟩,
    f19 := by kernel_rfl,
    f20 := by kernel_rfl,
    f30 := ⟨Tryz.f157.name, by decide, by kernel_rfl⟩,
    f31 := by kernel_rfl,
    f32 := by kernel_rfl,
    f33 := ⟨Tryz.f160.name, by decide, by kernel_rfl⟩,
    f34 := ⟨Tryz.f161.name, by decide, by kernel_rfl⟩,
    f35 := ⟨Tryz.f162.name, by decide, by kernel_rfl⟩,
    f40 := ⟨Tryz.f167.name, by decide, by kernel_rfl⟩,
    t0 := by kernel_rfl,
    a0 := fun _ => by kernel_rfl,
    z0 := fun _ => by kernel_rfl,
    v0 := fun _ => by kernel_rfl,
    t3 := by kernel_rfl,
    a3 := fun _ => by kernel_rfl,
    z3 := fun _ => by kernel_rfl,
    v3 := fun _ => by kernel_rfl,
    t4 := by kernel_rfl,
    a4 := fun _ => by kernel_rfl,
    z4 := fun _ => by kernel_rfl,
    v4 := fun _ => by kernel_rfl,
    t5 := by kernel_rfl,
    a5 := fun _ => by kernel_rfl,
    z5 := fun _ => by kernel_rfl,
    v5 := fun _ => by kernel_rfl,
    t9 := by kernel_rfl,
    a9 := fun _ => by kernel_rfl,
    z9 := fun _ => by kernel_rfl,
    v9 := fun _ => by kernel_rfl,
    t22 := by kernel_rfl,
    a22 := fun _ => by kernel_rfl,
    z22 := fun _ => by kernel_rfl,
    v22 := fun _ => by kernel_rfl,
    t23 := by kernel_rfl,
    a23 := fun _ => by kernel_rfl,
    z23 := fun _ => by kernel_rfl,
    v23 := fun _ => by kernel_rfl,
    t25 := by kernel_rfl,
    a25 := fun _ => by kernel_rfl,
    z25 := fun _ => by kernel_rfl,
    v25 := fun _ => by kernel_rfl,
    t32 := by kernel_rfl,
    a32 := fun _ => by kernel_rfl,
    z32 := fun _ => by kernel_rfl,
    v32 := fun _ => by kernel_rfl,
    t35 := by kernel_rfl,
    a35 := fun _ => by kernel_rfl,
    z35 := fun _ => by kernel_rfl,
    v35 := fun _ => by kernel_rfl,
    t36 := by kernel_rfl,
    a36 := fun _ => by kernel_rfl,
    z36 := fun _ => by kernel_rfl,
    v36 := fun _ => by kernel_rfl,
    t41 := by kernel_rfl,
    a41 := fun _ => by kernel_rfl,
    z41 := fun _ => by kernel_rfl,
    v41 := fun _ => by kernel_rfl,
    t44 := by kernel_rfl,
    a44 := fun _ => by kernel_rfl,
    z44 := fun _ => by kernel_rfl,
    v44 := fun _ => by kernel_rfl,
    t46 := by kernel_rfl,
    a46 := fun _ => by kernel_rfl,
    z46 := fun _ => by kernel_rfl,
    v46 := fun _ => by kernel_rfl,
    t53 := by kernel_rfl,
    a53 := fun _ => by kernel_rfl,
    z53 := fun _ => by kernel_rfl,
    v53 := fun _ => by kernel_rfl,
    t57 := by kernel_rfl,
    a57 := fun _ => by kernel_rfl,
    z57 := fun _ => by kernel_rfl,
    v57 := fun _ => by kernel_rfl,
    t63 := by kernel_rfl,
    a63 := fun _ => by kernel_rfl,
    z63 := fun _ => by kernel_rfl,
    v63 := fun _ => by kernel_rfl,
    t64 := by kernel_rfl,
    a64 := fun _ => by kernel_rfl,
    z64 := fun _ => by kernel_rfl,
    v64 := fun _ => by kernel_rfl }

def lKeysSR : Go.Shelf.Ren := ⟨fun
  | 7 => 69
  | 10 => 117
  | k => k, fun
  | 23 => 93
  | 26 => 9
  | 3 => 3
  | 28 => 110
  | 0 => 0
  | 27 => 109
  | 33 => 69
  | 4 => 4
  | k => k, fun k => k⟩

set_option maxRecDepth 100000 in
theorem lKeysS : Go.Proofs.SlLaysZ.n7 Tryz.prog lKeysSR :=
  { mixed := by kernel_rfl,
    f7 := ⟨Tryz.f69.name, by decide, by kernel_rfl⟩,
    f10 := ⟨Tryz.f117.name, by decide, by kernel_rfl⟩,
    t0 := by kernel_rfl,
    a0 := fun _ => by kernel_rfl,
    z0 := fun _ => by kernel_rfl,
    v0 := fun _ => by kernel_rfl,
    t4 := by kernel_rfl,
    a4 := fun _ => by kernel_rfl,
    z4 := fun _ => by kernel_rfl,
    v4 := fun _ => by kernel_rfl,
    t23 := by kernel_rfl,
    a23 := fun _ => by kernel_rfl,
    z23 := fun _ => by kernel_rfl,
    v23 := fun _ => by kernel_rfl,
    t26 := by kernel_rfl,
    a26 := fun _ => by kernel_rfl,
    z26 := fun _ => by kernel_rfl,
    v26 := fun _ => by kernel_rfl,
    t27 := by kernel_rfl,
    a27 := fun _ => by kernel_rfl,
    z27 := fun _ => by kernel_rfl,
    v27 := fun _ => by kernel_rfl,
    t28 := by kernel_rfl,
    a28 := fun _ => by kernel_rfl,
    z28 := fun _ => by kernel_rfl,
    v28 := fun _ => by kernel_rfl,
    t33 := by kernel_rfl,
    a33 := fun _ => by kernel_rfl,
    z33 := fun _ => by kernel_rfl,
    v33 := fun _ => by kernel_rfl }

def lSortedSR : Go.Shelf.Ren := ⟨fun
  | 6 => 68
  | 8 => 115
  | 9 => 116
  | 11 => 135
  | 13 => 133
  | 12 => 136
  | 23 => 146
  | 24 => 147
  | 14 => 148
  | 15 => 149
  | 16 => 150
  | 17 => 151
  | 18 => 152
  | 19 => 153
  | 20 => 154
  | 21 => 155
  | 22 => 156
  | 25 => 163
  | 26 => 158
  | 27 => 159
  | 28 => 164
  | 29 => 165
  | 30 => 166
  | 31 => 168
  | k => k, fun
  | 26 => 9
  | 28 => 110
  | 24 => 52
  | 0 => 0
  | 3 => 3
  | 37 => 160
  | 48 => 179
  | 50 => 181
  | 4 => 4
  | 40 => 172
  | 39 => 171
  | 45 => 130
  | 5 => 5
  | 9 => 9
  | 51 => 187
  | 55 => 191
  | 57 => 195
  | 58 => 196
  | 33 => 69
  | k => k, fun k => k⟩

set_option maxRecDepth 100000 in
theorem lSortedS : Go.Proofs.SlLaysZ.n6 Tryz.prog lSortedSR :=
  { mixed := by kernel_rfl,
    f6 := ⟨Tryz.f68.name, by decide, by kernel_rfl⟩,
    f8 := ⟨Tryz.f115.name, by decide, by kernel_rfl⟩,
    f11 := ⟨Tryz.f135.name, by decide, by kernel_rfl⟩,
    t0 := by kernel_rfl,
    a0 := fun _ => by kernel_rfl,
    z0 := fun _ => by kernel_rfl,
    v0 := fun _ => by kernel_rfl,
    t24 := by kernel_rfl,
    a24 := fun _ => by kernel_rfl,
    z24 := fun _ => by kernel_rfl,
    v24 := fun _ => by kernel_rfl,
    t26 := by kernel_rfl,
    a26 := fun _ => by kernel_rfl,
    z26 := fun _ => by kernel_rfl,
    v26 := fun _ => by kernel_rfl,
    t28 := by kernel_rfl,
    a28 := fun _ => by kernel_rfl,
    z28 := fun _ => by kernel_rfl,
    v28 := fun _ => by kernel_rfl,
    i26 := by kernel_rfl }

def lSortSR : Go.Shelf.Ren := ⟨fun
  | 6 => 116
  | 8 => 133
  | 9 => 136
  | 19 => 146
  | 20 => 147
  | 21 => 148
  | 22 => 149
  | 23 => 150
  | 24 => 151
  | 25 => 152
  | 26 => 153
  | 27 => 154
  | 28 => 155
  | 29 => 156
  | 36 => 163
  | 31 => 158
  | 32 => 159
  | 37 => 164
  | 38 => 165
  | 39 => 166
  | 41 => 168
  | k => k, fun
  | 27 => 52
  | 29 => 9
  | 3 => 3
  | 32 => 160
  | 26 => 52
  | 0 => 0
  | 44 => 179
  | 46 => 181
  | 4 => 4
  | 36 => 172
  | 35 => 171
  | 41 => 130
  | 5 => 5
  | 9 => 9
  | 53 => 187
  | 57 => 191
  | 63 => 195
  | 64 => 196
  | k => k, fun k => k⟩

set_option maxRecDepth 100000 in
theorem lSortS : Go.Proofs.SlLaysM.n6 Tryz.prog lSortSR :=
  { mixed := by kernel_rfl,
    f6 := ⟨Tryz.f116.name, by decide, by kernel_rfl⟩,
    f8 := by kernel_rfl,
    f9 := ⟨Tryz.f136.name, by decide, by kernel_rfl⟩,
    f19 := by kernel_rfl,
    f20 := by kernel_rfl,
    f21 := ⟨Tryz.f148.name, by decide, by kernel_rfl⟩,
    f22 := ⟨Tryz.f149.name, by decide, by kernel_rfl⟩,
    f23 := ⟨Tryz.f150.name, by decide, by kernel_rfl⟩,
    f24 := ⟨Tryz.f151.name, by decide, by kernel_rfl⟩,
    f25 := ⟨Tryz.f152.name, by decide, by kernel_rfl⟩,
    f26 := ⟨Tryz.f153.name, by decide, by kernel_rfl⟩,
    f27 := ⟨Tryz.f154.name, by decide, by kernel_rfl⟩,
    f28 := ⟨Tryz.f155.name, by decide, by kernel_rfl⟩,
    f29 := ⟨Tryz.f156.name, by decide, by kernel_rfl⟩,
    f31 := by kernel_rfl,
    f32 := by kernel_rfl,
    f36 := ⟨Tryz.f163.name, by decide, by kernel_rfl⟩,
    f37 := ⟨Tryz.f164.name, by decide, by kernel_rfl⟩,
    f38 := ⟨Tryz.f165.name, by decide, by kernel_rfl⟩,
    f39 := ⟨Tryz.f166.name, by decide, by kernel_rfl⟩,
    f41 := ⟨Tryz.f168.name, by decide, by kernel_rfl⟩,
    t0 := by kernel_rfl,
    a0 := fun _ => by kernel_rfl,
    z0 := fun _ => by kernel_rfl,
    v0 := fun _ => by kernel_rfl,
    t3 := by kernel_rfl,
    a3 := fun _ => by kernel_rfl,
    z3 := fun _ => by kernel_rfl,
    v3 := fun _ => by kernel_rfl,
    t4 := by kernel_rfl,
    a4 := fun _ => by kernel_rfl,
    z4 := fun _ => by kernel_rfl,
    v4 := fun _ => by kernel_rfl,
    t5 := by kernel_rfl,
    a5 := fun _ => by kernel_rfl,
    z5 := fun _ => by kernel_rfl,
    v5 := fun _ => by kernel_rfl,
    t9 := by kernel_rfl,
    a9 := fun _ => by kernel_rfl,
    z9 := fun _ => by kernel_rfl,
    v9 := fun _ => by kernel_rfl,
    t26 := by kernel_rfl,
    a26 := fun _ => by kernel_rfl,
    z26 := fun _ => by kernel_rfl,
    v26 := fun _ => by kernel_rfl,
    t27 := by kernel_rfl,
    a27 := fun _ => by kernel_rfl,
    z27 := fun _ => by kernel_rfl,
    v27 := fun _ => by kernel_rfl,
    t29 := by kernel_rfl,
    a29 := fun _ => by kernel_rfl,
    z29 := fun _ => by kernel_rfl,
    v29 := fun _ => by kernel_rfl,
    t32 := by kernel_rfl,
    a32 := fun _ => by kernel_rfl,
    z32 := fun _ => by kernel_rfl,
    v32 := fun _ => by kernel_rfl,
    t35 := by kernel_rfl,
    a35 := fun _ => by kernel_rfl,
    z35 := fun _ => by kernel_rfl,
    v35 := fun _ => by kernel_rfl,
    t36 := by kernel_rfl,
    a36 := fun _ => by kernel_rfl,
    z36 := fun _ => by kernel_rfl,
    v36 := fun _ => by kernel_rfl,
    t41 := by kernel_rfl,
    a41 := fun _ => by kernel_rfl,
    z41 := fun _ => by kernel_rfl,
    v41 := fun _ => by kernel_rfl,
    t44 := by kernel_rfl,
    a44 := fun _ => by kernel_rfl,
    z44 := fun _ => by kernel_rfl,
    v44 := fun _ => by kernel_rfl,
    t46 := by kernel_rfl,
    a46 := fun _ => by kernel_rfl,
    z46 := fun _ => by kernel_rfl,
    v46 := fun _ => by kernel_rfl,
    t53 := by kernel_rfl,
    a53 := fun _ => by kernel_rfl,
    z53 := fun _ => by kernel_rfl,
    v53 := fun _ => by kernel_rfl,
    t57 := by kernel_rfl,
    a57 := fun _ => by kernel_rfl,
    z57 := fun _ => by kernel_rfl,
    v57 := fun _ => by kernel_rfl,
    t63 := by kernel_rfl,
    a63 := fun _ => by kernel_rfl,
    z63 := fun _ => by kernel_rfl,
    v63 := fun _ => by kernel_rfl,
    t64 := by kernel_rfl,
    a64 := fun _ => by kernel_rfl,
    z64 := fun _ => by kernel_rfl,
    v64 := fun _ => by kernel_rfl }

end Go.Proofs.YtpgicnjhncaaeaaGreat
