/- The exact law of new disks, walked. -/
import Derived.Test.YtiogjmchbpmdpaaDiNew
namespace Go.Proofs.Ytiogjmchbpmdpaa
open Go.RowKit Go.Maps
set_option linter.unusedVariables false

theorem ln_bare (a b : Int) : LnDisk (bare a b) 1048576 := ⟨by simp [bare], by simp [bare], by simp [bare]⟩

theorem eqBare (A b : Int) (w : World) : Calls Try.prog 9 #[(.agg #[.int .i64 A, .int .i64 b, .slice none 0 0, .slice none 0 0, .slice none 0 0]), (.agg #[.int .i64 A, .int .i64 b, .slice none 0 0, .slice none 0 0, .slice none 0 0])] w fun e w' => e = .returned (.bool true) ∧ Below w.heap.size w w' :=
  eqDisk_c (bare A b) _ _ _ _ _ _ w (ln_bare A b) (rd_bare A b w) (rd_bare A b w)

theorem ow_bare (a b : Int) (w : World) (base : Nat) : OwDisk w base (bare a b) (.slice none 0 0) (.slice none 0 0) (.slice none 0 0) := ⟨⟨rfl, .inl ⟨rfl, rfl⟩⟩, ⟨rfl, .inl ⟨rfl, rfl⟩⟩, ⟨rfl, .inl ⟨rfl, rfl⟩⟩⟩

theorem markBare (A b : Int) (w : World) : Calls Try.prog 10 #[(.agg #[.int .i64 A, .int .i64 b, .slice none 0 0, .slice none 0 0, .slice none 0 0]), .int .i64 1] w fun e w' => e = .returned (.int .i64 1) ∧ Below w.heap.size w w' := by
  refine (markDisk_c (bare A b) 1 _ _ _ w.heap.size w (ln_bare A b) (by decide) (by decide) (Nat.le_refl _) (ow_bare A b w _)).mono ?_
  rintro e w' ⟨rfl, _, hb⟩
  refine ⟨by simp [bare], hb.below ?_ (Nat.le_refl _)⟩
  intro v hv k hk
  simp only [List.mem_cons, List.not_mem_nil, or_false] at hv
  rcases hv with rfl | rfl | rfl <;> simp [Value.ownBlock] at hk

theorem heldBare (A b : Int) (w : World) : Calls Try.prog 11 #[(.agg #[.int .i64 A, .int .i64 b, .slice none 0 0, .slice none 0 0, .slice none 0 0]), .int .i64 1] w fun e w' => e = .returned (.int .i64 1) ∧ Below w.heap.size w w' := by
  refine (heldDisk_c (bare A b) 1 _ _ _ w (ln_bare A b) (by decide) (by decide) ⟨⟨rfl, none, 0, rfl, fun j hj => by simp [bare] at hj⟩, ⟨rfl, none, 0, rfl, fun j hj => by simp [bare] at hj⟩, ⟨rfl, none, 0, rfl, fun j hj => by simp [bare] at hj⟩⟩).mono ?_
  rintro e w' ⟨rfl, hb⟩
  exact ⟨by simp [bare], hb⟩

set_option maxRecDepth 20000 in
set_option maxHeartbeats 4000000 in
theorem new_walk (a A b : Int) (f : Bool) (w : World) (hS : ∀ w, Calls Try.prog 7 #[.int .i64 a] w fun e w' => e = .returned (.tuple #[(.agg #[.int .i64 A, .int .i64 b, .slice none 0 0, .slice none 0 0, .slice none 0 0]), .bool f]) ∧ Below w.heap.size w w')
    (hI : ∀ w, Calls Try.prog 8 #[.int .i64 a] w fun e w' => e = .returned (.tuple #[(.agg #[.int .i64 A, .int .i64 b, .slice none 0 0, .slice none 0 0, .slice none 0 0]), .bool f]) ∧ Below w.heap.size w w') :
    Calls Try.prog 3 #[.int .i64 a] w fun e w' => e = .returned (.bool true) ∧ Below w.heap.size w w' := by
  have HS : Hid (∀ w, Calls Try.prog 7 #[.int .i64 a] w fun e w' => e = .returned (.tuple #[(.agg #[.int .i64 A, .int .i64 b, .slice none 0 0, .slice none 0 0, .slice none 0 0]), .bool f]) ∧ Below w.heap.size w w') := hS
  have HI : Hid (∀ w, Calls Try.prog 8 #[.int .i64 a] w fun e w' => e = .returned (.tuple #[(.agg #[.int .i64 A, .int .i64 b, .slice none 0 0, .slice none 0 0, .slice none 0 0]), .bool f]) ∧ Below w.heap.size w w') := hI
  clear hS hI
  go_enter Try.func3, Try.ntmps3
  go_wp2_with fail
  refine (HS.out w).mono ?_
  rintro e w1 ⟨rfl, b1⟩
  have HB1 : Hid (Below w.heap.size w w1) := b1
  clear b1
  go_wp2_with fail
  refine (HI.out _).mono ?_
  rintro e w2 ⟨rfl, b2⟩
  have H3 : Hid (w2.heap[w1.heap.size]? = some (.cells #[.int .i64 A, .int .i64 b, .slice none 0 0, .slice none 0 0, .slice none 0 0] 26)) := (b2.block _ (by simp)).trans (alloc_at _ _)
  have HB2 : Hid (Below w.heap.size w w2) := (HB1.out.alloc HB1.out.size _).trans (b2.mono (by have := HB1.out.size; simp; omega))
  have HL : Hid (w1.heap.size < w2.heap.size) := lt_of_some H3.out
  clear b2
  obtain ⟨⟨p0, p1, p2, p3, p4⟩, _⟩ := disk_cell H3.out
  have H3a : Hid ((w2.alloc (.cells #[.int .i64 A, .int .i64 b, .slice none 0 0, .slice none 0 0, .slice none 0 0] 26)).heap[w1.heap.size]? = some (.cells #[.int .i64 A, .int .i64 b, .slice none 0 0, .slice none 0 0, .slice none 0 0] 26)) := (Below.heap_alloc _ _ _ HL.out).trans H3.out
  have H5a : Hid ((w2.alloc (.cells #[.int .i64 A, .int .i64 b, .slice none 0 0, .slice none 0 0, .slice none 0 0] 26)).heap[w2.heap.size]? = some (.cells #[.int .i64 A, .int .i64 b, .slice none 0 0, .slice none 0 0, .slice none 0 0] 26)) := alloc_at _ _
  have HB2a : Hid (Below w.heap.size w (w2.alloc (.cells #[.int .i64 A, .int .i64 b, .slice none 0 0, .slice none 0 0, .slice none 0 0] 26))) := HB2.out.alloc HB2.out.size _
  obtain ⟨⟨p0a, p1a, p2a, p3a, p4a⟩, _⟩ := disk_cell H3a.out
  go_wp2_with fail
  refine (eqBare A b _).mono ?_
  rintro e w3 ⟨rfl, b3⟩
  have H3_3 : Hid (w3.heap[w1.heap.size]? = some (.cells #[.int .i64 A, .int .i64 b, .slice none 0 0, .slice none 0 0, .slice none 0 0] 26)) := (b3.block _ (lt_of_some H3a.out)).trans H3a.out
  have H5_3 : Hid (w3.heap[w2.heap.size]? = some (.cells #[.int .i64 A, .int .i64 b, .slice none 0 0, .slice none 0 0, .slice none 0 0] 26)) := (b3.block _ (lt_of_some H5a.out)).trans H5a.out
  have HB3 : Hid (Below w.heap.size w w3) := HB2a.out.trans (b3.mono HB2a.out.size)
  clear b3 p0 p1 p2 p3 p4 p0a p1a p2a p3a p4a
  obtain ⟨⟨x0, x1, x2, x3, x4⟩, _⟩ := disk_cell H3_3.out
  obtain ⟨⟨y0, y1, y2, y3, y4⟩, _⟩ := disk_cell H5_3.out
  go_wp2_with fail
  refine (markBare A b _).mono ?_
  rintro e w4 ⟨rfl, b4⟩
  have H3_4 : Hid (w4.heap[w1.heap.size]? = some (.cells #[.int .i64 A, .int .i64 b, .slice none 0 0, .slice none 0 0, .slice none 0 0] 26)) := (b4.block _ (lt_of_some H3_3.out)).trans H3_3.out
  have H5_4 : Hid (w4.heap[w2.heap.size]? = some (.cells #[.int .i64 A, .int .i64 b, .slice none 0 0, .slice none 0 0, .slice none 0 0] 26)) := (b4.block _ (lt_of_some H5_3.out)).trans H5_3.out
  have HB4 : Hid (Below w.heap.size w w4) := HB3.out.trans (b4.mono HB3.out.size)
  clear b4 x0 x1 x2 x3 x4 y0 y1 y2 y3 y4
  obtain ⟨⟨x0, x1, x2, x3, x4⟩, _⟩ := disk_cell H3_4.out
  obtain ⟨⟨y0, y1, y2, y3, y4⟩, _⟩ := disk_cell H5_4.out
  go_wp2_with fail
  refine (heldBare A b _).mono ?_
  rintro e w5 ⟨rfl, b5⟩
  have H3_5 : Hid (w5.heap[w1.heap.size]? = some (.cells #[.int .i64 A, .int .i64 b, .slice none 0 0, .slice none 0 0, .slice none 0 0] 26)) := (b5.block _ (lt_of_some H3_4.out)).trans H3_4.out
  have H5_5 : Hid (w5.heap[w2.heap.size]? = some (.cells #[.int .i64 A, .int .i64 b, .slice none 0 0, .slice none 0 0, .slice none 0 0] 26)) := (b5.block _ (lt_of_some H5_4.out)).trans H5_4.out
  have HB5 : Hid (Below w.heap.size w w5) := HB4.out.trans (b5.mono HB4.out.size)
  clear b5 x0 x1 x2 x3 x4 y0 y1 y2 y3 y4
  obtain ⟨⟨x0, x1, x2, x3, x4⟩, _⟩ := disk_cell H3_5.out
  obtain ⟨⟨y0, y1, y2, y3, y4⟩, _⟩ := disk_cell H5_5.out
  go_wp2_with fail
  refine (HI.out _).mono ?_
  rintro e w6 ⟨rfl, b6⟩
  have H3_6 : Hid (w6.heap[w1.heap.size]? = some (.cells #[.int .i64 A, .int .i64 b, .slice none 0 0, .slice none 0 0, .slice none 0 0] 26)) := (b6.block _ (lt_of_some H3_5.out)).trans H3_5.out
  have H5_6 : Hid (w6.heap[w2.heap.size]? = some (.cells #[.int .i64 A, .int .i64 b, .slice none 0 0, .slice none 0 0, .slice none 0 0] 26)) := (b6.block _ (lt_of_some H5_5.out)).trans H5_5.out
  have HB6 : Hid (Below w.heap.size w w6) := HB5.out.trans (b6.mono HB5.out.size)
  clear b6 x0 x1 x2 x3 x4 y0 y1 y2 y3 y4
  obtain ⟨⟨x0, x1, x2, x3, x4⟩, _⟩ := disk_cell H3_6.out
  obtain ⟨⟨y0, y1, y2, y3, y4⟩, _⟩ := disk_cell H5_6.out
  have H3b : Hid ((w6.alloc (.cells #[.int .i64 A, .int .i64 b, .slice none 0 0, .slice none 0 0, .slice none 0 0] 26)).heap[w1.heap.size]? = some (.cells #[.int .i64 A, .int .i64 b, .slice none 0 0, .slice none 0 0, .slice none 0 0] 26)) := (Below.heap_alloc _ _ _ (lt_of_some H3_6.out)).trans H3_6.out
  have H5b : Hid ((w6.alloc (.cells #[.int .i64 A, .int .i64 b, .slice none 0 0, .slice none 0 0, .slice none 0 0] 26)).heap[w2.heap.size]? = some (.cells #[.int .i64 A, .int .i64 b, .slice none 0 0, .slice none 0 0, .slice none 0 0] 26)) := (Below.heap_alloc _ _ _ (lt_of_some H5_6.out)).trans H5_6.out
  have HBb : Hid (Below w.heap.size w (w6.alloc (.cells #[.int .i64 A, .int .i64 b, .slice none 0 0, .slice none 0 0, .slice none 0 0] 26))) := HB6.out.alloc HB6.out.size _
  obtain ⟨⟨x0b, x1b, x2b, x3b, x4b⟩, _⟩ := disk_cell H3b.out
  go_wp2_with fail
  refine (eqBare A b _).mono ?_
  rintro e w7 ⟨rfl, b7⟩
  have H5_7 : Hid (w7.heap[w2.heap.size]? = some (.cells #[.int .i64 A, .int .i64 b, .slice none 0 0, .slice none 0 0, .slice none 0 0] 26)) := (b7.block _ (lt_of_some H5b.out)).trans H5b.out
  have HB7 : Hid (Below w.heap.size w w7) := HBb.out.trans (b7.mono HBb.out.size)
  clear b7 x0 x1 x2 x3 x4 y0 y1 y2 y3 y4 x0b x1b x2b x3b x4b
  obtain ⟨⟨y0, y1, y2, y3, y4⟩, _⟩ := disk_cell H5_7.out
  go_wp2_with fail
  refine (heldBare A b _).mono ?_
  rintro e w8 ⟨rfl, b8⟩
  have HB8 : Hid (Below w.heap.size w w8) := HB7.out.trans (b8.mono HB7.out.size)
  clear b8
  go_wp2
  go_ret
  exact ⟨rfl, HB8.out⟩

theorem new_law (a : Int) (w : World) (ha : (Lit.int .i64 a).wf = true) : Calls Try.prog 3 #[.int .i64 a] w fun e w' => e = .returned (.bool true) ∧ Below w.heap.size w w' := by
  by_cases h : 0 ≤ a ∧ a ≤ 1048576
  · exact new_walk a a 1 true w (fun w => (specNew_c a w).mono (by rintro e w' ⟨⟨_, _, rfl⟩ | ⟨h', _⟩, hb⟩; exact ⟨rfl, hb⟩; exact absurd h h')) (fun w => (implNew_c a w).mono (by rintro e w' ⟨⟨_, _, rfl⟩ | ⟨h', _⟩, hb⟩; exact ⟨rfl, hb⟩; exact absurd h h'))
  · exact new_walk a 0 0 false w (fun w => (specNew_c a w).mono (by rintro e w' ⟨⟨h1, h2, _⟩ | ⟨h', rfl⟩, hb⟩; exact absurd ⟨h1, h2⟩ h; exact ⟨rfl, hb⟩)) (fun w => (implNew_c a w).mono (by rintro e w' ⟨⟨h1, h2, _⟩ | ⟨h', rfl⟩, hb⟩; exact absurd ⟨h1, h2⟩ h; exact ⟨rfl, hb⟩))

end Go.Proofs.Ytiogjmchbpmdpaa
