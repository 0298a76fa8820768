/- The specification's move that is applied, by its contract. -/
import Derived.Test.YtoecakjjondeeaaGreatDkSpec4
import Derived.Deep.RegionWith
namespace Go.Proofs.YtoecakjjondeeaaGreat
open Go.RowKit
set_option linter.unusedVariables false

/-- The place of a name. -/
def at4 (L : List S_Link) (nm : ByteArray) : Int := idx (fun x => decide (x.f0 = nm)) L

/-- The links behind a move, and whether it fits. -/
def ap (L : List S_Link) (m : S_Move) : List S_Link × Bool :=
  if nameB m.f1 = false then (L, false)
  else if m.f0 = 1 ∧ m.f2.size = 0 ∧ at4 L m.f1 < 0 then (wi ⟨m.f1, m.f3⟩ L, true)
  else if m.f0 = 2 ∧ m.f3 = 0 ∧ ¬ at4 L m.f1 < 0 ∧ nameB m.f2 = true ∧ m.f2 ≠ m.f1 then (wi ⟨m.f2, (L[(at4 L m.f1).toNat]?.map (·.f1)).getD 0⟩ (wo m.f1 L), true)
  else if m.f0 = 3 ∧ m.f3 = 0 ∧ m.f2.size = 0 ∧ ¬ at4 L m.f1 < 0 then (wo m.f1 L, true)
  else (L, false)

theorem empty_yes (s : ByteArray) (h : s.size = 0) : s.toList.isEmpty = true := by
  have : s.data.toList = [] := List.eq_nil_of_length_eq_zero (by rw [Array.length_toList]; exact h)
  rw [ByteArray.toList_eq, this]; rfl

theorem empty_no (s : ByteArray) (h : ¬ s.size = 0) : s.toList.isEmpty = false := by
  rw [ByteArray.toList_eq]
  cases e : s.data.toList with
  | nil => exact absurd (by rw [show s.size = s.data.toList.length from (Array.length_toList).symm, e]; rfl) h
  | cons _ _ => rfl

/-- What it hands back. -/
def ApR (L : List S_Link) (m : S_Move) (w : World) (e : Ending) (w' : World) : Prop :=
  ∃ v', e = .returned (.tuple #[v', .bool (ap L m).2]) ∧ RowR w' v' (ap L m).1.length 2 (rLink (ap L m).1) ∧ Below w.heap.size w w'

set_option maxRecDepth 20000 in
set_option maxHeartbeats 2000000 in
theorem ap_bad (v : Value) (L : List S_Link) (m : S_Move) (w : World) (hn : L.length ≤ 1048576) (hs : sMove m) (hr : RowR w v L.length 2 (rLink L)) (h1 : nameB m.f1 = false) :
    Calls Tryz.prog 77 #[v, .agg #[.int .i64 m.f0, .string m.f1, .string m.f2, .int .i64 m.f3]] w (ApR L m w) := by
  have HP : Hid (ap L m = (L, false)) := by
    show _ = _
    unfold ap
    simp [h1]
  have hn' : (L.length : Int) ≤ 1048576 := by omega
  have HB0 : Hid (Below w.heap.size w (w.alloc (.cells #[.int .i64 m.f0, .string m.f1, .string m.f2, .int .i64 m.f3] 116))) := (Below.refl _ _).alloc (Nat.le_refl _) _
  have HR : Hid (RowR (w.alloc (.cells #[.int .i64 m.f0, .string m.f1, .string m.f2, .int .i64 m.f3] 116)) v L.length 2 (rLink L)) := hr.keep HB0.out (Nat.le_refl _)
  have HA : Hid (at4 L m.f1 = idx (fun x => decide (x.f0 = m.f1)) L) := rfl
  have har := idx_range (fun x : S_Link => decide (x.f0 = m.f1)) L
  rw [← HA.out] at har
  obtain ⟨ha1, ha2⟩ := har
  have H1 : Hid (nameB m.f1 = false) := h1
  clear h1
  go_enter Tryz.func77, Tryz.ntmps77
  go_wp2_with fail
  refine (at4_c v L m.f1 _ hn HR.out).mono ?_
  rintro e w1 ⟨rfl, hw⟩
  subst hw
  rw [← HA.out]
  generalize at4 L m.f1 = a at ha1 ha2  ⊢
  go_wp2_with fail
  refine (name_c m.f1 _ hs.1).mono ?_
  rintro e w1 ⟨rfl, hw⟩
  subst hw
  rw [H1.out]
  go_wp2
  go_ret2
  exact ⟨_, by rw [HP.out]; rfl, by rw [HP.out]; exact HR.out, HB0.out⟩

set_option maxRecDepth 20000 in
set_option maxHeartbeats 2000000 in
theorem ap_f1_to (v : Value) (L : List S_Link) (m : S_Move) (w : World) (hn : L.length ≤ 1048576) (hs : sMove m) (hr : RowR w v L.length 2 (rLink L)) (h1 : nameB m.f1 = true) (k0 : m.f0 = 1) (k2 : ¬ m.f2.size = 0) :
    Calls Tryz.prog 77 #[v, .agg #[.int .i64 m.f0, .string m.f1, .string m.f2, .int .i64 m.f3]] w (ApR L m w) := by
  have HP : Hid (ap L m = (L, false)) := by
    show _ = _
    unfold ap
    simp [h1, k0, k2]
  have hn' : (L.length : Int) ≤ 1048576 := by omega
  have HB0 : Hid (Below w.heap.size w (w.alloc (.cells #[.int .i64 m.f0, .string m.f1, .string m.f2, .int .i64 m.f3] 116))) := (Below.refl _ _).alloc (Nat.le_refl _) _
  have HR : Hid (RowR (w.alloc (.cells #[.int .i64 m.f0, .string m.f1, .string m.f2, .int .i64 m.f3] 116)) v L.length 2 (rLink L)) := hr.keep HB0.out (Nat.le_refl _)
  have HA : Hid (at4 L m.f1 = idx (fun x => decide (x.f0 = m.f1)) L) := rfl
  have har := idx_range (fun x : S_Link => decide (x.f0 = m.f1)) L
  rw [← HA.out] at har
  obtain ⟨ha1, ha2⟩ := har
  have e1 : (m.f0 == 1) = true := by rw [k0]; rfl
  have e2 : (m.f0 == 2) = false := by rw [k0]; rfl
  have e3 : (m.f0 == 3) = false := by rw [k0]; rfl
  have q2 := empty_no m.f2 k2
  have H1 : Hid (nameB m.f1 = true) := h1
  clear k0 k2 h1
  go_enter Tryz.func77, Tryz.ntmps77
  go_wp2_with fail
  refine (at4_c v L m.f1 _ hn HR.out).mono ?_
  rintro e w1 ⟨rfl, hw⟩
  subst hw
  rw [← HA.out]
  generalize at4 L m.f1 = a at ha1 ha2  ⊢
  go_wp2_with fail
  refine (name_c m.f1 _ hs.1).mono ?_
  rintro e w1 ⟨rfl, hw⟩
  subst hw
  rw [H1.out]
  go_wp2
  go_ret2
  exact ⟨_, by rw [HP.out]; rfl, by rw [HP.out]; exact HR.out, HB0.out⟩

set_option maxRecDepth 20000 in
set_option maxHeartbeats 2000000 in
theorem ap_f1_at (v : Value) (L : List S_Link) (m : S_Move) (w : World) (hn : L.length ≤ 1048576) (hs : sMove m) (hr : RowR w v L.length 2 (rLink L)) (h1 : nameB m.f1 = true) (k0 : m.f0 = 1) (k2 : m.f2.size = 0) (ka : ¬ at4 L m.f1 < 0) :
    Calls Tryz.prog 77 #[v, .agg #[.int .i64 m.f0, .string m.f1, .string m.f2, .int .i64 m.f3]] w (ApR L m w) := by
  have HP : Hid (ap L m = (L, false)) := by
    show _ = _
    unfold ap
    simp [h1, k0, k2, ka]
  have hn' : (L.length : Int) ≤ 1048576 := by omega
  have HB0 : Hid (Below w.heap.size w (w.alloc (.cells #[.int .i64 m.f0, .string m.f1, .string m.f2, .int .i64 m.f3] 116))) := (Below.refl _ _).alloc (Nat.le_refl _) _
  have HR : Hid (RowR (w.alloc (.cells #[.int .i64 m.f0, .string m.f1, .string m.f2, .int .i64 m.f3] 116)) v L.length 2 (rLink L)) := hr.keep HB0.out (Nat.le_refl _)
  have HA : Hid (at4 L m.f1 = idx (fun x => decide (x.f0 = m.f1)) L) := rfl
  have har := idx_range (fun x : S_Link => decide (x.f0 = m.f1)) L
  rw [← HA.out] at har
  obtain ⟨ha1, ha2⟩ := har
  have e1 : (m.f0 == 1) = true := by rw [k0]; rfl
  have e2 : (m.f0 == 2) = false := by rw [k0]; rfl
  have e3 : (m.f0 == 3) = false := by rw [k0]; rfl
  have q2 := empty_yes m.f2 k2
  have H1 : Hid (nameB m.f1 = true) := h1
  clear k0 k2 h1
  go_enter Tryz.func77, Tryz.ntmps77
  go_wp2_with fail
  refine (at4_c v L m.f1 _ hn HR.out).mono ?_
  rintro e w1 ⟨rfl, hw⟩
  subst hw
  rw [← HA.out]
  generalize at4 L m.f1 = a at ha1 ha2 ka ⊢
  go_wp2_with fail
  refine (name_c m.f1 _ hs.1).mono ?_
  rintro e w1 ⟨rfl, hw⟩
  subst hw
  rw [H1.out]
  go_wp2
  go_ret2
  exact ⟨_, by rw [HP.out]; rfl, by rw [HP.out]; exact HR.out, HB0.out⟩

set_option maxRecDepth 20000 in
set_option maxHeartbeats 2000000 in
theorem ap_f2_id (v : Value) (L : List S_Link) (m : S_Move) (w : World) (hn : L.length ≤ 1048576) (hs : sMove m) (hr : RowR w v L.length 2 (rLink L)) (h1 : nameB m.f1 = true) (k0 : m.f0 = 2) (k3 : ¬ m.f3 = 0) :
    Calls Tryz.prog 77 #[v, .agg #[.int .i64 m.f0, .string m.f1, .string m.f2, .int .i64 m.f3]] w (ApR L m w) := by
  have HP : Hid (ap L m = (L, false)) := by
    show _ = _
    unfold ap
    simp [h1, k0, k3]
  have hn' : (L.length : Int) ≤ 1048576 := by omega
  have HB0 : Hid (Below w.heap.size w (w.alloc (.cells #[.int .i64 m.f0, .string m.f1, .string m.f2, .int .i64 m.f3] 116))) := (Below.refl _ _).alloc (Nat.le_refl _) _
  have HR : Hid (RowR (w.alloc (.cells #[.int .i64 m.f0, .string m.f1, .string m.f2, .int .i64 m.f3] 116)) v L.length 2 (rLink L)) := hr.keep HB0.out (Nat.le_refl _)
  have HA : Hid (at4 L m.f1 = idx (fun x => decide (x.f0 = m.f1)) L) := rfl
  have har := idx_range (fun x : S_Link => decide (x.f0 = m.f1)) L
  rw [← HA.out] at har
  obtain ⟨ha1, ha2⟩ := har
  have e1 : (m.f0 == 1) = false := by rw [k0]; rfl
  have e2 : (m.f0 == 2) = true := by rw [k0]; rfl
  have e3 : (m.f0 == 3) = false := by rw [k0]; rfl
  have q3 : (m.f3 == 0) = false := by simp [k3]
  have H1 : Hid (nameB m.f1 = true) := h1
  clear k0 k3 h1
  go_enter Tryz.func77, Tryz.ntmps77
  go_wp2_with fail
  refine (at4_c v L m.f1 _ hn HR.out).mono ?_
  rintro e w1 ⟨rfl, hw⟩
  subst hw
  rw [← HA.out]
  generalize at4 L m.f1 = a at ha1 ha2  ⊢
  go_wp2_with fail
  refine (name_c m.f1 _ hs.1).mono ?_
  rintro e w1 ⟨rfl, hw⟩
  subst hw
  rw [H1.out]
  go_wp2
  go_ret2
  exact ⟨_, by rw [HP.out]; rfl, by rw [HP.out]; exact HR.out, HB0.out⟩

set_option maxRecDepth 20000 in
set_option maxHeartbeats 2000000 in
theorem ap_f2_at (v : Value) (L : List S_Link) (m : S_Move) (w : World) (hn : L.length ≤ 1048576) (hs : sMove m) (hr : RowR w v L.length 2 (rLink L)) (h1 : nameB m.f1 = true) (k0 : m.f0 = 2) (k3 : m.f3 = 0) (ka : at4 L m.f1 < 0) :
    Calls Tryz.prog 77 #[v, .agg #[.int .i64 m.f0, .string m.f1, .string m.f2, .int .i64 m.f3]] w (ApR L m w) := by
  have HP : Hid (ap L m = (L, false)) := by
    show _ = _
    unfold ap
    simp [h1, k0, k3, ka]
  have hn' : (L.length : Int) ≤ 1048576 := by omega
  have HB0 : Hid (Below w.heap.size w (w.alloc (.cells #[.int .i64 m.f0, .string m.f1, .string m.f2, .int .i64 m.f3] 116))) := (Below.refl _ _).alloc (Nat.le_refl _) _
  have HR : Hid (RowR (w.alloc (.cells #[.int .i64 m.f0, .string m.f1, .string m.f2, .int .i64 m.f3] 116)) v L.length 2 (rLink L)) := hr.keep HB0.out (Nat.le_refl _)
  have HA : Hid (at4 L m.f1 = idx (fun x => decide (x.f0 = m.f1)) L) := rfl
  have har := idx_range (fun x : S_Link => decide (x.f0 = m.f1)) L
  rw [← HA.out] at har
  obtain ⟨ha1, ha2⟩ := har
  have e1 : (m.f0 == 1) = false := by rw [k0]; rfl
  have e2 : (m.f0 == 2) = true := by rw [k0]; rfl
  have e3 : (m.f0 == 3) = false := by rw [k0]; rfl
  have q3 : (m.f3 == 0) = true := by simp [k3]
  have H1 : Hid (nameB m.f1 = true) := h1
  clear k0 k3 h1
  go_enter Tryz.func77, Tryz.ntmps77
  go_wp2_with fail
  refine (at4_c v L m.f1 _ hn HR.out).mono ?_
  rintro e w1 ⟨rfl, hw⟩
  subst hw
  rw [← HA.out]
  generalize at4 L m.f1 = a at ha1 ha2 ka ⊢
  go_wp2_with fail
  refine (name_c m.f1 _ hs.1).mono ?_
  rintro e w1 ⟨rfl, hw⟩
  subst hw
  rw [H1.out]
  go_wp2
  go_ret2
  exact ⟨_, by rw [HP.out]; rfl, by rw [HP.out]; exact HR.out, HB0.out⟩

set_option maxRecDepth 20000 in
set_option maxHeartbeats 2000000 in
theorem ap_f2_name (v : Value) (L : List S_Link) (m : S_Move) (w : World) (hn : L.length ≤ 1048576) (hs : sMove m) (hr : RowR w v L.length 2 (rLink L)) (h1 : nameB m.f1 = true) (k0 : m.f0 = 2) (k3 : m.f3 = 0) (ka : ¬ at4 L m.f1 < 0) (kn : nameB m.f2 = false) :
    Calls Tryz.prog 77 #[v, .agg #[.int .i64 m.f0, .string m.f1, .string m.f2, .int .i64 m.f3]] w (ApR L m w) := by
  have HP : Hid (ap L m = (L, false)) := by
    show _ = _
    unfold ap
    simp [h1, k0, k3, ka, kn]
  have hn' : (L.length : Int) ≤ 1048576 := by omega
  have HB0 : Hid (Below w.heap.size w (w.alloc (.cells #[.int .i64 m.f0, .string m.f1, .string m.f2, .int .i64 m.f3] 116))) := (Below.refl _ _).alloc (Nat.le_refl _) _
  have HR : Hid (RowR (w.alloc (.cells #[.int .i64 m.f0, .string m.f1, .string m.f2, .int .i64 m.f3] 116)) v L.length 2 (rLink L)) := hr.keep HB0.out (Nat.le_refl _)
  have HA : Hid (at4 L m.f1 = idx (fun x => decide (x.f0 = m.f1)) L) := rfl
  have har := idx_range (fun x : S_Link => decide (x.f0 = m.f1)) L
  rw [← HA.out] at har
  obtain ⟨ha1, ha2⟩ := har
  have e1 : (m.f0 == 1) = false := by rw [k0]; rfl
  have e2 : (m.f0 == 2) = true := by rw [k0]; rfl
  have e3 : (m.f0 == 3) = false := by rw [k0]; rfl
  have q3 : (m.f3 == 0) = true := by simp [k3]
  have H1 : Hid (nameB m.f1 = true) := h1
  have HN : Hid (nameB m.f2 = false) := kn
  clear k0 k3 kn h1
  go_enter Tryz.func77, Tryz.ntmps77
  go_wp2_with fail
  refine (at4_c v L m.f1 _ hn HR.out).mono ?_
  rintro e w1 ⟨rfl, hw⟩
  subst hw
  rw [← HA.out]
  generalize at4 L m.f1 = a at ha1 ha2 ka ⊢
  go_wp2_with fail
  refine (name_c m.f1 _ hs.1).mono ?_
  rintro e w1 ⟨rfl, hw⟩
  subst hw
  rw [H1.out]
  go_wp2_with fail
  refine (name_c m.f2 _ hs.2).mono ?_
  rintro e w1 ⟨rfl, hw⟩
  subst hw
  rw [HN.out]
  go_wp2
  go_ret2
  exact ⟨_, by rw [HP.out]; rfl, by rw [HP.out]; exact HR.out, HB0.out⟩

set_option maxRecDepth 20000 in
set_option maxHeartbeats 2000000 in
theorem ap_f2_same (v : Value) (L : List S_Link) (m : S_Move) (w : World) (hn : L.length ≤ 1048576) (hs : sMove m) (hr : RowR w v L.length 2 (rLink L)) (h1 : nameB m.f1 = true) (k0 : m.f0 = 2) (k3 : m.f3 = 0) (ka : ¬ at4 L m.f1 < 0) (kn : nameB m.f2 = true) (ks : m.f2 = m.f1) :
    Calls Tryz.prog 77 #[v, .agg #[.int .i64 m.f0, .string m.f1, .string m.f2, .int .i64 m.f3]] w (ApR L m w) := by
  have HP : Hid (ap L m = (L, false)) := by
    show _ = _
    unfold ap
    simp [h1, k0, k3, ka, ks]
  have hn' : (L.length : Int) ≤ 1048576 := by omega
  have HB0 : Hid (Below w.heap.size w (w.alloc (.cells #[.int .i64 m.f0, .string m.f1, .string m.f2, .int .i64 m.f3] 116))) := (Below.refl _ _).alloc (Nat.le_refl _) _
  have HR : Hid (RowR (w.alloc (.cells #[.int .i64 m.f0, .string m.f1, .string m.f2, .int .i64 m.f3] 116)) v L.length 2 (rLink L)) := hr.keep HB0.out (Nat.le_refl _)
  have HA : Hid (at4 L m.f1 = idx (fun x => decide (x.f0 = m.f1)) L) := rfl
  have har := idx_range (fun x : S_Link => decide (x.f0 = m.f1)) L
  rw [← HA.out] at har
  obtain ⟨ha1, ha2⟩ := har
  have e1 : (m.f0 == 1) = false := by rw [k0]; rfl
  have e2 : (m.f0 == 2) = true := by rw [k0]; rfl
  have e3 : (m.f0 == 3) = false := by rw [k0]; rfl
  have q3 : (m.f3 == 0) = true := by simp [k3]
  have H1 : Hid (nameB m.f1 = true) := h1
  have HN : Hid (nameB m.f2 = true) := kn
  have qs : (m.f2.toList == m.f1.toList) = true := by rw [beq_txt]; simp [ks]
  clear k0 k3 kn ks h1
  go_enter Tryz.func77, Tryz.ntmps77
  go_wp2_with fail
  refine (at4_c v L m.f1 _ hn HR.out).mono ?_
  rintro e w1 ⟨rfl, hw⟩
  subst hw
  rw [← HA.out]
  generalize at4 L m.f1 = a at ha1 ha2 ka ⊢
  go_wp2_with fail
  refine (name_c m.f1 _ hs.1).mono ?_
  rintro e w1 ⟨rfl, hw⟩
  subst hw
  rw [H1.out]
  go_wp2_with fail
  refine (name_c m.f2 _ hs.2).mono ?_
  rintro e w1 ⟨rfl, hw⟩
  subst hw
  rw [HN.out]
  go_wp2
  go_ret2
  exact ⟨_, by rw [HP.out]; rfl, by rw [HP.out]; exact HR.out, HB0.out⟩

set_option maxRecDepth 20000 in
set_option maxHeartbeats 2000000 in
theorem ap_f3_id (v : Value) (L : List S_Link) (m : S_Move) (w : World) (hn : L.length ≤ 1048576) (hs : sMove m) (hr : RowR w v L.length 2 (rLink L)) (h1 : nameB m.f1 = true) (k0 : m.f0 = 3) (k3 : ¬ m.f3 = 0) :
    Calls Tryz.prog 77 #[v, .agg #[.int .i64 m.f0, .string m.f1, .string m.f2, .int .i64 m.f3]] w (ApR L m w) := by
  have HP : Hid (ap L m = (L, false)) := by
    show _ = _
    unfold ap
    simp [h1, k0, k3]
  have hn' : (L.length : Int) ≤ 1048576 := by omega
  have HB0 : Hid (Below w.heap.size w (w.alloc (.cells #[.int .i64 m.f0, .string m.f1, .string m.f2, .int .i64 m.f3] 116))) := (Below.refl _ _).alloc (Nat.le_refl _) _
  have HR : Hid (RowR (w.alloc (.cells #[.int .i64 m.f0, .string m.f1, .string m.f2, .int .i64 m.f3] 116)) v L.length 2 (rLink L)) := hr.keep HB0.out (Nat.le_refl _)
  have HA : Hid (at4 L m.f1 = idx (fun x => decide (x.f0 = m.f1)) L) := rfl
  have har := idx_range (fun x : S_Link => decide (x.f0 = m.f1)) L
  rw [← HA.out] at har
  obtain ⟨ha1, ha2⟩ := har
  have e1 : (m.f0 == 1) = false := by rw [k0]; rfl
  have e2 : (m.f0 == 2) = false := by rw [k0]; rfl
  have e3 : (m.f0 == 3) = true := by rw [k0]; rfl
  have q3 : (m.f3 == 0) = false := by simp [k3]
  have H1 : Hid (nameB m.f1 = true) := h1
  clear k0 k3 h1
  go_enter Tryz.func77, Tryz.ntmps77
  go_wp2_with fail
  refine (at4_c v L m.f1 _ hn HR.out).mono ?_
  rintro e w1 ⟨rfl, hw⟩
  subst hw
  rw [← HA.out]
  generalize at4 L m.f1 = a at ha1 ha2  ⊢
  go_wp2_with fail
  refine (name_c m.f1 _ hs.1).mono ?_
  rintro e w1 ⟨rfl, hw⟩
  subst hw
  rw [H1.out]
  go_wp2
  go_ret2
  exact ⟨_, by rw [HP.out]; rfl, by rw [HP.out]; exact HR.out, HB0.out⟩

set_option maxRecDepth 20000 in
set_option maxHeartbeats 2000000 in
theorem ap_f3_to (v : Value) (L : List S_Link) (m : S_Move) (w : World) (hn : L.length ≤ 1048576) (hs : sMove m) (hr : RowR w v L.length 2 (rLink L)) (h1 : nameB m.f1 = true) (k0 : m.f0 = 3) (k3 : m.f3 = 0) (k2 : ¬ m.f2.size = 0) :
    Calls Tryz.prog 77 #[v, .agg #[.int .i64 m.f0, .string m.f1, .string m.f2, .int .i64 m.f3]] w (ApR L m w) := by
  have HP : Hid (ap L m = (L, false)) := by
    show _ = _
    unfold ap
    simp [h1, k0, k3, k2]
  have hn' : (L.length : Int) ≤ 1048576 := by omega
  have HB0 : Hid (Below w.heap.size w (w.alloc (.cells #[.int .i64 m.f0, .string m.f1, .string m.f2, .int .i64 m.f3] 116))) := (Below.refl _ _).alloc (Nat.le_refl _) _
  have HR : Hid (RowR (w.alloc (.cells #[.int .i64 m.f0, .string m.f1, .string m.f2, .int .i64 m.f3] 116)) v L.length 2 (rLink L)) := hr.keep HB0.out (Nat.le_refl _)
  have HA : Hid (at4 L m.f1 = idx (fun x => decide (x.f0 = m.f1)) L) := rfl
  have har := idx_range (fun x : S_Link => decide (x.f0 = m.f1)) L
  rw [← HA.out] at har
  obtain ⟨ha1, ha2⟩ := har
  have e1 : (m.f0 == 1) = false := by rw [k0]; rfl
  have e2 : (m.f0 == 2) = false := by rw [k0]; rfl
  have e3 : (m.f0 == 3) = true := by rw [k0]; rfl
  have q2 := empty_no m.f2 k2
  have q3 : (m.f3 == 0) = true := by simp [k3]
  have H1 : Hid (nameB m.f1 = true) := h1
  clear k0 k2 k3 h1
  go_enter Tryz.func77, Tryz.ntmps77
  go_wp2_with fail
  refine (at4_c v L m.f1 _ hn HR.out).mono ?_
  rintro e w1 ⟨rfl, hw⟩
  subst hw
  rw [← HA.out]
  generalize at4 L m.f1 = a at ha1 ha2  ⊢
  go_wp2_with fail
  refine (name_c m.f1 _ hs.1).mono ?_
  rintro e w1 ⟨rfl, hw⟩
  subst hw
  rw [H1.out]
  go_wp2
  go_ret2
  exact ⟨_, by rw [HP.out]; rfl, by rw [HP.out]; exact HR.out, HB0.out⟩

set_option maxRecDepth 20000 in
set_option maxHeartbeats 2000000 in
theorem ap_f3_at (v : Value) (L : List S_Link) (m : S_Move) (w : World) (hn : L.length ≤ 1048576) (hs : sMove m) (hr : RowR w v L.length 2 (rLink L)) (h1 : nameB m.f1 = true) (k0 : m.f0 = 3) (k3 : m.f3 = 0) (k2 : m.f2.size = 0) (ka : at4 L m.f1 < 0) :
    Calls Tryz.prog 77 #[v, .agg #[.int .i64 m.f0, .string m.f1, .string m.f2, .int .i64 m.f3]] w (ApR L m w) := by
  have HP : Hid (ap L m = (L, false)) := by
    show _ = _
    unfold ap
    simp [h1, k0, k3, k2, ka]
  have hn' : (L.length : Int) ≤ 1048576 := by omega
  have HB0 : Hid (Below w.heap.size w (w.alloc (.cells #[.int .i64 m.f0, .string m.f1, .string m.f2, .int .i64 m.f3] 116))) := (Below.refl _ _).alloc (Nat.le_refl _) _
  have HR : Hid (RowR (w.alloc (.cells #[.int .i64 m.f0, .string m.f1, .string m.f2, .int .i64 m.f3] 116)) v L.length 2 (rLink L)) := hr.keep HB0.out (Nat.le_refl _)
  have HA : Hid (at4 L m.f1 = idx (fun x => decide (x.f0 = m.f1)) L) := rfl
  have har := idx_range (fun x : S_Link => decide (x.f0 = m.f1)) L
  rw [← HA.out] at har
  obtain ⟨ha1, ha2⟩ := har
  have e1 : (m.f0 == 1) = false := by rw [k0]; rfl
  have e2 : (m.f0 == 2) = false := by rw [k0]; rfl
  have e3 : (m.f0 == 3) = true := by rw [k0]; rfl
  have q2 := empty_yes m.f2 k2
  have q3 : (m.f3 == 0) = true := by simp [k3]
  have H1 : Hid (nameB m.f1 = true) := h1
  clear k0 k2 k3 h1
  go_enter Tryz.func77, Tryz.ntmps77
  go_wp2_with fail
  refine (at4_c v L m.f1 _ hn HR.out).mono ?_
  rintro e w1 ⟨rfl, hw⟩
  subst hw
  rw [← HA.out]
  generalize at4 L m.f1 = a at ha1 ha2 ka ⊢
  go_wp2_with fail
  refine (name_c m.f1 _ hs.1).mono ?_
  rintro e w1 ⟨rfl, hw⟩
  subst hw
  rw [H1.out]
  go_wp2
  go_ret2
  exact ⟨_, by rw [HP.out]; rfl, by rw [HP.out]; exact HR.out, HB0.out⟩

set_option maxRecDepth 20000 in
set_option maxHeartbeats 2000000 in
theorem ap_other (v : Value) (L : List S_Link) (m : S_Move) (w : World) (hn : L.length ≤ 1048576) (hs : sMove m) (hr : RowR w v L.length 2 (rLink L)) (h1 : nameB m.f1 = true) (k0 : ¬ m.f0 = 1) (k02 : ¬ m.f0 = 2) (k03 : ¬ m.f0 = 3) :
    Calls Tryz.prog 77 #[v, .agg #[.int .i64 m.f0, .string m.f1, .string m.f2, .int .i64 m.f3]] w (ApR L m w) := by
  have HP : Hid (ap L m = (L, false)) := by
    show _ = _
    unfold ap
    simp [h1, k0, k02, k03]
  have hn' : (L.length : Int) ≤ 1048576 := by omega
  have HB0 : Hid (Below w.heap.size w (w.alloc (.cells #[.int .i64 m.f0, .string m.f1, .string m.f2, .int .i64 m.f3] 116))) := (Below.refl _ _).alloc (Nat.le_refl _) _
  have HR : Hid (RowR (w.alloc (.cells #[.int .i64 m.f0, .string m.f1, .string m.f2, .int .i64 m.f3] 116)) v L.length 2 (rLink L)) := hr.keep HB0.out (Nat.le_refl _)
  have HA : Hid (at4 L m.f1 = idx (fun x => decide (x.f0 = m.f1)) L) := rfl
  have har := idx_range (fun x : S_Link => decide (x.f0 = m.f1)) L
  rw [← HA.out] at har
  obtain ⟨ha1, ha2⟩ := har
  have e1 : (m.f0 == 1) = false := by simp [k0]
  have e2 : (m.f0 == 2) = false := by simp [k02]
  have e3 : (m.f0 == 3) = false := by simp [k03]
  have H1 : Hid (nameB m.f1 = true) := h1
  clear k0 k02 k03 h1
  go_enter Tryz.func77, Tryz.ntmps77
  go_wp2_with fail
  refine (at4_c v L m.f1 _ hn HR.out).mono ?_
  rintro e w1 ⟨rfl, hw⟩
  subst hw
  rw [← HA.out]
  generalize at4 L m.f1 = a at ha1 ha2  ⊢
  go_wp2_with fail
  refine (name_c m.f1 _ hs.1).mono ?_
  rintro e w1 ⟨rfl, hw⟩
  subst hw
  rw [H1.out]
  go_wp2
  go_ret2
  exact ⟨_, by rw [HP.out]; rfl, by rw [HP.out]; exact HR.out, HB0.out⟩

set_option maxRecDepth 20000 in
set_option maxHeartbeats 2000000 in
theorem ap_make (v : Value) (L : List S_Link) (m : S_Move) (w : World) (hn : L.length ≤ 1048576) (hs : sMove m) (hr : RowR w v L.length 2 (rLink L)) (h1 : nameB m.f1 = true) (k0 : m.f0 = 1) (k2 : m.f2.size = 0) (ka : at4 L m.f1 < 0) :
    Calls Tryz.prog 77 #[v, .agg #[.int .i64 m.f0, .string m.f1, .string m.f2, .int .i64 m.f3]] w (ApR L m w) := by
  have HP : Hid (ap L m = (wi ⟨m.f1, m.f3⟩ L, true)) := by
    show _ = _
    unfold ap
    simp [h1, k0, k2, ka]
  have hn' : (L.length : Int) ≤ 1048576 := by omega
  have HB0 : Hid (Below w.heap.size w (w.alloc (.cells #[.int .i64 m.f0, .string m.f1, .string m.f2, .int .i64 m.f3] 116))) := (Below.refl _ _).alloc (Nat.le_refl _) _
  have HR : Hid (RowR (w.alloc (.cells #[.int .i64 m.f0, .string m.f1, .string m.f2, .int .i64 m.f3] 116)) v L.length 2 (rLink L)) := hr.keep HB0.out (Nat.le_refl _)
  have HA : Hid (at4 L m.f1 = idx (fun x => decide (x.f0 = m.f1)) L) := rfl
  have har := idx_range (fun x : S_Link => decide (x.f0 = m.f1)) L
  rw [← HA.out] at har
  obtain ⟨ha1, ha2⟩ := har
  have e1 : (m.f0 == 1) = true := by rw [k0]; rfl
  have e2 : (m.f0 == 2) = false := by rw [k0]; rfl
  have e3 : (m.f0 == 3) = false := by rw [k0]; rfl
  have q2 := empty_yes m.f2 k2
  have H1 : Hid (nameB m.f1 = true) := h1
  clear k0 k2 h1
  go_enter Tryz.func77, Tryz.ntmps77
  go_wp2_with fail
  refine (at4_c v L m.f1 _ hn HR.out).mono ?_
  rintro e w1 ⟨rfl, hw⟩
  subst hw
  rw [← HA.out]
  generalize at4 L m.f1 = a at ha1 ha2 ka ⊢
  go_wp2_with fail
  refine (name_c m.f1 _ hs.1).mono ?_
  rintro e w1 ⟨rfl, hw⟩
  subst hw
  rw [H1.out]
  go_wp2_with fail
  refine (with_c v L ⟨m.f1, m.f3⟩ _ hn HR.out).mono ?_
  rintro e w2 ⟨u, rfl, own, b2⟩
  have HO : Hid (RowR w2 u (wi ⟨m.f1, m.f3⟩ L).length 2 (rLink (wi ⟨m.f1, m.f3⟩ L))) := RowR.own own
  have HB : Hid (Below w.heap.size w w2) := HB0.out.trans (b2.mono HB0.out.size)
  clear own b2
  go_wp2
  go_ret2
  exact ⟨_, by rw [HP.out]; rfl, by rw [HP.out]; exact HO.out, HB.out⟩

set_option maxRecDepth 20000 in
set_option maxHeartbeats 2000000 in
theorem ap_drop (v : Value) (L : List S_Link) (m : S_Move) (w : World) (hn : L.length ≤ 1048576) (hs : sMove m) (hr : RowR w v L.length 2 (rLink L)) (h1 : nameB m.f1 = true) (k0 : m.f0 = 3) (k3 : m.f3 = 0) (k2 : m.f2.size = 0) (ka : ¬ at4 L m.f1 < 0) :
    Calls Tryz.prog 77 #[v, .agg #[.int .i64 m.f0, .string m.f1, .string m.f2, .int .i64 m.f3]] w (ApR L m w) := by
  have HP : Hid (ap L m = (wo m.f1 L, true)) := by
    show _ = _
    unfold ap
    simp [h1, k0, k3, k2, ka]
  have hn' : (L.length : Int) ≤ 1048576 := by omega
  have HB0 : Hid (Below w.heap.size w (w.alloc (.cells #[.int .i64 m.f0, .string m.f1, .string m.f2, .int .i64 m.f3] 116))) := (Below.refl _ _).alloc (Nat.le_refl _) _
  have HR : Hid (RowR (w.alloc (.cells #[.int .i64 m.f0, .string m.f1, .string m.f2, .int .i64 m.f3] 116)) v L.length 2 (rLink L)) := hr.keep HB0.out (Nat.le_refl _)
  have HA : Hid (at4 L m.f1 = idx (fun x => decide (x.f0 = m.f1)) L) := rfl
  have har := idx_range (fun x : S_Link => decide (x.f0 = m.f1)) L
  rw [← HA.out] at har
  obtain ⟨ha1, ha2⟩ := har
  have e1 : (m.f0 == 1) = false := by rw [k0]; rfl
  have e2 : (m.f0 == 2) = false := by rw [k0]; rfl
  have e3 : (m.f0 == 3) = true := by rw [k0]; rfl
  have q2 := empty_yes m.f2 k2
  have q3 : (m.f3 == 0) = true := by simp [k3]
  have H1 : Hid (nameB m.f1 = true) := h1
  clear k0 k2 k3 h1
  go_enter Tryz.func77, Tryz.ntmps77
  go_wp2_with fail
  refine (at4_c v L m.f1 _ hn HR.out).mono ?_
  rintro e w1 ⟨rfl, hw⟩
  subst hw
  rw [← HA.out]
  generalize at4 L m.f1 = a at ha1 ha2 ka ⊢
  go_wp2_with fail
  refine (name_c m.f1 _ hs.1).mono ?_
  rintro e w1 ⟨rfl, hw⟩
  subst hw
  rw [H1.out]
  go_wp2_with fail
  refine (without_c v L m.f1 _ hn HR.out).mono ?_
  rintro e w2 ⟨u, rfl, own, b2⟩
  have HO : Hid (RowR w2 u (wo m.f1 L).length 2 (rLink (wo m.f1 L))) := RowR.own own
  have HB : Hid (Below w.heap.size w w2) := HB0.out.trans (b2.mono HB0.out.size)
  clear own b2
  go_wp2
  go_ret2
  exact ⟨_, by rw [HP.out]; rfl, by rw [HP.out]; exact HO.out, HB.out⟩

end Go.Proofs.YtoecakjjondeeaaGreat
