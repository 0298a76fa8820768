/- The program's own move that is applied, by its contract. -/
import Derived.Test.YtmknplpcpmkhiaaGreatDiTakeD
import Derived.Test.YtmknplpcpmkhiaaGreatDkSpec7
namespace Go.Proofs.YtmknplpcpmkhiaaGreat
open Go.RowKit Go.Maps
set_option linter.unusedVariables false

/-- What it hands back. -/
def AmR (b : Nat) (L : List S_Link) (m : S_Move) (w : World) (e : Ending) (w' : World) : Prop :=
  e = .returned (.bool (ap L m).2) ∧ w'.ownsMap Tryz.prog 9 (plainElem Tryz.prog 3) b (ap L m).1.length (encL (ap L m).1) ∧ Fr (fun i => i = b) w w'

theorem owns_len {w : World} {b n : Nat} {L : List S_Link} (h : w.ownsMap Tryz.prog 9 (plainElem Tryz.prog 3) b n (encL L)) : w.ownsMap Tryz.prog 9 (plainElem Tryz.prog 3) b L.length (encL L) := by
  have := own_tight h
  rwa [size_encL] at this

set_option maxRecDepth 20000 in
set_option maxHeartbeats 1000000 in
theorem am_1at (b : Nat) (L : List S_Link) (m : S_Move) (w : World) (hown : w.ownsMap Tryz.prog 9 (plainElem Tryz.prog 3) b L.length (encL L)) (hn : L.length ≤ 1048576) (hs : sMove m) (hg : gMove m) (h1 : nameB m.f1 = true) (k0 : m.f0 = 1) (ka : ¬ at4 L m.f1 < 0) :
    Calls Tryz.prog 104 #[.map (some b), .agg #[.int .i64 m.f0, .string m.f1, .string m.f2, .int .i64 m.f3]] w (AmR b L m w) := by
  have HP : Hid (ap L m = (L, false)) := by
    show _ = _
    unfold ap
    simp [h1, k0, ka]
  have HW : Hid (Fr (fun i => i = b) w (w.alloc (.cells #[.int .i64 m.f0, .string m.f1, .string m.f2, .int .i64 m.f3] 51))) := (Fr.refl _ _).alloc _
  have HO : Hid ((w.alloc (.cells #[.int .i64 m.f0, .string m.f1, .string m.f2, .int .i64 m.f3] 51)).ownsMap Tryz.prog 9 (plainElem Tryz.prog 3) b L.length (encL L)) := hown.alloc _
  obtain ⟨v, ps, hrun, hv⟩ := World.ownsMap.look_ok (w := w.alloc (.cells #[.int .i64 m.f0, .string m.f1, .string m.f2, .int .i64 m.f3] 51)) HO.out kStr Tryz.underlying95 (zeroInt _) (plainElem_int Tryz.underlying3 (by decide)) (Go.WideMaps.keyOf_string_mk Tryz.underlying9 hs.1)
  rw [has_encL] at hrun
  obtain ⟨c, rfl, hc, hcw⟩ := plainElem_int_inv Tryz.underlying3 hv
  have hd : decide (at4 L m.f1 < 0) = false := by simpa using ka
  rw [hd] at hrun
  simp only [Bool.not_false] at hrun
  have e1 : (m.f0 == 1) = true := by rw [k0]; rfl
  have e2 : (m.f0 == 2) = false := by rw [k0]; rfl
  have e3 : (m.f0 == 3) = false := by rw [k0]; rfl
  clear hv hc hcw h1 hown k0 ka hd
  go_enter Tryz.func104, Tryz.ntmps104
  go_wp2
  go_ret
  exact ⟨by rw [HP.out]; rfl, by rw [HP.out]; exact HO.out, HW.out⟩

set_option maxRecDepth 20000 in
set_option maxHeartbeats 1000000 in
theorem am_1to (b : Nat) (L : List S_Link) (m : S_Move) (w : World) (hown : w.ownsMap Tryz.prog 9 (plainElem Tryz.prog 3) b L.length (encL L)) (hn : L.length ≤ 1048576) (hs : sMove m) (hg : gMove m) (h1 : nameB m.f1 = true) (k0 : m.f0 = 1) (ka : at4 L m.f1 < 0) (k2 : ¬ m.f2.size = 0) :
    Calls Tryz.prog 104 #[.map (some b), .agg #[.int .i64 m.f0, .string m.f1, .string m.f2, .int .i64 m.f3]] w (AmR b L m w) := by
  have HP : Hid (ap L m = (L, false)) := by
    show _ = _
    unfold ap
    simp [h1, k0, k2]
  have HW : Hid (Fr (fun i => i = b) w (w.alloc (.cells #[.int .i64 m.f0, .string m.f1, .string m.f2, .int .i64 m.f3] 51))) := (Fr.refl _ _).alloc _
  have HO : Hid ((w.alloc (.cells #[.int .i64 m.f0, .string m.f1, .string m.f2, .int .i64 m.f3] 51)).ownsMap Tryz.prog 9 (plainElem Tryz.prog 3) b L.length (encL L)) := hown.alloc _
  obtain ⟨v, ps, hrun, hv⟩ := World.ownsMap.look_ok (w := w.alloc (.cells #[.int .i64 m.f0, .string m.f1, .string m.f2, .int .i64 m.f3] 51)) HO.out kStr Tryz.underlying95 (zeroInt _) (plainElem_int Tryz.underlying3 (by decide)) (Go.WideMaps.keyOf_string_mk Tryz.underlying9 hs.1)
  rw [has_encL] at hrun
  obtain ⟨c, rfl, hc, hcw⟩ := plainElem_int_inv Tryz.underlying3 hv
  have hd : decide (at4 L m.f1 < 0) = true := by simpa using ka
  rw [hd] at hrun
  simp only [Bool.not_true] at hrun
  have e1 : (m.f0 == 1) = true := by rw [k0]; rfl
  have e2 : (m.f0 == 2) = false := by rw [k0]; rfl
  have e3 : (m.f0 == 3) = false := by rw [k0]; rfl
  have q2 := empty_no m.f2 k2
  clear hv hc hcw h1 hown k0 ka hd k2
  go_enter Tryz.func104, Tryz.ntmps104
  go_wp2
  go_ret
  exact ⟨by rw [HP.out]; rfl, by rw [HP.out]; exact HO.out, HW.out⟩

set_option maxRecDepth 20000 in
set_option maxHeartbeats 1000000 in
theorem am_make (b : Nat) (L : List S_Link) (m : S_Move) (w : World) (hown : w.ownsMap Tryz.prog 9 (plainElem Tryz.prog 3) b L.length (encL L)) (hn : L.length ≤ 1048576) (hs : sMove m) (hg : gMove m) (h1 : nameB m.f1 = true) (k0 : m.f0 = 1) (ka : at4 L m.f1 < 0) (k2 : m.f2.size = 0) :
    Calls Tryz.prog 104 #[.map (some b), .agg #[.int .i64 m.f0, .string m.f1, .string m.f2, .int .i64 m.f3]] w (AmR b L m w) := by
  have HP : Hid (ap L m = (wi ⟨m.f1, m.f3⟩ L, true)) := by
    show _ = _
    unfold ap
    simp [h1, k0, k2, ka]
  have HW : Hid (Fr (fun i => i = b) w (w.alloc (.cells #[.int .i64 m.f0, .string m.f1, .string m.f2, .int .i64 m.f3] 51))) := (Fr.refl _ _).alloc _
  have HO : Hid ((w.alloc (.cells #[.int .i64 m.f0, .string m.f1, .string m.f2, .int .i64 m.f3] 51)).ownsMap Tryz.prog 9 (plainElem Tryz.prog 3) b L.length (encL L)) := hown.alloc _
  obtain ⟨v, ps, hrun, hv⟩ := World.ownsMap.look_ok (w := w.alloc (.cells #[.int .i64 m.f0, .string m.f1, .string m.f2, .int .i64 m.f3] 51)) HO.out kStr Tryz.underlying95 (zeroInt _) (plainElem_int Tryz.underlying3 (by decide)) (Go.WideMaps.keyOf_string_mk Tryz.underlying9 hs.1)
  rw [has_encL] at hrun
  obtain ⟨c, rfl, hc, hcw⟩ := plainElem_int_inv Tryz.underlying3 hv
  have hd : decide (at4 L m.f1 < 0) = true := by simpa using ka
  rw [hd] at hrun
  simp only [Bool.not_true] at hrun
  have e1 : (m.f0 == 1) = true := by rw [k0]; rfl
  have e2 : (m.f0 == 2) = false := by rw [k0]; rfl
  have e3 : (m.f0 == 3) = false := by rw [k0]; rfl
  have q2 := empty_yes m.f2 k2
  obtain ⟨w3, hrun3, hown3, hturn⟩ := World.ownsMap.store (w := w.alloc (.cells #[.int .i64 m.f0, .string m.f1, .string m.f2, .int .i64 m.f3] 51)) HO.out kStr Tryz.underlying95 (by unfold maxLen; omega) (Go.WideMaps.keyOf_string_mk Tryz.underlying9 hs.1) (plainElem_int Tryz.underlying3 hg.2)
  rw [encL_put] at hown3
  have HO3 : Hid (w3.ownsMap Tryz.prog 9 (plainElem Tryz.prog 3) b (wi ⟨m.f1, m.f3⟩ L).length (encL (wi ⟨m.f1, m.f3⟩ L))) := owns_len hown3
  have HF3 : Hid (Fr (fun i => i = b) w w3) := HW.out.grown hturn.grown (fun j hj => by cases hj; exact Or.inl rfl)
  clear hv hc hcw h1 hown k0 ka hd k2 hown3 hturn
  go_enter Tryz.func104, Tryz.ntmps104
  go_wp2
  go_ret
  exact ⟨by rw [HP.out]; rfl, by rw [HP.out]; exact HO3.out, HF3.out⟩

set_option maxRecDepth 20000 in
set_option maxHeartbeats 1000000 in
theorem am_2at (b : Nat) (L : List S_Link) (m : S_Move) (w : World) (hown : w.ownsMap Tryz.prog 9 (plainElem Tryz.prog 3) b L.length (encL L)) (hn : L.length ≤ 1048576) (hs : sMove m) (hg : gMove m) (h1 : nameB m.f1 = true) (k0 : m.f0 = 2) (ka : at4 L m.f1 < 0) :
    Calls Tryz.prog 104 #[.map (some b), .agg #[.int .i64 m.f0, .string m.f1, .string m.f2, .int .i64 m.f3]] w (AmR b L m w) := by
  have HP : Hid (ap L m = (L, false)) := by
    show _ = _
    unfold ap
    simp [h1, k0, ka]
  have HW : Hid (Fr (fun i => i = b) w (w.alloc (.cells #[.int .i64 m.f0, .string m.f1, .string m.f2, .int .i64 m.f3] 51))) := (Fr.refl _ _).alloc _
  have HO : Hid ((w.alloc (.cells #[.int .i64 m.f0, .string m.f1, .string m.f2, .int .i64 m.f3] 51)).ownsMap Tryz.prog 9 (plainElem Tryz.prog 3) b L.length (encL L)) := hown.alloc _
  obtain ⟨v, ps, hrun, hv⟩ := World.ownsMap.look_ok (w := w.alloc (.cells #[.int .i64 m.f0, .string m.f1, .string m.f2, .int .i64 m.f3] 51)) HO.out kStr Tryz.underlying95 (zeroInt _) (plainElem_int Tryz.underlying3 (by decide)) (Go.WideMaps.keyOf_string_mk Tryz.underlying9 hs.1)
  rw [has_encL] at hrun
  obtain ⟨c, rfl, hc, hcw⟩ := plainElem_int_inv Tryz.underlying3 hv
  have hd : decide (at4 L m.f1 < 0) = true := by simpa using ka
  rw [hd] at hrun
  simp only [Bool.not_true] at hrun
  have e1 : (m.f0 == 1) = false := by rw [k0]; rfl
  have e2 : (m.f0 == 2) = true := by rw [k0]; rfl
  have e3 : (m.f0 == 3) = false := by rw [k0]; rfl
  clear hv hc hcw h1 hown k0 ka hd
  go_enter Tryz.func104, Tryz.ntmps104
  go_wp2
  go_ret
  exact ⟨by rw [HP.out]; rfl, by rw [HP.out]; exact HO.out, HW.out⟩

set_option maxRecDepth 20000 in
set_option maxHeartbeats 1000000 in
theorem am_2id (b : Nat) (L : List S_Link) (m : S_Move) (w : World) (hown : w.ownsMap Tryz.prog 9 (plainElem Tryz.prog 3) b L.length (encL L)) (hn : L.length ≤ 1048576) (hs : sMove m) (hg : gMove m) (h1 : nameB m.f1 = true) (k0 : m.f0 = 2) (ka : ¬ at4 L m.f1 < 0) (k3 : ¬ m.f3 = 0) :
    Calls Tryz.prog 104 #[.map (some b), .agg #[.int .i64 m.f0, .string m.f1, .string m.f2, .int .i64 m.f3]] w (AmR b L m w) := by
  have HP : Hid (ap L m = (L, false)) := by
    show _ = _
    unfold ap
    simp [h1, k0, k3]
  have HW : Hid (Fr (fun i => i = b) w (w.alloc (.cells #[.int .i64 m.f0, .string m.f1, .string m.f2, .int .i64 m.f3] 51))) := (Fr.refl _ _).alloc _
  have HO : Hid ((w.alloc (.cells #[.int .i64 m.f0, .string m.f1, .string m.f2, .int .i64 m.f3] 51)).ownsMap Tryz.prog 9 (plainElem Tryz.prog 3) b L.length (encL L)) := hown.alloc _
  obtain ⟨v, ps, hrun, hv⟩ := World.ownsMap.look_ok (w := w.alloc (.cells #[.int .i64 m.f0, .string m.f1, .string m.f2, .int .i64 m.f3] 51)) HO.out kStr Tryz.underlying95 (zeroInt _) (plainElem_int Tryz.underlying3 (by decide)) (Go.WideMaps.keyOf_string_mk Tryz.underlying9 hs.1)
  rw [has_encL] at hrun
  obtain ⟨c, rfl, hc, hcw⟩ := plainElem_int_inv Tryz.underlying3 hv
  have hd : decide (at4 L m.f1 < 0) = false := by simpa using ka
  rw [hd] at hrun
  simp only [Bool.not_false] at hrun
  have e1 : (m.f0 == 1) = false := by rw [k0]; rfl
  have e2 : (m.f0 == 2) = true := by rw [k0]; rfl
  have e3 : (m.f0 == 3) = false := by rw [k0]; rfl
  have q3 : (m.f3 != 0) = true := by simpa using k3
  clear hv hc hcw h1 hown k0 ka hd k3
  go_enter Tryz.func104, Tryz.ntmps104
  go_wp2
  go_ret
  exact ⟨by rw [HP.out]; rfl, by rw [HP.out]; exact HO.out, HW.out⟩

set_option maxRecDepth 20000 in
set_option maxHeartbeats 1000000 in
theorem am_2name (b : Nat) (L : List S_Link) (m : S_Move) (w : World) (hown : w.ownsMap Tryz.prog 9 (plainElem Tryz.prog 3) b L.length (encL L)) (hn : L.length ≤ 1048576) (hs : sMove m) (hg : gMove m) (h1 : nameB m.f1 = true) (k0 : m.f0 = 2) (ka : ¬ at4 L m.f1 < 0) (k3 : m.f3 = 0) (kn : nameB m.f2 = false) :
    Calls Tryz.prog 104 #[.map (some b), .agg #[.int .i64 m.f0, .string m.f1, .string m.f2, .int .i64 m.f3]] w (AmR b L m w) := by
  have HP : Hid (ap L m = (L, false)) := by
    show _ = _
    unfold ap
    simp [h1, k0, k3, kn]
  have HW : Hid (Fr (fun i => i = b) w (w.alloc (.cells #[.int .i64 m.f0, .string m.f1, .string m.f2, .int .i64 m.f3] 51))) := (Fr.refl _ _).alloc _
  have HO : Hid ((w.alloc (.cells #[.int .i64 m.f0, .string m.f1, .string m.f2, .int .i64 m.f3] 51)).ownsMap Tryz.prog 9 (plainElem Tryz.prog 3) b L.length (encL L)) := hown.alloc _
  obtain ⟨v, ps, hrun, hv⟩ := World.ownsMap.look_ok (w := w.alloc (.cells #[.int .i64 m.f0, .string m.f1, .string m.f2, .int .i64 m.f3] 51)) HO.out kStr Tryz.underlying95 (zeroInt _) (plainElem_int Tryz.underlying3 (by decide)) (Go.WideMaps.keyOf_string_mk Tryz.underlying9 hs.1)
  rw [has_encL] at hrun
  obtain ⟨c, rfl, hc, hcw⟩ := plainElem_int_inv Tryz.underlying3 hv
  have hd : decide (at4 L m.f1 < 0) = false := by simpa using ka
  rw [hd] at hrun
  simp only [Bool.not_false] at hrun
  have e1 : (m.f0 == 1) = false := by rw [k0]; rfl
  have e2 : (m.f0 == 2) = true := by rw [k0]; rfl
  have e3 : (m.f0 == 3) = false := by rw [k0]; rfl
  have q3 : (m.f3 != 0) = false := by simpa using k3
  have H1 : Hid (nameB m.f2 = false) := kn
  clear hv hc hcw h1 hown k0 ka hd k3 kn
  go_enter Tryz.func104, Tryz.ntmps104
  go_wp2_with fail
  refine (isName_c m.f2 _ hs.2).mono ?_
  rintro e w1 ⟨rfl, hw⟩
  subst hw
  rw [H1.out]
  go_wp2
  go_ret
  exact ⟨by rw [HP.out]; rfl, by rw [HP.out]; exact HO.out, HW.out⟩

set_option maxRecDepth 20000 in
set_option maxHeartbeats 1000000 in
theorem am_2same (b : Nat) (L : List S_Link) (m : S_Move) (w : World) (hown : w.ownsMap Tryz.prog 9 (plainElem Tryz.prog 3) b L.length (encL L)) (hn : L.length ≤ 1048576) (hs : sMove m) (hg : gMove m) (h1 : nameB m.f1 = true) (k0 : m.f0 = 2) (ka : ¬ at4 L m.f1 < 0) (k3 : m.f3 = 0) (kn : nameB m.f2 = true) (ks : m.f2 = m.f1) :
    Calls Tryz.prog 104 #[.map (some b), .agg #[.int .i64 m.f0, .string m.f1, .string m.f2, .int .i64 m.f3]] w (AmR b L m w) := by
  have HP : Hid (ap L m = (L, false)) := by
    show _ = _
    unfold ap
    simp [h1, k0, k3, ks]
  have HW : Hid (Fr (fun i => i = b) w (w.alloc (.cells #[.int .i64 m.f0, .string m.f1, .string m.f2, .int .i64 m.f3] 51))) := (Fr.refl _ _).alloc _
  have HO : Hid ((w.alloc (.cells #[.int .i64 m.f0, .string m.f1, .string m.f2, .int .i64 m.f3] 51)).ownsMap Tryz.prog 9 (plainElem Tryz.prog 3) b L.length (encL L)) := hown.alloc _
  obtain ⟨v, ps, hrun, hv⟩ := World.ownsMap.look_ok (w := w.alloc (.cells #[.int .i64 m.f0, .string m.f1, .string m.f2, .int .i64 m.f3] 51)) HO.out kStr Tryz.underlying95 (zeroInt _) (plainElem_int Tryz.underlying3 (by decide)) (Go.WideMaps.keyOf_string_mk Tryz.underlying9 hs.1)
  rw [has_encL] at hrun
  obtain ⟨c, rfl, hc, hcw⟩ := plainElem_int_inv Tryz.underlying3 hv
  have hd : decide (at4 L m.f1 < 0) = false := by simpa using ka
  rw [hd] at hrun
  simp only [Bool.not_false] at hrun
  have e1 : (m.f0 == 1) = false := by rw [k0]; rfl
  have e2 : (m.f0 == 2) = true := by rw [k0]; rfl
  have e3 : (m.f0 == 3) = false := by rw [k0]; rfl
  have q3 : (m.f3 != 0) = false := by simpa using k3
  have H1 : Hid (nameB m.f2 = true) := kn
  have qs : (m.f2.toList == m.f1.toList) = true := by rw [beq_txt]; simp [ks]
  clear hv hc hcw h1 hown k0 ka hd k3 kn ks
  go_enter Tryz.func104, Tryz.ntmps104
  go_wp2_with fail
  refine (isName_c m.f2 _ hs.2).mono ?_
  rintro e w1 ⟨rfl, hw⟩
  subst hw
  rw [H1.out]
  go_wp2
  go_ret
  exact ⟨by rw [HP.out]; rfl, by rw [HP.out]; exact HO.out, HW.out⟩

set_option maxRecDepth 20000 in
set_option maxHeartbeats 1000000 in
theorem am_rename (b : Nat) (L : List S_Link) (m : S_Move) (w : World) (hown : w.ownsMap Tryz.prog 9 (plainElem Tryz.prog 3) b L.length (encL L)) (hn : L.length ≤ 1048576) (hs : sMove m) (hg : gMove m) (h1 : nameB m.f1 = true) (k0 : m.f0 = 2) (ka : ¬ at4 L m.f1 < 0) (k3 : m.f3 = 0) (kn : nameB m.f2 = true) (ks : ¬ m.f2 = m.f1) :
    Calls Tryz.prog 104 #[.map (some b), .agg #[.int .i64 m.f0, .string m.f1, .string m.f2, .int .i64 m.f3]] w (AmR b L m w) := by
  have HP : Hid (ap L m = (wi ⟨m.f2, (L[(at4 L m.f1).toNat]?.map (·.f1)).getD 0⟩ (wo m.f1 L), true)) := by
    show _ = _
    unfold ap
    simp [h1, k0, k3, kn, ks, ka]
  have HW : Hid (Fr (fun i => i = b) w (w.alloc (.cells #[.int .i64 m.f0, .string m.f1, .string m.f2, .int .i64 m.f3] 51))) := (Fr.refl _ _).alloc _
  have HO : Hid ((w.alloc (.cells #[.int .i64 m.f0, .string m.f1, .string m.f2, .int .i64 m.f3] 51)).ownsMap Tryz.prog 9 (plainElem Tryz.prog 3) b L.length (encL L)) := hown.alloc _
  obtain ⟨v, ps, hrun, hv⟩ := World.ownsMap.look_ok (w := w.alloc (.cells #[.int .i64 m.f0, .string m.f1, .string m.f2, .int .i64 m.f3] 51)) HO.out kStr Tryz.underlying95 (zeroInt _) (plainElem_int Tryz.underlying3 (by decide)) (Go.WideMaps.keyOf_string_mk Tryz.underlying9 hs.1)
  rw [has_encL] at hrun
  obtain ⟨c, rfl, hc, hcw⟩ := plainElem_int_inv Tryz.underlying3 hv
  have hd : decide (at4 L m.f1 < 0) = false := by simpa using ka
  rw [hd] at hrun
  simp only [Bool.not_false] at hrun
  have e1 : (m.f0 == 1) = false := by rw [k0]; rfl
  have e2 : (m.f0 == 2) = true := by rw [k0]; rfl
  have e3 : (m.f0 == 3) = false := by rw [k0]; rfl
  have q3 : (m.f3 != 0) = false := by simpa using k3
  have H1 : Hid (nameB m.f2 = true) := kn
  have qs : (m.f2.toList == m.f1.toList) = false := by rw [beq_txt]; simp [ks]
  have HC : Hid ((L[(at4 L m.f1).toNat]?.map (·.f1)).getD 0 = c) := by
    show _ = _
    simp only [Prod.mk.injEq] at hc
    rw [at_encL L m.f1 _ ka] at hc
    simpa using hc.1
  have c2 : (w.alloc (.cells #[.int .i64 m.f0, .string m.f1, .string m.f2, .int .i64 m.f3] 51)).cell? ⟨w.heap.size, 2, none⟩ = some (.string m.f2) := box_cell _ _ _ _
  have HWF : Hid ((Lit.int .i64 c).wf = true) := hcw
  have hbl : b < w.heap.size := hown.lt
  clear hv hc hcw h1 hown k0 ka hd k3 kn ks
  go_enter Tryz.func104, Tryz.ntmps104
  go_wp2_with fail
  refine (isName_c m.f2 _ hs.2).mono ?_
  rintro e w1 ⟨rfl, hw⟩
  subst hw
  rw [H1.out]
  go_wp2_with (first | (at_delete; refine wpList_delete_own _ rfl _ _ 95 9 rfl 3 kStr Tryz.underlying95 _ b L.length _ rfl HO.out _ _ rfl (Go.WideMaps.keyOf_string_mk Tryz.underlying9 hs.1) ?_; intro w2 hown2 hturn2; have c22 : w2.cell? ⟨w.heap.size, 2, none⟩ = some (.string m.f2) := hturn2.grown.cell c2 (by simp; omega)) | (at_mapUpdate; refine wpList_mapUpdate_in _ rfl _ _ _ 95 rfl 9 3 kStr Tryz.underlying95 _ b L.length _ rfl hown2 (by unfold maxLen; omega) _ _ _ rfl rfl (Go.WideMaps.keyOf_string_mk Tryz.underlying9 hs.2) _ [] (plainElem_int Tryz.underlying3 HWF.out) ?_; intro w3 hown3 hturn3) | go_in)
  rw [encL_del, encL_put] at hown3
  have HF2 : Hid (Fr (fun i => i = b) w w2) := HW.out.grown hturn2.grown (fun j hj => by cases hj; exact Or.inl rfl)
  have HO3 : Hid (w3.ownsMap Tryz.prog 9 (plainElem Tryz.prog 3) b (wi ⟨m.f2, c⟩ (wo m.f1 L)).length (encL (wi ⟨m.f2, c⟩ (wo m.f1 L)))) := owns_len hown3
  have HF3 : Hid (Fr (fun i => i = b) w w3) := HF2.out.grown hturn3.grown (fun j hj => by cases hj; exact Or.inl rfl)
  go_ret
  exact ⟨by rw [HP.out]; rfl, by rw [HP.out, HC.out]; exact HO3.out, HF3.out⟩

set_option maxRecDepth 20000 in
set_option maxHeartbeats 1000000 in
theorem am_3at (b : Nat) (L : List S_Link) (m : S_Move) (w : World) (hown : w.ownsMap Tryz.prog 9 (plainElem Tryz.prog 3) b L.length (encL L)) (hn : L.length ≤ 1048576) (hs : sMove m) (hg : gMove m) (h1 : nameB m.f1 = true) (k0 : m.f0 = 3) (ka : at4 L m.f1 < 0) :
    Calls Tryz.prog 104 #[.map (some b), .agg #[.int .i64 m.f0, .string m.f1, .string m.f2, .int .i64 m.f3]] w (AmR b L m w) := by
  have HP : Hid (ap L m = (L, false)) := by
    show _ = _
    unfold ap
    simp [h1, k0, ka]
  have HW : Hid (Fr (fun i => i = b) w (w.alloc (.cells #[.int .i64 m.f0, .string m.f1, .string m.f2, .int .i64 m.f3] 51))) := (Fr.refl _ _).alloc _
  have HO : Hid ((w.alloc (.cells #[.int .i64 m.f0, .string m.f1, .string m.f2, .int .i64 m.f3] 51)).ownsMap Tryz.prog 9 (plainElem Tryz.prog 3) b L.length (encL L)) := hown.alloc _
  obtain ⟨v, ps, hrun, hv⟩ := World.ownsMap.look_ok (w := w.alloc (.cells #[.int .i64 m.f0, .string m.f1, .string m.f2, .int .i64 m.f3] 51)) HO.out kStr Tryz.underlying95 (zeroInt _) (plainElem_int Tryz.underlying3 (by decide)) (Go.WideMaps.keyOf_string_mk Tryz.underlying9 hs.1)
  rw [has_encL] at hrun
  obtain ⟨c, rfl, hc, hcw⟩ := plainElem_int_inv Tryz.underlying3 hv
  have hd : decide (at4 L m.f1 < 0) = true := by simpa using ka
  rw [hd] at hrun
  simp only [Bool.not_true] at hrun
  have e1 : (m.f0 == 1) = false := by rw [k0]; rfl
  have e2 : (m.f0 == 2) = false := by rw [k0]; rfl
  have e3 : (m.f0 == 3) = true := by rw [k0]; rfl
  clear hv hc hcw h1 hown k0 ka hd
  go_enter Tryz.func104, Tryz.ntmps104
  go_wp2
  go_ret
  exact ⟨by rw [HP.out]; rfl, by rw [HP.out]; exact HO.out, HW.out⟩

set_option maxRecDepth 20000 in
set_option maxHeartbeats 1000000 in
theorem am_3to (b : Nat) (L : List S_Link) (m : S_Move) (w : World) (hown : w.ownsMap Tryz.prog 9 (plainElem Tryz.prog 3) b L.length (encL L)) (hn : L.length ≤ 1048576) (hs : sMove m) (hg : gMove m) (h1 : nameB m.f1 = true) (k0 : m.f0 = 3) (ka : ¬ at4 L m.f1 < 0) (k2 : ¬ m.f2.size = 0) :
    Calls Tryz.prog 104 #[.map (some b), .agg #[.int .i64 m.f0, .string m.f1, .string m.f2, .int .i64 m.f3]] w (AmR b L m w) := by
  have HP : Hid (ap L m = (L, false)) := by
    show _ = _
    unfold ap
    simp [h1, k0, k2]
  have HW : Hid (Fr (fun i => i = b) w (w.alloc (.cells #[.int .i64 m.f0, .string m.f1, .string m.f2, .int .i64 m.f3] 51))) := (Fr.refl _ _).alloc _
  have HO : Hid ((w.alloc (.cells #[.int .i64 m.f0, .string m.f1, .string m.f2, .int .i64 m.f3] 51)).ownsMap Tryz.prog 9 (plainElem Tryz.prog 3) b L.length (encL L)) := hown.alloc _
  obtain ⟨v, ps, hrun, hv⟩ := World.ownsMap.look_ok (w := w.alloc (.cells #[.int .i64 m.f0, .string m.f1, .string m.f2, .int .i64 m.f3] 51)) HO.out kStr Tryz.underlying95 (zeroInt _) (plainElem_int Tryz.underlying3 (by decide)) (Go.WideMaps.keyOf_string_mk Tryz.underlying9 hs.1)
  rw [has_encL] at hrun
  obtain ⟨c, rfl, hc, hcw⟩ := plainElem_int_inv Tryz.underlying3 hv
  have hd : decide (at4 L m.f1 < 0) = false := by simpa using ka
  rw [hd] at hrun
  simp only [Bool.not_false] at hrun
  have e1 : (m.f0 == 1) = false := by rw [k0]; rfl
  have e2 : (m.f0 == 2) = false := by rw [k0]; rfl
  have e3 : (m.f0 == 3) = true := by rw [k0]; rfl
  have q2 := empty_no m.f2 k2
  clear hv hc hcw h1 hown k0 ka hd k2
  go_enter Tryz.func104, Tryz.ntmps104
  go_wp2
  go_ret
  exact ⟨by rw [HP.out]; rfl, by rw [HP.out]; exact HO.out, HW.out⟩

set_option maxRecDepth 20000 in
set_option maxHeartbeats 1000000 in
theorem am_3id (b : Nat) (L : List S_Link) (m : S_Move) (w : World) (hown : w.ownsMap Tryz.prog 9 (plainElem Tryz.prog 3) b L.length (encL L)) (hn : L.length ≤ 1048576) (hs : sMove m) (hg : gMove m) (h1 : nameB m.f1 = true) (k0 : m.f0 = 3) (ka : ¬ at4 L m.f1 < 0) (k2 : m.f2.size = 0) (k3 : ¬ m.f3 = 0) :
    Calls Tryz.prog 104 #[.map (some b), .agg #[.int .i64 m.f0, .string m.f1, .string m.f2, .int .i64 m.f3]] w (AmR b L m w) := by
  have HP : Hid (ap L m = (L, false)) := by
    show _ = _
    unfold ap
    simp [h1, k0, k3]
  have HW : Hid (Fr (fun i => i = b) w (w.alloc (.cells #[.int .i64 m.f0, .string m.f1, .string m.f2, .int .i64 m.f3] 51))) := (Fr.refl _ _).alloc _
  have HO : Hid ((w.alloc (.cells #[.int .i64 m.f0, .string m.f1, .string m.f2, .int .i64 m.f3] 51)).ownsMap Tryz.prog 9 (plainElem Tryz.prog 3) b L.length (encL L)) := hown.alloc _
  obtain ⟨v, ps, hrun, hv⟩ := World.ownsMap.look_ok (w := w.alloc (.cells #[.int .i64 m.f0, .string m.f1, .string m.f2, .int .i64 m.f3] 51)) HO.out kStr Tryz.underlying95 (zeroInt _) (plainElem_int Tryz.underlying3 (by decide)) (Go.WideMaps.keyOf_string_mk Tryz.underlying9 hs.1)
  rw [has_encL] at hrun
  obtain ⟨c, rfl, hc, hcw⟩ := plainElem_int_inv Tryz.underlying3 hv
  have hd : decide (at4 L m.f1 < 0) = false := by simpa using ka
  rw [hd] at hrun
  simp only [Bool.not_false] at hrun
  have e1 : (m.f0 == 1) = false := by rw [k0]; rfl
  have e2 : (m.f0 == 2) = false := by rw [k0]; rfl
  have e3 : (m.f0 == 3) = true := by rw [k0]; rfl
  have q2 := empty_yes m.f2 k2
  have q3 : (m.f3 != 0) = true := by simpa using k3
  clear hv hc hcw h1 hown k0 ka hd k2 k3
  go_enter Tryz.func104, Tryz.ntmps104
  go_wp2
  go_ret
  exact ⟨by rw [HP.out]; rfl, by rw [HP.out]; exact HO.out, HW.out⟩

set_option maxRecDepth 20000 in
set_option maxHeartbeats 1000000 in
theorem am_drop (b : Nat) (L : List S_Link) (m : S_Move) (w : World) (hown : w.ownsMap Tryz.prog 9 (plainElem Tryz.prog 3) b L.length (encL L)) (hn : L.length ≤ 1048576) (hs : sMove m) (hg : gMove m) (h1 : nameB m.f1 = true) (k0 : m.f0 = 3) (ka : ¬ at4 L m.f1 < 0) (k2 : m.f2.size = 0) (k3 : m.f3 = 0) :
    Calls Tryz.prog 104 #[.map (some b), .agg #[.int .i64 m.f0, .string m.f1, .string m.f2, .int .i64 m.f3]] w (AmR b L m w) := by
  have HP : Hid (ap L m = (wo m.f1 L, true)) := by
    show _ = _
    unfold ap
    simp [h1, k0, k3, k2, ka]
  have HW : Hid (Fr (fun i => i = b) w (w.alloc (.cells #[.int .i64 m.f0, .string m.f1, .string m.f2, .int .i64 m.f3] 51))) := (Fr.refl _ _).alloc _
  have HO : Hid ((w.alloc (.cells #[.int .i64 m.f0, .string m.f1, .string m.f2, .int .i64 m.f3] 51)).ownsMap Tryz.prog 9 (plainElem Tryz.prog 3) b L.length (encL L)) := hown.alloc _
  obtain ⟨v, ps, hrun, hv⟩ := World.ownsMap.look_ok (w := w.alloc (.cells #[.int .i64 m.f0, .string m.f1, .string m.f2, .int .i64 m.f3] 51)) HO.out kStr Tryz.underlying95 (zeroInt _) (plainElem_int Tryz.underlying3 (by decide)) (Go.WideMaps.keyOf_string_mk Tryz.underlying9 hs.1)
  rw [has_encL] at hrun
  obtain ⟨c, rfl, hc, hcw⟩ := plainElem_int_inv Tryz.underlying3 hv
  have hd : decide (at4 L m.f1 < 0) = false := by simpa using ka
  rw [hd] at hrun
  simp only [Bool.not_false] at hrun
  have e1 : (m.f0 == 1) = false := by rw [k0]; rfl
  have e2 : (m.f0 == 2) = false := by rw [k0]; rfl
  have e3 : (m.f0 == 3) = true := by rw [k0]; rfl
  have q2 := empty_yes m.f2 k2
  have q3 : (m.f3 != 0) = false := by simpa using k3
  clear hv hc hcw h1 hown k0 ka hd k2 k3
  go_enter Tryz.func104, Tryz.ntmps104
  go_wp2_with (first | (at_delete; refine wpList_delete_own _ rfl _ _ 95 9 rfl 3 kStr Tryz.underlying95 _ b L.length _ rfl HO.out _ _ rfl (Go.WideMaps.keyOf_string_mk Tryz.underlying9 hs.1) ?_; intro w2 hown2 hturn2) | go_in)
  rw [encL_del] at hown2
  have HO2 : Hid (w2.ownsMap Tryz.prog 9 (plainElem Tryz.prog 3) b (wo m.f1 L).length (encL (wo m.f1 L))) := owns_len hown2
  have HF2 : Hid (Fr (fun i => i = b) w w2) := HW.out.grown hturn2.grown (fun j hj => by cases hj; exact Or.inl rfl)
  clear hown2 hturn2 hrun
  go_wp2
  go_ret
  exact ⟨by rw [HP.out]; rfl, by rw [HP.out]; exact HO2.out, HF2.out⟩

set_option maxRecDepth 20000 in
set_option maxHeartbeats 1000000 in
theorem am_other (b : Nat) (L : List S_Link) (m : S_Move) (w : World) (hown : w.ownsMap Tryz.prog 9 (plainElem Tryz.prog 3) b L.length (encL L)) (hn : L.length ≤ 1048576) (hs : sMove m) (hg : gMove m) (h1 : nameB m.f1 = true) (k1 : ¬ m.f0 = 1) (k2 : ¬ m.f0 = 2) (k3 : ¬ m.f0 = 3) :
    Calls Tryz.prog 104 #[.map (some b), .agg #[.int .i64 m.f0, .string m.f1, .string m.f2, .int .i64 m.f3]] w (AmR b L m w) := by
  have HP : Hid (ap L m = (L, false)) := by
    show _ = _
    unfold ap
    simp [h1, k1, k2, k3]
  have HW : Hid (Fr (fun i => i = b) w (w.alloc (.cells #[.int .i64 m.f0, .string m.f1, .string m.f2, .int .i64 m.f3] 51))) := (Fr.refl _ _).alloc _
  have HO : Hid ((w.alloc (.cells #[.int .i64 m.f0, .string m.f1, .string m.f2, .int .i64 m.f3] 51)).ownsMap Tryz.prog 9 (plainElem Tryz.prog 3) b L.length (encL L)) := hown.alloc _
  obtain ⟨v, ps, hrun, hv⟩ := World.ownsMap.look_ok (w := w.alloc (.cells #[.int .i64 m.f0, .string m.f1, .string m.f2, .int .i64 m.f3] 51)) HO.out kStr Tryz.underlying95 (zeroInt _) (plainElem_int Tryz.underlying3 (by decide)) (Go.WideMaps.keyOf_string_mk Tryz.underlying9 hs.1)
  rw [has_encL] at hrun
  obtain ⟨c, rfl, hc, hcw⟩ := plainElem_int_inv Tryz.underlying3 hv
  generalize (!decide (at4 L m.f1 < 0)) = T at hrun
  have e1 : (m.f0 == 1) = false := by simpa using k1
  have e2 : (m.f0 == 2) = false := by simpa using k2
  have e3 : (m.f0 == 3) = false := by simpa using k3
  clear hv hc hcw h1 hown k1 k2 k3
  go_enter Tryz.func104, Tryz.ntmps104
  go_wp2
  go_ret
  exact ⟨by rw [HP.out]; rfl, by rw [HP.out]; exact HO.out, HW.out⟩

theorem am_c (b : Nat) (L : List S_Link) (m : S_Move) (w : World) (hown : w.ownsMap Tryz.prog 9 (plainElem Tryz.prog 3) b L.length (encL L)) (hn : L.length ≤ 1048576) (hs : sMove m) (hg : gMove m) (h1 : nameB m.f1 = true) :
    Calls Tryz.prog 104 #[.map (some b), .agg #[.int .i64 m.f0, .string m.f1, .string m.f2, .int .i64 m.f3]] w (AmR b L m w) := by
  by_cases ka : at4 L m.f1 < 0
  · by_cases k1 : m.f0 = 1
    · by_cases k2 : m.f2.size = 0
      · exact am_make b L m w hown hn hs hg h1 k1 ka k2
      · exact am_1to b L m w hown hn hs hg h1 k1 ka k2
    · by_cases k2 : m.f0 = 2
      · exact am_2at b L m w hown hn hs hg h1 k2 ka
      · by_cases k3 : m.f0 = 3
        · exact am_3at b L m w hown hn hs hg h1 k3 ka
        · exact am_other b L m w hown hn hs hg h1 k1 k2 k3
  · by_cases k1 : m.f0 = 1
    · exact am_1at b L m w hown hn hs hg h1 k1 ka
    · by_cases k2 : m.f0 = 2
      · by_cases k3 : m.f3 = 0
        · by_cases kn : nameB m.f2 = true
          · by_cases ks : m.f2 = m.f1
            · exact am_2same b L m w hown hn hs hg h1 k2 ka k3 kn ks
            · exact am_rename b L m w hown hn hs hg h1 k2 ka k3 kn ks
          · exact am_2name b L m w hown hn hs hg h1 k2 ka k3 (by simpa using kn)
        · exact am_2id b L m w hown hn hs hg h1 k2 ka k3
      · by_cases k3 : m.f0 = 3
        · by_cases q2 : m.f2.size = 0
          · by_cases q3 : m.f3 = 0
            · exact am_drop b L m w hown hn hs hg h1 k3 ka q2 q3
            · exact am_3id b L m w hown hn hs hg h1 k3 ka q2 q3
          · exact am_3to b L m w hown hn hs hg h1 k3 ka q2
        · exact am_other b L m w hown hn hs hg h1 k1 k2 k3

end Go.Proofs.YtmknplpcpmkhiaaGreat
