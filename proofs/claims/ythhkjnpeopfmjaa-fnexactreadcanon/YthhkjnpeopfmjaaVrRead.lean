/- What the program reads a vocabulary by. -/
import Derived.Test.YthhkjnpeopfmjaaVrSpec
namespace Go.Proofs.Ythhkjnpeopfmjaa
open Go.RowKit
set_option linter.unusedVariables false
set_option linter.unusedSimpArgs false

def pfx : ByteArray := ⟨#[98, 112, 101]⟩

theorem pfx_cut (s : ByteArray) (h3 : 3 ≤ s.size) : s.extract 0 3 = pfx ↔ s = pfx ++ s.extract 3 s.size := by
  have e : s.extract 0 3 ++ s.extract 3 s.size = s := by
    rw [ByteArray.extract_append_extract, Nat.min_eq_left (by omega), Nat.max_eq_right (by omega)]
    exact ByteArray.extract_zero_size
  constructor
  · intro h; rw [← h, e]
  · intro h
    have e2 : s.extract 0 3 ++ s.extract 3 s.size = pfx ++ s.extract 3 s.size := by rw [e]; exact h
    have e3 := congrArg (fun b => b.data.toList) e2
    simp only [ByteArray.data_append, Array.toList_append] at e3
    have e4 := List.append_cancel_right e3
    apply ByteArray.ext
    exact Array.toList_inj.1 e4

set_option maxRecDepth 20000 in
set_option maxHeartbeats 4000000 in
theorem hasPfx_c (s : ByteArray) (r : Bool) (hr : r = decide (3 ≤ s.size ∧ s.extract 0 3 = pfx)) (w : World) (hs : s.size ≤ 1048576) : Calls Try.prog 53 #[.string s, .string ⟨#[98, 112, 101]⟩] w fun e w' => e = .returned (.bool r) ∧ w' = w := by
  have hsI : (s.size : Int) ≤ 1048576 := by omega
  have hpz : ((⟨#[98, 112, 101]⟩ : ByteArray).size : Int) = 3 := rfl
  by_cases h3 : 3 ≤ s.size
  · have h3' : (3 : Int) ≤ (s.size : Int) := by omega
    by_cases he : s.extract 0 3 = pfx
    · have HF : Hid (r = true) := by rw [hr]; exact decide_eq_true ⟨h3, he⟩
      have hq : ((s.extract 0 3).toList == [98, 112, 101]) = true := by
        have := tx_yes he
        unfold pfx at this
        rw [ByteArray.toList_eq, ByteArray.toList_eq] at this
        rw [ByteArray.toList_eq]
        exact this
      clear he h3 hr
      go_enter Try.func53, Try.ntmps53
      go_wp2
      go_ret
      exact ⟨by rw [HF.out]; rfl, rfl⟩
    · have HF : Hid (r = false) := by rw [hr]; exact decide_eq_false fun h => he h.2
      have hq : ((s.extract 0 3).toList == [98, 112, 101]) = false := by
        have := tx_no he
        unfold pfx at this
        rw [ByteArray.toList_eq, ByteArray.toList_eq] at this
        rw [ByteArray.toList_eq]
        exact this
      clear he h3 hr
      go_enter Try.func53, Try.ntmps53
      go_wp2
      go_ret
      exact ⟨by rw [HF.out]; rfl, rfl⟩
  · have HF : Hid (r = false) := by rw [hr]; exact decide_eq_false fun h => h3 h.1
    have h3' : (s.size : Int) < 3 := by omega
    clear h3 hr
    go_enter Try.func53, Try.ntmps53
    go_wp2
    go_ret
    exact ⟨by rw [HF.out]; rfl, rfl⟩

set_option maxRecDepth 20000 in
set_option maxHeartbeats 4000000 in
theorem cutIn_c (s : ByteArray) (w : World) (hs : s.size ≤ 1048576) : Calls Try.prog 50 #[.string s, .string ⟨#[98, 112, 101]⟩] w fun e w' => ((∃ T, s = pfx ++ T ∧ e = .returned (.tuple #[.string T, .bool true])) ∨ ((∀ T, s ≠ pfx ++ T) ∧ e = .returned (.tuple #[.string s, .bool false]))) ∧ w' = w := by
  have hsI : (s.size : Int) ≤ 1048576 := by omega
  have hpz : ((⟨#[98, 112, 101]⟩ : ByteArray).size : Int) = 3 := rfl
  have HS : Hid (s.size ≤ 1048576) := hs
  clear hs
  by_cases hk : 3 ≤ s.size ∧ s.extract 0 3 = pfx
  · have HK : Hid (s = pfx ++ s.extract 3 s.size) := (pfx_cut s hk.1).1 hk.2
    have HD : Hid (true = decide (3 ≤ s.size ∧ s.extract 0 3 = pfx)) := (decide_eq_true hk).symm
    have hsl := sl_atV s 3 3 rfl hk.1
    clear hk
    go_enter Try.func50, Try.ntmps50
    go_wp2_with fail
    refine (hasPfx_c s _ HD.out w HS.out).mono ?_
    rintro e wz ⟨rfl, hw⟩
    replace hw := hw.symm
    subst hw
    generalize s.extract 3 s.size = T at HK hsl
    go_wp2
    go_ret2
    exact ⟨.inl ⟨T, HK.out, rfl⟩, rfl⟩
  · have HD : Hid (false = decide (3 ≤ s.size ∧ s.extract 0 3 = pfx)) := (decide_eq_false hk).symm
    have HN : Hid (∀ T, s ≠ pfx ++ T) := fun T e => by
      have h3 : 3 ≤ s.size := by rw [e, ByteArray.size_append]; exact Nat.le_add_right 3 _
      refine hk ⟨h3, (pfx_cut s h3).2 ?_⟩
      have := ext_app pfx T 3 rfl
      rw [← e] at this
      rw [this]
      exact e
    clear hk
    go_enter Try.func50, Try.ntmps50
    go_wp2_with fail
    refine (hasPfx_c s _ HD.out w HS.out).mono ?_
    rintro e wz ⟨rfl, hw⟩
    replace hw := hw.symm
    subst hw
    go_wp2
    go_ret2
    exact ⟨.inr ⟨HN.out, rfl⟩, rfl⟩

set_option maxRecDepth 20000 in
set_option maxHeartbeats 4000000 in
theorem cut_c (s : ByteArray) (w : World) (hs : s.size ≤ 1048576) : Calls Try.prog 39 #[.string s, .string ⟨#[98, 112, 101]⟩] w fun e w' => ((∃ T, s = pfx ++ T ∧ e = .returned (.tuple #[.string T, .bool true])) ∨ ((∀ T, s ≠ pfx ++ T) ∧ e = .returned (.tuple #[.string s, .bool false]))) ∧ w' = w := by
  have HS : Hid (s.size ≤ 1048576) := hs
  clear hs
  go_enter Try.func39, Try.ntmps39
  go_wp2_with fail
  refine (cutIn_c s w HS.out).mono ?_
  rintro e wz ⟨⟨T, hT, rfl⟩ | ⟨hT, rfl⟩, hw⟩
  · replace hw := hw.symm
    subst hw
    have HT : Hid (s = pfx ++ T) := hT
    clear hT
    go_wp2
    go_ret2
    exact ⟨.inl ⟨T, HT.out, rfl⟩, rfl⟩
  · replace hw := hw.symm
    subst hw
    have HT : Hid (∀ T, s ≠ pfx ++ T) := hT
    clear hT
    go_wp2
    go_ret2
    exact ⟨.inr ⟨HT.out, rfl⟩, rfl⟩

theorem infoInt : (Try.prog.info? 3).map (fun i => (i.zero, i.size, i.bytes)) = some (some (.int .i64 0), 1, 8) := by kernel_rfl

def strSz : Value → Nat
  | .string b => b.size
  | _ => 0

/-- What reads numbers hands back. -/
def RvsR (s : ByteArray) (w : World) (e : Ending) (w' : World) : Prop :=
  Below w.heap.size w w' ∧ ((∃ A v, s = catN A ∧ InN A ∧ e = .returned (.tuple #[v, .bool true]) ∧ w'.ownsRow w.heap.size 3 1 v A.length (A.map (Value.int .i64))) ∨ ((∀ A, InN A → s ≠ catN A) ∧ e = .returned (.tuple #[.slice none 0 0, .bool false])))

theorem rvs_bad {s T : ByteArray} {A : List Int} (hA : InN A) (hs : s = catN A ++ T) (hT : T ≠ ⟨#[]⟩) (h : (rv0 T).2 = 0) : ∀ B, InN B → s ≠ catN B := fun B hB e => by
  rw [hs] at e
  obtain ⟨C, h1, h2⟩ := split_cat A B T hA hB e
  cases C with
  | nil => exact hT h2
  | cons c C =>
    have hc := hB c (by rw [h1]; exact List.mem_append_right _ List.mem_cons_self)
    have h2' : T = vrV c ++ catN C := h2
    rw [h2', rv_cat c _ hc.1 hc.2] at h
    have h' : ((vrV c).size : Int) = 0 := h
    have := vrV_pos c
    omega

theorem rvs_more {s T : ByteArray} {A : List Int} {a : Int} {n : Nat} (hA : InN A) (hs : s = catN A ++ T) (h1 : rv0 T = (a, (n : Int))) (hn : n ≠ 0) :
    InN (A ++ [a]) ∧ s = catN (A ++ [a]) ++ T.extract n T.size ∧ n ≤ T.size := by
  obtain ⟨n', e1, e2, e3, e4, e5⟩ := rv_some T (by rw [h1]; show (n : Int) ≠ 0; omega)
  rw [h1] at e1 e4 e5
  have hn' : n' = n := by have : (n : Int) = (n' : Int) := e1; omega
  subst hn'
  refine ⟨?_, ?_, e3⟩
  · intro x hx
    rcases List.mem_append.1 hx with hx | hx
    · exact hA x hx
    · rw [List.mem_singleton.1 hx]; exact e4
  · rw [catN_one, ba_assoc, hs]
    congr 1

theorem own_snocI {w : World} {base : Nat} {v : Value} {acc : List Int} {y : Int} (h : w.ownsRow base 3 1 v (acc.length + 1) (acc.map (Value.int .i64) ++ [.int .i64 y])) : w.ownsRow base 3 1 v (acc ++ [y]).length ((acc ++ [y]).map (Value.int .i64)) := by
  simpa using h

theorem mapI_at (t : List Int) (j : Nat) (h : j < t.length) : (t.map (Value.int .i64))[j]? = some (.int .i64 t[j]) := by
  rw [List.getElem?_map, List.getElem?_eq_getElem h]; rfl

set_option maxRecDepth 20000 in
set_option maxHeartbeats 4000000 in
theorem readVars_c (s : ByteArray) (w : World) (hs : s.size ≤ 1000) : Calls Try.prog 40 #[.string s] w (RvsR s w) := by
  obtain ⟨i0, hi, hz0, hz1, hz2⟩ := info_parts infoInt
  have hml : (1048577 : Nat) ≤ maxLen := by unfold maxLen; omega
  have HS : Hid (s.size ≤ 1000) := hs
  clear hs
  go_enter Try.func40, Try.ntmps40
  go_wp2
  go_loopw [0, 4] (fun sv v wr => ∃ (T : ByteArray) (A : List Int), sv = .string T ∧ Hid (s = catN A ++ T) ∧ Hid (InN A) ∧ Hid (wr.ownsRow w.heap.size 3 1 v A.length (A.map (Value.int .i64))) ∧ Hid (Below w.heap.size w wr)) (fun sv _ _ => strSz sv)
  case atStart => exact ⟨s, [], rfl, (show s = catN [] ++ s from (ba_nilE _).symm), (show InN [] from fun _ h => by cases h), ⟨rfl, Or.inl ⟨rfl, rfl⟩⟩, Below.refl _ _⟩
  case round =>
    obtain ⟨T, A, rfl, HT, HA, HO, HB⟩ := hrel
    have HL : Hid (A.length ≤ 1000 ∧ T.size ≤ 1000) := by
      have e1 := catN_len A
      have e3 := congrArg ByteArray.size HT.out
      rw [ByteArray.size_append] at e3
      have := HS.out
      show _ ∧ _
      omega
    by_cases hT : T = ⟨#[]⟩
    · have HF : Hid (s = catN A) := by have := HT.out; rw [hT, ba_addE] at this; exact this
      subst hT
      go_wp2
      go_ret2
      exact ⟨HB.out, .inl ⟨A, _, HF.out, HA.out, rfl, HO.out⟩⟩
    · have hq0 : T.toList.isEmpty = false := txe_no (by
        rcases Nat.eq_zero_or_pos T.size with h | h
        · exact absurd (by cases T; simp only [ByteArray.mk.injEq]; exact Array.eq_empty_of_size_eq_zero h) hT
        · exact h)
      obtain ⟨a, n, h1⟩ : ∃ (a : Int) (n : Nat), rv0 T = (a, (n : Int)) := ⟨(rv0 T).1, (rv0 T).2.toNat, by have := (rv_bound T).2.2.1; rw [Int.toNat_of_nonneg this]⟩
      have HN1 : Hid (n = 0 → ∀ B, InN B → s ≠ catN B) := fun h => rvs_bad HA.out HT.out hT (by rw [h1, h]; rfl)
      have HM1 : Hid (n ≠ 0 → InN (A ++ [a]) ∧ s = catN (A ++ [a]) ++ T.extract n T.size ∧ n ≤ T.size) := fun h => rvs_more HA.out HT.out h1 h
      have H1 : Hid ((rv0 T).1 = a ∧ (rv0 T).2 = (n : Int)) := by show _ ∧ _; rw [h1]; exact ⟨rfl, rfl⟩
      have HNB : Hid (n ≤ T.size) := by have := (rv_bound T).2.2.2; rw [h1] at this; have h' : (n : Int) ≤ (T.size : Int) := this; show _ ≤ _; omega
      clear h1 hT
      go_wp2_with fail
      refine (irv_c T wr (by have := HL.out; omega)).mono ?_
      rintro e wz ⟨rfl, hw⟩
      replace hw := hw.symm
      subst hw
      rw [H1.out.1, H1.out.2]
      by_cases hn : n = 0
      · have HF : Hid (∀ B, InN B → s ≠ catN B) := HN1.out hn
        have hq : ((n : Int) == 0) = true := by rw [hn]; rfl
        clear hn
        go_wp2
        go_ret2
        exact ⟨HB.out, .inr ⟨HF.out, rfl⟩⟩
      have hq : ((n : Int) == 0) = false := by simp; omega
      obtain ⟨g1, g2, g3⟩ := HM1.out hn
      have HA3 : Hid (InN (A ++ [a])) := g1
      have HT3 : Hid (s = catN (A ++ [a]) ++ T.extract n T.size) := g2
      have HSZ : Hid ((T.extract n T.size).size < T.size) := by show _ < _; simp; omega
      have hsl := sl_atV T n (n : Int) rfl g3
      have hnI : (n : Int) ≤ (T.size : Int) := by omega
      have hTI : (T.size : Int) ≤ 1000 := by have := HL.out; omega
      clear hn g1 g2 g3
      generalize T.extract n T.size = U at HT3 hsl HSZ
      have hown1 := HO.out
      have hlen := HL.out.1
      go_wp2_with (at_builtin; refine wpList_append_own _ rfl _ _ 68 rfl w.heap.size 3 i0 (.int .i64 0) 1 8 Try.underlying68 hi hz0 hz1 hz2 rfl (by decide) _ _ _ rfl (hown1.alloc _) ⟨wr.heap.size, 0, none⟩ 1 1 [.int .i64 a] rfl rfl (cell_one_new _ _ _) (by intro u hu; simp at hu; subst hu; rfl) (by omega) (by omega) (by have := HB.out.size; simp; omega) ?_)
      intro v' w3 hown3 hgrow _
      have R1 := own_snocI hown3
      have R2 := below_append HB.out (Nat.le_refl _) hown1 hgrow
      have HR1 : Hid (w3.ownsRow w.heap.size 3 1 v' (A ++ [a]).length ((A ++ [a]).map (Value.int .i64))) := R1
      have HR2 : Hid (Below w.heap.size w w3) := R2
      clear hown3 hgrow hown1 R1 R2
      go_wp2
      go_roundw
      case rel => exact ⟨U, A ++ [a], rfl, HT3, HA3, HR1, HR2⟩
      case measure => first | exact HSZ.out | (simp [strSz]; exact HSZ.out)

end Go.Proofs.Ythhkjnpeopfmjaa
