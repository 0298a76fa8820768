/- The law on numbers, whatever the code. -/
import Derived.Test.YtdhiobfalffebabNumWalk
import Derived.OpenShut
namespace Go.Proofs.Ytdhiobfalffebab
open Go.RowKit
set_option linter.unusedVariables false

/-- What the walk is told of a slice of bytes that came in. -/
def IsRow (w : World) (a : Option Addr) (len cap : Nat) (zs : List Int) : Prop :=
  (a = none ∧ len = 0 ∧ cap = 0 ∧ zs = []) ∨
  ∃ x, a = some x ∧ len ≤ cap ∧ cap ≤ maxLen ∧ zs.length = cap ∧ (∀ i, i < zs.length → w.cell? (x.add i) = some (.int .u8 (zs.getD i 0))) ∧ ∀ n ∈ zs, (Lit.int .u8 n).wf = true

theorem IsRow.code {w : World} {a : Option Addr} {len cap : Nat} {zs : List Int} (h : IsRow w a len cap zs) : CodeAt w w.heap.size a len zs := by
  intro j hj
  rcases h with ⟨_, rfl, _⟩ | ⟨x, rfl, hl, hm, hz, hcell, hwz⟩
  · omega
  · obtain ⟨b, off, spot⟩ := x
    have hspot : spot = none := by simpa [Addr.add] using World.cell?_spot (hcell 0 (by omega))
    subst hspot
    have hplain : (⟨b, off, none⟩ : Addr).add j = ⟨b, off + j, none⟩ := by unfold Addr.add; split <;> simp_all
    have hc' := hcell j (by omega)
    rw [hplain] at hc'
    exact ⟨b, off, rfl, World.block_lt_of_cell? w _ hc', hc'⟩

theorem IsRow.range {w : World} {a : Option Addr} {len cap : Nat} {zs : List Int} (h : IsRow w a len cap zs) : ∀ j, 0 ≤ zs.getD j 0 ∧ zs.getD j 0 ≤ 255 := by
  intro j
  rcases h with ⟨_, _, _, rfl⟩ | ⟨x, rfl, hl, hm, hz, hcell, hwz⟩
  · simp
  · by_cases hj : j < zs.length
    · have e : zs.getD j 0 = zs[j] := by simp [List.getD, List.getElem?_eq_getElem hj]
      rw [e]
      have := bounds_u8 (hwz zs[j] (List.getElem_mem hj))
      omega
    · have e : zs.getD j 0 = 0 := by simp [List.getD, List.getElem?_eq_none (Nat.le_of_not_lt hj)]
      rw [e]; omega

theorem IsRow.len {w : World} {a : Option Addr} {len cap : Nat} {zs : List Int} (h : IsRow w a len cap zs) : len ≤ maxLen := by
  rcases h with ⟨_, rfl, _⟩ | ⟨x, rfl, hl, hm, _⟩
  · exact Nat.zero_le _
  · omega

theorem rd_some (s : ByteArray) (hm : s.size ≤ maxLen) : ∃ y is, ∀ w, Calls Try.prog 10 #[.string s, .int .i64 7] w fun e w' => e = .returned (.tuple #[.int .i64 y, .bool is]) ∧ w' = w := by
  by_cases h : 7 ≤ s.size
  · exact ⟨_, _, fun w => implRd_yes s 7 w (by omega) (by omega) h hm⟩
  · exact ⟨_, _, fun w => implRd_no s 7 w (.inr (.inr (by omega))) hm⟩

theorem dec_call (n : Int) (hm : (strOfNums (decL n)).size ≤ maxLen) (v : Int) (b : Bool) (hvb : ∀ v' b', RdP (strOfNums (decL n)) v' b' → v' = v ∧ b' = b) :
    ∀ w, Calls Try.prog 11 #[.string (strOfNums (decL n))] w fun e w' => e = .returned (.tuple #[.int .i64 v, .bool b]) ∧ Below w.heap.size w w' := fun w =>
  (implRdec_any _ w hm).mono fun e w' ⟨⟨v', b', hR, he⟩, hb⟩ => by
    obtain ⟨rfl, rfl⟩ := hvb v' b' hR
    exact ⟨he, hb⟩

theorem decN_short (m : Int) (h : m ≤ 9223372036854775808) : (decN m).length ≤ 19 := by
  have e : (10 : Int) ^ (18 + 1) = 10000000000000000000 := by decide
  exact decN_len 18 m (by omega)

theorem decL_short (n : Int) (h0 : -9223372036854775808 ≤ n) (h1 : n ≤ 9223372036854775807) : (decL n).length ≤ 20 := by
  unfold decL
  split
  · have := decN_short (-n) (by omega); simp; omega
  · have := decN_short n (by omega); omega

theorem not_empty (xs : List Int) (h : xs ≠ []) : (strOfNums xs).toList.isEmpty = false := by
  rw [ByteArray.toList_eq, strOfNums_data]
  cases xs with
  | nil => exact absurd rfl h
  | cons a l => rfl

theorem lawNum (w : World) (ao : Option Addr) (len cap : Nat) (zs : List Int) (hrow : IsRow w ao len cap zs) :
    Calls Try.prog 3 #[.slice ao len cap] w fun e w' => e = .returned (.bool true) ∧ Below w.heap.size w w' := by
  by_cases hbig : 1048576 < len
  · exact lawNum_big w ao len cap hbig hrow.len
  have hl : len ≤ 1048576 := by omega
  have hli : ¬ ((1048576 : Int) < (len : Int)) := by omega
  have HC : Hid (CodeAt w w.heap.size ao len zs) := hrow.code
  have hz := hrow.range
  obtain ⟨n, hn⟩ : ∃ n, (numF zs len (newF zs len)).1 = n := ⟨_, rfl⟩
  obtain ⟨tl, ht⟩ : ∃ tl, (textF zs len 40 (newF zs len)).1 = tl := ⟨_, rfl⟩
  obtain ⟨n0, n1⟩ := numF_range zs len (newF zs len)
  rw [hn] at n0 n1
  have htf := textF_facts zs len 40 (newF zs len)
  rw [show (((40 : Nat) : Int)) = 40 from rfl, ht] at htf
  obtain ⟨t40, tr⟩ := htf
  have hin : InB tl := fun b hb => by have := tr b hb; omega
  have hTs : (strOfNums tl).size ≤ 40 := by rw [strOfNums_size]; exact t40
  have HD1 : Hid (∀ w, CodeAt w w.heap.size ao len zs → Calls Try.prog 5 #[.slice ao len cap] w fun e w' => e = .returned (.int .i64 n) ∧ w.grownBy w' none) := fun w hc => by
    have := drawVar_any w ao len cap zs hc hl hz; rw [hn] at this; exact this
  have HD2 : Hid (∀ w, CodeAt w w.heap.size ao len zs → Calls Try.prog 6 #[.slice ao len cap] w fun e w' => e = .returned (.string (strOfNums tl)) ∧ w.grownBy w' none) := fun w hc => by
    have := drawHex_any w ao len cap zs hc hl hz; rw [ht] at this; exact this
  have HD3 : Hid (∀ w, CodeAt w w.heap.size ao len zs → Calls Try.prog 15 #[.slice ao len cap] w fun e w' => e = .returned (.string (drvF zs len)) ∧ w.grownBy w' none) := fun w hc => drawReadVar_any w ao len cap zs hc hl hz
  obtain ⟨D, hD⟩ : ∃ D, drvF zs len = D := ⟨_, rfl⟩
  have hDs := drvF_size zs len
  rw [hD] at HD3 hDs
  have HDc : Hid (∀ w, Calls Try.prog 12 #[.int .i64 n] w fun e w' => e = .returned (.string (strOfNums (decL n))) ∧ Below w.heap.size w w') := fun w => implDec_any n w n0 n1
  have hds : (strOfNums (decL n)).size ≤ maxLen := by rw [strOfNums_size]; have := decL_short n n0 n1; unfold maxLen; omega
  have HX1 : Hid (∀ w, Calls Try.prog 14 #[.string (strOfNums tl)] w fun e w' => e = .returned (.string (strOfNums (hexP (strOfNums tl) (strOfNums tl).size))) ∧ Below w.heap.size w w') := fun w => implHex_any _ w (by omega)
  have HU : Hid (∀ w, Calls Try.prog 13 #[.string (strOfNums (hexP (strOfNums tl) (strOfNums tl).size))] w fun e w' => e = .returned (.tuple #[.string (strOfNums tl), .bool true]) ∧ Below w.heap.size w w') := fun w => by
    have := implUn_any (strOfNums (hexP (strOfNums tl) (strOfNums tl).size)) w (by rw [strOfNums_size, hexP_length]; omega)
    rw [hex_back] at this; exact this
  obtain ⟨z, j, hzj⟩ : ∃ z j, rvAt D (min D.size 7) 0 = (z, j) := ⟨_, _, rfl⟩
  have HR2 : Hid (∀ w, Calls Try.prog 8 #[.string D] w fun e w' => e = .returned (.tuple #[.int .i64 z, .int .i64 j]) ∧ w' = w) := fun w => by
    have := implRv_any D w (by omega); rw [hzj] at this; exact this
  have HV2 : Hid (∀ w, Calls Try.prog 7 #[.int .i64 z] w fun e w' => e = .returned (.string (varS z)) ∧ Below w.heap.size w w') := fun w => implVar_s z w
  obtain ⟨jn, hj⟩ : ∃ jn : Nat, j = 0 ∨ (j = (jn : Int) ∧ 0 < jn ∧ jn ≤ D.size ∧ ((varS z).toList == (D.extract 0 jn).toList) = true) := by
    rcases rv_out_f D (min D.size 7) 0 (by omega) (fun a h => by omega) with h | ⟨k, hk, h, ht'⟩
    · rw [hzj] at h
      exact ⟨0, .inl (congrArg Prod.snd h)⟩
    · rw [hzj] at h
      have e1 : z = segL (bl D (k + 1)) := congrArg Prod.fst h
      have e2 : j = ((k + 1 : Nat) : Int) := congrArg Prod.snd h
      refine ⟨k + 1, .inr ⟨e2, by omega, by omega, ?_⟩⟩
      have hz0 := segL_nonneg (bl D (k + 1))
      have hz7 := segL_le7 (bl D (k + 1)) (by rw [bl_length]; omega)
      have e3 : varS z = strOfNums (varL z) := by unfold varS; rw [if_pos (by omega)]
      rw [e3, e1]; exact ht'
  have aT : ∀ w, (Op.stringOp .add ⟨#[]⟩ (strOfNums tl)).run Try.prog w = .ok (.string (strOfNums tl)) w := fun w => run_add_nums [] tl (by simp; omega) w
  obtain ⟨y, is, hG⟩ := rd_some (strOfNums tl) (by unfold maxLen; omega)
  have hRe : ∀ w, Calls Try.prog 8 #[.string (strOfNums tl)] w fun e w' => e = .returned (.tuple #[.int .i64 (rvAt (strOfNums tl) (min (strOfNums tl).size 7) 0).1, .int .i64 (rvAt (strOfNums tl) (min (strOfNums tl).size 7) 0).2]) ∧ w' = w := fun w => implRv_any _ w (by omega)
  have decIn : -999999999 ≤ n ∧ n ≤ 999999999 → Hid (∀ w, Calls Try.prog 11 #[.string (strOfNums (decL n))] w fun e w' => e = .returned (.tuple #[.int .i64 n, .bool true]) ∧ Below w.heap.size w w') := fun hh =>
    dec_call n hds n true fun v' b' hR => (dec_back n v' b' hR).1 hh
  have decOut : ¬ (-999999999 ≤ n ∧ n ≤ 999999999) → Hid (∀ w, Calls Try.prog 11 #[.string (strOfNums (decL n))] w fun e w' => e = .returned (.tuple #[.int .i64 0, .bool false]) ∧ Below w.heap.size w w') := fun hh =>
    dec_call n hds 0 false fun v' b' hR => (dec_back n v' b' hR).2 hh
  have varOut : n < 0 ∨ 562949953421311 < n → Hid (∀ w, Calls Try.prog 7 #[.int .i64 n] w fun e w' => e = .returned (.string ⟨#[]⟩) ∧ Below w.heap.size w w') := fun hh w => implVar_no n w hh
  have fixOut : n < 0 → Hid (∀ w, Calls Try.prog 9 #[.int .i64 n, .int .i64 7] w fun e w' => e = .returned (.string ⟨#[]⟩) ∧ Below w.heap.size w w') := fun hh w => implFix_out n 7 w (.inr (.inr hh))
  have fixOver : 72057594037927936 ≤ n → Hid (∀ w, Calls Try.prog 9 #[.int .i64 n, .int .i64 7] w fun e w' => e = .returned (.string ⟨#[]⟩) ∧ Below w.heap.size w w') := fun hh w =>
    implFix_no n 7 w (by omega) (by omega) (by omega) (by have := fq_seven n (by omega); omega)
  have fixIn : 0 ≤ n → n < 72057594037927936 → Hid (∀ w, Calls Try.prog 9 #[.int .i64 n, .int .i64 7] w fun e w' => e = .returned (.string (strOfNums (beL n 7))) ∧ Below w.heap.size w w') := fun hh h2 w =>
    implFix_yes n 7 w hh n1 (by omega) (by omega) ((fq_seven n hh).mpr h2)
  have aF : ∀ w, (Op.stringOp .add (strOfNums (beL n 7)) (strOfNums tl)).run Try.prog w = .ok (.string (strOfNums (beL n 7 ++ tl))) w := fun w => run_add_nums (beL n 7) tl (by rw [beL_length]; omega) w
  have rdIn : 0 ≤ n → n < 72057594037927936 → Hid (∀ w, Calls Try.prog 10 #[.string (strOfNums (beL n 7 ++ tl)), .int .i64 7] w fun e w' => e = .returned (.tuple #[.int .i64 n, .bool true]) ∧ w' = w) := fun hh h2 w => by
    have h3 := implRd_yes (strOfNums (beL n 7 ++ tl)) 7 w (by omega) (by omega) (by rw [strOfNums_size, List.length_append, beL_length]; omega) (by rw [strOfNums_size, List.length_append, beL_length]; unfold maxLen; omega)
    rw [rd_back n tl hh h2 hin] at h3; exact h3
  have eF : (strOfNums (beL n 7)).toList.isEmpty = false := not_empty _ (by intro h; have := congrArg List.length h; rw [beL_length] at this; simp at this)
  have kF : (((strOfNums (beL n 7)).size : Int) != 7) = false := by rw [strOfNums_size, beL_length]; rfl
  have varIn : 0 ≤ n → n ≤ 562949953421311 → (varL n).length ≤ 7 := fun hh h2 => by
    have e : (128 : Int) ^ (6 + 1) = 562949953421312 := by decide
    exact varL_len 6 n (by omega)
  have varC : 0 ≤ n → n ≤ 562949953421311 → Hid (∀ w, Calls Try.prog 7 #[.int .i64 n] w fun e w' => e = .returned (.string (strOfNums (varL n))) ∧ Below w.heap.size w w') := fun hh h2 w => implVar_yes n w hh h2
  have aV : 0 ≤ n → n ≤ 562949953421311 → ∀ w, (Op.stringOp .add (strOfNums (varL n)) (strOfNums tl)).run Try.prog w = .ok (.string (strOfNums (varL n ++ tl))) w := fun hh h2 w => run_add_nums (varL n) tl (by have := varIn hh h2; omega) w
  have rvC : 0 ≤ n → n ≤ 562949953421311 → Hid (∀ w, Calls Try.prog 8 #[.string (strOfNums (varL n ++ tl))] w fun e w' => e = .returned (.tuple #[.int .i64 n, .int .i64 ((varL n).length : Int)]) ∧ w' = w) := fun hh h2 w => by
    have h7 := varIn hh h2
    have h3 := implRv_any (strOfNums (varL n ++ tl)) w (by rw [strOfNums_size, List.length_append]; omega)
    rw [rv_back n tl hh hin h7] at h3; exact h3
  have eS : (strOfNums (varL n)).toList.isEmpty = false := not_empty _ (by
    by_cases h : 128 ≤ n
    · rw [varL_more n h]; simp
    · rw [varL_last n (by omega)]; simp)
  have kS : (((varL n).length : Int) != ((strOfNums (varL n)).size : Int)) = false := by rw [strOfNums_size]; simp
  by_cases c1 : n ≤ -1000000000
  · exact num_lowest w ao len cap zs n _ _ y 0 z j is jn _ ⟨#[]⟩ _ ⟨#[]⟩ ⟨#[]⟩ _ _ D _ hli HC c1 HD1 HD2 HD3 (varOut (by omega)) aT hRe (fixOut (by omega)) hG HDc (decOut (by omega)) HX1 HU HR2 HV2 hj
  by_cases c2 : n < 0
  · exact num_low w ao len cap zs n _ _ y 0 z j is jn _ ⟨#[]⟩ _ ⟨#[]⟩ ⟨#[]⟩ _ _ D _ hli HC (by omega) c2 HD1 HD2 HD3 (varOut (by omega)) aT hRe (fixOut c2) hG HDc (decIn (by omega)) HX1 HU HR2 HV2 hj
  by_cases c3 : n < 1000000000
  · exact num_small w ao len cap zs n 0 _ 0 0 z j true jn _ _ _ _ _ _ _ D _ hli HC (by omega) c3 eS kS eF kF HD1 HD2 HD3 (varC (by omega) (by omega)) (aV (by omega) (by omega)) (rvC (by omega) (by omega)) (fixIn (by omega) (by omega)) aF (rdIn (by omega) (by omega)) HDc (decIn (by omega)) HX1 HU HR2 HV2 hj
  by_cases c4 : n ≤ 562949953421311
  · exact num_mid w ao len cap zs n 0 _ 0 0 z j true jn _ _ _ _ _ _ _ D _ hli HC (by omega) c4 eS kS eF kF HD1 HD2 HD3 (varC (by omega) c4) (aV (by omega) c4) (rvC (by omega) c4) (fixIn (by omega) (by omega)) aF (rdIn (by omega) (by omega)) HDc (decOut (by omega)) HX1 HU HR2 HV2 hj
  by_cases c5 : n < 72057594037927936
  · exact num_high w ao len cap zs n _ _ 0 0 z j true jn _ ⟨#[]⟩ _ _ _ _ _ D _ hli HC (by omega) c5 eF kF HD1 HD2 HD3 (varOut (by omega)) aT hRe (fixIn (by omega) c5) aF (rdIn (by omega) c5) HDc (decOut (by omega)) HX1 HU HR2 HV2 hj
  · exact num_highest w ao len cap zs n _ _ y 0 z j is jn _ ⟨#[]⟩ _ ⟨#[]⟩ ⟨#[]⟩ _ _ D _ hli HC (by omega) HD1 HD2 HD3 (varOut (by omega)) aT hRe (fixOver (by omega)) hG HDc (decOut (by omega)) HX1 HU HR2 HV2 hj

end Go.Proofs.Ytdhiobfalffebab
