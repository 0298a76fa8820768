/- Plain facts on what is told and read again; no program is named here. -/
import Derived.Test.YtdhbhifgmbppjaaDoorRvMath
import Derived.Test.YtdhbhifgmbppjaaDoorRdMath
import Derived.Test.YtdhbhifgmbppjaaDoorFixMath
import Derived.Test.YtdhbhifgmbppjaaDoorUnMath
import Derived.Test.YtdhbhifgmbppjaaDoorRdecMath
namespace Go.Proofs.YtdhbhifgmbppjaaDoor

def InB (xs : List Int) : Prop := ∀ b ∈ xs, 0 ≤ b ∧ b < 256

theorem byteAt_nums (xs : List Int) (h : InB xs) (k : Nat) (hk : k < xs.length) : byteAt (strOfNums xs) k = xs[k] := by
  have e : (strOfNums xs).data[k]? = some (UInt8.ofNat (xs[k]).toNat) := by
    rw [← Array.getElem?_toList, strOfNums_data]
    simp [hk]
  have hb := h xs[k] (List.getElem_mem hk)
  unfold byteAt
  rw [e, Option.getD_some]
  simp
  omega

theorem bl_nums (xs : List Int) (h : InB xs) (k : Nat) (hk : k ≤ xs.length) : bl (strOfNums xs) k = xs.take k := by
  apply List.ext_getElem
  · rw [bl_length, List.length_take]; omega
  · intro i h1 h2
    rw [bl_length] at h1
    have := byteAt_nums xs h i (by omega)
    simp [bl, this]

theorem nums_bl (s : ByteArray) : strOfNums (bl s s.size) = s := by
  apply ByteArray.ext
  apply Array.toList_inj.mp
  rw [strOfNums_data, ← bl_take s s.size (Nat.le_refl _), List.map_map, List.take_of_length_le (i := s.size) (l := s.data.toList) (Nat.le_of_eq Array.length_toList)]
  conv => rhs; rw [← List.map_id s.data.toList]
  apply List.map_congr_left
  intro c _
  simp

theorem seg_var_f : ∀ (f : Nat) (n : Int), n.toNat ≤ f → 0 ≤ n → segL (varL n) = n := by
  intro f
  induction f with
  | zero =>
    intro n hf h
    rw [varL_last n (by omega)]
    simp [segL]; omega
  | succ f ih =>
    intro n hf h
    by_cases h1 : 128 ≤ n
    · rw [varL_more n h1]
      simp only [segL]
      rw [ih (n / 128) (by omega) (by omega)]
      omega
    · rw [varL_last n (by omega)]
      simp [segL]; omega

theorem seg_var (n : Int) (h : 0 ≤ n) : segL (varL n) = n := seg_var_f n.toNat n (Nat.le_refl _) h

theorem rvAt_skip (s : ByteArray) : ∀ (k f : Nat), (∀ i, i < k → 128 ≤ byteAt s i) → rvAt s (f + k) 0 = rvAt s f k
  | 0, _, _ => rfl
  | k + 1, f, h => by
    rw [show f + (k + 1) = (f + 1) + k by omega, rvAt_skip s k (f + 1) (fun i hi => h i (by omega)), rvAt_on _ _ _ (h k (by omega))]

/-- What is told by seven bits a byte is read again, whatever stands behind. -/
theorem rv_back (n : Int) (tl : List Int) (h0 : 0 ≤ n) (ht : InB tl) (h7 : (varL n).length ≤ 7) :
    rvAt (strOfNums (varL n ++ tl)) (min (strOfNums (varL n ++ tl)).size 7) 0 = (n, ((varL n).length : Int)) := by
  obtain ⟨i, b, e, hi, hb0, hb1, hib⟩ := var_form n h0
  have hin : InB (varL n ++ tl) := by
    intro c hc
    rcases List.mem_append.mp hc with hc | hc
    · exact varL_range n h0 c hc
    · exact ht c hc
  have hlen : (varL n).length = i.length + 1 := by rw [e]; simp
  have hsz : (strOfNums (varL n ++ tl)).size = i.length + 1 + tl.length := by rw [strOfNums_size, List.length_append, hlen]
  obtain ⟨f, hf⟩ : ∃ f, min (strOfNums (varL n ++ tl)).size 7 = (f + 1) + i.length := ⟨min (strOfNums (varL n ++ tl)).size 7 - 1 - i.length, by omega⟩
  have hat : ∀ k (hk : k < (varL n).length), byteAt (strOfNums (varL n ++ tl)) k = (varL n)[k] := by
    intro k hk
    rw [byteAt_nums _ hin k (by rw [List.length_append]; omega), List.getElem_append_left hk]
  have hbl : bl (strOfNums (varL n ++ tl)) (i.length + 1) = varL n := by
    rw [bl_nums _ hin _ (by rw [List.length_append]; omega), ← hlen, List.take_left']
    rfl
  have hlast : byteAt (strOfNums (varL n ++ tl)) i.length = b := by
    rw [hat i.length (by omega)]
    simp [e]
  rw [hf, rvAt_skip _ i.length (f + 1) ?_, rvAt_end _ _ _ (by omega) ?_, hbl, seg_var n h0, hlen]
  · rw [hlast]
    rintro ⟨ha, hc⟩
    rcases hib with rfl | hib
    · simp at hc
    · omega
  · intro k hk
    rw [hat k (by omega)]
    have : (varL n)[k] = i[k] := by simp [e, List.getElem_append_left hk]
    rw [this]
    exact hi _ (List.getElem_mem hk)

theorem fq_seven (n : Int) (h : 0 ≤ n) : fq n 7 ≤ 0 ↔ n < 72057594037927936 := by simp only [fq]; omega

/-- What is told in seven bytes is read again, whatever stands behind. -/
theorem rd_back (n : Int) (tl : List Int) (h0 : 0 ≤ n) (h1 : n < 72057594037927936) (ht : InB tl) : rd (strOfNums (beL n 7 ++ tl)) 7 = n := by
  have hbe : beL n 7 = [fq n 6 % 256, fq n 5 % 256, fq n 4 % 256, fq n 3 % 256, fq n 2 % 256, fq n 1 % 256, fq n 0 % 256] := rfl
  have hin : InB (beL n 7 ++ tl) := by
    intro c hc
    rcases List.mem_append.mp hc with hc | hc
    · rw [hbe] at hc; simp at hc; omega
    · exact ht c hc
  have hat : ∀ k (hk : k < 7), (((strOfNums (beL n 7 ++ tl)).data[k]?.getD 0).toNat : Int) = (beL n 7)[k]'(by rw [beL_length]; exact hk) := by
    intro k hk
    have := byteAt_nums _ hin k (by rw [List.length_append, beL_length]; omega)
    unfold byteAt at this
    rw [this, List.getElem_append_left (by rw [beL_length]; exact hk)]
  simp only [rd, hat 0 (by omega), hat 1 (by omega), hat 2 (by omega), hat 3 (by omega), hat 4 (by omega), hat 5 (by omega), hat 6 (by omega)]
  simp only [hbe, List.getElem_cons_zero, List.getElem_cons_succ, fq]
  omega

theorem dec_bl (n : Int) : bl (strOfNums (decL n)) (strOfNums (decL n)).size = decL n := by
  rw [strOfNums_size, bl_nums _ (decL_range n) _ (Nat.le_refl _), List.take_length]

/-- What is told in decimal digits is read again, where there are at most nine. -/
theorem dec_back (n v : Int) (b : Bool) (h : RdP (strOfNums (decL n)) v b) : (-999999999 ≤ n ∧ n ≤ 999999999 → v = n ∧ b = true) ∧ (¬ (-999999999 ≤ n ∧ n ≤ 999999999) → v = 0 ∧ b = false) := by
  constructor
  · intro hn
    exact h.one (.inl ⟨rfl, hn.1, hn.2, dec_bl n⟩)
  · intro hn
    refine h.one (.inr ⟨rfl, rfl, fun m a c e => hn ?_⟩)
    rw [dec_bl n] at e
    have := decL_inj n m e
    omega

theorem hexP_range (s : ByteArray) : ∀ k, InB (hexP s k)
  | 0 => by intro b hb; simp [hexP] at hb
  | k + 1 => by
    intro b hb
    have hr := byteAt_range s k
    simp only [hexP] at hb
    rcases List.mem_append.mp hb with hb | hb
    · exact hexP_range s k b hb
    · simp at hb
      unfold hexd at hb
      rcases hb with rfl | rfl <;> split <;> omega

theorem hexP_get (s : ByteArray) : ∀ (k j : Nat), j < k → (hexP s k)[2 * j]? = some (hexd (byteAt s j / 16)) ∧ (hexP s k)[2 * j + 1]? = some (hexd (byteAt s j % 16))
  | 0, _, h => by omega
  | k + 1, j, h => by
    simp only [hexP]
    by_cases hj : j < k
    · rw [List.getElem?_append_left (by rw [hexP_length]; omega), List.getElem?_append_left (by rw [hexP_length]; omega)]
      exact hexP_get s k j hj
    · have : j = k := by omega
      subst this
      rw [List.getElem?_append_right (by rw [hexP_length]; omega), List.getElem?_append_right (by rw [hexP_length]; omega), hexP_length]
      rw [show 2 * j - 2 * j = 0 by omega, show 2 * j + 1 - 2 * j = 1 by omega]
      exact ⟨rfl, rfl⟩

theorem hex_byte (s : ByteArray) (j : Nat) (h : j < s.size) : unhexd (byteAt (strOfNums (hexP s s.size)) (2 * j)) = byteAt s j / 16 ∧ unhexd (byteAt (strOfNums (hexP s s.size)) (2 * j + 1)) = byteAt s j % 16 := by
  have hr := byteAt_range s j
  obtain ⟨g1, g2⟩ := hexP_get s s.size j h
  have l := hexP_length s s.size
  have a1 := byteAt_nums _ (hexP_range s s.size) (2 * j) (by omega)
  have a2 := byteAt_nums _ (hexP_range s s.size) (2 * j + 1) (by omega)
  rw [List.getElem?_eq_getElem (by omega)] at g1 g2
  simp only [Option.some.injEq] at g1 g2
  rw [a1, a2, g1, g2]
  exact ⟨unhexd_hexd _ (by omega) (by omega), unhexd_hexd _ (by omega) (by omega)⟩

theorem un_hex (s : ByteArray) : ∀ k, k ≤ s.size → un (strOfNums (hexP s s.size)) k = bl s k
  | 0, _ => rfl
  | k + 1, h => by
    have hb := hex_byte s k (by omega)
    rw [un, un_hex s k (by omega), bl_succ, hb.1, hb.2]
    congr 2
    omega

/-- What is told by two signs a byte is read again. -/
theorem hex_back (s : ByteArray) : uRes (strOfNums (hexP s s.size)) = (s, true) := by
  have hsz : (strOfNums (hexP s s.size)).size = 2 * s.size := by rw [strOfNums_size, hexP_length]
  rw [uRes_yes _ ⟨by omega, ?_⟩, hsz, show 2 * s.size / 2 = s.size by omega, un_hex s s.size (Nat.le_refl _), nums_bl]
  intro i hi
  rw [hsz] at hi
  have hr := byteAt_range s (i / 2)
  have hb := hex_byte s (i / 2) (by omega)
  by_cases h2 : i % 2 = 0
  · rw [show i = 2 * (i / 2) by omega, hb.1]; omega
  · rw [show i = 2 * (i / 2) + 1 by omega, hb.2]; omega

/-- What is read begins the text. -/
theorem rv_out_f (s : ByteArray) : ∀ (f i : Nat), i + f ≤ s.size → (∀ a, a < i → 128 ≤ byteAt s a) →
    rvAt s f i = (0, 0) ∨ ∃ k, k < i + f ∧ rvAt s f i = (segL (bl s (k + 1)), ((k + 1 : Nat) : Int)) ∧ ((strOfNums (varL (segL (bl s (k + 1))))).toList == (s.extract 0 (k + 1)).toList) = true
  | 0, _, _, _ => .inl rfl
  | f + 1, i, h, ha => by
    by_cases h1 : 128 ≤ byteAt s i
    · rw [rvAt_on _ _ _ h1]
      rcases rv_out_f s f (i + 1) (by omega) (fun a hh => by
        rcases Nat.lt_succ_iff_lt_or_eq.mp hh with h' | rfl
        · exact ha a h'
        · exact h1) with h2 | ⟨k, hk, h2⟩
      · exact .inl h2
      · exact .inr ⟨k, by omega, h2⟩
    · by_cases hz : byteAt s i = 0 ∧ 0 < i
      · exact .inl (rvAt_bad _ _ _ hz.1 hz.2)
      · exact .inr ⟨i, by omega, rvAt_end _ _ _ (by omega) hz, test_yes s i (by omega) ha (by omega) hz⟩

end Go.Proofs.YtdhbhifgmbppjaaDoor
