/- The words of a text; no program is named here. -/
import Derived.Test.YtdggkcohidijcaaBlMath
namespace Go.Proofs.Ytdggkcohidijcaa
set_option linter.unusedVariables false
set_option linter.unusedSimpArgs false

/-- Of which kind a number is as a byte. -/
def clF (b : Int) : Int := if b < 0 ∨ 255 < b then 0 else if (97 ≤ b ∧ b ≤ 122) ∨ (65 ≤ b ∧ b ≤ 90) ∨ 128 ≤ b then 1 else if 48 ≤ b ∧ b ≤ 57 then 2 else if b = 9 ∨ b = 10 ∨ b = 13 ∨ b = 32 then 3 else 4

def cl (s : ByteArray) (k : Nat) : Int := clF (byteAt s k)

theorem clF_rng (b : Int) (h : 0 ≤ b ∧ b < 256) : clF b = 1 ∨ clF b = 2 ∨ clF b = 3 ∨ clF b = 4 := by
  unfold clF
  rw [if_neg (by omega)]
  split
  · exact .inl rfl
  · split
    · exact .inr (.inl rfl)
    · split
      · exact .inr (.inr (.inl rfl))
      · exact .inr (.inr (.inr rfl))

theorem cl_rng (s : ByteArray) (k : Nat) : cl s k = 1 ∨ cl s k = 2 ∨ cl s k = 3 ∨ cl s k = 4 := clF_rng _ (byteAt_range s k)

/-- Where a run of one kind ends. -/
structure RunE (s : ByteArray) (c : Int) (a n : Nat) : Prop where
  le : a ≤ n
  sz : n ≤ s.size
  all : ∀ j, a ≤ j → j < n → cl s j = c
  fin : n < s.size → cl s n ≠ c

theorem RunE.uniq {s : ByteArray} {c : Int} {a n m : Nat} (h : RunE s c a n) (g : RunE s c a m) : n = m := by
  rcases Nat.lt_trichotomy n m with h1 | h1 | h1
  · exact absurd (g.all n h.le h1) (h.fin (Nat.lt_of_lt_of_le h1 g.sz))
  · exact h1
  · exact absurd (h.all m g.le h1) (g.fin (Nat.lt_of_lt_of_le h1 h.sz))

def runN (s : ByteArray) (c : Int) : Nat → Nat → Nat
  | 0, k => k
  | f + 1, k => if k < s.size ∧ cl s k = c then runN s c f (k + 1) else k

theorem runN_is (s : ByteArray) (c : Int) : ∀ (f a : Nat), a ≤ s.size → s.size - a ≤ f → RunE s c a (runN s c f a)
  | 0, a, h1, h2 => ⟨Nat.le_refl _, h1, fun j h3 h4 => absurd h4 (by show ¬ j < a; omega), fun h3 => absurd h3 (by show ¬ a < s.size; omega)⟩
  | f + 1, a, h1, h2 => by
    unfold runN
    split
    · rename_i h
      have := runN_is s c f (a + 1) (by omega) (by omega)
      refine ⟨Nat.le_trans (Nat.le_succ _) this.le, this.sz, fun j h3 h4 => ?_, this.fin⟩
      rcases Nat.eq_or_lt_of_le h3 with h5 | h5
      · rw [← h5]; exact h.2
      · exact this.all j h5 h4
    · rename_i h
      exact ⟨Nat.le_refl _, h1, fun j h3 h4 => absurd h4 (by omega), fun h3 h4 => h ⟨h3, h4⟩⟩

/-- The end of the run that begins at a place. -/
def rnE (s : ByteArray) (a : Nat) : Nat := runN s (cl s a) (s.size - a) a
theorem rnE_is (s : ByteArray) (a : Nat) (h : a ≤ s.size) : RunE s (cl s a) a (rnE s a) := runN_is s _ _ a h (Nat.le_refl _)
theorem rnE_lt (s : ByteArray) (a : Nat) (h : a < s.size) : a < rnE s a := by
  have := rnE_is s a (by omega)
  rcases Nat.eq_or_lt_of_le this.le with h1 | h1
  · have h2 := this.fin (by omega)
    rw [← h1] at h2
    exact absurd rfl h2
  · exact h1

/-- Does a blank ahead of the next word go with it? -/
def Draws (s : ByteArray) (a : Nat) : Prop := cl s a = 3 ∧ rnE s a < s.size ∧ cl s (rnE s a) ≠ 2 ∧ byteAt s (rnE s a - 1) = 32
instance (s : ByteArray) (a : Nat) : Decidable (Draws s a) := by unfold Draws; infer_instance

def preE (s : ByteArray) (a : Nat) : Nat :=
  if cl s a = 2 then min (rnE s a) (a + 3)
  else if Draws s a then (if rnE s a = a + 1 then rnE s (a + 1) else rnE s a - 1)
  else rnE s a

/-- Where the word ends that begins at a place. -/
def neE (s : ByteArray) (a : Nat) : Nat := min (preE s a) (a + 64)

theorem preE_dig {s : ByteArray} {a : Nat} (h : cl s a = 2) : preE s a = min (rnE s a) (a + 3) := by unfold preE; rw [if_pos h]
theorem preE_one {s : ByteArray} {a : Nat} (h : Draws s a) (g : rnE s a = a + 1) : preE s a = rnE s (a + 1) := by
  unfold preE; rw [if_neg (by rw [h.1]; decide), if_pos h, if_pos g]
theorem preE_more {s : ByteArray} {a : Nat} (h : Draws s a) (g : rnE s a ≠ a + 1) : preE s a = rnE s a - 1 := by
  unfold preE; rw [if_neg (by rw [h.1]; decide), if_pos h, if_neg g]
theorem preE_no {s : ByteArray} {a : Nat} (h2 : cl s a ≠ 2) (h : ¬ Draws s a) : preE s a = rnE s a := by
  unfold preE; rw [if_neg h2, if_neg h]

theorem preE_in {s : ByteArray} {a : Nat} (h : a < s.size) : a < preE s a ∧ preE s a ≤ s.size := by
  have h1 := rnE_lt s a h
  have h2 := (rnE_is s a (by omega)).sz
  by_cases g2 : cl s a = 2
  · rw [preE_dig g2]; omega
  · by_cases gd : Draws s a
    · by_cases g1 : rnE s a = a + 1
      · rw [preE_one gd g1]
        have := (rnE_is s (a + 1) (by omega))
        exact ⟨by have := this.le; omega, this.sz⟩
      · rw [preE_more gd g1]; omega
    · rw [preE_no g2 gd]; omega

theorem neE_in {s : ByteArray} {a : Nat} (h : a < s.size) : a < neE s a ∧ neE s a ≤ s.size ∧ neE s a ≤ a + 64 := by
  have := preE_in h
  unfold neE
  omega

/-! The rest of a text. -/

theorem byte_rest (s : ByteArray) (k e j : Nat) (h : j < e - k) (he : e ≤ s.size) : byteAt (s.extract k e) j = byteAt s (k + j) := by
  unfold byteAt
  have e1 : (s.extract k e).data[j]? = s.data[k + j]? := by
    rw [ByteArray.data_extract, Array.getElem?_extract, if_pos (by have : s.data.size = s.size := rfl; omega)]
  rw [e1]

theorem size_rest (s : ByteArray) (k e : Nat) (he : e ≤ s.size) : (s.extract k e).size = e - k := by simp; omega

theorem run_rest {s : ByteArray} {k : Nat} (hk : k ≤ s.size) {c : Int} {a n : Nat} (h : RunE (s.extract k s.size) c a n) : RunE s c (k + a) (k + n) := by
  have hz := size_rest s k s.size (Nat.le_refl _)
  have h2 := h.sz
  refine ⟨by have := h.le; omega, by omega, fun j h3 h4 => ?_, fun h3 h4 => ?_⟩
  · have := h.all (j - k) (by omega) (by omega)
    unfold cl at this ⊢
    rw [byte_rest s k s.size (j - k) (by omega) (Nat.le_refl _), show k + (j - k) = j by omega] at this
    exact this
  · refine h.fin (by omega) ?_
    unfold cl at h4 ⊢
    rw [byte_rest s k s.size n (by omega) (Nat.le_refl _)]
    exact h4

theorem cl_rest (s : ByteArray) (k j : Nat) (h : k + j < s.size) : cl (s.extract k s.size) j = cl s (k + j) := by
  unfold cl
  rw [byte_rest s k s.size j (by omega) (Nat.le_refl _)]

theorem rnE_rest (s : ByteArray) (k a : Nat) (h : k + a < s.size) : k + rnE (s.extract k s.size) a = rnE s (k + a) := by
  have hz := size_rest s k s.size (Nat.le_refl _)
  have h1 := run_rest (s := s) (k := k) (by omega) (rnE_is (s.extract k s.size) a (by omega))
  rw [cl_rest s k a h] at h1
  exact h1.uniq (rnE_is s (k + a) (by omega))

theorem preE_rest (s : ByteArray) (k : Nat) (h : k < s.size) : k + preE (s.extract k s.size) 0 = preE s k := by
  have hz := size_rest s k s.size (Nat.le_refl _)
  have e0 := rnE_rest s k 0 (by omega)
  have ec := cl_rest s k 0 (by omega)
  rw [Nat.add_zero] at e0 ec
  have hlt := rnE_lt s k h
  have hD : Draws (s.extract k s.size) 0 ↔ Draws s k := by
    unfold Draws
    rw [ec, hz]
    constructor
    · rintro ⟨h1, h2, h3, h4⟩
      rw [cl_rest s k _ (by omega), e0] at h3
      rw [byte_rest s k s.size _ (by omega) (Nat.le_refl _), show k + (rnE (s.extract k s.size) 0 - 1) = rnE s k - 1 by omega] at h4
      exact ⟨h1, by omega, h3, h4⟩
    · rintro ⟨h1, h2, h3, h4⟩
      refine ⟨h1, by omega, ?_, ?_⟩
      · rw [cl_rest s k _ (by omega), e0]; exact h3
      · rw [byte_rest s k s.size _ (by omega) (Nat.le_refl _), show k + (rnE (s.extract k s.size) 0 - 1) = rnE s k - 1 by omega]; exact h4
  by_cases g2 : cl s k = 2
  · rw [preE_dig g2, preE_dig (ec.trans g2)]; omega
  · by_cases gd : Draws s k
    · by_cases g1 : rnE s k = k + 1
      · rw [preE_one gd g1, preE_one (hD.2 gd) (by omega), rnE_rest s k 1 (by have := gd.2.1; omega)]
      · rw [preE_more gd g1, preE_more (hD.2 gd) (by omega)]; omega
    · rw [preE_no g2 gd, preE_no (by rw [ec]; exact g2) (fun h => gd (hD.1 h))]; exact e0

theorem neE_rest (s : ByteArray) (k : Nat) (h : k < s.size) : k + neE (s.extract k s.size) 0 = neE s k := by
  have := preE_rest s k h
  unfold neE
  omega

/-! All words. -/

def cutN (s : ByteArray) : Nat → Nat → List ByteArray
  | 0, _ => []
  | f + 1, a => if a < s.size then s.extract a (neE s a) :: cutN s f (neE s a) else []

theorem cutN_fuel (s : ByteArray) : ∀ (f g a : Nat), s.size - a ≤ f → s.size - a ≤ g → cutN s f a = cutN s g a
  | 0, 0, _, _, _ => rfl
  | 0, g + 1, a, h, _ => by
    show [] = if a < s.size then _ else _
    rw [if_neg (by omega)]
  | f + 1, 0, a, _, h => by
    show (if a < s.size then _ else _) = []
    rw [if_neg (by omega)]
  | f + 1, g + 1, a, h1, h2 => by
    show (if a < s.size then _ else _) = (if a < s.size then _ else _)
    split
    · rename_i h
      have := neE_in h
      rw [cutN_fuel s f g (neE s a) (by omega) (by omega)]
    · rfl

/-- The words from a place on. -/
def cutA (s : ByteArray) (a : Nat) : List ByteArray := cutN s (s.size - a) a
theorem cutA_end (s : ByteArray) (a : Nat) (h : s.size ≤ a) : cutA s a = [] := by
  unfold cutA
  rw [show s.size - a = 0 by omega]
  rfl
theorem cutA_more (s : ByteArray) (a : Nat) (h : a < s.size) : cutA s a = s.extract a (neE s a) :: cutA s (neE s a) := by
  have := neE_in h
  unfold cutA
  obtain ⟨f, hf⟩ : ∃ f, s.size - a = f + 1 := ⟨s.size - a - 1, by omega⟩
  rw [hf]
  show (if a < s.size then _ else _) = _
  rw [if_pos h, cutN_fuel s f (s.size - neE s a) (neE s a) (by omega) (Nat.le_refl _)]

/-- What Cut answers. -/
def cutF (s : ByteArray) : List ByteArray := if s.size ≤ 1000 then cutA s 0 else []

/-- The words up to a place. -/
def UpW (s : ByteArray) (a : Nat) (acc : List ByteArray) : Prop := acc ++ cutA s a = cutA s 0
theorem upW_zero (s : ByteArray) : UpW s 0 [] := rfl
theorem upW_more {s : ByteArray} {a : Nat} {acc : List ByteArray} (h : UpW s a acc) (hlt : a < s.size) : UpW s (neE s a) (acc ++ [s.extract a (neE s a)]) := by
  unfold UpW at h ⊢
  rw [List.append_assoc, ← h, cutA_more s a hlt]
  rfl
theorem upW_end {s : ByteArray} {acc : List ByteArray} (h : UpW s s.size acc) : acc = cutA s 0 := by
  unfold UpW at h
  rwa [cutA_end s s.size (Nat.le_refl _), List.append_nil] at h

theorem cutA_all (s : ByteArray) : ∀ (f a : Nat), s.size - a ≤ f → ∀ w ∈ cutA s a, 1 ≤ w.size ∧ w.size ≤ 64
  | 0, a, h, w, hw => by rw [cutA_end s a (by omega)] at hw; cases hw
  | f + 1, a, h, w, hw => by
    by_cases hlt : a < s.size
    · have := neE_in hlt
      rw [cutA_more s a hlt] at hw
      rcases List.mem_cons.1 hw with rfl | hw
      · rw [size_rest s a _ this.2.1]; omega
      · exact cutA_all s f (neE s a) (by omega) w hw
    · rw [cutA_end s a (by omega)] at hw; cases hw

theorem cutF_all (s : ByteArray) : ∀ w ∈ cutF s, 1 ≤ w.size ∧ w.size ≤ 64 := by
  intro w hw
  unfold cutF at hw
  split at hw
  · exact cutA_all s _ 0 (Nat.le_refl _) w hw
  · cases hw

theorem cutA_len (s : ByteArray) : ∀ (f a : Nat), s.size - a ≤ f → (cutA s a).length ≤ s.size - a
  | 0, a, h => by rw [cutA_end s a (by omega)]; exact Nat.zero_le _
  | f + 1, a, h => by
    by_cases hlt : a < s.size
    · have := neE_in hlt
      have := cutA_len s f (neE s a) (by omega)
      rw [cutA_more s a hlt, List.length_cons]
      omega
    · rw [cutA_end s a (by omega)]; exact Nat.zero_le _

theorem cutF_len (s : ByteArray) : (cutF s).length ≤ 1000 := by
  unfold cutF
  split
  · have := cutA_len s _ 0 (Nat.le_refl _); omega
  · exact Nat.zero_le _

/-! A word is one word by itself. -/

theorem rnE_all {s : ByteArray} {a : Nat} (h : a < s.size) (hc : ∀ j, a ≤ j → j < s.size → cl s j = cl s a) : rnE s a = s.size :=
  (rnE_is s a (by omega)).uniq ⟨by omega, Nat.le_refl _, hc, fun h => absurd h (Nat.lt_irrefl _)⟩

theorem neE_alike {w : ByteArray} (h0 : 0 < w.size) (h64 : w.size ≤ 64) (h3 : cl w 0 = 2 → w.size ≤ 3) (hc : ∀ j, j < w.size → cl w j = cl w 0) : neE w 0 = w.size := by
  have hr := rnE_all h0 fun j _ h => hc j h
  have hp : preE w 0 = w.size := by
    by_cases g2 : cl w 0 = 2
    · rw [preE_dig g2, hr]; have := h3 g2; omega
    · rw [preE_no g2 (fun h => by have := h.2.1; omega), hr]
  unfold neE
  omega

theorem word_one {s : ByteArray} {a : Nat} (h : a < s.size) : neE (s.extract a (neE s a)) 0 = (s.extract a (neE s a)).size := by
  have hin := neE_in h
  have hz := size_rest s a (neE s a) hin.2.1
  have hb : ∀ j, j < neE s a - a → byteAt (s.extract a (neE s a)) j = byteAt s (a + j) := fun j hj => byte_rest s a _ j hj hin.2.1
  have hcl : ∀ j, j < neE s a - a → cl (s.extract a (neE s a)) j = cl s (a + j) := fun j hj => by unfold cl; rw [hb j hj]
  have hr := rnE_is s a (by omega)
  have h0 := hcl 0 (by omega)
  rw [Nat.add_zero] at h0
  by_cases gd : Draws s a ∧ rnE s a = a + 1
  · obtain ⟨gd, g1⟩ := gd
    have hpe := preE_one gd g1
    have hlt := gd.2.1
    rw [g1] at hlt
    have hr1 := rnE_is s (a + 1) (by omega)
    have hl1 := rnE_lt s (a + 1) hlt
    have hee : neE s a = min (rnE s (a + 1)) (a + 64) := by unfold neE; rw [hpe]
    have hn3 : cl s (a + 1) ≠ 3 := by have := hr.fin (by omega); rw [g1, gd.1] at this; exact this
    have hn2 : cl s (a + 1) ≠ 2 := by have := gd.2.2.1; rw [g1] at this; exact this
    have h32 : byteAt s a = 32 := by have := gd.2.2.2; rw [g1] at this; exact this
    generalize s.extract a (neE s a) = w at *
    have hc1 := hcl 1 (by omega)
    have hr0 : rnE w 0 = 1 := (rnE_is w 0 (by omega)).uniq ⟨by omega, by omega, fun j h3 h4 => by rw [show j = 0 by omega], fun _ => by rw [hc1, h0, gd.1]; exact hn3⟩
    have hrr : rnE w 1 = w.size := rnE_all (by omega) fun j h3 h4 => by
      rw [hcl j (by omega), hc1]
      exact hr1.all (a + j) (by omega) (by omega)
    have hd : Draws w 0 := ⟨by rw [h0]; exact gd.1, by omega, by rw [hr0, hc1]; exact hn2, by rw [hr0, hb 0 (by omega), Nat.add_zero]; exact h32⟩
    unfold neE
    rw [preE_one hd hr0, hrr]
    omega
  · have hle : neE s a ≤ rnE s a ∧ (cl s a = 2 → neE s a ≤ a + 3) := by
      have hl := rnE_lt s a h
      by_cases g2 : cl s a = 2
      · have := preE_dig g2; unfold neE; omega
      · refine ⟨?_, fun h => absurd h g2⟩
        by_cases g3 : Draws s a
        · have := preE_more g3 (fun e => gd ⟨g3, e⟩); unfold neE; omega
        · have := preE_no g2 g3; unfold neE; omega
    refine neE_alike (by omega) (by omega) (fun e => ?_) (fun j hj => ?_)
    · have := hle.2 (by rw [← h0]; exact e); omega
    · rw [hcl j (by omega), h0]
      exact hr.all (a + j) (by omega) (by omega)

/-- One word alone is cut as it is. -/
theorem cutA_one {w : ByteArray} (h : 0 < w.size) (h1 : neE w 0 = w.size) : cutA w 0 = [w] := by
  have e : w.extract 0 w.size = w := by apply ByteArray.ext; simp
  rw [cutA_more w 0 h, h1, cutA_end w w.size (Nat.le_refl _), e]

theorem cutA_self (s : ByteArray) : ∀ (f a : Nat), s.size - a ≤ f → ∀ w ∈ cutA s a, cutF w = [w]
  | 0, a, h, w, hw => by rw [cutA_end s a (by omega)] at hw; cases hw
  | f + 1, a, h, w, hw => by
    by_cases hlt : a < s.size
    · have hin := neE_in hlt
      rw [cutA_more s a hlt] at hw
      rcases List.mem_cons.1 hw with rfl | hw
      · have hz := size_rest s a _ hin.2.1
        unfold cutF
        rw [if_pos (by omega)]
        exact cutA_one (by omega) (word_one hlt)
      · exact cutA_self s f (neE s a) (by omega) w hw
    · rw [cutA_end s a (by omega)] at hw; cases hw

theorem cutF_self (s : ByteArray) : ∀ w ∈ cutF s, cutF w = [w] := by
  intro w hw
  unfold cutF at hw
  split at hw
  · exact cutA_self s _ 0 (Nat.le_refl _) w hw
  · cases hw

/-! What a scan finds. -/

def lim9 (c : Int) : Nat := if c = 2 then 3 else 64

/-- A scan that began at k, of a word that began at a, has come to n. -/
structure ScanE (s : ByteArray) (c : Int) (a k n : Nat) : Prop where
  le : k ≤ n
  sz : n ≤ s.size
  lim : n ≤ a + lim9 c
  all : ∀ j, k ≤ j → j < n → cl s j = c
  fin : n = s.size ∨ cl s n ≠ c ∨ n = a + lim9 c

theorem ScanE.is {s : ByteArray} {c : Int} {a k n r : Nat} (h : ScanE s c a k n) (hr : RunE s c k r) : n = min r (a + lim9 c) := by
  have h1 := h.lim
  rcases Nat.lt_trichotomy n r with h2 | h2 | h2
  · have h3 := hr.all n h.le h2
    rcases h.fin with h4 | h4 | h4
    · have := hr.sz; omega
    · exact absurd h3 h4
    · omega
  · omega
  · have h3 := h.all r hr.le h2
    exact absurd h3 (hr.fin (Nat.lt_of_lt_of_le h2 h.sz))

/-- The first scan, of a word that takes no blank in. -/
theorem scan_word {s : ByteArray} {a n : Nat} (h : a < s.size) (hs : ScanE s (cl s a) a a n) (g : ¬ (cl s a = 3 ∧ byteAt s (n - 1) = 32 ∧ n < s.size ∧ (cl s n = 1 ∨ cl s n = 4))) : n = neE s a := by
  have hr := rnE_is s a (by omega)
  have hlt := rnE_lt s a h
  have e := hs.is hr
  by_cases g2 : cl s a = 2
  · have : lim9 (cl s a) = 3 := by unfold lim9; rw [if_pos g2]
    have := preE_dig g2
    unfold neE
    omega
  · have hl : lim9 (cl s a) = 64 := by unfold lim9; rw [if_neg g2]
    by_cases gd : Draws s a
    · by_cases hb : rnE s a ≤ a + 64
      · have en : n = rnE s a := by omega
        refine absurd ⟨gd.1, by rw [en]; exact gd.2.2.2, by rw [en]; exact gd.2.1, ?_⟩ g
        rw [en]
        have h2 := gd.2.2.1
        have h3 := hr.fin gd.2.1
        rw [gd.1] at h3
        rcases cl_rng s (rnE s a) with h4 | h4 | h4 | h4
        · exact .inl h4
        · exact absurd h4 h2
        · exact absurd h4 h3
        · exact .inr h4
      · have := preE_more gd (by omega)
        unfold neE
        omega
    · have := preE_no g2 gd
      unfold neE
      omega

/-- .. of one that does. -/
theorem scan_draws {s : ByteArray} {a n : Nat} (h : a < s.size) (hs : ScanE s (cl s a) a a n) (h3 : cl s a = 3) (h32 : byteAt s (n - 1) = 32) (hn : n < s.size) (hc : cl s n = 1 ∨ cl s n = 4) : n = rnE s a ∧ Draws s a ∧ n ≤ a + 64 := by
  have hr := rnE_is s a (by omega)
  have hlt := rnE_lt s a h
  have e := hs.is hr
  have hl : lim9 (cl s a) = 64 := by unfold lim9; rw [h3]; rfl
  have en : n = rnE s a := by
    rcases Nat.lt_or_ge n (rnE s a) with h1 | h1
    · have := hr.all n hs.le h1
      rw [h3] at this
      omega
    · omega
  refine ⟨en, ⟨h3, by omega, ?_, by rw [← en]; exact h32⟩, by omega⟩
  rw [← en]
  omega

theorem scan_two {s : ByteArray} {a n : Nat} (h : a < s.size) (hd : Draws s a) (h1 : rnE s a = a + 1) (hs : ScanE s (cl s (a + 1)) a (a + 1) n) : n = neE s a ∧ cl s (a + 1) ≠ 3 ∧ cl s (a + 1) ≠ 2 := by
  have hlt := hd.2.1
  rw [h1] at hlt
  have h2 := hd.2.2.1
  rw [h1] at h2
  have e := hs.is (rnE_is s (a + 1) (by omega))
  have hl : lim9 (cl s (a + 1)) = 64 := by unfold lim9; rw [if_neg h2]
  have hp := preE_one hd h1
  have h3 := (rnE_is s a (by omega)).fin hd.2.1
  rw [h1, hd.1] at h3
  exact ⟨by unfold neE; omega, h3, h2⟩

theorem scan_back {s : ByteArray} {a : Nat} (hd : Draws s a) (h1 : rnE s a ≠ a + 1) (h64 : rnE s a ≤ a + 64) : rnE s a - 1 = neE s a := by
  have := preE_more hd h1
  unfold neE
  omega

end Go.Proofs.Ytdggkcohidijcaa
