/- The walks of the draws of chapter 1: a number, a text, a text that begins with a number. -/
import Derived.Test.YtdhiobfalffebabDraw4Walk
import Derived.Test.YtdhiobfalffebabVarWalk
namespace Go.Proofs.Ytdhiobfalffebab
open Go.RowKit
set_option linter.unusedVariables false

/-- The cursor's block is new: what the caller had is as it was. -/
theorem below_new {w w1 w2 : World} {B : Nat} (h1 : w.grownBy w1 none) (hB : B = w.heap.size) (h2 : w1.grownBy w2 (some B)) : w.grownBy w2 none :=
  ⟨h2.os.trans h1.os, h2.tape.trans h1.tape, h2.output.trans h1.output, Nat.le_trans h1.size h2.size, fun k hk _ => (h2.block k (by have := h1.size; omega) (by simp; omega)).trans (h1.block k hk (by simp))⟩

theorem below_new2 {w w1 w2 : World} {B : Nat} (h1 : w.grownBy w1 none) (hB : B = w.heap.size) (h2 : w1.grownBy w2 (some B)) : w.grownBy w2 none := below_new h1 hB h2

theorem grown_of_below {w w' : World} (h : Below w.heap.size w w') : w.grownBy w' none := ⟨h.os, h.tape, h.output, h.size, fun k hk _ => h.block k hk⟩

theorem below_of_grown {w w' : World} (h : w.grownBy w' none) : Below w.heap.size w w' := ⟨h.os, h.tape, h.output, h.size, fun k hk => h.block k hk (by simp)⟩

theorem Cur.below {w w' : World} {B len cap : Nat} {ao : Option Addr} {zs : List Int} {st : Nat × Int} (hC : Cur w B ao len cap zs st) (h : Below w.heap.size w w') : Cur w' B ao len cap zs st :=
  hC.keep (grown_of_below h) (by simp)

set_option maxHeartbeats 400000 in
theorem drawVar_any (w : World) (ao : Option Addr) (len cap : Nat) (zs : List Int) (hc : CodeAt w w.heap.size ao len zs) (hl : len ≤ 1048576) (hz : ∀ j, 0 ≤ zs.getD j 0 ∧ zs.getD j 0 ≤ 255) :
    Calls Try.prog 5 #[.slice ao len cap] w fun e w' => e = .returned (.int .i64 (numF zs len (newF zs len)).1) ∧ w.grownBy w' none := by
  have HC : Hid (CodeAt w w.heap.size ao len zs) := hc
  have HZ : Hid (∀ j, 0 ≤ zs.getD j 0 ∧ zs.getD j 0 ≤ 255) := hz
  clear hc hz
  go_enter Try.func5, Try.ntmps5
  go_wp2_with fail
  refine (new_any _ ao len cap zs HC.out hl HZ.out).mono ?_
  rintro e w1 ⟨rfl, hC1, hg1⟩
  have K1 : Hid (Cur w1 w.heap.size ao len cap zs (newF zs len) ∧ w.grownBy w1 none) := ⟨hC1, hg1⟩
  clear hC1 hg1
  go_wp2_with fail
  refine (num_any _ _ len cap ao zs _ K1.out.1 hl HZ.out).mono ?_
  rintro e w2 ⟨rfl, hC2, hg2⟩
  have K2 : Hid (w.grownBy w2 none) := below_new K1.out.2 rfl hg2
  clear hC2 hg2
  go_wp2
  go_ret
  exact ⟨rfl, K2.out⟩

set_option maxHeartbeats 400000 in
theorem drawHex_any (w : World) (ao : Option Addr) (len cap : Nat) (zs : List Int) (hc : CodeAt w w.heap.size ao len zs) (hl : len ≤ 1048576) (hz : ∀ j, 0 ≤ zs.getD j 0 ∧ zs.getD j 0 ≤ 255) :
    Calls Try.prog 6 #[.slice ao len cap] w fun e w' => e = .returned (.string (strOfNums (textF zs len 40 (newF zs len)).1)) ∧ w.grownBy w' none := by
  have HC : Hid (CodeAt w w.heap.size ao len zs) := hc
  have HZ : Hid (∀ j, 0 ≤ zs.getD j 0 ∧ zs.getD j 0 ≤ 255) := hz
  clear hc hz
  go_enter Try.func6, Try.ntmps6
  go_wp2_with fail
  refine (new_any _ ao len cap zs HC.out hl HZ.out).mono ?_
  rintro e w1 ⟨rfl, hC1, hg1⟩
  have K1 : Hid (Cur w1 w.heap.size ao len cap zs (newF zs len) ∧ w.grownBy w1 none) := ⟨hC1, hg1⟩
  clear hC1 hg1
  go_wp2_with fail
  refine (text_any _ _ len cap ao zs _ 40 K1.out.1 hl HZ.out (by omega)).mono ?_
  rintro e w2 ⟨rfl, hC2, hg2⟩
  have K2 : Hid (w.grownBy w2 none) := below_new K1.out.2 rfl hg2
  clear hC2 hg2
  go_wp2
  go_ret
  exact ⟨rfl, K2.out⟩

/-- What the number that is drawn is told by. -/
def varS (n : Int) : ByteArray := if 0 ≤ n ∧ n ≤ 562949953421311 then strOfNums (varL n) else ⟨#[]⟩

theorem varL_len : ∀ (k : Nat) (n : Int), n < 128 ^ (k + 1) → (varL n).length ≤ k + 1
  | 0, n, h => by rw [varL_last n (by simpa using h)]; simp
  | k + 1, n, h => by
    by_cases h1 : 128 ≤ n
    · have e : (128 : Int) ^ (k + 1 + 1) = 128 ^ (k + 1) * 128 := Int.pow_succ _ _
      have := varL_len k (n / 128) (by omega)
      rw [varL_more n h1]; simp; omega
    · rw [varL_last n (by omega)]; simp

theorem varS_size (n : Int) : (varS n).size ≤ 7 := by
  unfold varS
  split
  · rename_i h
    have e : (128 : Int) ^ (6 + 1) = 562949953421312 := by decide
    rw [strOfNums_size]; exact varL_len 6 n (by omega)
  · exact Nat.zero_le _

theorem specVar_s (n : Int) (w : World) : Calls Try.prog 22 #[.int .i64 n] w fun e w' => e = .returned (.string (varS n)) ∧ Below w.heap.size w w' := by
  by_cases h : 0 ≤ n ∧ n ≤ 562949953421311
  · have e : varS n = strOfNums (varL n) := by unfold varS; rw [if_pos h]
    rw [e]; exact specVar_yes n w h.1 h.2
  · have e : varS n = ⟨#[]⟩ := by unfold varS; rw [if_neg h]
    rw [e]; exact specVar_no n w (by omega)

theorem implVar_s (n : Int) (w : World) : Calls Try.prog 7 #[.int .i64 n] w fun e w' => e = .returned (.string (varS n)) ∧ Below w.heap.size w w' := by
  by_cases h : 0 ≤ n ∧ n ≤ 562949953421311
  · have e : varS n = strOfNums (varL n) := by unfold varS; rw [if_pos h]
    rw [e]; exact implVar_yes n w h.1 h.2
  · have e : varS n = ⟨#[]⟩ := by unfold varS; rw [if_neg h]
    rw [e]; exact implVar_no n w (by omega)

/-- The text that begins with a number, ahead of the spoiling; and the cursor. -/
def rvS (zs : List Int) (len : Nat) : ByteArray × (Nat × Int) :=
  (varS (numF zs len (newF zs len)).1 ++ strOfNums (textF zs len 4 (numF zs len (newF zs len)).2).1, (textF zs len 4 (numF zs len (newF zs len)).2).2)

/-- The drawn text that begins with a number, mostly. -/
def drvF (zs : List Int) (len : Nat) : ByteArray :=
  if (belowF zs len 4 (rvS zs len).2).1 = 0 then (spoilF zs len (rvS zs len).1 (belowF zs len 4 (rvS zs len).2).2).1 else (rvS zs len).1

theorem rvS_size (zs : List Int) (len : Nat) : (rvS zs len).1.size ≤ 11 := by
  unfold rvS
  have h1 := varS_size (numF zs len (newF zs len)).1
  have h2 := (textF_facts zs len 4 (numF zs len (newF zs len)).2).1
  show (varS (numF zs len (newF zs len)).1 ++ strOfNums (textF zs len ((4 : Nat) : Int) (numF zs len (newF zs len)).2).1).size ≤ 11
  rw [ByteArray.size_append, strOfNums_size]; omega

theorem drvF_size (zs : List Int) (len : Nat) : (drvF zs len).size ≤ 14 := by
  unfold drvF
  have h1 := rvS_size zs len
  split
  · have := spoilF_size zs len (rvS zs len).1 (belowF zs len 4 (rvS zs len).2).2
    omega
  · omega

set_option maxHeartbeats 1000000 in
theorem drawReadVar_any (w : World) (ao : Option Addr) (len cap : Nat) (zs : List Int) (hc : CodeAt w w.heap.size ao len zs) (hl : len ≤ 1048576) (hz : ∀ j, 0 ≤ zs.getD j 0 ∧ zs.getD j 0 ≤ 255) :
    Calls Try.prog 15 #[.slice ao len cap] w fun e w' => e = .returned (.string (drvF zs len)) ∧ w.grownBy w' none := by
  have HC : Hid (CodeAt w w.heap.size ao len zs) := hc
  have HZ : Hid (∀ j, 0 ≤ zs.getD j 0 ∧ zs.getD j 0 ≤ 255) := hz
  clear hc hz
  obtain ⟨n, st1, hn⟩ : ∃ n st1, numF zs len (newF zs len) = (n, st1) := ⟨_, _, rfl⟩
  obtain ⟨tx, st2, ht⟩ : ∃ tx st2, textF zs len 4 st1 = (tx, st2) := ⟨_, _, rfl⟩
  have hrv : rvS zs len = (varS n ++ strOfNums tx, st2) := by unfold rvS; rw [hn]; simp only []; rw [ht]
  have hrs := rvS_size zs len
  rw [hrv] at hrs
  simp only [] at hrs
  have hv7 := varS_size n
  have htl := (textF_facts zs len 4 st1).1
  rw [show (((4 : Nat) : Int)) = 4 from rfl, ht] at htl
  simp only [] at htl
  have had := run_add_small (varS n) (strOfNums tx) (by rw [strOfNums_size]; omega)
  have hnum := fun w (B : Nat) (h : Cur w B ao len cap zs (newF zs len)) => num_any w B len cap ao zs (newF zs len) h hl HZ.out
  have htxt := fun w (B : Nat) (h : Cur w B ao len cap zs st1) => text_any w B len cap ao zs st1 4 h hl HZ.out (by omega)
  have honc := fun w (B : Nat) (h : Cur w B ao len cap zs st2) => once_any w B len cap ao zs st2 4 h hl HZ.out
  rw [hn] at hnum
  rw [show (((4 : Nat) : Int)) = 4 from rfl, ht] at htxt
  obtain ⟨x, st3, hx⟩ : ∃ x st3, belowF zs len 4 st2 = (x, st3) := ⟨_, _, rfl⟩
  rw [hx] at honc
  have HN : Hid _ := hnum
  have HT : Hid _ := htxt
  have HO : Hid _ := honc
  by_cases ex : x = 0
  · have hxx : (x == 0) = true := by simp [ex]
    have HD : Hid (drvF zs len = (spoilF zs len (varS n ++ strOfNums tx) st3).1) := by
      show drvF zs len = _; unfold drvF; rw [hrv]; simp only []; rw [hx]; simp only []; rw [if_pos ex]
    clear hn ht hrv hnum htxt honc hx ex
    go_enter Try.func15, Try.ntmps15
    go_wp2_with fail
    refine (new_any _ ao len cap zs HC.out hl HZ.out).mono ?_
    rintro e w1 ⟨rfl, hC1, hg1⟩
    have K1 : Hid (Cur w1 w.heap.size ao len cap zs (newF zs len) ∧ w.grownBy w1 none) := ⟨hC1, hg1⟩
    clear hC1 hg1
    go_wp2_with fail
    refine (HN.out _ _ K1.out.1).mono ?_
    rintro e w2 ⟨rfl, hC2, hg2⟩
    have K2 : Hid (Cur w2 w.heap.size ao len cap zs st1 ∧ w.grownBy w2 none) := ⟨hC2, below_new2 K1.out.2 rfl hg2⟩
    clear hC2 hg2
    go_wp2_with fail
    refine (specVar_s n _).mono ?_
    rintro e w3 ⟨rfl, hb3⟩
    have K3 : Hid (Cur w3 w.heap.size ao len cap zs st1 ∧ w.grownBy w3 none) := ⟨K2.out.1.below hb3, K2.out.2.andThen (grown_of_below hb3) (by simp)⟩
    clear hb3
    go_wp2_with fail
    refine (HT.out _ _ K3.out.1).mono ?_
    rintro e w4 ⟨rfl, hC4, hg4⟩
    have K4 : Hid (Cur w4 w.heap.size ao len cap zs st2 ∧ w.grownBy w4 none) := ⟨hC4, below_new2 K3.out.2 rfl hg4⟩
    clear hC4 hg4
    go_wp2_with fail
    refine (HO.out _ _ K4.out.1).mono ?_
    rintro e w5 ⟨rfl, hC5, hg5⟩
    have K5 : Hid (Cur w5 w.heap.size ao len cap zs st3 ∧ w.grownBy w5 none) := ⟨hC5, below_new2 K4.out.2 rfl hg5⟩
    clear hC5 hg5
    go_wp2_with fail
    refine (spoil_any _ _ len cap ao zs st3 _ K5.out.1 hl HZ.out (by omega)).mono ?_
    rintro e w6 ⟨rfl, hC6, hg6⟩
    have K6 : Hid (w.grownBy w6 none) := below_new2 K5.out.2 rfl hg6
    clear hC6 hg6
    go_wp2
    go_ret
    exact ⟨ret_str HD.out.symm, K6.out⟩
  · have hxx : (x == 0) = false := by simp [ex]
    have HD : Hid (drvF zs len = varS n ++ strOfNums tx) := by
      show drvF zs len = _; unfold drvF; rw [hrv]; simp only []; rw [hx]; simp only []; rw [if_neg ex]
    clear hn ht hrv hnum htxt honc hx ex
    go_enter Try.func15, Try.ntmps15
    go_wp2_with fail
    refine (new_any _ ao len cap zs HC.out hl HZ.out).mono ?_
    rintro e w1 ⟨rfl, hC1, hg1⟩
    have K1 : Hid (Cur w1 w.heap.size ao len cap zs (newF zs len) ∧ w.grownBy w1 none) := ⟨hC1, hg1⟩
    clear hC1 hg1
    go_wp2_with fail
    refine (HN.out _ _ K1.out.1).mono ?_
    rintro e w2 ⟨rfl, hC2, hg2⟩
    have K2 : Hid (Cur w2 w.heap.size ao len cap zs st1 ∧ w.grownBy w2 none) := ⟨hC2, below_new2 K1.out.2 rfl hg2⟩
    clear hC2 hg2
    go_wp2_with fail
    refine (specVar_s n _).mono ?_
    rintro e w3 ⟨rfl, hb3⟩
    have K3 : Hid (Cur w3 w.heap.size ao len cap zs st1 ∧ w.grownBy w3 none) := ⟨K2.out.1.below hb3, K2.out.2.andThen (grown_of_below hb3) (by simp)⟩
    clear hb3
    go_wp2_with fail
    refine (HT.out _ _ K3.out.1).mono ?_
    rintro e w4 ⟨rfl, hC4, hg4⟩
    have K4 : Hid (Cur w4 w.heap.size ao len cap zs st2 ∧ w.grownBy w4 none) := ⟨hC4, below_new2 K3.out.2 rfl hg4⟩
    clear hC4 hg4
    go_wp2_with fail
    refine (HO.out _ _ K4.out.1).mono ?_
    rintro e w5 ⟨rfl, hC5, hg5⟩
    have K5 : Hid (Cur w5 w.heap.size ao len cap zs st3 ∧ w.grownBy w5 none) := ⟨hC5, below_new2 K4.out.2 rfl hg5⟩
    clear hC5 hg5
    go_wp2
    go_ret
    exact ⟨ret_str HD.out.symm, K5.out.2⟩

end Go.Proofs.Ytdhiobfalffebab
