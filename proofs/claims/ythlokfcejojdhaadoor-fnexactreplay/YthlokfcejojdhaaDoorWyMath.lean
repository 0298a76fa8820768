/- A record that is laid behind a log: plain facts. -/
import Derived.Test.YthlokfcejojdhaaDoorWwSpec
namespace Go.Proofs.YthlokfcejojdhaaDoor
open Go.RowKit
set_option linter.unusedVariables false
set_option linter.unusedSimpArgs false

/-- The term of the last entry, or of the base. -/
def lastT (x : S_Wal) : Int := match x.f4[x.f4.length - 1]? with
  | some e => e.f0
  | none => x.f3

theorem lastT_none {x : S_Wal} (h : x.f4.length = 0) : lastT x = x.f3 := by
  unfold lastT
  rw [List.getElem?_eq_none (by omega)]

theorem lastT_some {x : S_Wal} (h : x.f4.length - 1 < x.f4.length) : lastT x = x.f4[x.f4.length - 1].f0 := by
  unfold lastT
  rw [List.getElem?_eq_getElem h]

/-- The record fits the log. -/
def fit1 (x : S_Wal) (r : S_Rec) : Prop := x.f0 < r.f1 ∨ (r.f1 = x.f0 ∧ (x.f1 = -1 ∨ r.f3 = x.f1))
def fit2 (x : S_Wal) (r : S_Rec) : Prop := r.f2 = x.f2 + x.f4.length + 1 ∧ (x.f4.length : Int) < 60 ∧ lastT x ≤ r.f1 ∧ r.f1 ≤ x.f0
def fit3 (x : S_Wal) (r : S_Rec) : Prop := x.f2 < r.f2 ∧ r.f2 ≤ x.f2 + x.f4.length
def fitsR (x : S_Wal) (r : S_Rec) : Prop := (r.f0 = 1 ∧ fit1 x r) ∨ (r.f0 = 2 ∧ fit2 x r) ∨ (r.f0 = 3 ∧ fit3 x r)

instance (x : S_Wal) (r : S_Rec) : Decidable (fit1 x r) := by unfold fit1; infer_instance
instance (x : S_Wal) (r : S_Rec) : Decidable (fit2 x r) := by unfold fit2; infer_instance
instance (x : S_Wal) (r : S_Rec) : Decidable (fit3 x r) := by unfold fit3; infer_instance
instance (x : S_Wal) (r : S_Rec) : Decidable (fitsR x r) := by unfold fitsR; infer_instance

theorem fits_1 {x : S_Wal} {r : S_Rec} (h : r.f0 = 1) : fitsR x r ↔ fit1 x r := by
  unfold fitsR; constructor
  · rintro (h1 | h1 | h1)
    · exact h1.2
    · omega
    · omega
  · exact fun h1 => .inl ⟨h, h1⟩
theorem fits_2 {x : S_Wal} {r : S_Rec} (h : r.f0 = 2) : fitsR x r ↔ fit2 x r := by
  unfold fitsR; constructor
  · rintro (h1 | h1 | h1)
    · omega
    · exact h1.2
    · omega
  · exact fun h1 => .inr (.inl ⟨h, h1⟩)
theorem fits_3 {x : S_Wal} {r : S_Rec} (h : r.f0 = 3) : fitsR x r ↔ fit3 x r := by
  unfold fitsR; constructor
  · rintro (h1 | h1 | h1)
    · omega
    · omega
    · exact h1.2
  · exact fun h1 => .inr (.inr ⟨h, h1⟩)
theorem fits_0 {x : S_Wal} {r : S_Rec} (h1 : r.f0 ≠ 1) (h2 : r.f0 ≠ 2) (h3 : r.f0 ≠ 3) : ¬ fitsR x r := by
  unfold fitsR
  rintro (h | h | h)
  · exact h1 h.1
  · exact h2 h.1
  · exact h3 h.1

/-- The log behind a record that fits. -/
def stepF (x : S_Wal) (r : S_Rec) : S_Wal :=
  if r.f0 = 1 then ⟨r.f1, r.f3, x.f2, x.f3, x.f4⟩
  else if r.f0 = 2 then ⟨x.f0, x.f1, x.f2, x.f3, x.f4 ++ [⟨r.f1, r.f4⟩]⟩
  else ⟨x.f0, x.f1, x.f2, x.f3, x.f4.take (r.f2 - x.f2 - 1).toNat⟩

theorem step_1 {x : S_Wal} {r : S_Rec} (h : r.f0 = 1) : stepF x r = ⟨r.f1, r.f3, x.f2, x.f3, x.f4⟩ := by unfold stepF; rw [if_pos h]
theorem step_2 {x : S_Wal} {r : S_Rec} (h : r.f0 = 2) : stepF x r = ⟨x.f0, x.f1, x.f2, x.f3, x.f4 ++ [⟨r.f1, r.f4⟩]⟩ := by unfold stepF; rw [if_neg (by omega), if_pos h]
theorem step_3 {x : S_Wal} {r : S_Rec} (h : r.f0 = 3) : stepF x r = ⟨x.f0, x.f1, x.f2, x.f3, x.f4.take (r.f2 - x.f2 - 1).toNat⟩ := by unfold stepF; rw [if_neg (by omega), if_neg (by omega)]

def zeroW : S_Wal := ⟨0, 0, 0, 0, []⟩

/-- What a record makes of a log. -/
def wsF (x : S_Wal) (r : S_Rec) : S_Wal := if okW x then (if okR r ∧ fitsR x r then stepF x r else x) else zeroW
def wsB (x : S_Wal) (r : S_Rec) : Bool := decide (okW x ∧ okR r ∧ fitsR x r)

theorem ws_bad {x : S_Wal} {r : S_Rec} (h : ¬ okW x) : wsF x r = zeroW ∧ wsB x r = false := ⟨if_neg h, decide_eq_false fun h' => h h'.1⟩
theorem ws_no {x : S_Wal} {r : S_Rec} (h : okW x) (h2 : ¬ (okR r ∧ fitsR x r)) : wsF x r = x ∧ wsB x r = false := ⟨by unfold wsF; rw [if_pos h, if_neg h2], decide_eq_false fun h' => h2 h'.2⟩
theorem ws_yes {x : S_Wal} {r : S_Rec} (h : okW x) (h2 : okR r ∧ fitsR x r) : wsF x r = stepF x r ∧ wsB x r = true := ⟨by unfold wsF; rw [if_pos h, if_pos h2], decide_eq_true ⟨h, h2⟩⟩

theorem okW_len {x : S_Wal} (h : okW x) : x.f4.length ≤ 60 ∧ (0 ≤ x.f2 ∧ x.f2 ≤ 100000) := by
  have h1 := h.1
  unfold headW bsR at h1
  omega

theorem okE_data (top : Int) : ∀ (L : List S_Entry) (last : Int), okE top last L → ∀ e ∈ L, e.f1.size ≤ 900
  | [], _, _, e, he => by cases he
  | a :: L, last, h, e, he => by
    obtain ⟨h1, h2, h3, h4, h5⟩ := h
    rcases List.mem_cons.1 he with rfl | he
    · exact h4
    · exact okE_data top L a.f0 h5 e he

theorem okW_data {x : S_Wal} (h : okW x) : ∀ y ∈ x.f4, y.f1.size ≤ 281474976710656 := fun y hy => by
  have := okE_data _ _ _ h.2 y hy
  omega

theorem rEntry_one (L : List S_Entry) (y : S_Entry) : rEntry (L ++ [y]) = rEntry L ++ [.int .i64 y.f0, .string y.f1] := by
  unfold rEntry
  rw [List.flatMap_append]
  rfl

theorem rEntry_take (L : List S_Entry) (k : Nat) : rEntry (L.take k) = (rEntry L).take (k * 2) := by
  induction L generalizing k with
  | nil => simp [rEntry]
  | cons e L ih =>
    cases k with
    | zero => simp [rEntry]
    | succ k =>
      have h : (k + 1) * 2 = (k * 2) + 1 + 1 := by omega
      rw [h]
      show cEntry e ++ rEntry (L.take k) = (cEntry e ++ rEntry L).take _
      rw [ih k]
      rfl

/-- A row of the call's own, cut. -/
theorem own_cutS {w : World} {base : Nat} {p : Option Addr} {n c m : Nat} {L : List S_Entry} (h : w.ownsRow base 63 2 (.slice p n c) L.length (rEntry L)) (hm : m ≤ L.length) : w.ownsRow base 63 2 (.slice p m c) (L.take m).length (rEntry (L.take m)) := by
  have hl : (L.take m).length = m := by rw [List.length_take]; omega
  rw [hl]
  obtain ⟨h1, ⟨h2, h3⟩ | ⟨g, cap, cur, hv, hg, hh, hle, hrest⟩⟩ := h
  · simp only [Value.slice.injEq] at h2
    obtain ⟨rfl, rfl, rfl⟩ := h2
    have : m = 0 := by omega
    subst this
    exact ⟨by simp [rEntry], Or.inl ⟨rfl, rfl⟩⟩
  · simp only [Value.slice.injEq] at hv
    obtain ⟨rfl, rfl, rfl⟩ := hv
    obtain ⟨h4, h5, h6⟩ := hrest
    exact ⟨by rw [rEntry_len, hl], Or.inr ⟨g, _, cur, rfl, hg, hh, by omega, h4, h5, by rw [rEntry_take, ← h6, List.take_take, Nat.min_eq_left (by omega)]⟩⟩

end Go.Proofs.YthlokfcejojdhaaDoor
