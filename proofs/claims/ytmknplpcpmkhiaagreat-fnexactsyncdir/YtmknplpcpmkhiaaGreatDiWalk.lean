/- The program's own disk while it is worked on: how it lies in memory; how many bytes it has; who has had a name. -/
import Derived.Test.YtmknplpcpmkhiaaGreatDiMath
import Derived.Test.YtmknplpcpmkhiaaGreatJD
import Derived.Deep.LoopGhost
import Derived.BigQuiet
namespace Go.Proofs.YtmknplpcpmkhiaaGreat
open Go.RowKit Go.Maps
set_option linter.unusedVariables false

theorem kInt : Keyed Tryz.prog 3 := int_keyed Tryz.underlying3

theorem kStr : Keyed Tryz.prog 9 := string_keyed Tryz.underlying9

theorem zeroPtr (w : World) : (zeroValue 94).run Tryz.prog w = .ok (.pointer none) w := by kernel_rfl

theorem zeroInt (w : World) : (zeroValue 3).run Tryz.prog w = .ok (.int .i64 0) w := by kernel_rfl

/-- A file. -/
def fObj (x : S_Inode) (h : Bool) : Obj := .cells #[.string x.f1, .int .i64 x.f2, .bool h] 104

/-- A disk that is worked on. -/
def mObj (room next : Int) (bf bd : Nat) (vn vm : Value) : Obj := .cells #[.int .i64 room, .int .i64 next, .map (some bf), .map (some bd), vn, vm] 97

/-- The files of a disk that is worked on, each in a block of its own; h: who has had a name. -/
structure Fls (B : Nat) (w : World) (bf : Nat) (fs : List (S_Inode × Nat)) (h : Int → Bool) : Prop where
  own : w.ownsMap Tryz.prog 3 ptrElem bf fs.length (encF fs)
  blk : ∀ p ∈ fs, w.heap[p.2]? = some (fObj p.1 (h p.1.f0))
  low : B ≤ bf ∧ ∀ p ∈ fs, B ≤ p.2
  apart : (fs.map (·.2)).Nodup
  ris : fs.Pairwise (fun p q => p.1.f0 < q.1.f0)
  wf : ∀ p ∈ fs, (Lit.int .i64 p.1.f0).wf = true ∧ (Lit.int .i64 p.1.f2).wf = true ∧ p.1.f1.size ≤ 1048576

theorem Fls.keep {B : Nat} {w w' : World} {bf : Nat} {fs : List (S_Inode × Nat)} {h : Int → Bool} {S : Nat → Prop} (F : Fls B w bf fs h) (f : Fr S w w') (h1 : ¬ S bf) (h2 : ∀ p ∈ fs, ¬ S p.2) : Fls B w' bf fs h :=
  ⟨f.map F.own h1, fun p hp => f.at (F.blk p hp) (h2 p hp), F.low, F.apart, F.ris, F.wf⟩

theorem mount_cell {w : World} {m : Nat} {room next : Int} {bf bd : Nat} {vn vm : Value} (h : w.heap[m]? = some (mObj room next bf bd vn vm)) : w.cell? ⟨m, 0, none⟩ = some (.int .i64 room) ∧ w.cell? ⟨m, 1, none⟩ = some (.int .i64 next) ∧ w.cell? ⟨m, 2, none⟩ = some (.map (some bf)) ∧ w.cell? ⟨m, 3, none⟩ = some (.map (some bd)) ∧ w.cell? ⟨m, 4, none⟩ = some vn ∧ w.cell? ⟨m, 5, none⟩ = some vm := by
  simp [World.cell?, h, mObj]

theorem mount_frozen {w : World} {m : Nat} {room next : Int} {bf bd : Nat} {vn vm : Value} (h : w.heap[m]? = some (mObj room next bf bd vn vm)) (o : Nat) : w.frozen? ⟨m, o, none⟩ = false := by
  simp [World.frozen?, h, mObj]

theorem file_cell {w : World} {b : Nat} {x : S_Inode} {h : Bool} (hb : w.heap[b]? = some (fObj x h)) : w.cell? ⟨b, 0, none⟩ = some (.string x.f1) ∧ w.cell? ⟨b, 1, none⟩ = some (.int .i64 x.f2) ∧ w.cell? ⟨b, 2, none⟩ = some (.bool h) := by
  simp [World.cell?, hb, fObj]

theorem file_frozen {w : World} {b : Nat} {x : S_Inode} {h : Bool} (hb : w.heap[b]? = some (fObj x h)) (o : Nat) : w.frozen? ⟨b, o, none⟩ = false := by
  simp [World.frozen?, hb, fObj]

theorem find_of_mem {fs : List (S_Inode × Nat)} (hr : fs.Pairwise (fun p q => p.1.f0 < q.1.f0)) {p : S_Inode × Nat} (hp : p ∈ fs) : fs.find? (fun q => decide (q.1.f0 = p.1.f0)) = some p := by
  induction fs with
  | nil => simp at hp
  | cons q qs ih =>
    obtain ⟨h1, h2⟩ := List.pairwise_cons.1 hr
    rcases List.mem_cons.1 hp with rfl | hp'
    · simp
    · have := h1 p hp'
      rw [List.find?_cons_of_neg (by simp; omega)]
      exact ih h2 hp'

/-- The step of a range over the files. -/
theorem wpList_next_files {P : Program} (w : World) {ops : Array Oper} {rest : List Oper} {o : Oper} {a : Act} {Q : Exit → Act → World → Prop} (hg : o.guard = none) (it : Operand) (hop : o.op = Op.next it false) (hk : P.underlying 3 = some (.int .i64))
    (bf r n : Nat) (fs : List (S_Inode × Nat)) (hr : fs.Pairwise (fun p q => p.1.f0 < q.1.f0)) (left : Lit → Bool) (cnt : Nat) (hit : a.eval it = .pointer (some ⟨r, 0, none⟩)) (h : w.ranges P 3 ptrElem bf r n (encF fs) left cnt)
    (hDone : (∀ kl, left kl = false) → wpList P ops Q rest (a.put o.dst (.tuple #[.bool false])) w)
    (hMore : ∀ (x : S_Inode) (b : Nat) (w' : World) (cnt' : Nat), (x, b) ∈ fs → left (.int .i64 x.f0) = true → w'.ranges P 3 ptrElem bf r n (encF fs) (fun z => left z && !z.sameKey (.int .i64 x.f0)) cnt' → cnt' < cnt →
      w.grownBy w' (some r) → w'.heap.size = w.heap.size → (Instr.entry (.pointer (some ⟨r, 0, none⟩))).run P w' = .ok (.tuple #[.int .i64 x.f0, .pointer (some ⟨b, 0, none⟩)]) w' → wpList P ops Q rest (a.put o.dst (.tuple #[.bool true, .int .i64 x.f0, .pointer (some ⟨b, 0, none⟩)])) w') :
    wpList P ops Q (o :: rest) a w := by
  refine wpList_next_ranges w hg it hop 3 (int_keyed hk) ptrElem (Value.int .i64) (fun c : Option Nat => .pointer (c.map fun b => ⟨b, 0, none⟩)) (fun key kl hkey => by obtain ⟨x, rfl, _⟩ := Maps.keyOf_int_inv hk hkey; exact ⟨x, rfl⟩) (fun v y hv => ptrElem_inv hv)
    bf r n (encF fs) left cnt hit h (fun _ hl => hDone hl) ?_
  intro i c kl yd w' cnt' hkey hlk hv hat hrg hlt hgr hsz hen
  obtain ⟨x', ex, rfl, _⟩ := Maps.keyOf_int_inv hk hkey
  cases ex
  have hh := Maps.has_true_of_atKey hat
  rw [has_encF] at hh
  obtain ⟨p, hp, hpi⟩ := List.any_eq_true.1 hh
  have hpi' : p.1.f0 = i := by simpa using hpi
  subst hpi'
  have hy := hat .nil
  rw [at_encF, find_of_mem hr hp] at hy
  obtain ⟨y1, y2⟩ := yd
  simp only at hy
  subst hy
  have hc := ptrElem_blk hv
  cases c with
  | none => simp at hc
  | some b' =>
    simp only [Option.map_some, Value.pointer.injEq, Option.some.injEq, Addr.mk.injEq, and_self, and_true] at hc
    subst hc
    exact hMore p.1 p.2 w' cnt' hp hlk hrg hlt hgr hsz hen

/-- The bytes of all files. -/
def totF : List (S_Inode × Nat) → Nat
  | [] => 0
  | p :: ps => p.1.f1.size + totF ps

/-- The bytes of those that have come. -/
def sumL (left : Lit → Bool) : List (S_Inode × Nat) → Nat
  | [] => 0
  | p :: ps => (if left (.int .i64 p.1.f0) then 0 else p.1.f1.size) + sumL left ps

theorem sumL_le (left : Lit → Bool) : ∀ fs : List (S_Inode × Nat), sumL left fs ≤ totF fs
  | [] => Nat.le_refl _
  | p :: ps => by
    have := sumL_le left ps
    simp only [sumL, totF]
    split <;> omega

theorem sumL_all (left : Lit → Bool) (h : ∀ k, left k = false) : ∀ fs : List (S_Inode × Nat), sumL left fs = totF fs
  | [] => rfl
  | p :: ps => by simp [sumL, totF, h, sumL_all left h ps]

theorem sumL_zero (left : Lit → Bool) : ∀ fs : List (S_Inode × Nat), (∀ p ∈ fs, left (.int .i64 p.1.f0) = true) → sumL left fs = 0
  | [], _ => rfl
  | p :: ps, h => by simp [sumL, h p (by simp), sumL_zero left ps (fun q hq => h q (by simp [hq]))]

theorem sumL_none (fs : List (S_Inode × Nat)) : sumL (Maps.has (encF fs)) fs = 0 :=
  sumL_zero _ fs fun p hp => by rw [has_encF]; exact List.any_eq_true.2 ⟨p, hp, by simp⟩

theorem sumL_other (left : Lit → Bool) (i : Int) : ∀ fs : List (S_Inode × Nat), (∀ p ∈ fs, p.1.f0 ≠ i) → sumL (fun z => left z && !z.sameKey (.int .i64 i)) fs = sumL left fs
  | [], _ => rfl
  | p :: ps, h => by
    have h1 := h p (by simp)
    simp [sumL, same_id, h1, sumL_other left i ps (fun q hq => h q (by simp [hq]))]

theorem sumL_step (left : Lit → Bool) : ∀ (fs : List (S_Inode × Nat)), fs.Pairwise (fun p q => p.1.f0 < q.1.f0) → ∀ (x : S_Inode) (b : Nat), (x, b) ∈ fs → left (.int .i64 x.f0) = true → sumL (fun z => left z && !z.sameKey (.int .i64 x.f0)) fs = sumL left fs + x.f1.size
  | [], _, _, _, hp, _ => by simp at hp
  | q :: qs, hr, x, b, hp, hl => by
    obtain ⟨h1, h2⟩ := List.pairwise_cons.1 hr
    rcases List.mem_cons.1 hp with rfl | hp'
    · have := sumL_other left x.f0 qs (fun p hp => by have := h1 p hp; simp only at this; omega)
      simp [sumL, same_id, hl, this]
      omega
    · have ih := sumL_step left qs h2 x b hp' hl
      have hne : q.1.f0 ≠ x.f0 := by have := h1 _ hp'; simp only at this; omega
      simp only [sumL, ih, same_id, hne, decide_false, Bool.not_false, Bool.and_true]
      omega

set_option maxRecDepth 20000 in
set_option maxHeartbeats 1000000 in
theorem used_c (B m : Nat) (room next : Int) (bf bd : Nat) (vn vm : Value) (fs : List (S_Inode × Nat)) (h : Int → Bool) (w : World) (hm : w.heap[m]? = some (mObj room next bf bd vn vm)) (F : Fls B w bf fs h) (hT : totF fs ≤ 1048576) :
    Calls Tryz.prog 89 #[.pointer (some ⟨m, 0, none⟩)] w fun e w' => e = .returned (.int .i64 (totF fs)) ∧ Below w.heap.size w w' := by
  obtain ⟨_, _, cf, _⟩ := mount_cell hm
  have hown := F.own
  have HF : Hid (Fls B w bf fs h) := F
  have HT : Hid (totF fs ≤ 1048576) := hT
  clear F hT
  go_enter Tryz.func89, Tryz.ntmps89
  go_wp2_with (first | (at_range; refine wpList_range_own _ rfl _ 93 rfl 3 94 kInt Tryz.underlying93 _ bf fs.length _ rfl hown ?_; intro w0 hrg0 hg0 hs0) | go_in)
  have HB0 : Hid (Below w.heap.size w w0) := (Below.refl _ _).grown hg0 (by omega) (fun j hj => by cases hj)
  clear hg0 hs0 hown
  go_frame
  go_loopw [3] (fun nv wr => ∃ left cnt, wr.ranges Tryz.prog 3 ptrElem bf w.heap.size fs.length (encF fs) left cnt ∧ nv = .int .i64 (sumL left fs) ∧ Hid (Below w.heap.size w wr)) (fun _ wr => wr.rangeLeft bf w.heap.size)
  case atStart => exact ⟨_, _, hrg0, by rw [sumL_none]; rfl, HB0⟩
  case round =>
    obtain ⟨left, cnt, hrg, rfl, HBk⟩ := hrel
    go_wp2_with (first | (at_next; refine wpList_next_files _ rfl _ rfl Tryz.underlying3 bf w.heap.size fs.length fs HF.out.ris left cnt rfl hrg ?_ ?_) | go_in)
    · intro hl0
      have HE : Hid (sumL left fs = totF fs) := sumL_all left hl0 fs
      clear hl0
      go_wp2
      go_ret
      exact ⟨by rw [HE.out]; rfl, HBk.out⟩
    · intro x b w1 cnt1 hp hlk hrg1 hlt hg1 hs1 hen
      have HB1 : Hid (Below w.heap.size w w1) := HBk.out.grown hg1 (by have := HBk.out.size; omega) (fun j hj => by cases hj; exact Nat.le_refl _)
      have hb := HF.out.blk _ hp
      have hbl := lt_of_some hb
      simp only at hb hbl
      obtain ⟨c0, _, _⟩ := file_cell ((HB1.out.block b (by omega)).trans hb)
      have HS : Hid (sumL (fun z => left z && !z.sameKey (.int .i64 x.f0)) fs = sumL left fs + x.f1.size) := sumL_step left fs HF.out.ris x b hp hlk
      have hle := sumL_le (fun z => left z && !z.sameKey (.int .i64 x.f0)) fs
      rw [HS.out] at hle
      have hT := HT.out
      have HM : Hid (cnt1 < cnt) := hlt
      have HR0 : Hid (wr.ranges Tryz.prog 3 ptrElem bf w.heap.size fs.length (encF fs) left cnt) := hrg
      have HR1 : Hid (w1.ranges Tryz.prog 3 ptrElem bf w.heap.size fs.length (encF fs) (fun z => left z && !z.sameKey (.int .i64 x.f0)) cnt1) := hrg1
      clear hs1 hg1 hlt hlk hp hb hbl hrg hrg1
      skip
      go_wp2
      go_roundw
      case rel => exact ⟨_, _, HR1.out, by rw [HS.out]; first | rfl | go_num, HB1⟩
      case measure => rw [HR1.out.left_eq, HR0.out.left_eq]; exact HM.out

end Go.Proofs.YtmknplpcpmkhiaaGreat
