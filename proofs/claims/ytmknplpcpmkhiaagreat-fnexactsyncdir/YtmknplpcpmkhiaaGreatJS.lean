/- A mount while it settles. -/
import Derived.Test.YtmknplpcpmkhiaaGreatDiMount
import Derived.Test.YtmknplpcpmkhiaaGreatDiMove
import Derived.Test.YtmknplpcpmkhiaaGreatDiClone
import Derived.Test.YtmknplpcpmkhiaaGreatRgHeld
import Derived.Deep.Light
import Derived.Deep.CutRange
import Derived.Test.YtmknplpcpmkhiaaGreatHaBut
import Derived.Test.YtmknplpcpmkhiaaGreatMtWalk
import Derived.Deep.RegionWith
import Derived.Maps.AppendAt
import Derived.Test.YtmknplpcpmkhiaaGreatDlBase
import Derived.Test.YtmknplpcpmkhiaaGreatSoKeys
import Derived.Test.YtmknplpcpmkhiaaGreatFrClone
import Derived.Test.YtmknplpcpmkhiaaGreatDiSync
namespace Go.Proofs.YtmknplpcpmkhiaaGreat
open Go.RowKit Go.Maps
set_option linter.unusedVariables false
set_option linter.unusedSimpArgs false

theorem keyS_inv {P : Program} (hk : P.underlying 9 = some .string) {key : Value} {kl : Lit} (h : keyOf P 9 key = some kl) : ∃ s : ByteArray, key = .string s ∧ kl = .string s.data.toList := by
  cases key <;> simp [keyOf, hk, mapKey] at h
  rename_i s
  refine ⟨s, rfl, ?_⟩
  rw [← h.2]

theorem ranges_fr {w w' : World} {P : Program} {k : TypeId} {R : Value → Option (DataW Unit × List MemPlace)} {b r n : Nat} {D : DataW Unit} {left : Lit → Bool} {cnt : Nat} {T : Nat → Prop} (h : w.ranges P k R b r n D left cnt) (f : Fr T w w') (hb : ¬ T b) (hr : ¬ T r) : w'.ranges P k R b r n D left cnt := by
  obtain ⟨es, clock, since, seen, c0, h1, F, hs, hD, h2, rest⟩ := h
  exact ⟨es, clock, since, seen, c0, f.at h1 hb, F, hs, hD, f.at h2 hr, rest⟩

/-- No block of cells is the map or the loop. -/
theorem ranges_ne {w : World} {P : Program} {k : TypeId} {R : Value → Option (DataW Unit × List MemPlace)} {b r n i : Nat} {D : DataW Unit} {left : Lit → Bool} {cnt : Nat} (h : w.ranges P k R b r n D left cnt) {c : Array Value} {t : TypeId} {z : Nat × Nat} (hi : w.heap[i]? = some (.cells c t z)) : b ≠ i ∧ r ≠ i := by
  obtain ⟨es, clock, since, seen, c0, h1, F, hs, hD, h2, rest⟩ := h
  refine ⟨fun e => ?_, fun e => ?_⟩
  · rw [e, hi] at h1; cases h1
  · rw [e, hi] at h2; cases h2

/-- No map is the loop. -/
theorem ranges_map {w : World} {P : Program} {k k2 : TypeId} {R R2 : Value → Option (DataW Unit × List MemPlace)} {b r n b2 n2 : Nat} {D D2 : DataW Unit} {left : Lit → Bool} {cnt : Nat} (h : w.ranges P k R b r n D left cnt) (ho : w.ownsMap P k2 R2 b2 n2 D2) : b2 ≠ r := by
  obtain ⟨es, clock, since, seen, c0, h1, F, hs, hD, h2, rest⟩ := h
  obtain ⟨es', clock', hb, _⟩ := ho
  intro e
  rw [e, h2] at hb
  cases hb

theorem wpList_next_links {P : Program} (w : World) {ops : Array Oper} {rest : List Oper} {o : Oper} {a : Act} {Q : Exit → Act → World → Prop} (hg : o.guard = none) (it : Operand) (hop : o.op = Op.next it false) (hk : P.underlying 9 = some .string) (he : P.underlying 3 = some (.int .i64))
    (bd r n : Nat) (D : List S_Link) (left : Lit → Bool) (cnt : Nat) (hit : a.eval it = .pointer (some ⟨r, 0, none⟩)) (h : w.ranges P 9 (plainElem P 3) bd r n (encL D) left cnt)
    (hDone : (∀ kl, left kl = false) → wpList P ops Q rest (a.put o.dst (.tuple #[.bool false])) w)
    (hMore : ∀ (x : S_Link) (w' : World) (cnt' : Nat), x ∈ D → (Lit.int .i64 x.f1).wf = true → D.find? (fun y => decide (y.f0 = x.f0)) = some x → left (.string x.f0.data.toList) = true → w'.ranges P 9 (plainElem P 3) bd r n (encL D) (fun z => left z && !z.sameKey (.string x.f0.data.toList)) cnt' → cnt' < cnt →
      w.grownBy w' (some r) → w'.heap.size = w.heap.size → (Instr.entry (.pointer (some ⟨r, 0, none⟩))).run P w' = .ok (.tuple #[.string x.f0, .int .i64 x.f1]) w' → wpList P ops Q rest (a.put o.dst (.tuple #[.bool true, .string x.f0, .int .i64 x.f1])) w') :
    wpList P ops Q (o :: rest) a w := by
  refine wpList_next_ranges w hg it hop 9 (string_keyed hk) (plainElem P 3) Value.string (Value.int .i64) (fun key kl hkey => by obtain ⟨s, rfl, _⟩ := keyS_inv hk hkey; exact ⟨s, rfl⟩) (fun v y hv => by obtain ⟨c, rfl, _⟩ := plainElem_int_inv he hv; exact ⟨c, rfl⟩)
    bd r n (encL D) left cnt hit h (fun _ hl => hDone hl) ?_
  intro s c kl yd w' cnt' hkey hlk hv hat hrg hlt hgr hsz hen
  obtain ⟨s', es, rfl⟩ := keyS_inv hk hkey
  cases es
  obtain ⟨c', ec, rfl, hwf⟩ := plainElem_int_inv he hv
  cases ec
  have hy := hat .nil
  have hx : D.find? (fun y => decide (y.f0 = s)) = some ⟨s, c⟩ := by
    simp only [encL, DataW.atKey, List.find?_map, Function.comp_def, same_name] at hy
    cases hf : D.find? (fun y => decide (y.f0 = s)) with
    | none => rw [hf] at hy; simp at hy
    | some y =>
      rw [hf] at hy
      have h1 := List.find?_some hf
      simp only [decide_eq_true_eq] at h1
      simp at hy
      obtain ⟨y0, y1⟩ := y
      simp only at h1 hy
      subst h1
      subst hy
      rfl
  exact hMore ⟨s, c⟩ w' cnt' (List.mem_of_find?_eq_some hx) hwf hx hlk hrg hlt hgr hsz hen

theorem Fls.congr {B : Nat} {w : World} {bf : Nat} {fs : List (S_Inode × Nat)} {h h' : Int → Bool} (F : Fls B w bf fs h) (e : ∀ p ∈ fs, h p.1.f0 = h' p.1.f0) : Fls B w bf fs h' :=
  ⟨F.own, fun p hp => by rw [← e p hp]; exact F.blk p hp, F.low, F.apart, F.ris, F.wf⟩

theorem Fls.inj {B : Nat} {w : World} {bf : Nat} {fs : List (S_Inode × Nat)} {h : Int → Bool} (F : Fls B w bf fs h) {p q : S_Inode × Nat} (hp : p ∈ fs) (hq : q ∈ fs) (e : q.1.f0 = p.1.f0) : q = p := by
  have h1 := find_of_mem F.ris hq
  rw [e, find_of_mem F.ris hp] at h1
  exact (Option.some.inj h1).symm

/-- A file's mark is set. -/
theorem Fls.mark {B : Nat} {w : World} {bf : Nat} {fs : List (S_Inode × Nat)} {h : Int → Bool} (F : Fls B w bf fs h) {p : S_Inode × Nat} (hp : p ∈ fs) (u : Bool) : Fls B (w.setCell ⟨p.2, 2, none⟩ (.bool u)) bf fs (fun i => if i = p.1.f0 then u else h i) := by
  have hfr : Fr (fun k => k = p.2) w (w.setCell ⟨p.2, 2, none⟩ (.bool u)) := (Fr.refl _ _).setCell _ (Or.inl rfl)
  have hnb : bf ≠ p.2 := fun e => map_ne F.own (F.blk p hp) e.symm
  refine ⟨hfr.map F.own hnb, fun q hq => ?_, F.low, F.apart, F.ris, F.wf⟩
  by_cases e : q = p
  · subst e
    have := fObj_set (F.blk q hq) u
    simpa using this
  · have hne : q.2 ≠ p.2 := fun e2 => e (apart_inj F.apart hq hp e2)
    have hid : q.1.f0 ≠ p.1.f0 := fun e2 => e (F.inj hp hq e2)
    have := hfr.at (F.blk q hq) hne
    simpa [hid] using this

/-- Some of the files. -/
theorem Fls.some {B : Nat} {w : World} {bf n : Nat} {fs : List (S_Inode × Nat)} {h : Int → Bool} (F : Fls B w bf fs h) (q : S_Inode × Nat → Bool) {w' : World} (ho : w'.ownsMap Tryz.prog 3 ptrElem bf n (encF (fs.filter q))) (hk : ∀ p ∈ fs, w'.heap[p.2]? = w.heap[p.2]?) : Fls B w' bf (fs.filter q) h := by
  refine ⟨?_, fun p hp => (hk p (List.mem_filter.1 hp).1).trans (F.blk p (List.mem_filter.1 hp).1), ⟨F.low.1, fun p hp => F.low.2 p (List.mem_filter.1 hp).1⟩, ?_, F.ris.filter _, fun p hp => F.wf p (List.mem_filter.1 hp).1⟩
  · have := own_tight ho
    rwa [size_encF] at this
  · exact (List.filter_sublist.map _).nodup F.apart

/-- A mount while it settles. -/
structure Ms (B : Nat) (w0 w : World) (m : Nat) (room next : Int) (bf bd : Nat) (vn vm : Value) (fs : List (S_Inode × Nat)) (h : Int → Bool) (D : List S_Link) : Prop where
  mnt : w.heap[m]? = some (mObj room next bf bd vn vm)
  fls : Fls B w bf fs h
  dir : w.ownsMap Tryz.prog 9 (plainElem Tryz.prog 3) bd (D).length (encL (D))
  bel : Below B w0 w
  lo : B ≤ w0.heap.size ∧ B ≤ bd ∧ bd ≠ bf ∧ B ≤ m

section
variable {B : Nat} {w0 w w' : World} {m : Nat} {room next : Int} {bf bd : Nat} {vn vm : Value} {fs : List (S_Inode × Nat)} {h : Int → Bool} {D : List S_Link}

theorem below_fr {T : Nat → Prop} (hb : Below B w0 w) (hB : B ≤ w0.heap.size) (f : Fr T w w') (hT : ∀ i, T i → B ≤ i) : Below B w0 w' :=
  hb.trans (f.below hT (Nat.le_trans hB hb.size))

/-- Nothing of the mount was turned. -/
theorem Ms.fr {T : Nat → Prop} (S : Ms B w0 w m room next bf bd vn vm fs h D) (f : Fr T w w') (hT : ∀ i, T i → B ≤ i ∧ i ≠ m ∧ i ≠ bd ∧ i ≠ bf ∧ ∀ p ∈ fs, i ≠ p.2) : Ms B w0 w' m room next bf bd vn vm fs h D :=
  ⟨f.at S.mnt (fun hi => (hT _ hi).2.1 rfl), S.fls.keep f (fun hi => (hT _ hi).2.2.2.1 rfl) (fun p hp hi => (hT _ hi).2.2.2.2 p hp rfl), f.map S.dir (fun hi => (hT _ hi).2.2.1 rfl), below_fr S.bel S.lo.1 f (fun i hi => (hT i hi).1), S.lo⟩

theorem Ms.quiet (S : Ms B w0 w m room next bf bd vn vm fs h D) (hb : Below w.heap.size w w') : Ms B w0 w' m room next bf bd vn vm fs h D :=
  S.fr (T := fun _ => False) ((Fr.refl _ _).bel hb) (fun _ hi => absurd hi (fun h => h))

/-- A loop has gone on. -/
theorem Ms.iter {k : TypeId} {R : Value → Option (DataW Unit × List MemPlace)} {b r n : Nat} {D2 : DataW Unit} {left : Lit → Bool} {cnt : Nat} (S : Ms B w0 w m room next bf bd vn vm fs h D) (hrg : w.ranges Tryz.prog k R b r n D2 left cnt) (hg : w.grownBy w' (some r)) (hr : B ≤ r) : Ms B w0 w' m room next bf bd vn vm fs h D := by
  have f : Fr (fun i => i = r) w w' := ⟨hg.os, hg.tape, hg.output, hg.size, fun k hk hne => hg.block k hk (fun e => hne (Option.some.inj e))⟩
  refine S.fr f (fun i hi => ?_)
  subst hi
  exact ⟨hr, (ranges_ne hrg S.mnt).2, fun e => ranges_map hrg S.dir e.symm, fun e => ranges_map hrg S.fls.own e.symm, fun p hp => (ranges_ne hrg (S.fls.blk p hp)).2⟩

theorem Ms.mark (S : Ms B w0 w m room next bf bd vn vm fs h D) {p : S_Inode × Nat} (hp : p ∈ fs) (u : Bool) : Ms B w0 (w.setCell ⟨p.2, 2, none⟩ (.bool u)) m room next bf bd vn vm fs (fun i => if i = p.1.f0 then u else h i) D := by
  have f : Fr (fun k => k = p.2) w (w.setCell ⟨p.2, 2, none⟩ (.bool u)) := (Fr.refl _ _).setCell _ (Or.inl rfl)
  have hb := S.fls.blk p hp
  have hm : m ≠ p.2 := fun e => by have h1 := S.mnt; rw [e, hb] at h1; simp [mObj, fObj] at h1
  exact ⟨f.at S.mnt hm, S.fls.mark hp u, f.map S.dir (fun e => map_ne S.dir hb e.symm), below_fr S.bel S.lo.1 f (fun i hi => by rw [hi]; exact S.fls.low.2 p hp), S.lo⟩

/-- A file was given, or not. -/
theorem Ms.give {e : Ending} {i : Int} (S : Ms B w0 w m room next bf bd vn vm fs h D) (g : GiR B bf fs h i w e w') : (∃ b, e = .returned (.bool b)) ∧ Ms B w0 w' m room next bf bd vn vm fs (fun j => h j || decide (j = i)) D ∧ ∃ T, Fr T w w' ∧ ∀ k, T k → ∃ p ∈ fs, p.2 = k := by
  rcases g with ⟨_, he, hF, hfr⟩ | ⟨hn, he, rfl⟩
  · refine ⟨⟨_, he⟩, ⟨hfr.at S.mnt ?_, hF, hfr.map S.dir ?_, below_fr S.bel S.lo.1 hfr (fun k ⟨p, hp, e⟩ => by rw [← e]; exact S.fls.low.2 p hp), S.lo⟩, _, hfr, fun k hk => hk⟩
    · rintro ⟨p, hp, e⟩
      have h1 := S.mnt
      rw [← e, S.fls.blk p hp] at h1
      simp [mObj, fObj] at h1
    · rintro ⟨p, hp, e⟩
      exact map_ne S.dir (S.fls.blk p hp) e
  · refine ⟨⟨_, he⟩, ⟨S.mnt, S.fls.congr (fun p hp => ?_), S.dir, S.bel, S.lo⟩, fun _ => False, Fr.refl _ _, fun k hk => absurd hk (fun h => h)⟩
    by_cases e : p.1.f0 = i
    · have h1 : hasF fs i = true := List.any_eq_true.2 ⟨p, hp, by simpa using e⟩
      rw [h1] at hn
      rw [e]
      simp at hn
      simp [hn]
    · simp [e]
end

/-- Those of a list's links that have come lead there. -/
def seenL (D : List S_Link) (left : Lit → Bool) (i : Int) : Bool := D.any fun z => decide (z.f1 = i) && !left (.string z.f0.data.toList)
theorem seenL_all {D : List S_Link} {left : Lit → Bool} (h : ∀ k, left k = false) (i : Int) : seenL D left i = lnk D i := by
  unfold seenL lnk
  congr 1
  funext z
  rw [h]
  simp

theorem seenL_step (D : List S_Link) (left : Lit → Bool) (x : S_Link) (hx : x ∈ D) (hf : D.find? (fun y => decide (y.f0 = x.f0)) = some x) (hu : ∀ y ∈ D, y.f0 = x.f0 → y = x) (i : Int) : seenL D (fun z => left z && !z.sameKey (.string x.f0.data.toList)) i = (seenL D left i || decide (i = x.f1)) := by
  unfold seenL
  rw [Bool.eq_iff_iff]
  simp only [List.any_eq_true, Bool.or_eq_true, Bool.and_eq_true, decide_eq_true_eq, Bool.not_eq_true', Bool.and_eq_false_iff, Bool.not_eq_false', same_name]
  constructor
  · rintro ⟨z, hz, h1, h2 | h2⟩
    · exact .inl ⟨z, hz, h1, h2⟩
    · rw [hu z hz h2] at h1
      exact .inr h1.symm
  · rintro (⟨z, hz, h1, h2⟩ | h1)
    · exact ⟨z, hz, h1, .inl h2⟩
    · exact ⟨x, hx, h1.symm, .inr rfl⟩

end Go.Proofs.YtmknplpcpmkhiaaGreat

/- settle, walked. -/
namespace Go.Proofs.YtmknplpcpmkhiaaGreat
open Go.RowKit Go.Maps
set_option linter.unusedVariables false
set_option linter.unusedSimpArgs false

theorem box4S {w : World} {b : Nat} {a0 a1 a2 a3 : Value} {t : TypeId} (h : w.heap[b]? = some (.cells #[a0, a1, a2, a3] t)) : ∀ j u, [a0, a1, a2, a3][j]? = some u → w.cell? ((⟨b, 0, none⟩ : Addr).add j) = some u := by
  intro j u hj
  rw [Addr.add_mid, Nat.zero_add]
  rcases j with _ | _ | _ | _ | j
  · simp at hj; subst hj; simp [World.cell?, h]
  · simp at hj; subst hj; simp [World.cell?, h]
  · simp at hj; subst hj; simp [World.cell?, h]
  · simp at hj; subst hj; simp [World.cell?, h]
  · simp at hj

theorem ms_now {w : World} {m : Nat} {room next : Int} {bf bd : Nat} {vn vm u : Value} (h : w.heap[m]? = some (mObj room next bf bd vn vm)) : (w.setCell ⟨m, 4, none⟩ u).heap[m]? = some (mObj room next bf bd u vm) := by
  unfold mObj at *
  simp [World.setCell, Array.getElem?_modify, h]

theorem ms_moves {w : World} {m : Nat} {room next : Int} {bf bd : Nat} {vn vm u : Value} (h : w.heap[m]? = some (mObj room next bf bd vn vm)) : (w.setCell ⟨m, 5, none⟩ u).heap[m]? = some (mObj room next bf bd vn u) := by
  unfold mObj at *
  simp [World.setCell, Array.getElem?_modify, h]

/-- A field of the mount is written. -/
theorem Ms.field {B : Nat} {w0 w : World} {m : Nat} {room next : Int} {bf bd : Nat} {vn vm vn' vm' u : Value} {fs : List (S_Inode × Nat)} {h : Int → Bool} {D : List S_Link} {o : Nat} (S : Ms B w0 w m room next bf bd vn vm fs h D) (hm : (w.setCell ⟨m, o, none⟩ u).heap[m]? = some (mObj room next bf bd vn' vm')) : Ms B w0 (w.setCell ⟨m, o, none⟩ u) m room next bf bd vn' vm' fs h D := by
  have f : Fr (fun k => k = m) w (w.setCell ⟨m, o, none⟩ u) := (Fr.refl _ _).setCell _ (Or.inl rfl)
  refine ⟨hm, S.fls.keep f (fun e => map_ne S.fls.own S.mnt e.symm) (fun p hp e => ?_), f.map S.dir (fun e => map_ne S.dir S.mnt e.symm), below_fr S.bel S.lo.1 f (fun i hi => by rw [hi]; exact S.lo.2.2.2), S.lo⟩
  have h1 := S.mnt
  rw [← e, S.fls.blk p hp] at h1
  simp [mObj, fObj] at h1

/-- The links have changed. -/
theorem Ms.links {B : Nat} {w0 w w' : World} {m : Nat} {room next : Int} {bf bd : Nat} {vn vm : Value} {fs : List (S_Inode × Nat)} {h : Int → Bool} {D D' : List S_Link} (S : Ms B w0 w m room next bf bd vn vm fs h D) (f : Fr (fun i => i = bd) w w') (ho : w'.ownsMap Tryz.prog 9 (plainElem Tryz.prog 3) bd (D').length (encL (D'))) : Ms B w0 w' m room next bf bd vn vm fs h D' :=
  ⟨f.at S.mnt (fun e => map_ne S.dir S.mnt e), S.fls.keep f (fun e => S.lo.2.2.1 e.symm) (fun p hp e => map_ne S.dir (S.fls.blk p hp) e), ho, below_fr S.bel S.lo.1 f (fun i hi => by rw [hi]; exact S.lo.2.1), S.lo⟩

theorem row_links {w w' : World} {B bd n : Nat} {v : Value} {xs : List Value} {D : List S_Link} (hv : w.ownsRow B 51 4 v n xs) (ho : w.ownsMap Tryz.prog 9 (plainElem Tryz.prog 3) bd (D).length (encL (D))) (f : Fr (fun i => i = bd) w w') : w'.ownsRow B 51 4 v n xs := by
  obtain ⟨h1, ⟨h2, h3⟩ | ⟨g, cap, cur, h2, hg, hh, r⟩⟩ := hv
  · exact ⟨h1, .inl ⟨h2, h3⟩⟩
  · exact ⟨h1, .inr ⟨g, cap, cur, h2, hg, f.at hh (fun e => map_ne ho hh e), r⟩⟩

theorem seenL_none (D : List S_Link) (i : Int) : seenL D (Maps.has (encL D)) i = false := by
  unfold seenL
  rw [List.any_eq_false]
  intro z hz
  have : Maps.has (encL D) (.string z.f0.data.toList) = true := by
    rw [encL, Maps.has_eq, List.any_map]
    simp only [Function.comp_def, same_name]
    exact List.any_eq_true.2 ⟨z, hz, by simp⟩
  simp [this]

theorem has_file {fs : List (S_Inode × Nat)} {p : S_Inode × Nat} (hp : p ∈ fs) : Maps.has (encF fs) (.int .i64 p.1.f0) = true := by
  rw [has_encF]
  exact List.any_eq_true.2 ⟨p, hp, by simp⟩

theorem strike_two (left : Lit → Bool) (k : Lit) : (fun z => (left z && !z.sameKey k) && !z.sameKey k) = fun z => left z && !z.sameKey k := by
  funext z
  cases left z <;> cases z.sameKey k <;> rfl

set_option maxRecDepth 20000 in
set_option maxHeartbeats 4000000 in
theorem settle_c (B m k : Nat) (room next : Int) (bf bd : Nat) (vn : Value) (pm : Option Addr) (cm : Nat) (fs : List (S_Inode × Nat)) (h : Int → Bool) (D : List S_Link) (M : List S_Move) (w : World) (S : Ms B w w m room next bf bd vn (.slice pm M.length cm) fs h D) (hv : w.ownsRow B 51 4 (.slice pm M.length cm) M.length (rMove M))
    (hk : k ≤ M.length) (hM : M.length ≤ 500) (hD : D.length ≤ 500) (hmv : ∀ x ∈ M, nameB x.f1 = true ∧ sMove x ∧ gMove x) (huniq : ∀ a ∈ nms D (M.take k), ∀ b ∈ nms D (M.take k), a.f0 = b.f0 → a = b) :
    Calls Tryz.prog 57 #[.pointer (some ⟨m, 0, none⟩), .int .i64 (k : Int)] w fun e w' => (∃ u, e = .returned u) ∧ ∃ bn, Ms B w w' m room next bf bd (.map (some bn)) (.slice none 0 0) (fs.filter fun p => lnk (nms D (M.take k)) p.1.f0) (fun i => lnk (nms D (M.take k)) i) (nms D (M.take k)) := by
  obtain ⟨DD, hDD⟩ : ∃ DD, nms D (M.take k) = DD := ⟨_, rfl⟩
  have HDD : Hid (nms D (M.take k) = DD) := hDD
  rw [hDD] at huniq ⊢
  have HU : Hid (∀ a ∈ DD, ∀ b ∈ DD, a.f0 = b.f0 → a = b) := huniq
  clear hDD
  have HS : Hid (Ms B w w m room next bf bd vn (.slice pm M.length cm) fs h D) := S
  have HV : Hid (w.ownsRow B 51 4 (.slice pm M.length cm) M.length (rMove M)) := hv
  have HMV : Hid (∀ x ∈ M, nameB x.f1 = true ∧ sMove x ∧ gMove x) := hmv
  have hkc : k ≤ cm := by
    rcases hv.2 with ⟨h1, h2⟩ | ⟨g, cap', _, hv', _, _, hle, _⟩
    · omega
    · simp only [Value.slice.injEq] at hv'; omega
  have HKM : Hid (k ≤ M.length) := hk
  have hsl : ∀ W, (Instr.slice 26 (.slice pm M.length cm) none (some (.int .i64 (k : Int))) none).run Tryz.prog W = .ok (.slice pm k cm) W := fun W => by
    have hkc' : (k : Int) ≤ (cm : Int) := by omega
    go_simp
  obtain ⟨_, _, _, _, _, c5⟩ := mount_cell S.mnt
  have HLN : Hid (∀ i, (nms D (M.take i)).length ≤ 1048576) := fun i => by
    have h1 := nms_len D (M.take i)
    rw [List.length_take] at h1
    omega
  clear S hv hmv huniq
  go_enter Tryz.func57, Tryz.ntmps57
  go_wp2_with fail
  go_loopw [19] (fun iv wr => ∃ i : Nat, iv = .int .i64 (i : Int) ∧ i ≤ k ∧ Hid (Ms B w wr m room next bf bd vn (.slice pm M.length cm) fs h (nms D (M.take i))) ∧ Hid (wr.ownsRow B 51 4 (.slice pm M.length cm) M.length (rMove M))) (fun iv _ => k - (intOf iv).toNat)
  case atStart => exact ⟨0, rfl, Nat.zero_le _, HS.out, HV.out⟩
  case round =>
    obtain ⟨i, rfl, hik, S, HVr⟩ := hrel
    clear c5 HS HV
    by_cases hlt : i < k
    · have hlt' : (i : Int) < k := by omega
      have hiM : i < M.length := by have := HKM.out; omega
      obtain ⟨b, off, cap, hvv, hb, hc⟩ := move_cells (RowR.own HVr.out) (by omega)
      simp only [Value.slice.injEq, true_and] at hvv
      obtain ⟨rfl, rfl⟩ := hvv
      obtain ⟨c0, c1, c2, c3⟩ := hc i hiM
      have HMi : Hid (nameB M[i].f1 = true ∧ sMove M[i] ∧ gMove M[i]) := HMV.out _ (List.getElem_mem hiM)
      have HTK : Hid (nms D (M.take (i + 1)) = (ap (nms D (M.take i)) M[i]).1) := nms_take D M i hiM
      have HLi : Hid ((nms D (M.take i)).length ≤ 1048576) := HLN.out i
      clear hc
      generalize M[i] = v at c0 c1 c2 c3 HMi HTK
      go_upto_region 3 with fail
      refine wp_genD (fun W => Hid (Ms B w W m room next bf bd vn (.slice (some ⟨b, off, none⟩) M.length cm) fs h (nms D (M.take i))) ∧ Hid (W.heap[wr.heap.size]? = some (.cells #[.int .i64 v.f0, .string v.f1, .string v.f2, .int .i64 v.f3] 51)) ∧ Hid (W.ownsRow B 51 4 (.slice (some ⟨b, off, none⟩) M.length cm) M.length (rMove M))) ⟨S.out.quiet ((Below.refl _ _).alloc (Nat.le_refl _) _), (MapKept.heap_alloc _ _).1, HVr.out.alloc _⟩ ?_
      rintro W1 ⟨S1, HX1, HV1⟩
      clear c0 c1 c2 c3 S HVr hb
      generalize nms D (M.take i) = E at S1 HTK HLi
      obtain ⟨_, _, _, m3, _⟩ := mount_cell S1.out.mnt
      refine wp_region_L [⟨5, fun W => W.cell? ⟨m, 3, none⟩ = some (.map (some bd))⟩, ⟨5, fun W => ∀ j u, ([.int .i64 v.f0, .string v.f1, .string v.f2, .int .i64 v.f3] : List Value)[j]? = some u → W.cell? ((⟨wr.heap.size, 0, none⟩ : Addr).add j) = some u⟩] (by kernel_rfl) (fun f hf => by
        simp only [List.mem_cons, List.not_mem_nil, or_false] at hf
        rcases hf with rfl | rfl
        · exact m3
        · exact box4S HX1.out) ?_
      refine At.take 0 (some 23) (.pointer (some ⟨m, 0, none⟩)) rfl rfl (by kernel_rfl) (by kernel_rfl) (by kernel_rfl) (by kernel_rfl) (fun _ _ _ h => h) (yl_pure (by kernel_rfl) (fun _ => by kernel_rfl)) ?_
      refine At.take 1 (some 24) (.pointer (some ⟨m, 0, none⟩)) rfl rfl (by kernel_rfl) (by kernel_rfl) (by kernel_rfl) (by kernel_rfl) (fun _ _ _ h => h) (yl_pure (by kernel_rfl) (fun _ => by kernel_rfl)) ?_
      refine At.take 2 (some 25) (.pointer (some ⟨m, 3, none⟩)) rfl rfl (by kernel_rfl) (by kernel_rfl) (by kernel_rfl) (by kernel_rfl) (fun _ _ _ h => h) (yl_pure (by kernel_rfl) (fun _ => by kernel_rfl)) ?_
      refine At.take 3 (some 26) (.map (some bd)) rfl rfl (by kernel_rfl) (by kernel_rfl) (by kernel_rfl) (by kernel_rfl) (fun _ _ _ h => h) (yl_load 5 ⟨m, 3, none⟩ (.map (some bd)) (List.mem_cons_self) [5] (by kernel_rfl) rfl (by kernel_rfl) (fun _ => by kernel_rfl)) ?_
      refine At.take 4 (some 27) (.agg #[.int .i64 v.f0, .string v.f1, .string v.f2, .int .i64 v.f3]) rfl rfl (by kernel_rfl) (by kernel_rfl) (by kernel_rfl) (by kernel_rfl) (fun _ _ _ h => h) (yl_loads 5 ⟨wr.heap.size, 0, none⟩ [.int .i64 v.f0, .string v.f1, .string v.f2, .int .i64 v.f3] (List.mem_cons_of_mem _ (List.mem_cons_self)) [5] (by kernel_rfl) rfl (by kernel_rfl) (fun _ => by kernel_rfl)) ?_
      refine At.step 5 (some 28) rfl rfl (by kernel_rfl) (by kernel_rfl) (fun u W => W.ownsMap Tryz.prog 9 (plainElem Tryz.prog 3) bd ((ap E v).1).length (encL ((ap E v).1)) ∧ Fr (fun i => i = bd) W1.drew W) (gives_call (by kernel_rfl) ((am_c bd E v W1.drew S1.out.dir HLi.out HMi.out.2.1 HMi.out.2.2 HMi.out.1).mono fun e w' ⟨he, ho, hf⟩ => ⟨_, he, ho, hf⟩)) ?_
      rintro u W2 ⟨ho, hf⟩
      refine ⟨held_cons (.inl (by kernel_rfl)) (held_cons (.inl (by kernel_rfl)) (held_nil)), ?_⟩
      refine At.done (by kernel_rfl) ?_
      simp only [Act.put, List.setIfInBounds_toArray, List.set_cons_zero, List.set_cons_succ]
      have hf1 : Fr (fun i => i = bd) W1 W2 := ⟨hf.os, hf.tape, hf.output, hf.size, hf.block⟩
      have S2 : Hid (Ms B w W2 m room next bf bd vn (.slice (some ⟨b, off, none⟩) M.length cm) fs h (nms D (M.take (i + 1)))) := by show Ms _ _ _ _ _ _ _ _ _ _ _ _ _; rw [HTK.out]; exact S1.out.links hf1 ho
      have HV2 : Hid (W2.ownsRow B 51 4 (.slice (some ⟨b, off, none⟩) M.length cm) M.length (rMove M)) := row_links HV1.out S1.out.dir hf1
      clear ho hf hf1 m3 HX1 S1 HV1
      go_wp2
      go_roundw
      case rel => exact ⟨i + 1, by go_num, by omega, S2, HV2⟩
      case measure => simp [intOf]; omega
    have hlt' : ¬ (i : Int) < k := by omega
    have hik2 : i = k := by omega
    have S3 : Hid (Ms B w wr m room next bf bd vn (.slice pm M.length cm) fs h DD) := by
      have h1 := S.out
      rw [hik2, HDD.out] at h1
      exact h1
    clear HVr HKM HMV HLN hkc hsl hlt hik hik2 S HDD
    obtain ⟨_, _, _, _, _, c5⟩ := mount_cell S3.out.mnt
    have f5 := mount_frozen S3.out.mnt 5
    go_upto_region 6 with fail
    refine wp_genD (fun W => Hid (Ms B w W m room next bf bd vn (.slice none 0 0) fs h DD)) (S3.out.field (ms_moves S3.out.mnt)) ?_
    rintro W6 S6
    clear c5 f5 S3
    obtain ⟨_, _, _, c3, _⟩ := mount_cell S6.out.mnt
    go_wp2_with fail
    refine (cloneMap_c bd DD.length (encL DD) W6 S6.out.dir).mono ?_
    rintro e w3 ⟨rfl, hn, _, hb, hlt3⟩
    have S7 : Hid (Ms B w w3 m room next bf bd vn (.slice none 0 0) fs h DD) := S6.out.quiet hb
    obtain ⟨bn, hbn⟩ : ∃ b, W6.heap.size = b := ⟨_, rfl⟩
    rw [hbn]
    clear c3 hn hb hlt3 S6 hbn
    obtain ⟨_, _, _, _, c4, _⟩ := mount_cell S7.out.mnt
    have f4 := mount_frozen S7.out.mnt 4
    go_upto_region 7 with fail
    refine wp_genD (fun W => Hid (Ms B w W m room next bf bd (.map (some bn)) (.slice none 0 0) fs h DD)) (S7.out.field (ms_now S7.out.mnt)) ?_
    rintro W7 S8
    clear c4 f4 S7
    obtain ⟨_, _, c2, _⟩ := mount_cell S8.out.mnt
    have hown := S8.out.fls.own
    have HBW : Hid (B ≤ W7.heap.size) := Nat.le_trans S8.out.lo.1 S8.out.bel.size
    go_wp2_with (first | (at_range; refine wpList_range_own _ rfl _ 93 rfl 3 94 kInt Tryz.underlying93 _ bf fs.length _ rfl hown ?_; intro w0 hrg0 hg0 hs0) | go_in)
    have S9 : Hid (Ms B w w0 m room next bf bd (.map (some bn)) (.slice none 0 0) fs h DD) := S8.out.quiet ((Below.refl _ _).grown hg0 (Nat.le_refl _) (fun j hj => by cases hj))
    clear hg0 hs0 hown c2 S8
    go_frame
    go_loopw [] (fun wr => ∃ left cnt, wr.ranges Tryz.prog 3 ptrElem bf W7.heap.size fs.length (encF fs) left cnt ∧ Hid (Ms B w wr m room next bf bd (.map (some bn)) (.slice none 0 0) fs (fun i => left (.int .i64 i) && h i) DD)) (fun wr => wr.rangeLeft bf W7.heap.size)
    case atStart => exact ⟨_, _, hrg0, ⟨S9.out.mnt, S9.out.fls.congr (fun p hp => by rw [has_file hp]; rfl), S9.out.dir, S9.out.bel, S9.out.lo⟩⟩
    case round =>
      obtain ⟨left, cnt, hrg, S⟩ := hrel
      clear S9
      have hris := S.out.fls.ris
      go_wp2_with (first | (at_next; refine wpList_next_files _ rfl _ rfl Tryz.underlying3 bf W7.heap.size fs.length fs hris left cnt rfl hrg ?_ ?_) | go_in)
      rotate_left
      · intro x b w1 cnt1 hp hlk hrg1 hlt hg1 hs1 hen
        have S1 : Hid (Ms B w w1 m room next bf bd (.map (some bn)) (.slice none 0 0) fs (fun i => left (.int .i64 i) && h i) DD) := S.out.iter hrg hg1 HBW.out
        have hblk := S1.out.fls.blk _ hp
        obtain ⟨_, _, c2⟩ := file_cell hblk
        have f2 := file_frozen hblk 2
        have HM1 : Hid (cnt1 < cnt) := hlt
        have HR0 : Hid (wr.ranges Tryz.prog 3 ptrElem bf W7.heap.size fs.length (encF fs) left cnt) := hrg
        have S2 : Hid (Ms B w (w1.setCell ⟨b, 2, none⟩ (.bool false)) m room next bf bd (.map (some bn)) (.slice none 0 0) fs (fun i => (left (.int .i64 i) && !(Lit.int .i64 i).sameKey (.int .i64 x.f0)) && h i) DD) := by
          have h1 := S1.out.mark hp false
          refine ⟨h1.mnt, h1.fls.congr (fun p _ => ?_), h1.dir, h1.bel, h1.lo⟩
          rw [same_id]
          by_cases e : p.1.f0 = x.f0
          · simp [e]
          · simp [e]
        have HR2 : Hid ((w1.setCell ⟨b, 2, none⟩ (.bool false)).ranges Tryz.prog 3 ptrElem bf W7.heap.size fs.length (encF fs) (fun z => left z && !z.sameKey (.int .i64 x.f0)) cnt1) := ranges_fr hrg1 ((Fr.refl (fun k => k = b) _).setCell _ (Or.inl rfl)) (ranges_ne hrg1 hblk).1 (ranges_ne hrg1 hblk).2
        clear hs1 hg1 hlt hlk hp hblk hrg hrg1 S S1 hris
        go_wp2
        go_roundw
        case rel => exact ⟨_, _, HR2.out, S2⟩
        case measure => rw [HR2.out.left_eq, HR0.out.left_eq]; exact HM1.out
      · intro hl0
        have SA : Hid (Ms B w wr m room next bf bd (.map (some bn)) (.slice none 0 0) fs (fun _ => false) DD) := ⟨S.out.mnt, S.out.fls.congr (fun p _ => by rw [hl0]; rfl), S.out.dir, S.out.bel, S.out.lo⟩
        clear hl0 hrg S hris HBW
        obtain ⟨_, _, _, c3, _⟩ := mount_cell SA.out.mnt
        have hown := SA.out.dir
        have HBX : Hid (B ≤ wr.heap.size) := Nat.le_trans SA.out.lo.1 SA.out.bel.size
        go_wp2_with (first | (at_range; refine wpList_range_own _ rfl _ 95 rfl 9 3 kStr Tryz.underlying95 _ bd DD.length _ rfl hown ?_; intro w0 hrg0 hg0 hs0) | go_in)
        have SB : Hid (Ms B w w0 m room next bf bd (.map (some bn)) (.slice none 0 0) fs (fun _ => false) DD) := SA.out.quiet ((Below.refl _ _).grown hg0 (Nat.le_refl _) (fun j hj => by cases hj))
        obtain ⟨r, hr⟩ : ∃ r, wr.heap.size = r := ⟨_, rfl⟩
        rw [hr] at hrg0 HBX ⊢
        clear hg0 hs0 hown c3 SA hr
        go_frame
        go_loopw [] (fun wr => ∃ left cnt, wr.ranges Tryz.prog 9 (plainElem Tryz.prog 3) bd r DD.length (encL DD) left cnt ∧ Hid (Ms B w wr m room next bf bd (.map (some bn)) (.slice none 0 0) fs (fun i => seenL DD left i) DD)) (fun wr => wr.rangeLeft bd r)
        case atStart => exact ⟨_, _, hrg0, ⟨SB.out.mnt, SB.out.fls.congr (fun p _ => by rw [seenL_none]), SB.out.dir, SB.out.bel, SB.out.lo⟩⟩
        case round =>
          obtain ⟨left, cnt, hrg, S⟩ := hrel
          clear SB
          go_wp2_with (first | (at_next; refine wpList_next_links _ rfl _ rfl Tryz.underlying9 Tryz.underlying3 bd r DD.length DD left cnt rfl hrg ?_ ?_) | go_in)
          rotate_left
          · intro x w1 cnt1 hx hwf hf hlk hrg1 hlt hg1 hs1 hen
            have S1 : Hid (Ms B w w1 m room next bf bd (.map (some bn)) (.slice none 0 0) fs (fun i => seenL DD left i) DD) := S.out.iter hrg hg1 HBX.out
            have HM1 : Hid (cnt1 < cnt) := hlt
            have HR0 : Hid (wr.ranges Tryz.prog 9 (plainElem Tryz.prog 3) bd r DD.length (encL DD) left cnt) := hrg
            have HR1 : Hid (w1.ranges Tryz.prog 9 (plainElem Tryz.prog 3) bd r DD.length (encL DD) (fun z => left z && !z.sameKey (.string x.f0.data.toList)) cnt1) := hrg1
            have HSL : Hid (∀ i, seenL DD (fun z => left z && !z.sameKey (.string x.f0.data.toList)) i = (seenL DD left i || decide (i = x.f1))) := seenL_step DD left x hx hf (fun y hy e => HU.out y hy x hx e)
            have HWF : Hid ((Lit.int .i64 x.f1).wf = true) := hwf
            clear hs1 hg1 hlt hlk hx hwf hf hrg hrg1 S
            go_wp2_with fail
            refine (give_c B m room next bf bd (.map (some bn)) (.slice none 0 0) fs _ x.f1 w1 S1.out.mnt S1.out.fls HWF.out).mono ?_
            intro e w2 hgi
            obtain ⟨⟨gb, rfl⟩, hS2, T, hfr, hT⟩ := S1.out.give hgi
            have S2 : Hid (Ms B w w2 m room next bf bd (.map (some bn)) (.slice none 0 0) fs (fun i => seenL DD (fun z => left z && !z.sameKey (.string x.f0.data.toList)) i) DD) := ⟨hS2.mnt, hS2.fls.congr (fun p _ => by rw [HSL.out]), hS2.dir, hS2.bel, hS2.lo⟩
            have HR2 : Hid (w2.ranges Tryz.prog 9 (plainElem Tryz.prog 3) bd r DD.length (encL DD) (fun z => left z && !z.sameKey (.string x.f0.data.toList)) cnt1) := ranges_fr HR1.out hfr
              (fun h => by obtain ⟨p, hp, e⟩ := hT _ h; exact (ranges_ne HR1.out (S1.out.fls.blk p hp)).1 e.symm)
              (fun h => by obtain ⟨p, hp, e⟩ := hT _ h; exact (ranges_ne HR1.out (S1.out.fls.blk p hp)).2 e.symm)
            clear hgi hS2 hfr hT S1 HR1 HSL
            go_wp2
            go_roundw
            case rel => exact ⟨_, _, HR2.out, S2⟩
            case measure => rw [HR2.out.left_eq, HR0.out.left_eq]; exact HM1.out
          · intro hl0
            have SC : Hid (Ms B w wr m room next bf bd (.map (some bn)) (.slice none 0 0) fs (fun i => lnk DD i) DD) := ⟨S.out.mnt, S.out.fls.congr (fun p _ => by rw [seenL_all hl0]), S.out.dir, S.out.bel, S.out.lo⟩
            clear hl0 hrg S HBX
            obtain ⟨_, _, c2, _⟩ := mount_cell SC.out.mnt
            have hown := SC.out.fls.own
            have HBY : Hid (B ≤ wr.heap.size) := Nat.le_trans SC.out.lo.1 SC.out.bel.size
            go_wp2_with (first | (at_range; refine wpList_range_own _ rfl _ 93 rfl 3 94 kInt Tryz.underlying93 _ bf fs.length _ rfl hown ?_; intro w0 hrg0 hg0 hs0) | go_in)
            have SD : Hid (Ms B w w0 m room next bf bd (.map (some bn)) (.slice none 0 0) fs (fun i => lnk DD i) DD) := SC.out.quiet ((Below.refl _ _).grown hg0 (Nat.le_refl _) (fun j hj => by cases hj))
            obtain ⟨r2, hr2⟩ : ∃ r, wr.heap.size = r := ⟨_, rfl⟩
            rw [hr2] at hrg0 HBY ⊢
            clear hg0 hs0 hown c2 SC hr2
            go_frame
            go_loopw [] (fun wr => ∃ left cnt fq, wr.ranges Tryz.prog 3 ptrElem bf r2 fs.length (encF fq) left cnt ∧ Hid (Ms B w wr m room next bf bd (.map (some bn)) (.slice none 0 0) fq (fun i => lnk DD i) DD) ∧ Hid (fq = fs.filter fun p => left (.int .i64 p.1.f0) || lnk DD p.1.f0)) (fun wr => wr.rangeLeft bf r2)
            case atStart => exact ⟨_, _, fs, hrg0, SD, by show _ = _; exact (List.filter_eq_self.2 (fun p hp => by rw [has_file hp]; rfl)).symm⟩
            case round =>
              obtain ⟨left, cnt, fq, hrg, S, HFQ⟩ := hrel
              clear SD
              have hris := S.out.fls.ris
              go_wp2_with (first | (at_next; refine wpList_next_files _ rfl _ rfl Tryz.underlying3 bf r2 fs.length fq hris left cnt rfl hrg ?_ ?_) | go_in)
              rotate_left
              · intro x b w1 cnt1 hp hlk hrg1 hlt hg1 hs1 hen
                have S1 : Hid (Ms B w w1 m room next bf bd (.map (some bn)) (.slice none 0 0) fq (fun i => lnk DD i) DD) := S.out.iter hrg hg1 HBY.out
                have hblk := S1.out.fls.blk _ hp
                obtain ⟨_, _, c2⟩ := file_cell hblk
                simp only at c2
                have HM1 : Hid (cnt1 < cnt) := hlt
                have HR0 : Hid (wr.ranges Tryz.prog 3 ptrElem bf r2 fs.length (encF fq) left cnt) := hrg
                have HR1 : Hid (w1.ranges Tryz.prog 3 ptrElem bf r2 fs.length (encF fq) (fun z => left z && !z.sameKey (.int .i64 x.f0)) cnt1) := hrg1
                have HWX : Hid ((Lit.int .i64 x.f0).wf = true) := (S1.out.fls.wf _ hp).1
                have HFX : Hid (∀ y ∈ fs, (decide (y.1.f0 = x.f0) = true → lnk DD y.1.f0 = lnk DD x.f0)) := fun y _ e => by rw [of_decide_eq_true e]
                cases hh : lnk DD x.f0
                · rw [hh] at c2
                  have hwx := HWX.out
                  have HFD : Hid ((fq.filter fun p => !decide (p.1.f0 = x.f0)) = fs.filter fun p => (left (.int .i64 p.1.f0) && !(Lit.int .i64 p.1.f0).sameKey (.int .i64 x.f0)) || lnk DD p.1.f0) := by
                    show _ = _
                    rw [HFQ.out, List.filter_filter]
                    apply List.filter_congr
                    intro y hy
                    rw [same_id]
                    by_cases e : y.1.f0 = x.f0
                    · simp [e, hh]
                    · simp [e]
                  obtain ⟨_, _, m2, _⟩ := mount_cell S1.out.mnt
                  clear hs1 hg1 hlt hlk hp hblk hrg S hris HFX hh HFQ
                  go_wp2_with (first | (at_delete; refine wpList_delete_ranges _ rfl _ _ 93 3 rfl 94 kInt Tryz.underlying93 _ bf r2 fs.length _ _ _ rfl hrg1 _ _ rfl (keyOf_int_mk Tryz.underlying3 hwx) ?_; intro w2 cnt2 hrg2 hle hturn; go_frame) | go_in)
                  rw [strike_two, encF_del] at hrg2
                  have HR2 : Hid (w2.ranges Tryz.prog 3 ptrElem bf r2 fs.length (encF (fq.filter fun p => !decide (p.1.f0 = x.f0))) (fun z => left z && !z.sameKey (.int .i64 x.f0)) cnt2) := hrg2
                  have hgr := hturn.grown
                  have hf : Fr (fun i => i = bf) w1 w2 := ⟨hgr.os, hgr.tape, hgr.output, hgr.size, fun k hk hne => hgr.block k hk (fun e => hne (Option.some.inj e))⟩
                  have S2 : Hid (Ms B w w2 m room next bf bd (.map (some bn)) (.slice none 0 0) (fq.filter fun p => !decide (p.1.f0 = x.f0)) (fun i => lnk DD i) DD) :=
                    ⟨hf.at S1.out.mnt (fun e => map_ne S1.out.fls.own S1.out.mnt e), S1.out.fls.some _ hrg2.owns (fun p hp => hf.block _ (lt_of_some (S1.out.fls.blk p hp)) (fun e => map_ne S1.out.fls.own (S1.out.fls.blk p hp) e)), hf.map S1.out.dir (fun e => S1.out.lo.2.2.1 e), below_fr S1.out.bel S1.out.lo.1 hf (fun i hi => by rw [hi]; exact S1.out.fls.low.1), S1.out.lo⟩
                  have HM2 : Hid (cnt2 < cnt) := by have := HM1.out; show _ < _; omega
                  clear hrg2 hgr hf hturn hle S1 HR1 hrg1 c2 m2
                  go_wp2
                  go_roundw
                  case rel => exact ⟨_, _, _, HR2.out, S2, HFD⟩
                  case measure => rw [HR2.out.left_eq, HR0.out.left_eq]; exact HM2.out
                · rw [hh] at c2
                  have HFD : Hid (fq = fs.filter fun p => (left (.int .i64 p.1.f0) && !(Lit.int .i64 p.1.f0).sameKey (.int .i64 x.f0)) || lnk DD p.1.f0) := by
                    show _ = _
                    rw [HFQ.out]
                    apply List.filter_congr
                    intro y hy
                    rw [same_id]
                    by_cases e : y.1.f0 = x.f0
                    · simp [e, hh]
                    · simp [e]
                  clear hs1 hg1 hlt hlk hp hblk hrg S hris HFX hh HFQ hrg1
                  go_wp2
                  go_roundw
                  case rel => exact ⟨_, _, _, HR1.out, S1, HFD⟩
                  case measure => rw [HR1.out.left_eq, HR0.out.left_eq]; exact HM1.out
              · intro hl0
                have HFE : Hid (fq = fs.filter fun p => lnk DD p.1.f0) := by
                  show _ = _
                  rw [HFQ.out]
                  apply List.filter_congr
                  intro y _
                  rw [hl0]
                  rfl
                clear hl0 hrg hris HFQ
                go_wp2
                go_end0
                exact ⟨⟨_, rfl⟩, bn, by rw [← HFE.out]; exact S.out⟩


end Go.Proofs.YtmknplpcpmkhiaaGreat

/- Rows of texts of the call's own: equal, marked, held. -/
namespace Go.Proofs.YtmknplpcpmkhiaaGreat
open Go.RowKit
set_option linter.unusedVariables false

/-- The marks from k on. -/
def marks (k : Int) (n : Nat) : List ByteArray := (List.range n).map fun (i : Nat) => mt (k + (i : Int))

theorem marks_length (k : Int) (n : Nat) : (marks k n).length = n := by simp [marks]

theorem marks_at (k : Int) (n i : Nat) (h : i < n) : (marks k n)[i]? = some (mt (k + (i : Int))) := by
  simp [marks, h]

theorem marks_set (k : Int) (L : List ByteArray) (i : Nat) (h : i < L.length) :
    (marks k i ++ L.drop i).set i (mt (k + (i : Int))) = marks k (i + 1) ++ L.drop (i + 1) := by
  have hl := marks_length k i
  rw [List.set_append_right _ _ (by omega), hl, Nat.sub_self, List.drop_eq_getElem_cons h, List.set_cons_zero]
  have e : marks k (i + 1) = marks k i ++ [mt (k + (i : Int))] := by
    simp [marks, List.range_succ]
  rw [e, List.append_assoc]
  rfl

theorem infoS : (Tryz.prog.info? 9).map (fun i => (i.zero, i.size, i.bytes)) = some (some (.string ⟨#[]⟩), 1, 16) := by kernel_rfl

/-- A row of texts of the call's own. -/
def OwnS (w : World) (base : Nat) (v : Value) (L : List ByteArray) : Prop := w.ownsRow base 9 1 v L.length (L.map Value.string)

theorem OwnS.keep {w w' : World} {base : Nat} {v : Value} {L : List ByteArray} (h : OwnS w base v L) (hb : Below w.heap.size w w') : OwnS w' base v L := own_bel h hb (Nat.le_refl _)

theorem OwnS.low {w : World} {base base' : Nat} {v : Value} {L : List ByteArray} (h : OwnS w base v L) (hb : base' ≤ base) : OwnS w base' v L := by
  obtain ⟨h1, h2⟩ := h
  refine ⟨h1, ?_⟩
  rcases h2 with h2 | ⟨g, cap, cur, hv, hg, r⟩
  · exact Or.inl h2
  · exact Or.inr ⟨g, cap, cur, hv, Nat.le_trans hb hg, r⟩

theorem own_snocS {w : World} {base : Nat} {v : Value} {acc : List ByteArray} {y : ByteArray} (h : w.ownsRow base 9 1 v (acc.length + 1) (acc.map Value.string ++ [.string y])) : OwnS w base v (acc ++ [y]) := by
  unfold OwnS
  simpa using h

theorem own_forms {w : World} {base : Nat} {v : Value} {L : List ByteArray} (h : OwnS w base v L) :
    (v = .slice none 0 0 ∧ L = []) ∨ ∃ g cap, v = .slice (some ⟨g, 0, none⟩) L.length cap ∧ base ≤ g ∧ g < w.heap.size ∧ ∀ j, j < L.length → w.cell? ⟨g, j, none⟩ = (L.map Value.string)[j]? := by
  have h' := h
  obtain ⟨h1, ⟨rfl, h2⟩ | ⟨g, cap, cur, rfl, hg, hh, _⟩⟩ := h'
  · exact Or.inl ⟨rfl, List.eq_nil_of_length_eq_zero h2⟩
  · exact Or.inr ⟨g, cap, rfl, hg, lt_of_some hh, fun j hj => World.ownsRow.cellAt h j (by omega)⟩

theorem cell_str {L : List ByteArray} {j : Nat} (h : j < L.length) : (L.map Value.string)[j]? = some (.string L[j]) := by
  rw [List.getElem?_map, List.getElem?_eq_getElem h]; rfl

theorem cell_mark {k : Int} {n j : Nat} (h : j < n) : ((marks k n).map Value.string)[j]? = some (.string (mt (k + (j : Int)))) := by
  rw [List.getElem?_map, marks_at k n j h]; rfl

theorem row_nil_marks (v : Value) (b : Nat) (w : World) (h : OwnS w b v []) : OwnS w b v (marks 1 0) := h

end Go.Proofs.YtmknplpcpmkhiaaGreat

/- List by contracts, both sides. -/
namespace Go.Proofs.YtmknplpcpmkhiaaGreat
open Go.RowKit Go.Maps
set_option linter.unusedVariables false

/-- The names of a disk now. -/
def nowN (x : S_Disk) : List ByteArray := (nms x.f3 x.f4).map (·.f0)

def LsR (x : S_Disk) (w : World) (e : Ending) (w' : World) : Prop :=
  ∃ v L, e = .returned v ∧ OwnS w' w.heap.size v L ∧ ((okX x ∧ L = nowN x) ∨ (¬ okX x ∧ L = [])) ∧ Below w.heap.size w w'

theorem okX_sumL {x : S_Disk} (h : okX x) : x.f3.length + x.f4.length ≤ 1048576 := by
  have := okX_dir h
  have := h.1.2.2.2
  omega

theorem nowN_len {x : S_Disk} (h : okX x) : (nowN x).length ≤ 30 := by
  have h1 := nms_len x.f3 x.f4
  have h2 := okX_dir h
  have h3 := h.1.2.2.2
  unfold nowN
  rw [List.length_map]
  omega

theorem mem_insF {x y : S_Link} : ∀ L : List S_Link, y ∈ insF x L → y = x ∨ y ∈ L
  | [], h => by simp [insF] at h; exact .inl h
  | z :: zs, h => by
    unfold insF at h
    split at h
    · simpa using h
    · rcases List.mem_cons.1 h with h | h
      · exact .inr (by rw [h]; simp)
      · rcases mem_insF zs h with h | h
        · exact .inl h
        · exact .inr (List.mem_cons_of_mem _ h)

theorem ap_name {L : List S_Link} (m : S_Move) (h : ∀ y ∈ L, nameB y.f0 = true) : ∀ y ∈ (ap L m).1, nameB y.f0 = true := by
  have hwo : ∀ nm, ∀ y ∈ wo nm L, nameB y.f0 = true := fun nm y hy => h y (List.mem_filter.1 hy).1
  intro y hy
  unfold ap at hy
  split at hy
  · exact h y hy
  · rename_i h1
    split at hy
    · rcases mem_insF _ hy with rfl | hy
      · simpa using h1
      · exact hwo _ y hy
    · split at hy
      · rename_i h3
        rcases mem_insF _ hy with rfl | hy
        · simp_all
        · exact hwo _ y (List.mem_filter.1 hy).1
      · split at hy
        · exact hwo _ y hy
        · exact h y hy

theorem nms_name : ∀ (ms : List S_Move) {L : List S_Link}, (∀ y ∈ L, nameB y.f0 = true) → ∀ y ∈ nms L ms, nameB y.f0 = true
  | [], _, h => h
  | m :: ms, _, h => nms_name ms (ap_name m h)

theorem now_small {x : S_Disk} (h : okX x) : ∀ y ∈ nms x.f3 x.f4, y.f0.size ≤ 12 := fun y hy => by
  have h1 := nms_name x.f4 (L := x.f3) (fun z hz => by
    obtain ⟨i, hi, rfl⟩ := List.getElem_of_mem hz
    exact (h.2.2.1 i hi).1) y hy
  unfold nameB at h1
  simp at h1
  exact h1.1.2

theorem takeS_snoc {L : List ByteArray} {k : Nat} (h : k < L.length) : L.take (k + 1) = L.take k ++ [L[k]] := by rw [List.take_add_one, List.getElem?_eq_getElem h]; rfl

theorem lenS_take {L : List ByteArray} {k : Nat} (h : k ≤ L.length) : (L.take k).length = k := by rw [List.length_take]; omega

theorem below_app {B : Nat} {w wr w1 : World} {o : Obj} {e : TypeId} {size : Nat} {v : Value} {n : Nat} {xs : List Value} (hbel : Below B w wr) (hB : B ≤ w.heap.size) (hown : wr.ownsRow B e size v n xs) (hg : (wr.alloc o).grownBy w1 v.ownBlock) : Below B w w1 := below_append hbel hB hown hg

set_option maxRecDepth 20000 in
set_option maxHeartbeats 2000000 in
theorem specList_c (x : S_Disk) (p2 p3 p4 : Option Addr) (c2 c3 c4 : Nat) (w : World) (hb : Bnd x) (hr : RdDisk w x (.slice p2 x.f2.length c2) (.slice p3 x.f3.length c3) (.slice p4 x.f4.length c4)) (hc3 : x.f3.length ≤ c3) (hc4 : x.f4.length ≤ c4) :
    Calls Tryz.prog 23 #[.agg #[.int .i64 x.f0, .int .i64 x.f1, .slice p2 x.f2.length c2, .slice p3 x.f3.length c3, .slice p4 x.f4.length c4]] w (LsR x w) := by
  obtain ⟨i0, hi, hz0, hz1, hz2⟩ := info_parts infoS
  obtain ⟨W0, hW0⟩ : ∃ W, W = w.alloc (.cells #[.int .i64 x.f0, .int .i64 x.f1, .slice p2 x.f2.length c2, .slice p3 x.f3.length c3, .slice p4 x.f4.length c4] 28) := ⟨_, rfl⟩
  have HW0 : Hid (w.alloc (.cells #[.int .i64 x.f0, .int .i64 x.f1, .slice p2 x.f2.length c2, .slice p3 x.f3.length c3, .slice p4 x.f4.length c4] 28) = W0) := hW0.symm
  have HS0 : Hid (W0.heap.size = w.heap.size + 1) := by show _ = _; rw [hW0]; simp
  have HB0 : Hid (Below w.heap.size w W0) := by rw [hW0]; exact (Below.refl _ _).alloc (Nat.le_refl _) _
  have HBX : Hid (∀ W', Below W0.heap.size W0 W' → W'.cell? ⟨w.heap.size, 0, none⟩ = some (.int .i64 x.f0) ∧ W'.cell? ⟨w.heap.size, 1, none⟩ = some (.int .i64 x.f1) ∧ W'.cell? ⟨w.heap.size, 2, none⟩ = some (.slice p2 x.f2.length c2) ∧ W'.cell? ⟨w.heap.size, 3, none⟩ = some (.slice p3 x.f3.length c3) ∧ W'.cell? ⟨w.heap.size, 4, none⟩ = some (.slice p4 x.f4.length c4)) := fun W' hbel => by
    have hk : W'.heap[w.heap.size]? = some (.cells #[.int .i64 x.f0, .int .i64 x.f1, .slice p2 x.f2.length c2, .slice p3 x.f3.length c3, .slice p4 x.f4.length c4] 28) := by rw [hbel.block _ (by rw [HS0.out]; exact Nat.lt_succ_self _), hW0]; exact alloc_at _ _
    exact (disk_cell hk).1
  have HRD : Hid (∀ W', Below W0.heap.size W0 W' → RdDisk W' x (.slice p2 x.f2.length c2) (.slice p3 x.f3.length c3) (.slice p4 x.f4.length c4)) := fun W' hbel => (hr.keep HB0.out (Nat.le_refl _)).keep hbel (Nat.le_refl _)
  have HDN : Hid (∀ W', Below W0.heap.size W0 W' → Below w.heap.size w W') := fun W' hbel => HB0.out.trans (hbel.mono (by rw [HS0.out]; exact Nat.le_succ _))
  have HBN : Hid (Bnd x) := hb
  have HLN : Hid (LnDisk x 1048576) := ⟨hb.len.1, hb.dir, hb.len.2⟩
  clear hW0 hr hb
  have HCP : Hid (x.f3.length ≤ c3 ∧ x.f4.length ≤ c4) := ⟨hc3, hc4⟩
  clear hc3 hc4
  obtain ⟨WB, hWB⟩ : ∃ W, W = W0.alloc (.cells #[] 9) := ⟨_, rfl⟩
  have HWB : Hid (W0.alloc (.cells #[] 9) = WB) := hWB.symm
  have HBB : Hid (Below W0.heap.size W0 WB) := by rw [hWB]; exact (Below.refl _ _).alloc (Nat.le_refl _) _
  have HOB : Hid (OwnS WB w.heap.size (.slice (some ⟨w.heap.size + 1, 0, none⟩) 0 0) []) := by
    have h1 := World.ownsRow_made (base := w.heap.size) (e := 9) (size := 1) W0 #[] 0 (by rw [HS0.out]; exact Nat.le_succ _) (by decide) (by simp)
    rw [← hWB, HS0.out] at h1
    exact h1
  clear hWB
  obtain ⟨e0, e1, e2, e3, e4⟩ := HBX.out WB HBB.out
  have hl4 : (x.f4.length : Int) ≤ 1048576 := by have := HLN.out.2.2; omega
  go_enter Tryz.func23, Tryz.ntmps23
  go_wp2_with fail
  rw [HW0.out, HWB.out]
  refine (specOk_c x p2 p3 p4 c2 c3 c4 WB HBN.out (HRD.out WB HBB.out) HCP.out.1 HCP.out.2).mono ?_
  intro e w1 hdo
  clear e0 e1 e2 e3 e4
  obtain ⟨⟨hok, rfl⟩ | ⟨hno, rfl⟩, b1⟩ := hdo
  case inr =>
    have HE : Hid (¬ okX x) := hno
    have HC1 : Hid (Below W0.heap.size W0 w1) := HBB.out.trans (b1.mono HBB.out.size)
    have HO1 : Hid (OwnS w1 w.heap.size (.slice (some ⟨w.heap.size + 1, 0, none⟩) 0 0) []) := HOB.out.keep b1
    clear hno b1
    go_wp2
    go_ret
    exact ⟨_, [], rfl, HO1.out, .inr ⟨HE.out, rfl⟩, HDN.out _ HC1.out⟩
  have HE : Hid (okX x) := hok
  have HC1 : Hid (Below W0.heap.size W0 w1) := HBB.out.trans (b1.mono HBB.out.size)
  have HO1 : Hid (OwnS w1 w.heap.size (.slice (some ⟨w.heap.size + 1, 0, none⟩) 0 0) []) := HOB.out.keep b1
  clear hok b1
  obtain ⟨e0, e1, e2, e3, e4⟩ := HBX.out w1 HC1.out
  go_wp2_with fail
  refine (names_c x _ _ _ (x.f4.length : Int) w1 HLN.out (okX_sumL HE.out) HBN.out.sm (HRD.out w1 HC1.out)).mono ?_
  rintro e w2 ⟨v4, rfl, hv, b2⟩
  rw [Int.toNat_natCast, List.take_length] at hv
  have HV : Hid (RowR w2 v4 (nms x.f3 x.f4).length 2 (rLink (nms x.f3 x.f4))) := hv
  have HC2 : Hid (Below W0.heap.size W0 w2) := HC1.out.trans (b2.mono HC1.out.size)
  have HO2 : Hid (OwnS w2 w.heap.size (.slice (some ⟨w.heap.size + 1, 0, none⟩) 0 0) []) := HO1.out.keep b2
  obtain ⟨L, hL⟩ : ∃ L, L = nms x.f3 x.f4 := ⟨_, rfl⟩
  have HN : Hid (nowN x = L.map (·.f0)) := by show _ = _; rw [hL]; rfl
  have hln : L.length ≤ 30 := by have := nowN_len HE.out; rw [HN.out, List.length_map] at this; exact this
  rw [← hL] at HV
  obtain ⟨p, cap, hvv⟩ : ∃ p cap, v4 = .slice p L.length cap := by obtain ⟨_, p, cap, h, _⟩ := HV.out; exact ⟨p, cap, h⟩
  subst hvv
  have HBK : Hid (∀ b off, p = some ⟨b, off, none⟩ → 0 < L.length → b < w2.heap.size ∧ b ≠ w.heap.size + 1) := fun b off hp hpos => by
    obtain ⟨b', off', cap', hv', hbl, hc⟩ := link_cells HV.out hpos
    rw [hp] at hv'
    simp only [Value.slice.injEq, true_and, Option.some.injEq, Addr.mk.injEq] at hv'
    obtain ⟨⟨rfl, _⟩, _⟩ := hv'
    refine ⟨hbl, fun hbe => ?_⟩
    obtain ⟨d0, _⟩ := hc 0 hpos
    obtain ⟨_, ⟨h1, _⟩ | ⟨g, cp, cur, h1, _, hh, _, _, hsz, _⟩⟩ := HO2.out
    · simp at h1
    · simp only [Value.slice.injEq, Option.some.injEq, Addr.mk.injEq] at h1
      obtain ⟨⟨h1, _⟩, _, h2⟩ := h1
      have hz : cur.size = 0 := by rw [hsz, ← h2]
      have hce : cur = #[] := Array.eq_empty_of_size_eq_zero hz
      rw [hbe, h1, World.cell?] at d0
      simp [hh, hce] at d0
  clear hv b2 e0 e1 e2 e3 e4 hL
  go_wp2
  go_loopw [3, 5] (fun v3 iv wr => ∃ k : Nat, k ≤ L.length ∧ iv = .int .i64 (k : Int) ∧ Hid (OwnS wr w.heap.size v3 ((L.map (·.f0)).take k)) ∧ Hid ((∀ g, v3.ownBlock = some g → g = w.heap.size + 1 ∨ w2.heap.size ≤ g) ∧ w2.heap.size ≤ wr.heap.size) ∧ Hid (RowR wr (.slice p L.length cap) L.length 2 (rLink L)) ∧ Hid (Below w.heap.size w wr)) (fun _ iv _ => L.length - (intOf iv).toNat)
  case atStart => exact ⟨0, Nat.zero_le _, rfl, HO2, ⟨fun g hg => by simp only [Value.ownBlock, Option.some.injEq] at hg; exact .inl hg.symm, Nat.le_refl _⟩, HV, HDN.out _ HC2.out⟩
  case round =>
    obtain ⟨k, hk, rfl, HOk, HGk, HVk, HDk⟩ := hrel
    by_cases hlt : k < L.length
    · have hlt' : (k : Int) < L.length := by omega
      obtain ⟨b, off, cap', hv, hbl, hc⟩ := link_cells HVk.out (by omega)
      simp only [Value.slice.injEq, true_and] at hv
      obtain ⟨rfl, rfl⟩ := hv
      obtain ⟨d0, _⟩ := hc k hlt
      have hkm : k < (L.map (·.f0)).length := by rw [List.length_map]; exact hlt
      have HT : Hid ((L.map (·.f0)).take (k + 1) = (L.map (·.f0)).take k ++ [L[k].f0]) := by show _ = _; rw [takeS_snoc hkm, List.getElem_map]
      have HTL : Hid (((L.map (·.f0)).take k).length = k) := lenS_take (by omega)
      clear hc
      generalize L[k].f0 = Y at d0 HT
      have HOW : Hid (wr.ownsRow w.heap.size 9 1 u3 k (((L.map (·.f0)).take k).map Value.string)) := by
        have h1 := HOk.out
        unfold OwnS at h1
        rw [HTL.out] at h1
        exact h1
      have HSB : Hid (w.heap.size ≤ wr.heap.size) := HDk.out.size
      go_wp2_with (at_builtin; refine wpList_append_own_at _ rfl _ _ 52 rfl w.heap.size 9 i0 (.string ⟨#[]⟩) 1 16 Tryz.underlying52 hi hz0 hz1 hz2 rfl (by decide) _ _ _ rfl (HOW.out.alloc _) ⟨wr.heap.size, 0, none⟩ 1 1 [.string Y] rfl rfl (cell_one_new _ _ _) (by intro u hu; simp at hu; subst hu; rfl) (by unfold maxLen; omega) (by omega) (by have := HSB.out; simp; omega) ?_)
      intro v' w3 hown2 hgrow _ hat
      have HR1 : Hid (OwnS w3 w.heap.size v' ((L.map (·.f0)).take (k + 1))) := by
        show OwnS _ _ _ _
        unfold OwnS
        rw [HT.out, List.length_append, HTL.out]
        simpa using hown2
      have HD3 : Hid (Below w.heap.size w w3) := below_app HDk.out (Nat.le_refl _) HOW.out hgrow
      have HV3 : Hid (RowR w3 (.slice (some ⟨b, off, none⟩) L.length cap) L.length 2 (rLink L)) := by
        obtain ⟨hlen, p', cap', hv', hcell⟩ := HVk.out
        refine ⟨hlen, p', cap', hv', fun j hj => ?_⟩
        obtain ⟨b', off', hp', hb', hc'⟩ := hcell j hj
        rw [hp'] at hv'
        simp only [Value.slice.injEq, Option.some.injEq, Addr.mk.injEq] at hv'
        obtain ⟨⟨rfl, rfl, _⟩, _⟩ := hv'
        obtain ⟨hb1, hb2⟩ := HBK.out b off rfl (by omega)
        have hs := hgrow.size
        simp only [World.size_alloc] at hs
        refine ⟨b, off, hp', by omega, ?_⟩
        have hne : some b ≠ u3.ownBlock := fun e => by
          rcases HGk.out.1 b e.symm with h | h <;> omega
        obtain ⟨u, hu⟩ : ∃ u, (rLink L)[j]? = some u := ⟨_, List.getElem?_eq_getElem (by rw [rLink_len]; exact hj)⟩
        rw [hu] at hc' ⊢
        exact hgrow.cell (cell_alloc hc') hne
      have HG3 : Hid ((∀ g, v'.ownBlock = some g → g = w.heap.size + 1 ∨ w2.heap.size ≤ g) ∧ w2.heap.size ≤ w3.heap.size) := by
        have hs := hgrow.size
        simp only [World.size_alloc] at hs
        refine ⟨fun g hg => ?_, by have := HGk.out.2; omega⟩
        rcases hat with h | h
        · rw [h] at hg; exact HGk.out.1 g hg
        · rw [h] at hg; simp only [Option.some.injEq] at hg; have := HGk.out.2; exact .inr (by omega)
      clear hown2 hgrow hat HOk HVk HDk HOW HGk d0
      go_wp2
      go_roundw
      case rel => exact ⟨k + 1, by omega, by go_num, HR1, HG3, HV3, HD3⟩
      case measure => simp [intOf]; omega
    · have hke : k = L.length := by omega
      have HF : Hid (OwnS wr w.heap.size u3 (nowN x)) := by
        have h1 := HOk.out
        rw [List.take_of_length_le (by rw [List.length_map]; omega), ← HN.out] at h1
        exact h1
      clear hlt
      go_wp2
      go_ret
      exact ⟨_, _, rfl, HF.out, .inl ⟨HE.out, rfl⟩, HDk.out⟩

set_option maxRecDepth 20000 in
set_option maxHeartbeats 2000000 in
theorem implList_c (x : S_Disk) (p2 p3 p4 : Option Addr) (c2 c3 c4 : Nat) (w : World) (hb : Bnd x) (hr : RdDisk w x (.slice p2 x.f2.length c2) (.slice p3 x.f3.length c3) (.slice p4 x.f4.length c4)) (hp : p4 = none → c4 = 0) :
    Calls Tryz.prog 22 #[.agg #[.int .i64 x.f0, .int .i64 x.f1, .slice p2 x.f2.length c2, .slice p3 x.f3.length c3, .slice p4 x.f4.length c4]] w (LsR x w) := by
  obtain ⟨i0, hi, hz0, hz1, hz2⟩ := info_parts infoS
  obtain ⟨W0, hW0⟩ : ∃ W, W = w.alloc (.cells #[.int .i64 x.f0, .int .i64 x.f1, .slice p2 x.f2.length c2, .slice p3 x.f3.length c3, .slice p4 x.f4.length c4] 28) := ⟨_, rfl⟩
  have HW0 : Hid (w.alloc (.cells #[.int .i64 x.f0, .int .i64 x.f1, .slice p2 x.f2.length c2, .slice p3 x.f3.length c3, .slice p4 x.f4.length c4] 28) = W0) := hW0.symm
  have HS0 : Hid (W0.heap.size = w.heap.size + 1) := by show _ = _; rw [hW0]; simp
  have HB0 : Hid (Below w.heap.size w W0) := by rw [hW0]; exact (Below.refl _ _).alloc (Nat.le_refl _) _
  have HBX : Hid (∀ W', Below W0.heap.size W0 W' → W'.cell? ⟨w.heap.size, 0, none⟩ = some (.int .i64 x.f0) ∧ W'.cell? ⟨w.heap.size, 1, none⟩ = some (.int .i64 x.f1) ∧ W'.cell? ⟨w.heap.size, 2, none⟩ = some (.slice p2 x.f2.length c2) ∧ W'.cell? ⟨w.heap.size, 3, none⟩ = some (.slice p3 x.f3.length c3) ∧ W'.cell? ⟨w.heap.size, 4, none⟩ = some (.slice p4 x.f4.length c4)) := fun W' hbel => by
    have hk : W'.heap[w.heap.size]? = some (.cells #[.int .i64 x.f0, .int .i64 x.f1, .slice p2 x.f2.length c2, .slice p3 x.f3.length c3, .slice p4 x.f4.length c4] 28) := by rw [hbel.block _ (by rw [HS0.out]; exact Nat.lt_succ_self _), hW0]; exact alloc_at _ _
    exact (disk_cell hk).1
  have HRD : Hid (∀ W', Below W0.heap.size W0 W' → RdDisk W' x (.slice p2 x.f2.length c2) (.slice p3 x.f3.length c3) (.slice p4 x.f4.length c4)) := fun W' hbel => (hr.keep HB0.out (Nat.le_refl _)).keep hbel (Nat.le_refl _)
  have HDN : Hid (∀ W', Below W0.heap.size W0 W' → Below w.heap.size w W') := fun W' hbel => HB0.out.trans (hbel.mono (by rw [HS0.out]; exact Nat.le_succ _))
  have HBN : Hid (Bnd x) := hb
  have HLN : Hid (LnDisk x 1048576) := ⟨hb.len.1, hb.dir, hb.len.2⟩
  clear hW0 hr hb
  have HP : Hid (p4 = none → c4 = 0) := hp
  clear hp
  obtain ⟨e0, e1, e2, e3, e4⟩ := HBX.out W0 (Below.refl _ _)
  go_enter Tryz.func22, Tryz.ntmps22
  go_wp2_with fail
  rw [HW0.out]
  refine (mount_c x p2 p3 p4 c2 c3 c4 W0 HBN.out (HRD.out W0 (Below.refl _ _)) HP.out).mono ?_
  rintro e w1 (⟨hok, ⟨m, bf, bd, bn, vm, bs, rfl, hM⟩, b1⟩ | ⟨hno, rfl, b1⟩)
  case inr =>
    have HE : Hid (¬ okX x) := hno
    have HC1 : Hid (Below W0.heap.size W0 w1) := b1
    clear hno b1 e0 e1 e2 e3 e4
    go_wp2
    go_ret
    exact ⟨.slice none 0 0, [], rfl, ⟨rfl, .inl ⟨rfl, rfl⟩⟩, .inr ⟨HE.out, rfl⟩, HDN.out _ HC1.out⟩
  have HE : Hid (okX x) := hok
  have HC1 : Hid (Below W0.heap.size W0 w1) := b1
  have HM : Hid (Mnt W0.heap.size w1 m x bf bd bn vm bs) := hM
  obtain ⟨_, _, _, _, cn, _⟩ := mount_cell hM.2.2.2.2.1
  obtain ⟨L, hL⟩ : ∃ L, L = nms x.f3 x.f4 := ⟨_, rfl⟩
  have HN : Hid (nowN x = L.map (·.f0)) := by show _ = _; rw [hL]; rfl
  have hln : L.length ≤ 30 := by have := nowN_len HE.out; rw [HN.out, List.length_map] at this; exact this
  have HOM : Hid (w1.ownsMap Tryz.prog 9 (plainElem Tryz.prog 3) bn L.length (encL L)) := by rw [hL]; exact hM.2.2.2.1
  have HSN : Hid (∀ y ∈ L, y.f0.size ≤ 12) := by rw [hL]; exact now_small HE.out
  clear hok b1 hM e0 e1 e2 e3 e4 hL
  go_wp2_with fail
  refine (keysS_c (some bn) w1).mono ?_
  rintro e w2 ⟨rfl, hw2⟩
  subst hw2
  go_wp2_with fail
  refine (sortedS_c bn L.length L _ w1 HOM.out (by omega)).mono ?_
  rintro e w3 ⟨v, rfl, hrow, b3⟩
  have HRS : Hid (OwnS w3 (w1.heap.size + 1) v (L.map (·.f0))) := by
    show OwnS _ _ _ _
    unfold OwnS
    rw [List.length_map, List.map_map]
    exact hrow
  have HC3 : Hid (Below W0.heap.size W0 w3) := HC1.out.trans (b3.mono HC1.out.size)
  obtain ⟨p, cap, hvv, _, _⟩ := own_slice hrow
  subst hvv
  clear hrow b3 cn
  go_wp2
  go_loopw [5, 22] (fun v5 iv wr => ∃ k : Nat, k ≤ L.length ∧ iv = .int .i64 (k : Int) ∧ Hid (OwnS wr w3.heap.size v5 ((L.map (·.f0)).take k)) ∧ Hid (Below w3.heap.size w3 wr)) (fun _ iv _ => L.length - (intOf iv).toNat)
  case atStart => exact ⟨0, Nat.zero_le _, rfl, ⟨rfl, .inl ⟨rfl, rfl⟩⟩, Below.refl _ _⟩
  case round =>
    obtain ⟨k, hk, rfl, HOk, HDk⟩ := hrel
    by_cases hlt : k < L.length
    · have hlt' : (k : Int) < L.length := by omega
      have hkm : k < (L.map (·.f0)).length := by rw [List.length_map]; exact hlt
      rcases own_forms (HRS.out.keep HDk.out) with ⟨h1, h2⟩ | ⟨g, cp, h1, _, hgl, hc⟩
      · rw [h2] at hkm; simp at hkm
      simp only [Value.slice.injEq, List.length_map, true_and] at h1
      obtain ⟨rfl, rfl⟩ := h1
      have d0 := hc k hkm
      rw [cell_str hkm, List.getElem_map] at d0
      have HT : Hid ((L.map (·.f0)).take (k + 1) = (L.map (·.f0)).take k ++ [L[k].f0]) := by show _ = _; rw [takeS_snoc hkm, List.getElem_map]
      have HTL : Hid (((L.map (·.f0)).take k).length = k) := lenS_take (by omega)
      have HYZ : Hid (L[k].f0.size ≤ 12) := HSN.out _ (List.getElem_mem hlt)
      clear hc
      generalize L[k].f0 = Y at d0 HT HYZ
      go_wp2_with fail
      refine (clone_c Y wr (by have := HYZ.out; omega)).mono ?_
      rintro e w4 ⟨rfl, b4⟩
      have HOW : Hid (w4.ownsRow w3.heap.size 9 1 u5 k (((L.map (·.f0)).take k).map Value.string)) := by
        have h1 := HOk.out.keep b4
        unfold OwnS at h1
        rw [HTL.out] at h1
        exact h1
      have HD4 : Hid (Below w3.heap.size w3 w4) := HDk.out.trans (b4.mono HDk.out.size)
      have HSB : Hid (w3.heap.size ≤ w4.heap.size) := HD4.out.size
      clear b4 d0 HOk HDk
      go_wp2_with (at_builtin; refine wpList_append_own_at _ rfl _ _ 52 rfl w3.heap.size 9 i0 (.string ⟨#[]⟩) 1 16 Tryz.underlying52 hi hz0 hz1 hz2 rfl (by decide) _ _ _ rfl (HOW.out.alloc _) ⟨w4.heap.size, 0, none⟩ 1 1 [.string Y] rfl rfl (cell_one_new _ _ _) (by intro u hu; simp at hu; subst hu; rfl) (by unfold maxLen; omega) (by omega) (by have := HSB.out; simp; omega) ?_)
      intro v' w5 hown2 hgrow _ hat
      have HR1 : Hid (OwnS w5 w3.heap.size v' ((L.map (·.f0)).take (k + 1))) := by
        show OwnS _ _ _ _
        unfold OwnS
        rw [HT.out, List.length_append, HTL.out]
        simpa using hown2
      have HD5 : Hid (Below w3.heap.size w3 w5) := below_app HD4.out (Nat.le_refl _) HOW.out hgrow
      clear hown2 hgrow hat HOW HD4
      go_wp2
      go_roundw
      case rel => exact ⟨k + 1, by omega, by go_num, HR1, HD5⟩
      case measure => simp [intOf]; omega
    · have hke : k = L.length := by omega
      have HF : Hid (OwnS wr w3.heap.size u5 (nowN x)) := by
        have h1 := HOk.out
        rw [List.take_of_length_le (by rw [List.length_map]; omega), ← HN.out] at h1
        exact h1
      have HDD : Hid (Below W0.heap.size W0 wr) := HC3.out.trans (HDk.out.mono HC3.out.size)
      clear hlt
      go_wp2
      go_ret
      exact ⟨_, _, rfl, HF.out.low (by have h1 := HC3.out.size; have h2 := HS0.out; omega), .inl ⟨HE.out, rfl⟩, HDN.out _ HDD.out⟩

end Go.Proofs.YtmknplpcpmkhiaaGreat

/- SyncDir: the program's own, by its contract. -/
namespace Go.Proofs.YtmknplpcpmkhiaaGreat
open Go.RowKit Go.Maps
set_option linter.unusedVariables false

/-- What SyncDir makes of a right disk. -/
def sdF (x : S_Disk) : S_Disk × Int := (⟨x.f0, x.f1, x.f2.filter (fun y => lnk (nms x.f3 x.f4) y.f0), nms x.f3 x.f4, []⟩, 0)

theorem uniq_links {w : World} {b n : Nat} {D : List S_Link} (h : w.ownsMap Tryz.prog 9 (plainElem Tryz.prog 3) b n (encL D)) : ∀ a ∈ D, ∀ c ∈ D, a.f0 = c.f0 → a = c := by
  obtain ⟨es, he, hp, _⟩ := h.entries kStr
  have he' : D.map (fun x => (Lit.string x.f0.data.toList, (DataW.lit (.int .i64 x.f1) : DataW Unit))) = es := by simpa [encL] using he
  rw [← he', List.pairwise_map] at hp
  intro a ha c hc e
  obtain ⟨i, hi, rfl⟩ := List.getElem_of_mem ha
  obtain ⟨j, hj, rfl⟩ := List.getElem_of_mem hc
  have h1 := List.pairwise_iff_getElem.1 hp
  rcases Nat.lt_trichotomy i j with h | h | h
  · exact absurd (by simp [e]) (h1 i j hi hj h)
  · subst h; rfl
  · exact absurd (by simp [e]) (h1 j i hj hi h)

theorem ap_nameB {L : List S_Link} {m : S_Move} (h : (ap L m).2 = true) : nameB m.f1 = true := by
  unfold ap at h
  split at h
  · cases h
  · rename_i h1
    simpa using h1

theorem ms_of {B : Nat} {w : World} {m : Nat} {x : S_Disk} {bf bd bn : Nat} {vm : Value} {bs : List Nat} (h : Mnt B w m x bf bd bn vm bs) : Ms B w w m x.f0 x.f1 bf bd (.map (some bn)) vm (x.f2.zip bs) (fun i => lnk x.f3 i || mad x.f4 i) x.f3 := by
  obtain ⟨hl, hF, hd, hn, hm, hv, ⟨n1, n2, n3⟩, g1, g2, g3⟩ := h
  exact ⟨hm, hF, hd, Below.refl _ _, by have := lt_of_some hm; omega, g2, n1, g1⟩

/-- A mount that has settled can be told. -/
theorem ms_told {B : Nat} {w w' : World} {m : Nat} {room next : Int} {bf bd bn : Nat} {I : List S_Inode} {bs : List Nat} {h : Int → Bool} {DD : List S_Link} (hl : bs.length = I.length) (hI : I.length ≤ 1000) (hD : DD.length ≤ 1000) (hs : ∀ z ∈ DD, z.f0.size ≤ 1048576)
    (S : Ms B w w' m room next bf bd (.map (some bn)) (.slice none 0 0) ((I.zip bs).filter fun p => lnk DD p.1.f0) h DD) : MntT B w' m ⟨room, next, I.filter (fun y => lnk DD y.f0), DD, []⟩ := by
  refine ⟨bf, bd, _, none, 0, _, _, ?_, S.mnt, S.fls, S.dir, RowR.own (base := 0) (e := 0) (show World.ownsRow _ 0 0 4 (.slice none 0 0) 0 [] from ⟨rfl, .inl ⟨rfl, rfl⟩⟩), ⟨?_, hD, Nat.zero_le _⟩, hs, fun z hz => absurd hz (List.not_mem_nil)⟩
  · show List.map _ (List.filter ((fun y : S_Inode => lnk DD y.f0) ∘ fun p : S_Inode × Nat => p.1) (I.zip bs)) = _
    rw [← List.filter_map, List.map_fst_zip (by omega)]
  · exact Nat.le_trans (List.length_filter_le _ _) hI

theorem moves_ok {x : S_Disk} (hb : Bnd x) (hx : okX x) : ∀ v ∈ x.f4, nameB v.f1 = true ∧ sMove v ∧ gMove v := fun v hv => by
  refine ⟨?_, hb.sm v hv, hb.gm v hv⟩
  obtain ⟨i, hi, rfl⟩ := List.getElem_of_mem hv
  exact ap_nameB (hx.2.2.2.1 i hi).1

theorem nms_short {x : S_Disk} (hx : okX x) (k : Nat) : (nms x.f3 (x.f4.take k)).length ≤ 30 := by
  have h1 := nms_len x.f3 (x.f4.take k)
  have h2 := okX_dir hx
  have h3 := hx.1.2.2.2
  rw [List.length_take] at h1
  omega

set_option maxRecDepth 20000 in
set_option maxHeartbeats 1000000 in
theorem syncNames_c (x : S_Disk) (B m bf bd bn : Nat) (vm : Value) (bs : List Nat) (w : World) (hb : Bnd x) (hx : okX x) (hM : Mnt B w m x bf bd bn vm bs) :
    Calls Tryz.prog 75 #[.pointer (some ⟨m, 0, none⟩)] w (DoF x (sdF x) B m w) := by
  have HX : Hid (okX x) := hx
  obtain ⟨pm, cm, hvm, _, _⟩ := own_slice hM.2.2.2.2.2.1
  subst hvm
  have HM : Hid (Mnt B w m x bf bd bn (.slice pm x.f4.length cm) bs) := hM
  have HMV : Hid (∀ v ∈ x.f4, nameB v.f1 = true ∧ sMove v ∧ gMove v) := moves_ok hb hx
  have HU : Hid (∀ a ∈ nms x.f3 (x.f4.take x.f4.length), ∀ b ∈ nms x.f3 (x.f4.take x.f4.length), a.f0 = b.f0 → a = b) := by
    rw [List.take_length]
    exact uniq_links hM.2.2.2.1
  obtain ⟨_, _, _, _, _, m5⟩ := mount_cell hM.2.2.2.2.1
  clear hb hx hM
  go_enter Tryz.func75, Tryz.ntmps75
  go_wp2_with fail
  refine (settle_c B m x.f4.length x.f0 x.f1 bf bd (.map (some bn)) pm cm (x.f2.zip bs) (fun i => lnk x.f3 i || mad x.f4 i) x.f3 x.f4 w (ms_of HM.out) HM.out.2.2.2.2.2.1 (Nat.le_refl _) (by have := HX.out.1.2.2.2; omega) (by have := okX_dir HX.out; omega) HMV.out HU.out).mono ?_
  rintro e w1 ⟨⟨u, rfl⟩, bn', S⟩
  rw [List.take_length] at S
  have HT : Hid (MntT B w1 m (sdF x).1) := ms_told HM.out.1 (by have := HX.out.1.2.2.1; omega) (by have := nms_short HX.out x.f4.length; rw [List.take_length] at this; omega) (fun z hz => by have := now_small HX.out z hz; omega) S
  have HB : Hid (Below B w w1) := S.bel
  clear S m5
  go_wp2
  go_ret
  exact ⟨rfl, HT.out, HB.out⟩

set_option maxRecDepth 20000 in
set_option maxHeartbeats 1000000 in
theorem syncDirDo_c (x : S_Disk) (B m bf bd bn : Nat) (vm : Value) (bs : List Nat) (w : World) (hb : Bnd x) (hx : okX x) (hM : Mnt B w m x bf bd bn vm bs) :
    Calls Tryz.prog 74 #[.pointer (some ⟨m, 0, none⟩)] w (DoF x (sdF x) B m w) := by
  have HX : Hid (okX x) := hx
  have HBN : Hid (Bnd x) := hb
  have HM : Hid (Mnt B w m x bf bd bn vm bs) := hM
  clear hx hM hb
  go_enter Tryz.func74, Tryz.ntmps74
  go_wp2_with fail
  refine (syncNames_c x B m bf bd bn vm bs w HBN.out HX.out HM.out).mono ?_
  rintro e w1 ⟨rfl, hT, hb⟩
  have HT : Hid (MntT B w1 m (sdF x).1) := hT
  have HB : Hid (Below B w w1) := hb
  clear hT hb
  generalize sdF x = f at *
  go_wp2
  go_ret
  exact ⟨rfl, HT.out, HB.out⟩

set_option maxRecDepth 20000 in
set_option maxHeartbeats 2000000 in
theorem onSyncDir_c (x : S_Disk) (f : S_Disk × Int) (p2 p3 p4 : Option Addr) (c2 c3 c4 : Nat) (w : World) (hb : Bnd x) (hr : RdDisk w x (.slice p2 x.f2.length c2) (.slice p3 x.f3.length c3) (.slice p4 x.f4.length c4)) (hp : p4 = none → c4 = 0)
    (hdo : ∀ W m bf bd bn vm bs, okX x → Mnt (w.heap.size + 2) W m x bf bd bn vm bs → Below w.heap.size w W → Calls Tryz.prog 74 #[.pointer (some ⟨m, 0, none⟩)] W (DoF x f (w.heap.size + 2) m W)) :
    Calls Tryz.prog 45 #[.agg #[.int .i64 x.f0, .int .i64 x.f1, .slice p2 x.f2.length c2, .slice p3 x.f3.length c3, .slice p4 x.f4.length c4], .func (.func 74) #[] #[]] w (OnR x f w) := by
  obtain ⟨W0, hW0⟩ : ∃ W, W = w.alloc (.cells #[.int .i64 x.f0, .int .i64 x.f1, .slice p2 x.f2.length c2, .slice p3 x.f3.length c3, .slice p4 x.f4.length c4] 28) := ⟨_, rfl⟩
  have HW0 : Hid (w.alloc (.cells #[.int .i64 x.f0, .int .i64 x.f1, .slice p2 x.f2.length c2, .slice p3 x.f3.length c3, .slice p4 x.f4.length c4] 28) = W0) := hW0.symm
  have HS0 : Hid (W0.heap.size = w.heap.size + 1) := by show _ = _; rw [hW0]; simp
  have HB0 : Hid (Below w.heap.size w W0) := by rw [hW0]; exact (Below.refl _ _).alloc (Nat.le_refl _) _
  have HBX : Hid (∀ W', Below W0.heap.size W0 W' → W'.cell? ⟨w.heap.size, 0, none⟩ = some (.int .i64 x.f0) ∧ W'.cell? ⟨w.heap.size, 1, none⟩ = some (.int .i64 x.f1) ∧ W'.cell? ⟨w.heap.size, 2, none⟩ = some (.slice p2 x.f2.length c2) ∧ W'.cell? ⟨w.heap.size, 3, none⟩ = some (.slice p3 x.f3.length c3) ∧ W'.cell? ⟨w.heap.size, 4, none⟩ = some (.slice p4 x.f4.length c4)) := fun W' hbel => by
    have hk : W'.heap[w.heap.size]? = some (.cells #[.int .i64 x.f0, .int .i64 x.f1, .slice p2 x.f2.length c2, .slice p3 x.f3.length c3, .slice p4 x.f4.length c4] 28) := by rw [hbel.block _ (by rw [HS0.out]; exact Nat.lt_succ_self _), hW0]; exact alloc_at _ _
    exact (disk_cell hk).1
  have HRD : Hid (∀ W', Below W0.heap.size W0 W' → RdDisk W' x (.slice p2 x.f2.length c2) (.slice p3 x.f3.length c3) (.slice p4 x.f4.length c4)) := fun W' hbel => (hr.keep HB0.out (Nat.le_refl _)).keep hbel (Nat.le_refl _)
  have HDN : Hid (∀ W', Below W0.heap.size W0 W' → Below w.heap.size w W') := fun W' hbel => HB0.out.trans (hbel.mono (by rw [HS0.out]; exact Nat.le_succ _))
  have HBN : Hid (Bnd x) := hb
  have HLN : Hid (LnDisk x 1048576) := ⟨hb.len.1, hb.dir, hb.len.2⟩
  clear hW0 hr hb
  have HP : Hid (p4 = none → c4 = 0) := hp
  have HDO : Hid (∀ W m bf bd bn vm bs, okX x → Mnt (w.heap.size + 2) W m x bf bd bn vm bs → Below w.heap.size w W → Calls Tryz.prog 74 #[.pointer (some ⟨m, 0, none⟩)] W (DoF x f (w.heap.size + 2) m W)) := hdo
  clear hp hdo
  obtain ⟨WB, hWB⟩ : ∃ W, W = W0.alloc (.cells #[.int .i64 0, .int .i64 0, .slice none 0 0, .slice none 0 0, .slice none 0 0] 28) := ⟨_, rfl⟩
  have HWB : Hid (W0.alloc (.cells #[.int .i64 0, .int .i64 0, .slice none 0 0, .slice none 0 0, .slice none 0 0] 28) = WB) := hWB.symm
  have HBB : Hid (Below W0.heap.size W0 WB) := by rw [hWB]; exact (Below.refl _ _).alloc (Nat.le_refl _) _
  have HRB : Hid (WB.heap[w.heap.size + 1]? = some (.cells #[.int .i64 0, .int .i64 0, .slice none 0 0, .slice none 0 0, .slice none 0 0] 28)) := by rw [hWB, ← HS0.out]; exact alloc_at _ _
  have HZB : Hid (WB.heap.size = w.heap.size + 2) := by show _ = _; rw [hWB]; simp [HS0.out]
  clear hWB
  obtain ⟨e0, e1, e2, e3, e4⟩ := HBX.out WB HBB.out
  go_enter Tryz.func45, Tryz.ntmps45
  go_wp2_with fail
  rw [HW0.out, HWB.out]
  refine (mount_c x p2 p3 p4 c2 c3 c4 WB HBN.out (HRD.out WB HBB.out) HP.out).mono ?_
  rintro e w1 (⟨hok, ⟨m, bf, bd, bn, vm, bs, rfl, hM⟩, b1⟩ | ⟨hno, rfl, b1⟩)
  case inr =>
    have HE : Hid (¬ okX x) := hno
    have HC1 : Hid (Below W0.heap.size W0 w1) := HBB.out.trans (b1.mono HBB.out.size)
    have HR1 : Hid (w1.heap[w.heap.size + 1]? = some (.cells #[.int .i64 0, .int .i64 0, .slice none 0 0, .slice none 0 0, .slice none 0 0] 28)) := (b1.block _ (lt_of_some HRB.out)).trans HRB.out
    obtain ⟨⟨z0, z1, z2, z3, z4⟩, zf⟩ := disk_cell HR1.out
    have zf0 := zf 0
    have zf1 := zf 1
    have zf2 := zf 2
    have zf3 := zf 3
    have zf4 := zf 4
    clear hno b1 e0 e1 e2 e3 e4 zf
    go_wp2
    refine bodyPost_ret (v := .tuple #[.agg #[.int .i64 0, .int .i64 0, .slice none 0 0, .slice none 0 0, .slice none 0 0], .int .i64 1]) (by simp [results, Tryz.results45, go_sem, z0, z1, z2, z3, z4]) rfl ⟨bare 0 0, 1, _, _, _, rfl, ⟨⟨rfl, .inl ⟨rfl, rfl⟩⟩, ⟨rfl, .inl ⟨rfl, rfl⟩⟩, ⟨rfl, .inl ⟨rfl, rfl⟩⟩⟩, ?_, .inr ⟨HE.out, rfl, rfl⟩⟩
    exact (((((HDN.out _ HC1.out).setCell (Nat.le_succ _) _).setCell (Nat.le_succ _) _).setCell (Nat.le_succ _) _).setCell (Nat.le_succ _) _).setCell (Nat.le_succ _) _
  have HE : Hid (okX x) := hok
  have HM : Hid (Mnt (w.heap.size + 2) w1 m x bf bd bn vm bs) := by have := hM; rw [HZB.out] at this; exact this
  have HC1 : Hid (Below W0.heap.size W0 w1) := HBB.out.trans (b1.mono HBB.out.size)
  have HR1 : Hid (w1.heap[w.heap.size + 1]? = some (.cells #[.int .i64 0, .int .i64 0, .slice none 0 0, .slice none 0 0, .slice none 0 0] 28)) := (b1.block _ (lt_of_some HRB.out)).trans HRB.out
  clear hok b1 hM e0 e1 e2 e3 e4
  go_wp2_with fail
  refine (HDO.out w1 m bf bd bn vm bs HE.out HM.out (HDN.out _ HC1.out)).mono ?_
  rintro e w2 ⟨rfl, hT, b2⟩
  have HT : Hid (MntT (w.heap.size + 2) w2 m f.1) := hT
  have HB2 : Hid (Below w.heap.size w w2) := (HDN.out _ HC1.out).trans (b2.mono (by omega))
  have HR2 : Hid (w2.heap[w.heap.size + 1]? = some (.cells #[.int .i64 0, .int .i64 0, .slice none 0 0, .slice none 0 0, .slice none 0 0] 28)) := (b2.block _ (by omega)).trans HR1.out
  clear hT b2
  go_wp2_with fail
  refine (tellT_c (w.heap.size + 2) m f.1 w2 HT.out).mono ?_
  rintro e w3 ⟨v2, v3, v4, rfl, ho, b3⟩
  have HO3 : Hid (OwDisk w3 w2.heap.size f.1 v2 v3 v4) := ho
  have HB3 : Hid (Below w.heap.size w w3) := HB2.out.trans (b3.mono HB2.out.size)
  have HR3 : Hid (w3.heap[w.heap.size + 1]? = some (.cells #[.int .i64 0, .int .i64 0, .slice none 0 0, .slice none 0 0, .slice none 0 0] 28)) := (b3.block _ (lt_of_some HR2.out)).trans HR2.out
  have HL2 : Hid (w.heap.size + 1 < w2.heap.size) := lt_of_some HR2.out
  obtain ⟨q2, d2, hv2, _, _⟩ := own_slice ho.1; subst hv2
  obtain ⟨q3, d3, hv3, _, _⟩ := own_slice ho.2.1; subst hv3
  obtain ⟨q4, d4, hv4, _, _⟩ := own_slice ho.2.2; subst hv4
  obtain ⟨⟨z0, z1, z2, z3, z4⟩, zf⟩ := disk_cell HR3.out
  have zf0 := zf 0
  have zf1 := zf 1
  have zf2 := zf 2
  have zf3 := zf 3
  have zf4 := zf 4
  clear ho b3 zf
  go_wp2
  refine bodyPost_ret (v := .tuple #[.agg #[.int .i64 f.1.f0, .int .i64 f.1.f1, .slice q2 f.1.f2.length d2, .slice q3 f.1.f3.length d3, .slice q4 f.1.f4.length d4], .int .i64 f.2]) (by simp [results, Tryz.results45, go_sem, z0, z1, z2, z3, z4]) rfl ⟨f.1, f.2, _, _, _, rfl, ?_, ?_, .inl ⟨HE.out, rfl, rfl⟩⟩
  · have h2 := HL2.out
    have hs : ∀ {e : TypeId} {size n base : Nat} {v : Value} {xs : List Value} {W : World}, W.ownsRow base e size v n xs → w.heap.size + 1 < base → ∀ u (o : Nat), (W.setCell ⟨w.heap.size + 1, o, none⟩ u).ownsRow base e size v n xs := fun h hl u o => own_set_lt h u hl
    refine ⟨?_, ?_, ?_⟩
    · exact own_low (hs (hs (hs (hs (hs HO3.out.1 h2 _ 0) h2 _ 1) h2 _ 2) h2 _ 3) h2 _ 4) (by omega)
    · exact own_low (hs (hs (hs (hs (hs HO3.out.2.1 h2 _ 0) h2 _ 1) h2 _ 2) h2 _ 3) h2 _ 4) (by omega)
    · exact own_low (hs (hs (hs (hs (hs HO3.out.2.2 h2 _ 0) h2 _ 1) h2 _ 2) h2 _ 3) h2 _ 4) (by omega)
  · exact ((((HB3.out.setCell (Nat.le_succ _) _).setCell (Nat.le_succ _) _).setCell (Nat.le_succ _) _).setCell (Nat.le_succ _) _).setCell (Nat.le_succ _) _

set_option maxRecDepth 20000 in
set_option maxHeartbeats 2000000 in
theorem implSyncDir_c (x : S_Disk) (p2 p3 p4 : Option Addr) (c2 c3 c4 : Nat) (w : World) (hb : Bnd x) (hr : RdDisk w x (.slice p2 x.f2.length c2) (.slice p3 x.f3.length c3) (.slice p4 x.f4.length c4)) (hp : p4 = none → c4 = 0) :
    Calls Tryz.prog 27 #[.agg #[.int .i64 x.f0, .int .i64 x.f1, .slice p2 x.f2.length c2, .slice p3 x.f3.length c3, .slice p4 x.f4.length c4]] w (OnR x (sdF x) w) := by
  obtain ⟨W0, hW0⟩ : ∃ W, W = w.alloc (.cells #[.int .i64 x.f0, .int .i64 x.f1, .slice p2 x.f2.length c2, .slice p3 x.f3.length c3, .slice p4 x.f4.length c4] 28) := ⟨_, rfl⟩
  have HW0 : Hid (w.alloc (.cells #[.int .i64 x.f0, .int .i64 x.f1, .slice p2 x.f2.length c2, .slice p3 x.f3.length c3, .slice p4 x.f4.length c4] 28) = W0) := hW0.symm
  have HS0 : Hid (W0.heap.size = w.heap.size + 1) := by show _ = _; rw [hW0]; simp
  have HB0 : Hid (Below w.heap.size w W0) := by rw [hW0]; exact (Below.refl _ _).alloc (Nat.le_refl _) _
  have HBX : Hid (∀ W', Below W0.heap.size W0 W' → W'.cell? ⟨w.heap.size, 0, none⟩ = some (.int .i64 x.f0) ∧ W'.cell? ⟨w.heap.size, 1, none⟩ = some (.int .i64 x.f1) ∧ W'.cell? ⟨w.heap.size, 2, none⟩ = some (.slice p2 x.f2.length c2) ∧ W'.cell? ⟨w.heap.size, 3, none⟩ = some (.slice p3 x.f3.length c3) ∧ W'.cell? ⟨w.heap.size, 4, none⟩ = some (.slice p4 x.f4.length c4)) := fun W' hbel => by
    have hk : W'.heap[w.heap.size]? = some (.cells #[.int .i64 x.f0, .int .i64 x.f1, .slice p2 x.f2.length c2, .slice p3 x.f3.length c3, .slice p4 x.f4.length c4] 28) := by rw [hbel.block _ (by rw [HS0.out]; exact Nat.lt_succ_self _), hW0]; exact alloc_at _ _
    exact (disk_cell hk).1
  have HRD : Hid (∀ W', Below W0.heap.size W0 W' → RdDisk W' x (.slice p2 x.f2.length c2) (.slice p3 x.f3.length c3) (.slice p4 x.f4.length c4)) := fun W' hbel => (hr.keep HB0.out (Nat.le_refl _)).keep hbel (Nat.le_refl _)
  have HDN : Hid (∀ W', Below W0.heap.size W0 W' → Below w.heap.size w W') := fun W' hbel => HB0.out.trans (hbel.mono (by rw [HS0.out]; exact Nat.le_succ _))
  have HBN : Hid (Bnd x) := hb
  have HLN : Hid (LnDisk x 1048576) := ⟨hb.len.1, hb.dir, hb.len.2⟩
  clear hW0 hr hb
  have HP : Hid (p4 = none → c4 = 0) := hp
  clear hp
  obtain ⟨V0, hV0⟩ : ∃ W, W = W0 := ⟨_, rfl⟩
  have HV0 : Hid (Below W0.heap.size W0 V0 ∧ V0.heap.size = w.heap.size + 1) := ⟨by rw [hV0]; exact Below.refl _ _, by rw [hV0]; exact HS0.out⟩
  have HVE0 : Hid (W0 = V0) := hV0.symm
  clear hV0
  obtain ⟨WB, hWB⟩ : ∃ W, W = V0.alloc (.cells #[.int .i64 0, .int .i64 0, .slice none 0 0, .slice none 0 0, .slice none 0 0] 28) := ⟨_, rfl⟩
  have HWB : Hid (V0.alloc (.cells #[.int .i64 0, .int .i64 0, .slice none 0 0, .slice none 0 0, .slice none 0 0] 28) = WB) := hWB.symm
  have HBB : Hid (Below W0.heap.size W0 WB) := by rw [hWB]; exact HV0.out.1.alloc HV0.out.1.size _
  have HRB : Hid (WB.heap[w.heap.size + 1]? = some (.cells #[.int .i64 0, .int .i64 0, .slice none 0 0, .slice none 0 0, .slice none 0 0] 28)) := by rw [hWB, ← HV0.out.2]; exact alloc_at _ _
  clear hWB
  obtain ⟨e0, e1, e2, e3, e4⟩ := HBX.out WB HBB.out
  go_enter Tryz.func27, Tryz.ntmps27
  go_wp2_with fail
  rw [HW0.out, HVE0.out, HWB.out]
  refine (onSyncDir_c x (sdF x) p2 p3 p4 c2 c3 c4  WB HBN.out (HRD.out WB HBB.out) HP.out (fun W m bf bd bn vm bs hx hM hbW => syncDirDo_c x _ m bf bd bn vm bs W HBN.out hx hM)).mono ?_
  rintro e w1 ⟨y, code, v2, v3, v4, rfl, ho, b1, hf⟩
  have HF : Hid ((okX x ∧ y = (sdF x).1 ∧ code = (sdF x).2) ∨ (¬ okX x ∧ y = bare 0 0 ∧ code = 1)) := hf
  have HO1 : Hid (OwDisk w1 WB.heap.size y v2 v3 v4) := ho
  have HC1 : Hid (Below W0.heap.size W0 w1) := HBB.out.trans (b1.mono HBB.out.size)
  have HR1 : Hid (w1.heap[w.heap.size + 1]? = some (.cells #[.int .i64 0, .int .i64 0, .slice none 0 0, .slice none 0 0, .slice none 0 0] 28)) := (b1.block _ (lt_of_some HRB.out)).trans HRB.out
  have HL1 : Hid (w.heap.size + 1 < WB.heap.size) := lt_of_some HRB.out
  obtain ⟨q2, d2, hv2, _, _⟩ := own_slice ho.1; subst hv2
  obtain ⟨q3, d3, hv3, _, _⟩ := own_slice ho.2.1; subst hv3
  obtain ⟨q4, d4, hv4, _, _⟩ := own_slice ho.2.2; subst hv4
  obtain ⟨⟨z0, z1, z2, z3, z4⟩, zf⟩ := disk_cell HR1.out
  have zf0 := zf 0
  have zf1 := zf 1
  have zf2 := zf 2
  have zf3 := zf 3
  have zf4 := zf 4
  clear hf ho b1 zf e0 e1 e2 e3 e4
  go_wp2
  refine bodyPost_ret (v := .tuple #[.agg #[.int .i64 y.f0, .int .i64 y.f1, .slice q2 y.f2.length d2, .slice q3 y.f3.length d3, .slice q4 y.f4.length d4], .int .i64 code]) (by simp [results, Tryz.results27, go_sem, z0, z1, z2, z3, z4]) rfl ⟨y, code, _, _, _, rfl, ?_, ?_, HF.out⟩
  · have h2 := HL1.out
    have hs : ∀ {e : TypeId} {size n base : Nat} {v : Value} {xs : List Value} {W : World}, W.ownsRow base e size v n xs → w.heap.size + 1 < base → ∀ u (o : Nat), (W.setCell ⟨w.heap.size + 1, o, none⟩ u).ownsRow base e size v n xs := fun h hl u o => own_set_lt h u hl
    refine ⟨?_, ?_, ?_⟩
    · exact own_low (hs (hs (hs (hs (hs HO1.out.1 h2 _ 0) h2 _ 1) h2 _ 2) h2 _ 3) h2 _ 4) (by omega)
    · exact own_low (hs (hs (hs (hs (hs HO1.out.2.1 h2 _ 0) h2 _ 1) h2 _ 2) h2 _ 3) h2 _ 4) (by omega)
    · exact own_low (hs (hs (hs (hs (hs HO1.out.2.2 h2 _ 0) h2 _ 1) h2 _ 2) h2 _ 3) h2 _ 4) (by omega)
  · exact (((((HDN.out _ HC1.out).setCell (by show w.heap.size ≤ w.heap.size + 1; omega) _).setCell (by show w.heap.size ≤ w.heap.size + 1; omega) _).setCell (by show w.heap.size ≤ w.heap.size + 1; omega) _).setCell (by show w.heap.size ≤ w.heap.size + 1; omega) _).setCell (by show w.heap.size ≤ w.heap.size + 1; omega) _

end Go.Proofs.YtmknplpcpmkhiaaGreat
