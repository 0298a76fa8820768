/- A vocabulary and a word are drawn. -/
import Derived.Test.YtdhbhifgmbppjaaVwWord
import Derived.Test.YtdhbhifgmbppjaaVlBase
namespace Go.Proofs.Ytdhbhifgmbppjaa
open Go.RowKit
set_option linter.unusedVariables false
set_option linter.unusedSimpArgs false

theorem codeBel {w W : World} {ao : Option Addr} {len : Nat} {zs : List Int} (h : CodeAt w w.heap.size ao len zs) (hb : Below w.heap.size w W) : CodeAt W W.heap.size ao len zs := by
  intro j hj
  obtain ⟨b, off, e, hlt, hcl⟩ := h j hj
  exact ⟨b, off, e, Nat.lt_of_lt_of_le hlt hb.size, by rw [hb.cell (by exact hlt)]; exact hcl⟩

theorem size_c (most : Int) (w : World) (ao : Option Addr) (len cap : Nat) (h0 : 2 ≤ most) (h1 : most ≤ 1000) (hl : len ≤ 1048576) :
    Calls Try.prog 31 #[.slice ao len cap, .int .i64 most] w fun e w' => ∃ n : Int, e = .returned (.int .i64 n) ∧ 0 ≤ n ∧ n ≤ 1000 ∧ w' = w := by
  have ew : IntKind.i64.wrap ((len : Int) / 20) = (len : Int) / 20 := IntWalk.i64_in _ (by omega)
  have ew2 : IntKind.i64.wrap (2 + (len : Int) / 20) = 2 + (len : Int) / 20 := IntWalk.i64_in _ (by omega)
  by_cases hg : most < 2 + (len : Int) / 20
  · have HF : Hid (0 ≤ most ∧ most ≤ 1000) := ⟨by omega, h1⟩
    go_enter Try.func31, Try.ntmps31
    go_wp2
    go_ret
    exact ⟨most, rfl, HF.out.1, HF.out.2, rfl⟩
  · have HF : Hid (0 ≤ 2 + (len : Int) / 20 ∧ 2 + (len : Int) / 20 ≤ 1000) := ⟨by omega, by omega⟩
    go_enter Try.func31, Try.ntmps31
    go_wp2
    go_ret
    exact ⟨_, rfl, HF.out.1, HF.out.2, rfl⟩

theorem belOf {w W : World} (h : w.grownBy W none) : Below w.heap.size w W := ⟨h.os, h.tape, h.output, h.size, fun k hk => h.block k hk (by simp)⟩

theorem belCur {w x W : World} {B : Nat} (h : Below w.heap.size w x) (hg : x.grownBy W (some B)) (hB : w.heap.size ≤ B) : Below w.heap.size w W :=
  ⟨hg.os.trans h.os, hg.tape.trans h.tape, hg.output.trans h.output, Nat.le_trans h.size hg.size, fun k hk => (hg.block k (Nat.lt_of_lt_of_le hk h.size) (fun e => by cases e; omega)).trans (h.block k hk)⟩

theorem big_c (w : World) (ao : Option Addr) (len cap : Nat) (b : Bool) (h : decide ((1048576 : Int) < len) = b) :
    Calls Try.prog 6 #[.slice ao len cap] w fun e w' => e = .returned (.bool b) ∧ w' = w := by
  go_enter Try.func6, Try.ntmps6
  go_wp2
  go_ret
  exact ⟨rfl, rfl⟩

/-- While a word is drawn: the cursor, the answer's place, the vocabulary's place and row. -/
structure WbS (w : World) (B len cap : Nat) (ao : Option Addr) (zs : List Int) (bo bv : Nat) (W : World) (L : List S_Pair) (p : Option Addr) (c : Nat) (su : Nat × Int) : Prop where
  cur : Cur W B ao len cap zs su
  down : Below w.heap.size w W
  out : W.heap[w.heap.size]? = some (.cells #[.slice none 0 0] 26)
  box : W.heap[bv]? = some (.cells #[.slice p L.length c] 26)
  row : W.ownsRow bo 80 2 (.slice p L.length c) L.length (rPair L)
  lo : w.heap.size < B
  mid : B < bo
  hi : B < bv

section
variable {w W W' : World} {B len cap : Nat} {ao : Option Addr} {zs : List Int} {bo bv : Nat} {L : List S_Pair} {p : Option Addr} {c : Nat} {su su' : Nat × Int}
theorem WbS.bel (S : WbS w B len cap ao zs bo bv W L p c su) (h : Below W.heap.size W W') : WbS w B len cap ao zs bo bv W' L p c su :=
  ⟨S.cur.keep (grownV h) (by simp), S.down.trans (h.mono S.down.size), (h.block _ (lt_of_some S.out)).trans S.out, (h.block _ (lt_of_some S.box)).trans S.box, own_bel S.row h (Nat.le_refl _), S.lo, S.mid, S.hi⟩
theorem WbS.call (S : WbS w B len cap ao zs bo bv W L p c su) (hC : Cur W' B ao len cap zs su') (hg : W.grownBy W' (some B)) : WbS w B len cap ao zs bo bv W' L p c su' :=
  ⟨hC, belCur S.down hg (Nat.le_of_lt S.lo), blk_curV S.out hg (by have := S.lo; omega), blk_curV S.box hg (by have := S.hi; omega), own_curV S.row hg S.mid, S.lo, S.mid, S.hi⟩
end

/-- A vocabulary and a text are drawn. -/
def BwD (w : World) (e : Ending) (w' : World) : Prop := ∃ (L : List S_Pair) (p : Option Addr) (c : Nat) (s : ByteArray), e = .returned (.tuple #[.agg #[.slice p L.length c], .string s]) ∧ L.length ≤ 66 ∧ s.size ≤ 24024 ∧ w'.ownsRow w.heap.size 80 2 (.slice p L.length c) L.length (rPair L) ∧ Below w.heap.size w w'

def strL : Value → Nat
  | .string s => s.size
  | _ => 0

set_option maxRecDepth 20000 in
set_option maxHeartbeats 4000000 in
theorem drawBpe_c (w : World) (len cap : Nat) (ao : Option Addr) (zs : List Int) (hc : CodeAt w w.heap.size ao len zs) (hl : len ≤ 1048576) (hz : ∀ j, 0 ≤ zs.getD j 0 ∧ zs.getD j 0 ≤ 255) :
    Calls Try.prog 12 #[.slice ao len cap] w (BwD w) := by
  have HC : Hid (CodeAt w w.heap.size ao len zs) := hc
  have HZ : Hid (∀ j, 0 ≤ zs.getD j 0 ∧ zs.getD j 0 ≤ 255) := hz
  obtain ⟨x0, hx0⟩ : ∃ W, W = w.alloc (.cells #[.slice none 0 0] 26) := ⟨_, rfl⟩
  have Hx0 : Hid (w.alloc (.cells #[.slice none 0 0] 26) = x0) := hx0.symm
  have HX0 : Hid (x0.heap[w.heap.size]? = some (.cells #[.slice none 0 0] 26)) := by rw [hx0]; exact alloc_last _ _
  have HB0 : Hid (Below w.heap.size w x0) := by rw [hx0]; exact (Below.refl _ _).alloc (Nat.le_refl _) _
  have HSZ0 : Hid (w.heap.size < x0.heap.size) := by show _ < _; rw [hx0]; simp
  clear hx0 hz hc
  go_enter Try.func12, Try.ntmps12
  go_wp2_with fail
  rw [Hx0.out]
  refine (cursor_any x0 ao len cap zs (codeBel HC.out HB0.out) hl HZ.out).mono ?_
  rintro e x1 ⟨rfl, hC1, hg1⟩
  obtain ⟨B, hB⟩ : ∃ B, x0.heap.size = B := ⟨_, rfl⟩
  have HBB : Hid (x0.heap.size = B) := hB
  have HC1 : Hid (Cur x1 B ao len cap zs (newF zs len)) := by rw [← hB]; exact hC1
  have HB1 : Hid (Below w.heap.size w x1) := HB0.out.trans ((belOf hg1).mono HB0.out.size)
  have HX1 : Hid (x1.heap[w.heap.size]? = some (.cells #[.slice none 0 0] 26)) := ((belOf hg1).block _ (lt_of_some HX0.out)).trans HX0.out
  rw [hB]
  clear hC1 hg1 hB
  go_wp2_with fail
  refine (size_c 20 x1 ao len cap (by decide) (by decide) hl).mono ?_
  rintro e xz ⟨m, rfl, hm0, hm1, hw⟩
  replace hw := hw.symm
  subst hw
  go_wp2_with fail
  refine (l7Any_c x1 B len cap ao zs (newF zs len) m ⟨hm0, hm1⟩ HC1.out hl HZ.out).mono ?_
  rintro e x2 ⟨L, p, c, st, rfl, hLl, hown, hC2, hg2⟩
  have HLl : Hid (L.length ≤ 66) := hLl
  obtain ⟨bv, hbv⟩ : ∃ b, x2.heap.size = b := ⟨_, rfl⟩
  obtain ⟨bo, hbo⟩ : ∃ b, x1.heap.size = b := ⟨_, rfl⟩
  obtain ⟨x3, hx3⟩ : ∃ W, W = x2.alloc (.cells #[.slice p L.length c] 26) := ⟨_, rfl⟩
  have Hx3 : Hid (x2.alloc (.cells #[.slice p L.length c] 26) = x3) := hx3.symm
  have HBV : Hid (x2.heap.size = bv) := hbv
  have S3 : Hid (WbS w B len cap ao zs bo bv x3 L p c st) := by
    have h1 := HSZ0.out; have h2 := HBB.out; have h3 := HC1.out.lt; have h4 := hg2.size
    have hb : Below x2.heap.size x2 x3 := by rw [hx3]; exact (Below.refl _ _).alloc (Nat.le_refl _) _
    have hd : Below w.heap.size w x2 := belCur HB1.out hg2 (by omega)
    rw [hbo] at hown
    exact ⟨Cur.keep hC2 (grownV hb) (by simp), hd.trans (hb.mono hd.size), (hb.block _ (lt_of_some (blk_curV HX1.out hg2 (by omega)))).trans (blk_curV HX1.out hg2 (by omega)), by rw [hx3, ← hbv]; exact alloc_last _ _, own_bel hown hb (Nat.le_refl _), by omega, by omega, by omega⟩
  clear hown hC2 hg2 hLl hx3 hbv hbo hm0 hm1
  have SD : Hid (WbS w B len cap ao zs bo bv x3.drew L p c st) := S3.out.bel (Below.refl _ _).drew
  go_upto_region 3 with fail
  rw [Hx3.out, HBV.out]
  refine wp_region_L [⟨4, fun W => ∀ j u, ([.slice p L.length c] : List Value)[j]? = some u → W.cell? ((⟨bv, 0, none⟩ : Addr).add j) = some u⟩] (by kernel_rfl) (fun f hf => by simp only [List.mem_cons, List.not_mem_nil, or_false] at hf; subst hf; exact (cell1V (box1 SD.out.box))) ?_
  refine At.take 0 (some 14) (.pointer (some ⟨B, 0, none⟩)) rfl rfl (by kernel_rfl) (by kernel_rfl) (by kernel_rfl) (by kernel_rfl) (fun _ _ _ h => h) (yl_pure (by kernel_rfl) (fun _ => by kernel_rfl)) ?_
  refine At.take 1 (some 15) (.agg #[.slice p L.length c]) rfl rfl (by kernel_rfl) (by kernel_rfl) (by kernel_rfl) (by kernel_rfl) (fun _ _ _ h => h) (yl_loads 4 ⟨bv, 0, none⟩ [.slice p L.length c] (List.mem_cons_self) [4] (by kernel_rfl) rfl (by kernel_rfl) (fun _ => by kernel_rfl)) ?_
  refine At.take 2 (some 16) (.slice ao len cap) rfl rfl (by kernel_rfl) (by kernel_rfl) (by kernel_rfl) (by kernel_rfl) (fun _ _ _ h => h) (yl_pure (by kernel_rfl) (fun _ => by kernel_rfl)) ?_
  refine At.step 3 (some 17) rfl rfl (by kernel_rfl) (by kernel_rfl) (fun u W => ∃ n : Int, u = .int .i64 n ∧ 0 ≤ n ∧ n ≤ 1000 ∧ W = x3.drew) (gives_call (by kernel_rfl) ((size_c 20 x3.drew ao len cap (by decide) (by decide) hl).mono fun e w' ⟨n, he, h0, h1, hw⟩ => ⟨_, he, n, rfl, h0, h1, hw⟩)) ?_
  rintro u WA ⟨m2, rfl, m20, m21, hWA⟩
  replace hWA := hWA.symm
  subst hWA
  refine ⟨held_cons (.inr ((cell1V (box1 SD.out.box)))) (held_nil), ?_⟩
  refine At.step 4 (some 18) rfl rfl (by kernel_rfl) (by kernel_rfl) (fun u W => ∃ (s : ByteArray) (s6 : Nat × Int), u = .string s ∧ s.size ≤ 24024 ∧ Cur W B ao len cap zs s6 ∧ x3.drew.grownBy W (some B)) (gives_call (by kernel_rfl) ((l8Word_c x3.drew B len cap ao zs st m2 ⟨m20, m21⟩ L p c (by have := HLl.out; omega) (RowR.own SD.out.row) SD.out.cur hl HZ.out).mono fun e w' ⟨s, s6, he, h0, h1, hw⟩ => ⟨_, he, s, s6, rfl, h0, h1, hw⟩)) ?_
  rintro u W4 ⟨s, s6, rfl, hs, hC4, hg4⟩
  have S4 : Hid (WbS w B len cap ao zs bo bv W4 L p c s6) := SD.out.call hC4 hg4
  have HSZ : Hid (s.size ≤ 24024) := hs
  clear hC4 hg4 hs m20 m21
  refine ⟨held_cons (.inl (by kernel_rfl)) (held_nil), ?_⟩
  refine At.take 5 (some 6) (.string s) rfl rfl (by kernel_rfl) (by kernel_rfl) (by kernel_rfl) (by kernel_rfl) (fun _ _ _ h => h) (yl_pure (by kernel_rfl) (fun _ => by kernel_rfl)) ?_
  refine At.done (by kernel_rfl) ?_
  simp only [Act.put, List.setIfInBounds_toArray, List.set_cons_zero, List.set_cons_succ]
  clear S3 SD
  go_wp2_with fail
  refine (once_exV W4 B len cap ao zs s6 20 S4.out.cur hl HZ.out).mono ?_
  rintro e w5 ⟨bo5, s7, rfl, hC5, hg5⟩
  have S5 : Hid (WbS w B len cap ao zs bo bv w5 L p c s7) := S4.out.call hC5 hg5
  clear hC5 hg5 S4
  cases bo5
  case false =>
    have z0 := box1 S5.out.out
    have zf0 := frz1V S5.out.out 0
    have zb := box1 S5.out.box
    have z9 := box1 (set1V S5.out.out (.slice p L.length c))
    have HF : Hid ((w5.setCell ⟨w.heap.size, 0, none⟩ (.slice p L.length c)).ownsRow w.heap.size 80 2 (.slice p L.length c) L.length (rPair L)) := own_set_kind (own_low S5.out.row (by have := S5.out.lo; have := S5.out.mid; omega)) ⟨w.heap.size, 0, none⟩ _ S5.out.out (by decide)
    have HBF : Hid (Below w.heap.size w (w5.setCell ⟨w.heap.size, 0, none⟩ (.slice p L.length c))) := S5.out.down.setCell (Nat.le_refl _) _
    go_wp2
    exact bodyPost_ret (v := .tuple #[.agg #[.slice p L.length c], .string s]) (by simp [results, Try.results12, go_sem, z9, z0]) rfl ⟨L, p, c, s, rfl, HLl.out, HSZ.out, HF.out, HBF.out⟩
  case true =>
    clear HSZ
    go_wp2_with fail
    refine (below_exV w5 B len cap ao zs s7 2 S5.out.cur hl HZ.out).mono ?_
    rintro e w6 ⟨x, s8, rfl, v0, v1, hC6, hg6⟩
    have S6 : Hid (WbS w B len cap ao zs bo bv w6 L p c s8) := S5.out.call hC6 hg6
    have v2 := v1 (by omega)
    obtain ⟨m, rfl⟩ := Int.eq_ofNat_of_zero_le v0
    have hm2 : m ≤ 1 := by omega
    have e5 : IntKind.i64.wrap (64 + (m : Int)) = 64 + (m : Int) := IntWalk.i64_in _ (by omega)
    clear hC6 hg6 S5 v0 v1 v2
    go_wp2_with fail
    go_loopw [6] (fun sv wr => ∃ (s : ByteArray) (sq : Nat × Int), sv = .string s ∧ Hid (s.size ≤ 64 + m) ∧ Hid (WbS w B len cap ao zs bo bv wr L p c sq)) (fun sv _ => 64 + m - strL sv)
    case atStart => exact ⟨⟨#[]⟩, s8, rfl, Nat.zero_le _, S6⟩
    case round =>
      obtain ⟨s, sq, rfl, HSS, S⟩ := hrel
      clear S6
      by_cases hlt : s.size < 64 + m
      · have hlt' : (s.size : Int) < 64 + (m : Int) := by omega
        obtain ⟨WA, hWA⟩ : ∃ W, W = wr.alloc (.cells #[.string ⟨#[97]⟩, .string ⟨#[98]⟩] 9) := ⟨_, rfl⟩
        have HWA : Hid (wr.alloc (.cells #[.string ⟨#[97]⟩, .string ⟨#[98]⟩] 9) = WA) := hWA.symm
        have HLs : Hid (WA.heap[wr.heap.size]? = some (.cells (lets2.map Value.string).toArray 9)) := by rw [hWA]; exact alloc_last _ _
        have SA : Hid (WbS w B len cap ao zs bo bv WA L p c sq) := S.out.bel (by rw [hWA]; exact (Below.refl _ _).alloc (Nat.le_refl _) _)
        clear hWA
        go_wp2_with fail
        rw [HWA.out]
        refine (pickS_c WA B len cap ao zs sq wr.heap.size lets2 (by decide) (by decide) SA.out.cur hl HZ.out (by have := S.out.cur.lt; omega) HLs.out).mono ?_
        rintro e w9 ⟨y, su9, rfl, hy, hC9, hg9⟩
        have S9 : Hid (WbS w B len cap ao zs bo bv w9 L p c su9) := SA.out.call hC9 hg9
        have HY : Hid (y.size = 1) := lets2_1 y hy
        have had : ∀ W, (Op.stringOp .add s y).run Try.prog W = .ok (.string (s ++ y)) W := fun W => run_string_add_sum W _ _ (by have := HY.out; omega)
        have HSN : Hid ((s ++ y).size = s.size + 1) := by show _ = _; rw [ByteArray.size_append, HY.out]
        have HLT : Hid (s.size < 64 + m) := hlt
        clear hC9 hg9 hy
        go_wp2
        go_roundw
        case rel => exact ⟨s ++ y, su9, rfl, by have h1 := HSN.out; have h2 := HLT.out; show _ ≤ _; omega, S9⟩
        case measure => show 64 + m - (s ++ y).size < 64 + m - s.size; have h1 := HSN.out; have h2 := HLT.out; omega
      · have hlt' : ¬ (s.size : Int) < 64 + (m : Int) := by omega
        have z0 := box1 S.out.out
        have zf0 := frz1V S.out.out 0
        have zb := box1 S.out.box
        have z9 := box1 (set1V S.out.out (.slice p L.length c))
        have HF : Hid ((wr.setCell ⟨w.heap.size, 0, none⟩ (.slice p L.length c)).ownsRow w.heap.size 80 2 (.slice p L.length c) L.length (rPair L)) := own_set_kind (own_low S.out.row (by have := S.out.lo; have := S.out.mid; omega)) ⟨w.heap.size, 0, none⟩ _ S.out.out (by decide)
        have HBF : Hid (Below w.heap.size w (wr.setCell ⟨w.heap.size, 0, none⟩ (.slice p L.length c))) := S.out.down.setCell (Nat.le_refl _) _
        go_wp2
        exact bodyPost_ret (v := .tuple #[.agg #[.slice p L.length c], .string s]) (by simp [results, Try.results12, go_sem, z9, z0]) rfl ⟨L, p, c, s, rfl, HLl.out, (by have := HSS.out; omega), HF.out, HBF.out⟩

end Go.Proofs.Ytdhbhifgmbppjaa
