/- A text and a vocabulary are drawn. -/
import Derived.Test.YtdggkcohidijcaaJV
namespace Go.Proofs.Ytdggkcohidijcaa
open Go.RowKit
set_option linter.unusedVariables false
set_option linter.unusedSimpArgs false

set_option maxRecDepth 20000 in
set_option maxHeartbeats 4000000 in
theorem drawCanon_c (w : World) (len cap : Nat) (ao : Option Addr) (zs : List Int) (hc : CodeAt w w.heap.size ao len zs) (hl : len ≤ 1048576) (hz : ∀ j, 0 ≤ zs.getD j 0 ∧ zs.getD j 0 ≤ 255) :
    Calls Try.prog 16 #[.slice ao len cap] w fun e w' => ∃ (L : List S_Pair) (p : Option Addr) (c : Nat), e = .returned (.agg #[.slice p L.length c]) ∧ L.length ≤ 66 ∧ w'.ownsRow w.heap.size 88 2 (.slice p L.length c) L.length (rPair L) ∧ Below w.heap.size w w' := by
  have HC : Hid (CodeAt w w.heap.size ao len zs) := hc
  have HZ : Hid (∀ j, 0 ≤ zs.getD j 0 ∧ zs.getD j 0 ≤ 255) := hz
  obtain ⟨x0, hx0⟩ : ∃ W, W = w.alloc (.cells #[.slice none 0 0] 26) := ⟨_, rfl⟩
  have Hx0 : Hid (w.alloc (.cells #[.slice none 0 0] 26) = x0) := hx0.symm
  have HX0 : Hid (x0.heap[w.heap.size]? = some (.cells #[.slice none 0 0] 26)) := by rw [hx0]; exact alloc_last _ _
  have HB0 : Hid (Below w.heap.size w x0) := by rw [hx0]; exact (Below.refl _ _).alloc (Nat.le_refl _) _
  have HSZ0 : Hid (w.heap.size < x0.heap.size) := by show _ < _; rw [hx0]; simp
  clear hx0 hz hc
  go_enter Try.func16, Try.ntmps16
  go_wp2_with fail
  rw [Hx0.out]
  refine (cursor_any x0 ao len cap zs (codeBel HC.out HB0.out) hl HZ.out).mono ?_
  rintro e x1 ⟨rfl, hC1, hg1⟩
  obtain ⟨B, hB⟩ : ∃ B, x0.heap.size = B := ⟨_, rfl⟩
  have HBB : Hid (x0.heap.size = B) := hB
  have HC1 : Hid (Cur x1 B ao len cap zs (newF zs len)) := by rw [← hB]; exact hC1
  have HB1 : Hid (Below w.heap.size w x1) := HB0.out.trans ((belOf hg1).mono HB0.out.size)
  have HX1 : Hid (x1.heap[w.heap.size]? = some (.cells #[.slice none 0 0] 26)) := ((belOf hg1).block _ (lt_of_some HX0.out)).trans HX0.out
  rw [hB]
  clear hC1 hg1 hB
  go_wp2_with fail
  refine (size_c 20 x1 ao len cap (by decide) (by decide) hl).mono ?_
  rintro e xz ⟨m, rfl, hm0, hm1, hw⟩
  replace hw := hw.symm
  subst hw
  go_wp2_with fail
  refine (l7Any_c x1 B len cap ao zs (newF zs len) m ⟨hm0, hm1⟩ HC1.out hl HZ.out).mono ?_
  rintro e x2 ⟨L, p, c, st, rfl, hLl, hown, hC2, hg2⟩
  have HX2 : Hid (x2.heap[w.heap.size]? = some (.cells #[.slice none 0 0] 26)) := blk_curV HX1.out hg2 (by have := HSZ0.out; have := HBB.out; omega)
  have HB2 : Hid (Below w.heap.size w x2) := belCur HB1.out hg2 (by have := HSZ0.out; have := HBB.out; omega)
  have HO2 : Hid (x2.ownsRow w.heap.size 88 2 (.slice p L.length c) L.length (rPair L)) := own_low hown HB1.out.size
  have HLl : Hid (L.length ≤ 66) := hLl
  have z0 := box1 HX2.out
  have zf0 := frz1V HX2.out 0
  have z9 := box1 (set1V HX2.out (.slice p L.length c))
  have HF : Hid ((x2.setCell ⟨w.heap.size, 0, none⟩ (.slice p L.length c)).ownsRow w.heap.size 88 2 (.slice p L.length c) L.length (rPair L)) := own_set_kind HO2.out ⟨w.heap.size, 0, none⟩ _ HX2.out (by decide)
  have HBF : Hid (Below w.heap.size w (x2.setCell ⟨w.heap.size, 0, none⟩ (.slice p L.length c))) := HB2.out.setCell (Nat.le_refl _) _
  clear hown hC2 hg2 hLl
  go_wp2
  exact bodyPost_ret (v := .agg #[.slice p L.length c]) (by simp [results, Try.results16, go_sem, z9, z0]) rfl ⟨L, p, c, rfl, HLl.out, HF.out, HBF.out⟩

def lets5 : List ByteArray := [⟨#[97, 97, 97, 97, 97, 97, 97, 97]⟩, ⟨#[32]⟩, ⟨#[98, 98, 98, 98]⟩, ⟨#[32, 32, 32, 32]⟩, ⟨#[46, 46, 46, 46, 46, 46, 46, 46]⟩]
theorem lets5_8 : ∀ y ∈ lets5, y.size ≤ 8 := by decide

theorem text_40 (w : World) (B len cap : Nat) (ao : Option Addr) (zs : List Int) (st : Nat × Int) (hC : Cur w B ao len cap zs st) (hl : len ≤ 1048576) (hz : ∀ j, 0 ≤ zs.getD j 0 ∧ zs.getD j 0 ≤ 255) :
    Calls Try.prog 43 #[.pointer (some ⟨B, 0, none⟩), .int .i64 40] w fun e w' => ∃ (s : ByteArray) (st' : Nat × Int), e = .returned (.string s) ∧ s.size ≤ 40 ∧ Cur w' B ao len cap zs st' ∧ w.grownBy w' (some B) :=
  (text_any w B len cap ao zs st 40 hC hl hz (by omega)).mono fun e w' ⟨he, h1, h2⟩ => ⟨_, _, he, by rw [strOfNums_size]; exact (textF_facts zs len 40 st).1, h1, h2⟩

/-- A text is drawn. -/
def CuD (w : World) (e : Ending) (w' : World) : Prop := ∃ s : ByteArray, e = .returned (.string s) ∧ s.size ≤ 300000 ∧ Below w.heap.size w w'

set_option maxRecDepth 20000 in
set_option maxHeartbeats 4000000 in
theorem drawCut_c (w : World) (len cap : Nat) (ao : Option Addr) (zs : List Int) (hc : CodeAt w w.heap.size ao len zs) (hl : len ≤ 1048576) (hz : ∀ j, 0 ≤ zs.getD j 0 ∧ zs.getD j 0 ≤ 255) :
    Calls Try.prog 14 #[.slice ao len cap] w (CuD w) := by
  have HZ : Hid (∀ j, 0 ≤ zs.getD j 0 ∧ zs.getD j 0 ≤ 255) := hz
  go_enter Try.func14, Try.ntmps14
  go_wp2_with fail
  refine (cursor_any w ao len cap zs hc hl hz).mono ?_
  rintro e x0 ⟨rfl, hC1, hg1⟩
  obtain ⟨B, hB⟩ : ∃ B, w.heap.size = B := ⟨_, rfl⟩
  have HBB : Hid (w.heap.size = B) := hB
  have HB0 : Hid (Below w.heap.size w x0) := belOf hg1
  have K0 : Hid (Kd x0 x0 B ao len cap zs (newF zs len)) := by rw [hB] at hC1; exact kd_of hC1 (Below.refl _ _)
  have HDN : Hid (∀ W, x0.grownBy W (some B) → Below w.heap.size w W) := fun W hg => belCur HB0.out hg (Nat.le_of_eq HBB.out)
  rw [hB]
  clear hC1 hg1 hB hc hz
  go_wp2_with fail
  refine (once_exV x0 B len cap ao zs (newF zs len) 4 K0.out.cur hl HZ.out).mono ?_
  rintro e w1 ⟨b1, s1, rfl, hC, hg⟩
  have K1 : Hid (Kd x0 w1 B ao len cap zs s1) := K0.out.call hC hg
  clear hC hg K0
  cases b1
  case true =>
    go_wp2_with fail
    refine (text_40 w1 B len cap ao zs s1 K1.out.cur hl HZ.out).mono ?_
    rintro e w2 ⟨s, s2, rfl, hs, hC, hg⟩
    have K2 : Hid (Kd x0 w2 B ao len cap zs s2) := K1.out.call hC hg
    have HS : Hid (s.size ≤ 300000) := by show _ ≤ _; omega
    clear hC hg hs
    go_wp2
    go_ret
    exact ⟨s, rfl, HS.out, HDN.out _ K2.out.grown⟩
  case false =>
    go_wp2_with fail
    refine (once_exV w1 B len cap ao zs s1 10 K1.out.cur hl HZ.out).mono ?_
    rintro e w2 ⟨b2, s2, rfl, hC, hg⟩
    have K2 : Hid (Kd x0 w2 B ao len cap zs s2) := K1.out.call hC hg
    clear hC hg K1
    cases b2
    case true =>
      go_wp2_with fail
      go_loopw [4, 5] (fun sv kv wr => ∃ (k : Nat) (s : ByteArray) (su : Nat × Int), sv = .string s ∧ kv = .int .i64 (k : Int) ∧ k ≤ 30 ∧ Hid (s.size ≤ 8 * k) ∧ Hid (Kd x0 wr B ao len cap zs su)) (fun _ kv _ => 30 - (intOf kv).toNat)
      case atStart => exact ⟨0, ⟨#[]⟩, s2, rfl, rfl, by omega, Nat.zero_le _, K2⟩
      case round =>
        obtain ⟨k, s, su, rfl, rfl, hk, HSS, K⟩ := hrel
        clear K2
        by_cases hlt : k < 30
        · have hlt' : (k : Int) < 30 := by omega
          obtain ⟨WA, hWA⟩ : ∃ W, W = wr.alloc (.cells #[.string ⟨#[97, 97, 97, 97, 97, 97, 97, 97]⟩, .string ⟨#[32]⟩, .string ⟨#[98, 98, 98, 98]⟩, .string ⟨#[32, 32, 32, 32]⟩, .string ⟨#[46, 46, 46, 46, 46, 46, 46, 46]⟩] 9) := ⟨_, rfl⟩
          have HWA : Hid (wr.alloc (.cells #[.string ⟨#[97, 97, 97, 97, 97, 97, 97, 97]⟩, .string ⟨#[32]⟩, .string ⟨#[98, 98, 98, 98]⟩, .string ⟨#[32, 32, 32, 32]⟩, .string ⟨#[46, 46, 46, 46, 46, 46, 46, 46]⟩] 9) = WA) := hWA.symm
          have HLs : Hid (WA.heap[wr.heap.size]? = some (.cells (lets5.map Value.string).toArray 9)) := by rw [hWA]; exact alloc_last _ _
          have KA : Hid (Kd x0 WA B ao len cap zs su) := K.out.bel (by rw [hWA]; exact (Below.refl _ _).alloc (Nat.le_refl _) _)
          clear hWA
          go_wp2_with fail
          rw [HWA.out]
          refine (pickS_c WA B len cap ao zs su wr.heap.size lets5 (by decide) (by decide) KA.out.cur hl HZ.out (by have := K.out.cur.lt; omega) HLs.out).mono ?_
          rintro e w9 ⟨y, su9, rfl, hy, hC9, hg9⟩
          have K9 : Hid (Kd x0 w9 B ao len cap zs su9) := KA.out.call hC9 hg9
          have HY : Hid (y.size ≤ 8) := lets5_8 y hy
          have had : ∀ W, (Op.stringOp .add s y).run Try.prog W = .ok (.string (s ++ y)) W := fun W => run_string_add_sum W _ _ (by have := HY.out; have := HSS.out; omega)
          have HSN : Hid ((s ++ y).size ≤ 8 * (k + 1)) := by have := HY.out; have := HSS.out; show _ ≤ _; rw [ByteArray.size_append]; omega
          clear hC9 hg9 hy
          go_wp2
          go_roundw
          case rel => first | exact ⟨k + 1, s ++ y, su9, rfl, by first | rfl | go_num, by omega, HSN, K9⟩ | ((repeat apply Exists.intro); exact ⟨⟨k + 1, s ++ y, su9, rfl, by first | rfl | go_num, by omega, HSN, K9⟩, rfl⟩)
          case measure => simp [intOf]; omega
        · have hlt' : ¬ (k : Int) < 30 := by omega
          have HS : Hid (s.size ≤ 300000) := by have := HSS.out; show _ ≤ _; omega
          clear HSS
          go_wp2
          go_ret
          exact ⟨s, rfl, HS.out, HDN.out _ K.out.grown⟩
    case false =>
      go_wp2_with fail
      refine (l7Draw_c w2 B len cap ao zs s2 6 (by decide) K2.out.cur hl HZ.out).mono ?_
      rintro e w3 ⟨L, p, c, s3, rfl, hLl, hown, hC, hg⟩
      have K3 : Hid (Kd x0 w3 B ao len cap zs s3) := K2.out.call hC hg
      have HOW : Hid (w3.ownsRow w2.heap.size 88 2 (.slice p L.length c) L.length (rPair L)) := hown
      have HLl : Hid (L.length ≤ 1048576) := by show _ ≤ _; omega
      have HBl : Hid (B < w2.heap.size) := K2.out.cur.lt
      clear hC hg hown hLl K2
      go_wp2_with fail
      refine (sizeT_c 12 w3 ao len cap (by decide) (by decide) hl).mono ?_
      rintro e xz ⟨m, rfl, hm0, hm1, hw⟩
      replace hw := hw.symm
      subst hw
      go_wp2_with fail
      refine (l9Line_c w3 B len cap ao zs s3 m ⟨hm0, hm1⟩ L p c w2.heap.size HLl.out HOW.out HBl.out K3.out.cur hl HZ.out).mono ?_
      rintro e w4 ⟨s, s4, rfl, hs, hC, hg⟩
      have HS : Hid (s.size ≤ 300000) := hs
      have HB4 : Hid (Below w.heap.size w w4) := HDN.out _ (K3.out.call hC hg).grown
      clear hC hg hs
      go_wp2
      go_ret
      exact ⟨s, rfl, HS.out, HB4.out⟩

end Go.Proofs.Ytdggkcohidijcaa
