/- Tokens are drawn. -/
import Derived.Test.YtdhbhifgmbppjaaVwDraw
import Derived.Test.YtdhbhifgmbppjaaM8Spec
import Derived.Test.YtdhbhifgmbppjaaHaInts
import Derived.Test.YtdhbhifgmbppjaaVlBase
namespace Go.Proofs.Ytdhbhifgmbppjaa
open Go.RowKit
set_option linter.unusedVariables false
set_option linter.unusedSimpArgs false

/-- Tokens are drawn. -/
def TkD (w : World) (B len cap : Nat) (ao : Option Addr) (zs : List Int) (e : Ending) (w' : World) : Prop := ∃ (ts : List Int) (q : Option Addr) (cq : Nat) (st' : Nat × Int), e = .returned (.slice q ts.length cq) ∧ ts.length ≤ 2000 ∧ IO w' w.heap.size (.slice q ts.length cq) ts ∧ Cur w' B ao len cap zs st' ∧ w.grownBy w' (some B)

/-- While tokens are drawn: the cursor, the vocabulary's place, the row. -/
structure TkS (w : World) (B len cap : Nat) (ao : Option Addr) (zs : List Int) (p : Option Addr) (n cp : Nat) (W : World) (ts : List Int) (q : Option Addr) (cq : Nat) (su : Nat × Int) : Prop where
  kd : Kd w W B ao len cap zs su
  box : W.heap[w.heap.size]? = some (.cells #[.slice p n cp] 26)
  row : W.ownsRow (w.heap.size + 1) 3 1 (.slice q ts.length cq) ts.length (rI ts)
  old : B < w.heap.size

section
variable {w W W' : World} {B len cap : Nat} {ao : Option Addr} {zs : List Int} {p : Option Addr} {n cp : Nat} {ts : List Int} {q : Option Addr} {cq : Nat} {su su' : Nat × Int}
theorem TkS.bel (S : TkS w B len cap ao zs p n cp W ts q cq su) (h : Below W.heap.size W W') : TkS w B len cap ao zs p n cp W' ts q cq su :=
  ⟨S.kd.bel h, (h.block _ (lt_of_some S.box)).trans S.box, own_bel S.row h (Nat.le_refl _), S.old⟩
theorem TkS.call (S : TkS w B len cap ao zs p n cp W ts q cq su) (hC : Cur W' B ao len cap zs su') (hg : W.grownBy W' (some B)) : TkS w B len cap ao zs p n cp W' ts q cq su' :=
  ⟨S.kd.call hC hg, blk_curV S.box hg (by have := S.old; omega), own_curV S.row hg (by have := S.old; omega), S.old⟩
theorem TkS.anew (S : TkS w B len cap ao zs p n cp W ts q cq su) : TkS w B len cap ao zs p n cp (W.alloc (.cells #[] 3)) [] (some ⟨W.heap.size, 0, none⟩) 0 su := by
  have S' := S.bel (W' := W.alloc (.cells #[] 3)) ((Below.refl _ _).alloc (Nat.le_refl _) _)
  exact ⟨S'.kd, S'.box, World.ownsRow_made (base := w.heap.size + 1) (e := 3) (size := 1) W #[] 0 (lt_of_some S.box) (by decide) rfl, S.old⟩
theorem TkS.app (S : TkS w B len cap ao zs p n cp W ts q cq su) (hn : ts.length ≤ 100000) (x : Int) : ∃ q' c' W2, (Builtin.append_ #[27, 27] 27 #[.slice q ts.length cq, .slice (some ⟨W.heap.size, 0, none⟩) 1 1]).run Try.prog (W.alloc (.cells #[.int .i64 x] 3)) = .ok (.slice q' (ts ++ [x]).length c') W2 ∧ TkS w B len cap ao zs p n cp W2 (ts ++ [x]) q' c' su := by
  obtain ⟨i0, hi, hz0, hz1, hz2⟩ := info_parts infoInt
  have SA := S.bel (W' := W.alloc (.cells #[.int .i64 x] 3)) ((Below.refl _ _).alloc (Nat.le_refl _) _)
  have hsz : w.heap.size + 1 ≤ (W.alloc (.cells #[.int .i64 x] 3)).heap.size := lt_of_some SA.box
  obtain ⟨v', W2, hrun, hown, hgrow, _⟩ := run_append_own (P := Try.prog) (W.alloc (.cells #[.int .i64 x] 3)) (w.heap.size + 1) 27 27 3 i0 (.int .i64 0) 1 8 Try.underlying27 hi hz0 hz1 hz2 rfl (by decide) (.slice q ts.length cq) ts.length (rI ts) SA.row ⟨W.heap.size, 0, none⟩ 1 1 [.int .i64 x] rfl (cell_one_new _ _ _) (by intro u hu; simp at hu; subst hu; rfl) (by unfold maxLen; omega) (by omega) hsz
  have hown2 : W2.ownsRow (w.heap.size + 1) 3 1 v' (ts ++ [x]).length (rI (ts ++ [x])) := by
    have := hown
    unfold rI at this ⊢
    simpa using this
  obtain ⟨q', c', rfl⟩ := own_sliceV hown2
  have hrb : ∀ k, (Value.slice q ts.length cq).ownBlock = some k → w.heap.size + 1 ≤ k := fun k hk => (SA.row.lt k hk).1
  have hkd : Kd w W2 B ao len cap zs su := ⟨SA.kd.cur.keep hgrow (fun k hk => by have := hrb k hk; have := S.old; omega), SA.kd.grown.andThen hgrow (fun j hj => .inl (by have := hrb j hj; omega))⟩
  refine ⟨q', c', W2, by rw [hrun], hkd, (hgrow.block _ (lt_of_some SA.box) (fun hk => by have := hrb _ hk.symm; omega)).trans SA.box, hown2, S.old⟩
theorem TkS.fin (S : TkS w B len cap ao zs p n cp W ts q cq su) (h : ts.length ≤ 2000) : TkD w B len cap ao zs (.returned (.slice q ts.length cq)) W :=
  ⟨ts, q, cq, su, rfl, h, own_low S.row (Nat.le_succ _), S.kd.cur, S.kd.grown⟩
end

def slL : Value → Nat
  | .slice _ n _ => n
  | _ => 0

set_option maxRecDepth 20000 in
set_option maxHeartbeats 4000000 in
theorem l8Toks_c (w : World) (B len cap : Nat) (ao : Option Addr) (zs : List Int) (st : Nat × Int) (most : Int) (hm : 0 ≤ most ∧ most ≤ 1000) (L : List S_Pair) (p : Option Addr) (cp : Nat) (hn : L.length ≤ 1048576) (hC : Cur w B ao len cap zs st) (hl : len ≤ 1048576) (hz : ∀ j, 0 ≤ zs.getD j 0 ∧ zs.getD j 0 ≤ 255) :
    Calls Try.prog 39 #[.pointer (some ⟨B, 0, none⟩), .agg #[.slice p L.length cp], .int .i64 most] w (TkD w B len cap ao zs) := by
  have HC : Hid (Cur w B ao len cap zs st) := hC
  have HZ : Hid (∀ j, 0 ≤ zs.getD j 0 ∧ zs.getD j 0 ≤ 255) := hz
  have hnL : (L.length : Int) ≤ 1048576 := by omega
  obtain ⟨W0, hW0⟩ : ∃ W, W = w.alloc (.cells #[.slice p L.length cp] 26) := ⟨_, rfl⟩
  have HW0 : Hid (w.alloc (.cells #[.slice p L.length cp] 26) = W0) := hW0.symm
  have hs0 : W0.heap.size = w.heap.size + 1 := by rw [hW0]; simp
  obtain ⟨W1, hW1⟩ : ∃ W, W = W0.alloc (.cells #[] 3) := ⟨_, rfl⟩
  have HW1 : Hid (W0.alloc (.cells #[] 3) = W1) := hW1.symm
  have S1 : Hid (TkS w B len cap ao zs p L.length cp W1 [] (some ⟨w.heap.size + 1, 0, none⟩) 0 st) := by
    have hb0 : Below w.heap.size w W0 := by rw [hW0]; exact (Below.refl _ _).alloc (Nat.le_refl _) _
    have hb1 : Below W0.heap.size W0 W1 := by rw [hW1]; exact (Below.refl _ _).alloc (Nat.le_refl _) _
    have hx : W0.heap[w.heap.size]? = some (.cells #[.slice p L.length cp] 26) := by rw [hW0]; exact alloc_last _ _
    have hr := World.ownsRow_made (base := w.heap.size + 1) (e := 3) (size := 1) W0 #[] 0 (Nat.le_of_eq hs0.symm) (by decide) rfl
    rw [← hW1, hs0] at hr
    exact ⟨(kd_of HC.out hb0).bel hb1, (hb1.block _ (lt_of_some hx)).trans hx, hr, HC.out.lt⟩
  have ew : IntKind.i64.wrap (most + 1) = most + 1 := IntWalk.i64_in _ (by omega)
  clear hC hz hW0 hW1 hs0
  go_enter Try.func39, Try.ntmps39
  go_wp2_with fail
  rw [HW0.out, HW1.out]
  refine (below_exV W1 B len cap ao zs st (most + 1) S1.out.kd.cur hl HZ.out).mono ?_
  rintro e w2 ⟨x, su, rfl, x0, x1, hC2, hg2⟩
  have S2 : Hid (TkS w B len cap ao zs p L.length cp w2 [] (some ⟨w.heap.size + 1, 0, none⟩) 0 su) := S1.out.call hC2 hg2
  have x2 := x1 (by omega)
  obtain ⟨m, rfl⟩ := Int.eq_ofNat_of_zero_le x0
  have hm9 : m ≤ 1000 := by omega
  clear hC2 hg2 x0 x1 x2 ew S1
  go_wp2_with fail
  go_loopw [7, 8] (fun tv nv wr => ∃ (n : Nat) (ts : List Int) (q : Option Addr) (cq : Nat) (su : Nat × Int), tv = .slice q ts.length cq ∧ nv = .int .i64 (n : Int) ∧ ts.length + n ≤ 1000 ∧ Hid (TkS w B len cap ao zs p L.length cp wr ts q cq su)) (fun _ nv _ => (intOf nv).toNat)
  case atStart => exact ⟨m, [], _, 0, su, rfl, rfl, by simpa using hm9, S2⟩
  case round =>
    clear S2
    obtain ⟨n, ts, q, cq, su, rfl, rfl, hkn, S⟩ := hrel
    by_cases hpos : 0 < n
    · have hpos' : (0 : Int) < (n : Int) := by omega
      have em : IntKind.i64.wrap ((n : Int) - 1) = ((n - 1 : Nat) : Int) := by rw [IntWalk.i64_in _ (by omega)]; omega
      go_wp2_with fail
      refine (below_exV wr B len cap ao zs su 3 S.out.kd.cur hl HZ.out).mono ?_
      rintro e w3 ⟨a, s3, rfl, a0, a1, hC3, hg3⟩
      have S3 : Hid (TkS w B len cap ao zs p L.length cp w3 ts q cq s3) := S.out.call hC3 hg3
      have a2 := a1 (by omega)
      have ea : IntKind.i64.wrap (97 + a) = 97 + a := IntWalk.i64_in _ (by omega)
      clear hC3 hg3 S a1
      by_cases hl0 : L.length = 0
      · have HL0 : Hid (L.length = 0) := hl0
        obtain ⟨q', c', W2, hrun, hS⟩ := S3.out.app (by omega) (97 + a)
        have hlt : (ts ++ [97 + a]).length = ts.length + 1 := by rw [List.length_append]; rfl
        obtain ⟨T, hT⟩ : ∃ T, ts ++ [97 + a] = T := ⟨_, rfl⟩
        rw [hT] at hrun hS hlt
        have HS9 : Hid (TkS w B len cap ao zs p L.length cp W2 T q' c' s3) := hS
        have HLT : Hid (T.length = ts.length + 1) := hlt
        have y9 := box1 S3.out.box
        clear hS hT hlt
        go_wp2_with (at_builtin; refine wpList_append_run8 rfl _ _ 27 rfl _ _ rfl rfl _ _ hrun ?_)
        clear hrun
        go_roundw
        case rel => first | exact ⟨n - 1, T, q', c', _, rfl, by first | rfl | go_num, by have := HLT.out; omega, HS9⟩ | ((repeat apply Exists.intro); exact ⟨⟨n - 1, T, q', c', _, rfl, by first | rfl | go_num, by have := HLT.out; omega, HS9⟩, by first | rfl | rw [HL0.out]⟩)
        case measure => simp [intOf]; omega
      have hlp : (0 : Int) < (L.length : Int) := by omega
      have y3 := box1 S3.out.box
      go_wp2_with fail
      refine (once_exV w3 B len cap ao zs s3 2 S3.out.kd.cur hl HZ.out).mono ?_
      rintro e w4 ⟨bo, s4, rfl, hC4, hg4⟩
      have S4 : Hid (TkS w B len cap ao zs p L.length cp w4 ts q cq s4) := S3.out.call hC4 hg4
      clear hC4 hg4 S3 y3
      cases bo
      case false =>
        obtain ⟨q', c', W2, hrun, hS⟩ := S4.out.app (by omega) (97 + a)
        have hlt : (ts ++ [97 + a]).length = ts.length + 1 := by rw [List.length_append]; rfl
        obtain ⟨T, hT⟩ : ∃ T, ts ++ [97 + a] = T := ⟨_, rfl⟩
        rw [hT] at hrun hS hlt
        have HS9 : Hid (TkS w B len cap ao zs p L.length cp W2 T q' c' s4) := hS
        have HLT : Hid (T.length = ts.length + 1) := hlt
        have y9 := box1 S4.out.box
        clear hS hT hlt
        go_wp2_with (at_builtin; refine wpList_append_run8 rfl _ _ 27 rfl _ _ rfl rfl _ _ hrun ?_)
        clear hrun
        go_roundw
        case rel => first | exact ⟨n - 1, T, q', c', _, rfl, by first | rfl | go_num, by have := HLT.out; omega, HS9⟩ | ((repeat apply Exists.intro); exact ⟨⟨n - 1, T, q', c', _, rfl, by first | rfl | go_num, by have := HLT.out; omega, HS9⟩, by first | rfl⟩)
        case measure => simp [intOf]; omega
      case true =>
        have y4 := box1 S4.out.box
        go_wp2_with fail
        refine (below_exV w4 B len cap ao zs s4 L.length S4.out.kd.cur hl HZ.out).mono ?_
        rintro e w5 ⟨b, s5, rfl, b0, b1, hC5, hg5⟩
        have S5 : Hid (TkS w B len cap ao zs p L.length cp w5 ts q cq s5) := S4.out.call hC5 hg5
        have b2 := b1 (by omega)
        have eb : IntKind.i64.wrap (256 + b) = 256 + b := IntWalk.i64_in _ (by omega)
        clear hC5 hg5 S4 y4 b1
        obtain ⟨q', c', W2, hrun, hS⟩ := S5.out.app (by omega) (256 + b)
        have hlt : (ts ++ [256 + b]).length = ts.length + 1 := by rw [List.length_append]; rfl
        obtain ⟨T, hT⟩ : ∃ T, ts ++ [256 + b] = T := ⟨_, rfl⟩
        rw [hT] at hrun hS hlt
        have HS9 : Hid (TkS w B len cap ao zs p L.length cp W2 T q' c' s5) := hS
        have HLT : Hid (T.length = ts.length + 1) := hlt
        have y9 := box1 S5.out.box
        clear hS hT hlt
        go_wp2_with (at_builtin; refine wpList_append_run8 rfl _ _ 27 rfl _ _ rfl rfl _ _ hrun ?_)
        clear hrun
        go_roundw
        case rel => first | exact ⟨n - 1, T, q', c', _, rfl, by first | rfl | go_num, by have := HLT.out; omega, HS9⟩ | ((repeat apply Exists.intro); exact ⟨⟨n - 1, T, q', c', _, rfl, by first | rfl | go_num, by have := HLT.out; omega, HS9⟩, by first | rfl⟩)
        case measure => simp [intOf]; omega
    · have hpos' : ¬ (0 : Int) < (n : Int) := by omega
      go_wp2_with fail
      refine (once_exV wr B len cap ao zs su 12 S.out.kd.cur hl HZ.out).mono ?_
      rintro e w3 ⟨bo, s3, rfl, hC3, hg3⟩
      have S3 : Hid (TkS w B len cap ao zs p L.length cp w3 ts q cq s3) := S.out.call hC3 hg3
      clear hC3 hg3 S
      cases bo
      case false =>
        go_wp2_with fail
        refine (once_exV w3 B len cap ao zs s3 40 S3.out.kd.cur hl HZ.out).mono ?_
        rintro e wx ⟨bx, sx, rfl, hCx, hgx⟩
        have SX : Hid (TkS w B len cap ao zs p L.length cp wx ts q cq sx) := S3.out.call hCx hgx
        clear hCx hgx
        cases bx
        case false =>
          go_wp2
          go_ret
          exact SX.out.fin (by omega)
        case true =>
          go_wp2_with fail
          refine (below_exV wx B len cap ao zs sx 2 SX.out.kd.cur hl HZ.out).mono ?_
          rintro e wy ⟨y, sy, rfl, y0, y1, hCy, hgy⟩
          have SY : Hid (TkS w B len cap ao zs p L.length cp wy ts q cq sy) := SX.out.call hCy hgy
          have y2 := y1 (by omega)
          obtain ⟨m, rfl⟩ := Int.eq_ofNat_of_zero_le y0
          have hm2 : m ≤ 1 := by omega
          have e5 : IntKind.i64.wrap (1000 + (m : Int)) = 1000 + (m : Int) := IntWalk.i64_in _ (by omega)
          obtain ⟨wn, hwn⟩ : ∃ W, W = wy.alloc (.cells #[] 3) := ⟨_, rfl⟩
          have HWN : Hid (wy.alloc (.cells #[] 3) = wn) := hwn.symm
          have SN : Hid (TkS w B len cap ao zs p L.length cp wn [] (some ⟨wy.heap.size, 0, none⟩) 0 sy) := by rw [hwn]; exact SY.out.anew
          clear hCy hgy y0 y1 y2 hwn
          go_wp2_with fail
          rw [HWN.out]
          go_loopw [7] (fun tv wr => ∃ (ts : List Int) (q : Option Addr) (cq : Nat) (sq : Nat × Int), tv = .slice q ts.length cq ∧ ts.length ≤ 1000 + m ∧ Hid (TkS w B len cap ao zs p L.length cp wr ts q cq sq)) (fun tv _ => 1000 + m - slL tv)
          case atStart => exact ⟨[], _, 0, sy, rfl, Nat.zero_le _, SN⟩
          case round =>
            obtain ⟨ts, q, cq, sq, rfl, hle, S⟩ := hrel
            by_cases hlt : ts.length < 1000 + m
            · have hlt' : (ts.length : Int) < 1000 + (m : Int) := by omega
              have er : IntKind.i64.wrap (97 + (ts.length : Int) % 2) = 97 + (ts.length : Int) % 2 := IntWalk.i64_in _ (by omega)
              have er2 : (ts.length : Int).tmod 2 = (ts.length : Int) % 2 := Int.tmod_eq_emod_of_nonneg (by omega)
              have er3 : IntKind.i64.wrap ((ts.length : Int) % 2) = (ts.length : Int) % 2 := IntWalk.i64_in _ (by omega)
              obtain ⟨q', c', W2, hrun, hS⟩ := S.out.app (by omega) (97 + (ts.length : Int) % 2)
              have hls : (ts ++ [97 + (ts.length : Int) % 2]).length = ts.length + 1 := by rw [List.length_append]; rfl
              obtain ⟨T, hT⟩ : ∃ T, ts ++ [97 + (ts.length : Int) % 2] = T := ⟨_, rfl⟩
              rw [hT] at hrun hS hls
              have HS9 : Hid (TkS w B len cap ao zs p L.length cp W2 T q' c' sq) := hS
              have HLT : Hid (T.length = ts.length + 1) := hls
              clear hS hT hls
              go_wp2_with (at_builtin; refine wpList_append_run8 rfl _ _ 27 rfl _ _ rfl rfl _ _ hrun ?_)
              clear hrun
              go_roundw
              case rel => exact ⟨_, q', c', sq, rfl, by have := HLT.out; omega, HS9⟩
              case measure => have := HLT.out; simp only [slL]; omega
            · have hlt' : ¬ (ts.length : Int) < 1000 + (m : Int) := by omega
              go_wp2
              go_ret
              exact S.out.fin (by omega)
      case true =>
        have en : IntKind.i64.wrap (256 + (L.length : Int)) = 256 + (L.length : Int) := IntWalk.i64_in _ (by omega)
        have y3 := box1 S3.out.box
        obtain ⟨WA, hWA⟩ : ∃ W, W = w3.alloc (.cells #[.int .i64 (-1), .int .i64 255, .int .i64 (256 + (L.length : Int)), .int .i64 9000] 3) := ⟨_, rfl⟩
        have HWA : Hid (w3.alloc (.cells #[.int .i64 (-1), .int .i64 255, .int .i64 (256 + (L.length : Int)), .int .i64 9000] 3) = WA) := hWA.symm
        have HLs : Hid (WA.heap[w3.heap.size]? = some (.cells (([-1, 255, 256 + (L.length : Int), 9000] : List Int).map (Value.int .i64)).toArray 3)) := by rw [hWA]; exact alloc_last _ _
        have SA : Hid (TkS w B len cap ao zs p L.length cp WA ts q cq s3) := S3.out.bel (by rw [hWA]; exact (Below.refl _ _).alloc (Nat.le_refl _) _)
        clear hWA
        go_wp2_with fail
        rw [HWA.out]
        refine (pick_exV WA B len cap ao zs s3 w3.heap.size [-1, 255, 256 + (L.length : Int), 9000] (by simp) (by simp) SA.out.kd.cur hl HZ.out (by have := S3.out.kd.cur.lt; omega) HLs.out).mono ?_
        rintro e w4 ⟨x, s4, rfl, hC4, hg4⟩
        have S4 : Hid (TkS w B len cap ao zs p L.length cp w4 ts q cq s4) := SA.out.call hC4 hg4
        clear hC4 hg4 SA S3 y3 en
        obtain ⟨q', c', W2, hrun, hS⟩ := S4.out.app (by omega) x
        have S5 : Hid (TkS w B len cap ao zs p L.length cp W2 (ts ++ [x]) q' c' s4) := hS
        have hls : (ts ++ [x]).length ≤ 1001 := by rw [List.length_append]; simp; omega
        clear hS S4
        generalize ts ++ [x] = T at S5 hls hrun
        go_wp2_with (first | (at_builtin; refine wpList_append_run8 rfl _ _ 27 rfl _ _ rfl rfl _ _ hrun ?_) | fail)
        clear hrun
        skip
        refine (once_exV W2 B len cap ao zs s4 40 S5.out.kd.cur hl HZ.out).mono ?_
        rintro e wx ⟨bx, sx, rfl, hCx, hgx⟩
        have SX : Hid (TkS w B len cap ao zs p L.length cp wx T q' c' sx) := S5.out.call hCx hgx
        clear hCx hgx
        cases bx
        case false =>
          go_wp2
          go_ret
          exact SX.out.fin (by omega)
        case true =>
          go_wp2_with fail
          refine (below_exV wx B len cap ao zs sx 2 SX.out.kd.cur hl HZ.out).mono ?_
          rintro e wy ⟨y, sy, rfl, y0, y1, hCy, hgy⟩
          have SY : Hid (TkS w B len cap ao zs p L.length cp wy T q' c' sy) := SX.out.call hCy hgy
          have y2 := y1 (by omega)
          obtain ⟨m, rfl⟩ := Int.eq_ofNat_of_zero_le y0
          have hm2 : m ≤ 1 := by omega
          have e5 : IntKind.i64.wrap (1000 + (m : Int)) = 1000 + (m : Int) := IntWalk.i64_in _ (by omega)
          obtain ⟨wn, hwn⟩ : ∃ W, W = wy.alloc (.cells #[] 3) := ⟨_, rfl⟩
          have HWN : Hid (wy.alloc (.cells #[] 3) = wn) := hwn.symm
          have SN : Hid (TkS w B len cap ao zs p L.length cp wn [] (some ⟨wy.heap.size, 0, none⟩) 0 sy) := by rw [hwn]; exact SY.out.anew
          clear hCy hgy y0 y1 y2 hwn
          go_wp2_with fail
          rw [HWN.out]
          go_loopw [7] (fun tv wr => ∃ (ts : List Int) (q : Option Addr) (cq : Nat) (sq : Nat × Int), tv = .slice q ts.length cq ∧ ts.length ≤ 1000 + m ∧ Hid (TkS w B len cap ao zs p L.length cp wr ts q cq sq)) (fun tv _ => 1000 + m - slL tv)
          case atStart => exact ⟨[], _, 0, sy, rfl, Nat.zero_le _, SN⟩
          case round =>
            obtain ⟨ts, q, cq, sq, rfl, hle, S⟩ := hrel
            by_cases hlt : ts.length < 1000 + m
            · have hlt' : (ts.length : Int) < 1000 + (m : Int) := by omega
              have er : IntKind.i64.wrap (97 + (ts.length : Int) % 2) = 97 + (ts.length : Int) % 2 := IntWalk.i64_in _ (by omega)
              have er2 : (ts.length : Int).tmod 2 = (ts.length : Int) % 2 := Int.tmod_eq_emod_of_nonneg (by omega)
              have er3 : IntKind.i64.wrap ((ts.length : Int) % 2) = (ts.length : Int) % 2 := IntWalk.i64_in _ (by omega)
              obtain ⟨q', c', W2, hrun, hS⟩ := S.out.app (by omega) (97 + (ts.length : Int) % 2)
              have hls : (ts ++ [97 + (ts.length : Int) % 2]).length = ts.length + 1 := by rw [List.length_append]; rfl
              obtain ⟨T, hT⟩ : ∃ T, ts ++ [97 + (ts.length : Int) % 2] = T := ⟨_, rfl⟩
              rw [hT] at hrun hS hls
              have HS9 : Hid (TkS w B len cap ao zs p L.length cp W2 T q' c' sq) := hS
              have HLT : Hid (T.length = ts.length + 1) := hls
              clear hS hT hls
              go_wp2_with (at_builtin; refine wpList_append_run8 rfl _ _ 27 rfl _ _ rfl rfl _ _ hrun ?_)
              clear hrun
              go_roundw
              case rel => exact ⟨_, q', c', sq, rfl, by have := HLT.out; omega, HS9⟩
              case measure => have := HLT.out; simp only [slL]; omega
            · have hlt' : ¬ (ts.length : Int) < 1000 + (m : Int) := by omega
              go_wp2
              go_ret
              exact S.out.fin (by omega)

end Go.Proofs.Ytdhbhifgmbppjaa

/- A vocabulary and tokens are drawn. -/
namespace Go.Proofs.Ytdhbhifgmbppjaa
open Go.RowKit
set_option linter.unusedVariables false
set_option linter.unusedSimpArgs false

/-- A vocabulary and tokens are drawn. -/
def TwD (w : World) (e : Ending) (w' : World) : Prop := ∃ (L : List S_Pair) (p : Option Addr) (c : Nat) (ts : List Int) (q : Option Addr) (cq : Nat), e = .returned (.tuple #[.agg #[.slice p L.length c], .slice q ts.length cq]) ∧ L.length ≤ 66 ∧ ts.length ≤ 2000 ∧ w'.ownsRow w.heap.size 80 2 (.slice p L.length c) L.length (rPair L) ∧ IO w' w.heap.size (.slice q ts.length cq) ts ∧ Below w.heap.size w w'

theorem gives_storesV {P : Program} {o : Oper} {ρ : Operand → Value} {w : World} {b : Nat} {cs : List Value} {old : Array Value} {t : TypeId} (hv : ∀ w, (execOp ρ o).run P w = ((storeCells ⟨b, 0, none⟩ cs 0) >>= fun _ => pure Next.skip : Sem Next).run P w) (h1 : ∀ v ∈ cs, v.oneCell' = true) (hb : w.heap[b]? = some (.cells old t)) (hl : old.size = cs.length) :
    gives P o ρ w fun u W => u = undef ∧ W = w.setCells b 0 cs :=
  gives_unit _ hv (run_storeCells_cells b 0 cs 0 w (fun j hj => by simp [World.cell?, hb]; omega) (fun j hj => by simp [World.frozen?, hb]) h1)

set_option maxRecDepth 20000 in
set_option maxHeartbeats 4000000 in
theorem l8Two_c (w : World) (len cap : Nat) (ao : Option Addr) (zs : List Int) (hc : CodeAt w w.heap.size ao len zs) (hl : len ≤ 1048576) (hz : ∀ j, 0 ≤ zs.getD j 0 ∧ zs.getD j 0 ≤ 255) :
    Calls Try.prog 18 #[.slice ao len cap] w (TwD w) := by
  have HC : Hid (CodeAt w w.heap.size ao len zs) := hc
  have HZ : Hid (∀ j, 0 ≤ zs.getD j 0 ∧ zs.getD j 0 ≤ 255) := hz
  obtain ⟨x0, hx0⟩ : ∃ W, W = w.alloc (.cells #[.slice none 0 0] 26) := ⟨_, rfl⟩
  have Hx0 : Hid (w.alloc (.cells #[.slice none 0 0] 26) = x0) := hx0.symm
  have HX0 : Hid (x0.heap[w.heap.size]? = some (.cells #[.slice none 0 0] 26)) := by rw [hx0]; exact alloc_last _ _
  have HB0 : Hid (Below w.heap.size w x0) := by rw [hx0]; exact (Below.refl _ _).alloc (Nat.le_refl _) _
  have HSZ0 : Hid (w.heap.size < x0.heap.size) := by show _ < _; rw [hx0]; simp
  clear hx0 hz hc
  go_enter Try.func18, Try.ntmps18
  go_wp2_with fail
  rw [Hx0.out]
  refine (cursor_any x0 ao len cap zs (codeBel HC.out HB0.out) hl HZ.out).mono ?_
  rintro e x1 ⟨rfl, hC1, hg1⟩
  obtain ⟨B, hB⟩ : ∃ B, x0.heap.size = B := ⟨_, rfl⟩
  have HBB : Hid (x0.heap.size = B) := hB
  have HC1 : Hid (Cur x1 B ao len cap zs (newF zs len)) := by rw [← hB]; exact hC1
  have HB1 : Hid (Below w.heap.size w x1) := HB0.out.trans ((belOf hg1).mono HB0.out.size)
  have HX1 : Hid (x1.heap[w.heap.size]? = some (.cells #[.slice none 0 0] 26)) := ((belOf hg1).block _ (lt_of_some HX0.out)).trans HX0.out
  rw [hB]
  clear hC1 hg1 hB
  go_wp2_with fail
  refine (size_c 15 x1 ao len cap (by decide) (by decide) hl).mono ?_
  rintro e xz ⟨m, rfl, hm0, hm1, hw⟩
  replace hw := hw.symm
  subst hw
  go_wp2_with fail
  refine (l7Any_c x1 B len cap ao zs (newF zs len) m ⟨hm0, hm1⟩ HC1.out hl HZ.out).mono ?_
  rintro e x2 ⟨L, p, c, st, rfl, hLl, hown, hC2, hg2⟩
  have HLl : Hid (L.length ≤ 66) := hLl
  obtain ⟨bv, hbv⟩ : ∃ b, x2.heap.size = b := ⟨_, rfl⟩
  obtain ⟨bo, hbo⟩ : ∃ b, x1.heap.size = b := ⟨_, rfl⟩
  obtain ⟨x3, hx3⟩ : ∃ W, W = x2.alloc (.cells #[.slice p L.length c] 26) := ⟨_, rfl⟩
  have Hx3 : Hid (x2.alloc (.cells #[.slice p L.length c] 26) = x3) := hx3.symm
  have HBV : Hid (x2.heap.size = bv) := hbv
  have S3 : Hid (WbS w B len cap ao zs bo bv x3 L p c st) := by
    have h1 := HSZ0.out; have h2 := HBB.out; have h3 := HC1.out.lt; have h4 := hg2.size
    have hb : Below x2.heap.size x2 x3 := by rw [hx3]; exact (Below.refl _ _).alloc (Nat.le_refl _) _
    have hd : Below w.heap.size w x2 := belCur HB1.out hg2 (by omega)
    rw [hbo] at hown
    exact ⟨Cur.keep hC2 (grownV hb) (by simp), hd.trans (hb.mono hd.size), (hb.block _ (lt_of_some (blk_curV HX1.out hg2 (by omega)))).trans (blk_curV HX1.out hg2 (by omega)), by rw [hx3, ← hbv]; exact alloc_last _ _, own_bel hown hb (Nat.le_refl _), by omega, by omega, by omega⟩
  clear hown hC2 hg2 hLl hx3 hbv hbo hm0 hm1
  have SD : Hid (WbS w B len cap ao zs bo bv x3.drew L p c st) := S3.out.bel (Below.refl _ _).drew
  go_upto_region 3 with fail
  rw [Hx3.out, HBV.out]
  refine wp_region_L [⟨6, fun W => ∀ j u, ([.slice p L.length c] : List Value)[j]? = some u → W.cell? ((⟨bv, 0, none⟩ : Addr).add j) = some u⟩, ⟨5, fun W => ∀ j u, ([.slice p L.length c] : List Value)[j]? = some u → W.cell? ((⟨bv, 0, none⟩ : Addr).add j) = some u⟩] (by kernel_rfl) (fun f hf => by
      simp only [List.mem_cons, List.not_mem_nil, or_false] at hf
      rcases hf with rfl | rfl
      · exact (cell1V (box1 SD.out.box))
      · exact (cell1V (box1 SD.out.box))
      ) ?_
  refine At.take 0 (some 12) (.agg #[.slice p L.length c]) rfl rfl (by kernel_rfl) (by kernel_rfl) (by kernel_rfl) (by kernel_rfl) (fun _ _ _ h => h) (yl_loads 6 ⟨bv, 0, none⟩ [.slice p L.length c] (List.mem_cons_self) [6] (by kernel_rfl) rfl (by kernel_rfl) (fun _ => by kernel_rfl)) ?_
  refine At.take 1 (some 13) (.pointer (some ⟨B, 0, none⟩)) rfl rfl (by kernel_rfl) (by kernel_rfl) (by kernel_rfl) (by kernel_rfl) (fun _ _ _ h => h) (yl_pure (by kernel_rfl) (fun _ => by kernel_rfl)) ?_
  refine At.take 2 (some 14) (.agg #[.slice p L.length c]) rfl rfl (by kernel_rfl) (by kernel_rfl) (by kernel_rfl) (by kernel_rfl) (fun _ _ _ h => h) (yl_loads 5 ⟨bv, 0, none⟩ [.slice p L.length c] (List.mem_cons_of_mem _ (List.mem_cons_self)) [5] (by kernel_rfl) rfl (by kernel_rfl) (fun _ => by kernel_rfl)) ?_
  refine At.take 3 (some 15) (.slice ao len cap) rfl rfl (by kernel_rfl) (by kernel_rfl) (by kernel_rfl) (by kernel_rfl) (fun _ _ _ h => h) (yl_pure (by kernel_rfl) (fun _ => by kernel_rfl)) ?_
  refine At.step 4 (some 16) rfl rfl (by kernel_rfl) (by kernel_rfl) (fun u W => ∃ n : Int, u = .int .i64 n ∧ 0 ≤ n ∧ n ≤ 1000 ∧ W = x3.drew) (gives_call (by kernel_rfl) ((size_c 20 x3.drew ao len cap (by decide) (by decide) hl).mono fun e w' ⟨n, he, h0, h1, hw⟩ => ⟨_, he, n, rfl, h0, h1, hw⟩)) ?_
  rintro u WA ⟨m2, rfl, m20, m21, hWA⟩
  replace hWA := hWA.symm
  subst hWA
  refine ⟨held_cons (.inr ((cell1V (box1 SD.out.box)))) (held_cons (.inr ((cell1V (box1 SD.out.box)))) (held_nil)), ?_⟩
  refine At.step 5 (some 17) rfl rfl (by kernel_rfl) (by kernel_rfl) (fun u W => ∃ (ts : List Int) (q : Option Addr) (cq : Nat) (s6 : Nat × Int), u = .slice q ts.length cq ∧ ts.length ≤ 2000 ∧ IO W x3.drew.heap.size (.slice q ts.length cq) ts ∧ Cur W B ao len cap zs s6 ∧ x3.drew.grownBy W (some B)) (gives_call (by kernel_rfl) ((l8Toks_c x3.drew B len cap ao zs st m2 ⟨m20, m21⟩ L p c (by have := HLl.out; omega) SD.out.cur hl HZ.out).mono fun e w' ⟨ts, q, cq, s6, he, h0, hi, h1, hw⟩ => ⟨_, he, ts, q, cq, s6, rfl, h0, hi, h1, hw⟩)) ?_
  rintro u W4 ⟨ts, q, cq, s6, rfl, hs, hi, hC4, hg4⟩
  have S4 : Hid (WbS w B len cap ao zs bo bv W4 L p c s6) := SD.out.call hC4 hg4
  have HSZ : Hid (ts.length ≤ 2000) := hs
  have HI4 : Hid (IO W4 x3.drew.heap.size (.slice q ts.length cq) ts) := hi
  clear hC4 hg4 hs hi m20 m21
  refine ⟨held_cons (.inr ((cell1V (box1 S4.out.box)))) (held_cons (.inl (by kernel_rfl)) (held_nil)), ?_⟩
  refine At.step 6 none rfl rfl (by kernel_rfl) (by kernel_rfl) (fun u W => u = undef ∧ W = W4.setCells w.heap.size 0 [.slice p L.length c]) (gives_storesV (b := w.heap.size) (cs := [.slice p L.length c]) (fun _ => by kernel_rfl) (by intro v hv; rw [List.mem_singleton.1 hv]; rfl) S4.out.out rfl) ?_
  rintro u W5 ⟨rfl, hW5⟩
  refine ⟨held_cons (.inl (by kernel_rfl)) (held_cons (.inl (by kernel_rfl)) (held_nil)), ?_⟩
  refine At.take 7 (some 3) (.slice q ts.length cq) rfl rfl (by kernel_rfl) (by kernel_rfl) (by kernel_rfl) (by kernel_rfl) (fun _ _ _ h => h) (yl_pure (by kernel_rfl) (fun _ => by kernel_rfl)) ?_
  refine At.done (by kernel_rfl) ?_
  simp only [Act.put, List.setIfInBounds_toArray, List.set_cons_zero, List.set_cons_succ]
  have hset : W4.setCells w.heap.size 0 [.slice p L.length c] = W4.setCell ⟨w.heap.size, 0, none⟩ (.slice p L.length c) := rfl
  rw [hset] at hW5
  have z9 := box1 (set1V S4.out.out (.slice p L.length c))
  rw [← hW5] at z9
  have HF : Hid (W5.ownsRow w.heap.size 80 2 (.slice p L.length c) L.length (rPair L)) := by rw [hW5]; exact own_set_kind (own_low S4.out.row (by have := S4.out.lo; have := S4.out.mid; omega)) ⟨w.heap.size, 0, none⟩ _ S4.out.out (by decide)
  have HI : Hid (IO W5 w.heap.size (.slice q ts.length cq) ts) := by rw [hW5]; exact own_set_kind (own_low HI4.out (by have h1 := S4.out.lo; have h2 := SD.out.cur.lt; omega)) ⟨w.heap.size, 0, none⟩ _ S4.out.out (by decide)
  have HBF : Hid (Below w.heap.size w W5) := by rw [hW5]; exact S4.out.down.setCell (Nat.le_refl _) _
  clear hset hW5 S3 SD S4
  go_wp2
  exact bodyPost_ret (v := .tuple #[.agg #[.slice p L.length c], .slice q ts.length cq]) (by simp [results, Try.results18, go_sem, z9]) rfl ⟨L, p, c, ts, q, cq, rfl, HLl.out, HSZ.out, HF.out, HI.out, HBF.out⟩

set_option maxRecDepth 20000 in
set_option maxHeartbeats 4000000 in
theorem drawMo_c (w : World) (len cap : Nat) (ao : Option Addr) (zs : List Int) (hc : CodeAt w w.heap.size ao len zs) (hl : len ≤ 1048576) (hz : ∀ j, 0 ≤ zs.getD j 0 ∧ zs.getD j 0 ≤ 255) :
    Calls Try.prog 7 #[.slice ao len cap] w (TwD w) := by
  have HC : Hid (CodeAt w w.heap.size ao len zs) := hc
  have HZ : Hid (∀ j, 0 ≤ zs.getD j 0 ∧ zs.getD j 0 ≤ 255) := hz
  obtain ⟨x0, hx0⟩ : ∃ W, W = w.alloc (.cells #[.slice none 0 0] 26) := ⟨_, rfl⟩
  have Hx0 : Hid (w.alloc (.cells #[.slice none 0 0] 26) = x0) := hx0.symm
  have HX0 : Hid (x0.heap[w.heap.size]? = some (.cells #[.slice none 0 0] 26)) := by rw [hx0]; exact alloc_last _ _
  have HB0 : Hid (Below w.heap.size w x0) := by rw [hx0]; exact (Below.refl _ _).alloc (Nat.le_refl _) _
  clear hx0 hz hc
  go_enter Try.func7, Try.ntmps7
  go_wp2_with fail
  rw [Hx0.out]
  refine (l8Two_c x0 len cap ao zs (codeBel HC.out HB0.out) hl HZ.out).mono ?_
  rintro e x1 ⟨L, p, c, ts, q, cq, rfl, hLl, hts, hown, hio, hb1⟩
  obtain ⟨x2, hx2⟩ : ∃ W, W = x1.alloc (.cells #[.slice p L.length c] 26) := ⟨_, rfl⟩
  have Hx2 : Hid (x1.alloc (.cells #[.slice p L.length c] 26) = x2) := hx2.symm
  have hb2 : Below x1.heap.size x1 x2 := by rw [hx2]; exact (Below.refl _ _).alloc (Nat.le_refl _) _
  have HX2 : Hid (x2.heap[w.heap.size]? = some (.cells #[.slice none 0 0] 26)) := (hb2.block _ (Nat.lt_of_lt_of_le (lt_of_some HX0.out) hb1.size)).trans ((hb1.block _ (lt_of_some HX0.out)).trans HX0.out)
  have hx2v : x2.heap[x1.heap.size]? = some (.cells #[.slice p L.length c] 26) := by rw [hx2]; exact alloc_last _ _
  have zv := box1 hx2v
  have z0 := box1 HX2.out
  have zf := frz1V HX2.out 0
  have z9 := box1 (set1V HX2.out (.slice p L.length c))
  have HF : Hid ((x2.setCell ⟨w.heap.size, 0, none⟩ (.slice p L.length c)).ownsRow w.heap.size 80 2 (.slice p L.length c) L.length (rPair L)) := own_set_kind (own_low (own_bel hown hb2 (Nat.le_refl _)) HB0.out.size) ⟨w.heap.size, 0, none⟩ _ HX2.out (by decide)
  have HI : Hid (IO (x2.setCell ⟨w.heap.size, 0, none⟩ (.slice p L.length c)) w.heap.size (.slice q ts.length cq) ts) := own_set_kind (own_low (own_bel hio hb2 (Nat.le_refl _)) HB0.out.size) ⟨w.heap.size, 0, none⟩ _ HX2.out (by decide)
  have HBF : Hid (Below w.heap.size w (x2.setCell ⟨w.heap.size, 0, none⟩ (.slice p L.length c))) := ((HB0.out.trans (hb1.mono HB0.out.size)).trans (hb2.mono (Nat.le_trans HB0.out.size hb1.size))).setCell (Nat.le_refl _) _
  have HSZ : Hid (L.length ≤ 66 ∧ ts.length ≤ 2000) := ⟨hLl, hts⟩
  clear hx2 hb2 hx2v hown hio hb1 hLl hts
  go_upto_region 2 with fail
  rw [Hx2.out]
  go_wp2
  exact bodyPost_ret (v := .tuple #[.agg #[.slice p L.length c], .slice q ts.length cq]) (by simp [results, Try.results7, go_sem, z9, z0]) rfl ⟨L, p, c, ts, q, cq, rfl, HSZ.out.1, HSZ.out.2, HF.out, HI.out, HBF.out⟩

end Go.Proofs.Ytdhbhifgmbppjaa
