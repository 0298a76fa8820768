/- The walk of the law on frames: bodies framed one behind the other are read; cut off anywhere, those that are whole are. -/
import Derived.Test.YtoeaobeljljdnaaDoorFdWalk
import Derived.Test.YtoeaobeljljdnaaDoorFsLaw
import Derived.Test.YtoeaobeljljdnaaDoorFfMath
namespace Go.Proofs.YtoeaobeljljdnaaDoor
open Go.RowKit
set_option linter.unusedVariables false

theorem infoI : (Tryd.prog.info? 3).map (fun i => (i.zero, i.size, i.bytes)) = some (some (.int .i64 0), 1, 8) := by kernel_rfl

/-- The ends of the frames, from nought on. -/
def enL (bs : List ByteArray) : List Int := (List.range (bs.length + 1)).map fun j => ((en bs j : Nat) : Int)

theorem enL_length (bs : List ByteArray) : (enL bs).length = bs.length + 1 := by simp [enL]

theorem enL_at (bs : List ByteArray) (j : Nat) (h : j ≤ bs.length) : (enL bs)[j]? = some ((en bs j : Nat) : Int) := by
  simp [enL, show j < bs.length + 1 by omega]

theorem enL_snoc (bs : List ByteArray) (b : ByteArray) : enL (bs ++ [b]) = enL bs ++ [(((jn bs ++ frameOf b).size : Nat) : Int)] := by
  unfold enL
  rw [List.length_append, List.length_singleton, List.range_succ, List.map_append]
  congr 1
  · apply List.map_congr_left
    intro j hj
    rw [en_snoc bs b j (by simp at hj; omega)]
  · simp only [List.map_cons, List.map_nil]
    have := en_all (bs ++ [b])
    rw [List.length_append, List.length_singleton, jn_snoc] at this
    rw [this]

/-- Bodies as the law draws them. -/
def Bod (bs : List ByteArray) : Prop := ∀ b ∈ bs, 1 ≤ b.size ∧ b.size ≤ 41

theorem Bod.snoc {bs : List ByteArray} {b : ByteArray} (h : Bod bs) (h1 : 1 ≤ b.size) (h2 : b.size ≤ 41) : Bod (bs ++ [b]) := by
  intro c hc
  rcases List.mem_append.1 hc with hc | hc
  · exact h c hc
  · obtain rfl := List.mem_singleton.1 hc
    exact ⟨h1, h2⟩

theorem Bod.size : ∀ {bs : List ByteArray}, Bod bs → (jn bs).size ≤ 49 * bs.length
  | [], _ => Nat.zero_le _
  | b :: bs, h => by
    have ih := Bod.size (bs := bs) (fun c hc => h c (by simp [hc]))
    have hb := h b (by simp)
    simp only [jn, ByteArray.size_append, frameOf_size, List.length_cons]
    omega

theorem CodeAt.up {w : World} {B B' : Nat} {ao : Option Addr} {len : Nat} {zs : List Int} (h : CodeAt w B ao len zs) (hB : B ≤ B') : CodeAt w B' ao len zs := by
  intro j hj
  obtain ⟨b, off, e, hb, hc⟩ := h j hj
  exact ⟨b, off, e, by omega, hc⟩

theorem own_snocI {w : World} {base : Nat} {v : Value} {acc : List Int} {y : Int} (h : w.ownsRow base 3 1 v (acc.length + 1) (acc.map (Value.int .i64) ++ [.int .i64 y])) :
    w.ownsRow base 3 1 v (acc ++ [y]).length ((acc ++ [y]).map (Value.int .i64)) := by
  simpa using h

/-- Rows of two kinds of elements lie in two blocks. -/
theorem rows_apart {w : World} {B1 B2 : Nat} {e1 e2 : TypeId} {v1 v2 : Value} {n1 n2 : Nat} {x1 x2 : List Value} (h1 : w.ownsRow B1 e1 1 v1 n1 x1) (h2 : w.ownsRow B2 e2 1 v2 n2 x2) (he : e1 ≠ e2) : v1.ownBlock = none ∨ v1.ownBlock ≠ v2.ownBlock := by
  obtain ⟨_, ⟨rfl, _⟩ | ⟨g, c, cur, rfl, _, hh, _⟩⟩ := h1
  · exact Or.inl rfl
  · right
    obtain ⟨_, ⟨rfl, _⟩ | ⟨g2, c2, cur2, rfl, _, hh2, _⟩⟩ := h2
    · simp [Value.ownBlock]
    · intro e
      simp only [Value.ownBlock, Option.some.injEq] at e
      rw [e, hh2] at hh
      simp only [Option.some.injEq, Obj.cells.injEq] at hh
      exact he hh.2.1.symm

set_option maxRecDepth 100000 in
set_option maxHeartbeats 4000000 in
theorem lawFf (w : World) (ao : Option Addr) (len cap : Nat) (zs : List Int) (hrow : IsRow w ao len cap zs) (a0 a2 : Addr) (hE : ErrB w a0 a2) (hg : Han w) :
    Calls Tryd.prog 3 #[.slice ao len cap] w fun e w' => e = .returned (.bool true) ∧ Below w.heap.size w w' := by
  have HC : Hid (CodeAt w w.heap.size ao len zs) := hrow.code
  have HZ : Hid (∀ j, 0 ≤ zs.getD j 0 ∧ zs.getD j 0 ≤ 255) := hrow.range
  have HE : Hid (ErrB w a0 a2) := hE
  have HG : Hid (Han w) := hg
  have HL : Hid (2 < w.heap.size) := hE.lt
  clear hrow hE hg
  by_cases hbig : (1048576 : Int) < (len : Int)
  · have hd : decide ((1048576 : Int) < len) = true := by simp; omega
    go_enter Tryd.func3, Tryd.ntmps3
    go_wp2_with fail
    refine (big_c _ ao len cap true hd).mono ?_
    rintro e w1 ⟨rfl, hw⟩
    replace hw := hw.symm
    subst hw
    go_wp2
    go_ret
    exact ⟨rfl, Below.refl _ _⟩
  · have hd : Hid (decide ((1048576 : Int) < len) = false) := by show _ = _; simp; omega
    have hl : len ≤ 1048576 := by omega
    have HA : Hid (∀ (W : World) (i : Nat), i ≤ 2 → CodeAt W w.heap.size ao len zs → Calls Tryd.prog 7 #[.slice ao len cap, .int .i64 (i : Int)] W fun e w' => e = .returned (.int .i64 (atF zs len i)) ∧ w' = W) := fun W i hi h => at_c W _ ao len cap i zs h hl (by omega) HZ.out
    have HA0 : Hid (∀ W : World, CodeAt W w.heap.size ao len zs → Calls Tryd.prog 7 #[.slice ao len cap, .int .i64 0] W fun e w' => e = .returned (.int .i64 (atF zs len 0)) ∧ w' = W) := fun W h => HA.out W 0 (by omega) h
    have HA1 : Hid (∀ W : World, CodeAt W w.heap.size ao len zs → Calls Tryd.prog 7 #[.slice ao len cap, .int .i64 1] W fun e w' => e = .returned (.int .i64 (atF zs len 1)) ∧ w' = W) := fun W h => HA.out W 1 (by omega) h
    have HA2 : Hid (∀ W : World, CodeAt W w.heap.size ao len zs → Calls Tryd.prog 7 #[.slice ao len cap, .int .i64 2] W fun e w' => e = .returned (.int .i64 (atF zs len 2)) ∧ w' = W) := fun W h => HA.out W 2 (by omega) h
    obtain ⟨p0, q0⟩ := atF_range zs len 0 HZ.out
    obtain ⟨p1, q1⟩ := atF_range zs len 1 HZ.out
    obtain ⟨p2, q2⟩ := atF_range zs len 2 HZ.out
    clear HA
    generalize atF zs len 0 = y0 at HA0 p0 q0
    generalize atF zs len 1 = y1 at HA1 p1 q1
    generalize atF zs len 2 = y2 at HA2 p2 q2
    obtain ⟨iS, hiS, hzS0, hzS1, hzS2⟩ := info_parts infoS
    obtain ⟨iI, hiI, hzI0, hzI1, hzI2⟩ := info_parts infoI
    go_enter Tryd.func3, Tryd.ntmps3
    go_wp2_with fail
    refine (big_c _ ao len cap false hd.out).mono ?_
    rintro e w1 ⟨rfl, hw⟩
    replace hw := hw.symm
    subst hw
    go_wp2_with fail
    go_loopw [3, 4, 5, 6] (fun v3 v4 sv iv wr => ∃ bs : List ByteArray, iv = .int .i64 (bs.length : Int) ∧ (bs.length : Int) ≤ 1 + y0 % 5 ∧ sv = .string (jn bs) ∧ wr.ownsRow w.heap.size 9 1 v3 bs.length (bs.map Value.string) ∧ wr.ownsRow w.heap.size 3 1 v4 (enL bs).length ((enL bs).map (Value.int .i64)) ∧ Below w.heap.size w wr ∧ Hid (Bod bs)) (fun _ _ _ iv _ => 5 - (intOf iv).toNat)
    case atStart =>
      have l4 : ((w.alloc (.cells #[] 9)).alloc (.cells #[.int .i64 0] 3)).ownsRow w.heap.size 3 1 (.slice (some ⟨w.heap.size + 1, 0, none⟩) 1 1) 1 [.int .i64 0] := by
        have := World.ownsRow_lit (base := w.heap.size) (e := 3) (size := 1) (w.alloc (.cells #[] 9)) #[.int .i64 0] 1 (by simp) (by decide) rfl
        simpa using this
      exact ⟨[], rfl, by simp; omega, rfl, (World.ownsRow_made w _ 0 (Nat.le_refl _) (by decide) (by simp)).alloc _, l4, ((Below.refl _ _).alloc (Nat.le_refl _) _).alloc (by simp) _, fun b hb => by simp at hb⟩
    case round =>
      obtain ⟨bs, rfl, hbl, rfl, hown3, hown4, hbel, HBD⟩ := hrel
      have hsz := hbel.size
      have HCr : Hid (CodeAt wr w.heap.size ao len zs) := HC.out.keep hbel (Nat.le_refl _)
      have hjs : (jn bs).size ≤ 49 * bs.length := HBD.out.size
      have hb5 : bs.length ≤ 5 := by omega
      by_cases hlt : (bs.length : Int) < 1 + y0 % 5
      · go_wp2_with fail
        refine (HA0.out _ HCr.out).mono ?_
        rintro e w1 ⟨rfl, hw⟩
        replace hw := hw.symm
        subst hw
        go_wp2_with fail
        refine (fresh_c wr ao len cap bs.length zs (HCr.out.up hsz) hl (by omega) HZ.out).mono ?_
        rintro e w2 ⟨ao2, n2, cap2, zs2, rfl, hc2, hn2, hz2, b2⟩
        have HC2 : Hid (CodeAt w2 w2.heap.size ao2 n2 zs2) := hc2
        have HZ2 : Hid (∀ j, 0 ≤ zs2.getD j 0 ∧ zs2.getD j 0 ≤ 255) := hz2
        have hown3a := own_bel hown3 b2 (Nat.le_refl _)
        have hown4a := own_bel hown4 b2 (Nat.le_refl _)
        have hbela := hbel.trans (b2.mono hsz)
        clear hc2 hz2 b2 hown3 hown4 hbel HCr
        go_wp2_with fail
        refine (drawHex_any w2 ao2 n2 cap2 zs2 HC2.out (by omega) HZ2.out).mono ?_
        rintro e w3 ⟨rfl, g3⟩
        have b3 := below_of_grown g3
        have hD := (textF_facts zs2 n2 40 (newF zs2 n2)).1
        have hDs : (strOfNums (textF zs2 n2 40 (newF zs2 n2)).1).size ≤ 40 := by rw [strOfNums_size]; exact hD
        have hsza := hbela.size
        have hown3b := own_bel hown3a b3 (Nat.le_refl _)
        have hown4b := own_bel hown4a b3 (Nat.le_refl _)
        have hbelb := hbela.trans (b3.mono hsza)
        clear g3 b3 hD hown3a hown4a hbela HC2 HZ2
        generalize strOfNums (textF zs2 n2 40 (newF zs2 n2)).1 = D at hDs ⊢
        have had : ∀ W, (Op.stringOp .add ⟨#[120]⟩ D).run Tryd.prog W = .ok (.string (⟨#[120]⟩ ++ D)) W := add_sm ⟨#[120]⟩ D (by show 1 + D.size ≤ _; omega)
        have hBs : (⟨#[120]⟩ ++ D).size = 1 + D.size := by rw [ByteArray.size_append]; rfl
        obtain ⟨Y, hY⟩ : ∃ Y, ⟨#[120]⟩ ++ D = Y := ⟨_, rfl⟩
        rw [hY] at had hBs
        have hY1 : 1 ≤ Y.size := by omega
        have hY2 : Y.size ≤ 41 := by omega
        have hszb := hbelb.size
        clear hY hBs
        go_wp2_with (at_builtin; refine wpList_append_own _ rfl _ _ 24 rfl w.heap.size 9 iS (.string ⟨#[]⟩) 1 16 Tryd.underlying24 hiS hzS0 hzS1 hzS2 rfl (by decide) _ _ _ rfl (hown3b.alloc _) ⟨w3.heap.size, 0, none⟩ 1 1 [.string Y] rfl rfl (cell_one_new _ _ _) (by intro u hu; simp at hu; subst hu; rfl) (by unfold maxLen; omega) (by omega) (by simp; omega) ?_)
        intro v3 w4 hown3c hgrow _
        have R3 := own_snocS hown3c
        have R4 := (hown4b.alloc _).kept hgrow (rows_apart hown4b hown3b (by decide))
        have RB := below_append hbelb (Nat.le_refl _) hown3b hgrow
        clear hown3c hgrow hown3b hown4b hbelb
        have hszc := RB.size
        go_wp2_with fail
        refine (implFr Y _ hY1 (by omega)).mono ?_
        rintro e w5 ⟨rfl, b5⟩
        have R3a : OwnS w5 w.heap.size v3 (bs ++ [Y]) := R3.keep b5
        have R4a := own_bel R4 b5 (Nat.le_refl _)
        have RBa := RB.trans (b5.mono hszc)
        clear b5 R3 R4 RB
        have HFz : Hid ((frameOf Y).size = 8 + Y.size) := frameOf_size Y
        have had2 : ∀ W, (Op.stringOp .add (jn bs) (frameOf Y)).run Tryd.prog W = .ok (.string (jn bs ++ frameOf Y)) W := add_sm _ _ (by rw [HFz.out]; omega)
        have HSN : Hid (jn (bs ++ [Y]) = jn bs ++ frameOf Y) := jn_snoc bs Y
        have HEN : Hid (enL (bs ++ [Y]) = enL bs ++ [(((jn bs ++ frameOf Y).size : Nat) : Int)]) := enL_snoc bs Y
        have hJs : (jn bs ++ frameOf Y).size ≤ 1000 := by rw [ByteArray.size_append, HFz.out]; omega
        have HBD2 : Hid (Bod (bs ++ [Y])) := HBD.out.snoc hY1 hY2
        generalize jn bs ++ frameOf Y = J at had2 HSN HEN hJs
        have hszd := RBa.size
        have hEl : (enL bs).length ≤ 6 := by rw [enL_length]; omega
        go_wp2_with (at_builtin; refine wpList_append_own _ rfl _ _ 25 rfl w.heap.size 3 iI (.int .i64 0) 1 8 Tryd.underlying25 hiI hzI0 hzI1 hzI2 rfl (by decide) _ _ _ rfl (R4a.alloc _) ⟨w5.heap.size, 0, none⟩ 1 1 [.int .i64 (J.size : Int)] rfl rfl (cell_one_new _ _ _) (by intro u hu; simp at hu; subst hu; rfl) (by unfold maxLen; omega) (by omega) (by simp; omega) ?_)
        intro v4 w6 hown4c hgrow _
        have S4 := own_snocI hown4c
        have S3 := (World.ownsRow.alloc (w := w5) R3a _).kept hgrow (rows_apart (w := w5) R3a R4a (by decide))
        have SB := below_append RBa (Nat.le_refl _) R4a hgrow
        rw [← HEN.out] at S4
        clear hown4c hgrow R3a R4a RBa
        rw [← HSN.out]
        go_wp2
        go_roundw
        case rel => first | exact ⟨bs ++ [Y], by simp, by simp; omega, rfl, S3, S4, SB, HBD2⟩ | ((repeat apply Exists.intro); exact ⟨⟨bs ++ [Y], by simp, by simp; omega, rfl, S3, S4, SB, HBD2⟩, rfl⟩)
        case measure => simp [intOf]; omega
      · have hfull : Hid (∀ b ∈ bs, 1 ≤ b.size ∧ b.size ≤ 2000) := fun b hb => by have := HBD.out b hb; omega
        have hJs : (jn bs).size ≤ 1000 := by omega
        obtain ⟨J, hJ⟩ : ∃ J, jn bs = J := ⟨_, rfl⟩
        have HJ : Hid (jn bs = J) := hJ
        rw [hJ] at hJs ⊢
        obtain ⟨K, hK⟩ : ∃ K : Nat, (y1 * 256 + y2) % ((J.size : Int) + 1) = (K : Int) := Int.eq_ofNat_of_zero_le (Int.emod_nonneg _ (by omega))
        have hKJ : K ≤ J.size := by
          have := Int.emod_lt_of_pos (y1 * 256 + y2) (show 0 < (J.size : Int) + 1 by omega)
          omega
        have hKJ' : (K : Int) ≤ J.size := by omega
        clear hJ hjs HBD
        go_wp2_with fail
        refine (HA0.out _ HCr.out).mono ?_
        rintro e w1 ⟨rfl, hw⟩
        replace hw := hw.symm
        subst hw
        go_wp2_with fail
        refine (HA1.out _ HCr.out).mono ?_
        rintro e w1 ⟨rfl, hw⟩
        replace hw := hw.symm
        subst hw
        go_wp2_with fail
        refine (HA2.out _ HCr.out).mono ?_
        rintro e w1 ⟨rfl, hw⟩
        replace hw := hw.symm
        subst hw
        go_wp2_with fail
        refine (implFs (J.extract 0 K) _ a0 a2 (HE.out.keep hbel) (HG.out.keep hbel (by have := HL.out; omega)) (by rw [ext_size _ _ _ hKJ]; omega)).mono ?_
        rintro e w7 ⟨v9, L, n, rfl, hf, ho, b7⟩
        have hcut := frs_cut bs K hfull.out
        rw [HJ.out] at hcut
        obtain ⟨hL, hn⟩ := hf.unique hcut
        subst hL
        subst hn
        have hWl := wh_le bs K
        have HWI : Hid (∀ j, j < wh bs K ↔ j < bs.length ∧ en bs (j + 1) ≤ K) := wh_iff bs K
        have HTL : Hid ((bs.take (wh bs K)).length = wh bs K) := by show _ = _; rw [List.length_take]; omega
        have HTG : Hid (∀ j, j < wh bs K → (bs.take (wh bs K))[j]? = bs[j]?) := fun j hj => by rw [List.getElem?_take_of_lt hj]
        have hen : en bs (wh bs K) ≤ 1000 := by have := hf.le.1; rw [ext_size _ _ _ hKJ] at this; omega
        have HO9 : Hid (OwnS w7 wr.heap.size v9 (bs.take (wh bs K))) := ho
        have hown3a := own_bel hown3 b7 (Nat.le_refl _)
        have hown4a := own_bel hown4 b7 (Nat.le_refl _)
        have HB7 : Hid (Below w.heap.size w w7) := hbel.trans (b7.mono hsz)
        clear hf hcut ho b7 hown3 hown4 hbel HCr
        generalize wh bs K = Wn at hWl HWI HTL HTG hen HO9 ⊢
        rw [hK]
        obtain ⟨p9, c9, hv9, R9⟩ : ∃ p9 c9, v9 = .slice p9 Wn c9 ∧ ∀ j, j < Wn → ∃ g, p9 = some ⟨g, 0, none⟩ ∧ g < w7.heap.size ∧ ∀ i, i < Wn → w7.cell? ⟨g, i, none⟩ = (bs.map Value.string)[i]? := by
          have hf := own_forms HO9.out
          rw [HTL.out] at hf
          rcases hf with ⟨rfl, h⟩ | ⟨g, c, rfl, _, hg, hc⟩
          · have h0 : Wn = 0 := by rw [← HTL.out, h]; rfl
            subst h0
            exact ⟨none, 0, rfl, fun j hj => by omega⟩
          · refine ⟨some ⟨g, 0, none⟩, c, rfl, fun j _ => ⟨g, rfl, hg, fun i hi => ?_⟩⟩
            rw [hc i hi, List.getElem?_map, HTG.out i hi, List.getElem?_map]
        subst hv9
        have H9 : Hid (∀ j, j < Wn → ∃ g, p9 = some ⟨g, 0, none⟩ ∧ g < w7.heap.size ∧ ∀ i, i < Wn → w7.cell? ⟨g, i, none⟩ = (bs.map Value.string)[i]?) := R9
        obtain ⟨p3, c3, hv3, R3⟩ : ∃ p3 c3, _ = Value.slice p3 bs.length c3 ∧ ∀ j, j < bs.length → ∃ g, p3 = some ⟨g, 0, none⟩ ∧ g < w7.heap.size ∧ ∀ i, i < bs.length → w7.cell? ⟨g, i, none⟩ = (bs.map Value.string)[i]? := by
          rcases own_forms (w := w7) (L := bs) hown3a with ⟨h3, rfl⟩ | ⟨g, c, h3, _, hg, hc⟩
          · exact ⟨none, 0, h3, fun j hj => by simp at hj⟩
          · exact ⟨some ⟨g, 0, none⟩, c, h3, fun j _ => ⟨g, rfl, hg, hc⟩⟩
        subst hv3
        have H3 : Hid (∀ j, j < bs.length → ∃ g, p3 = some ⟨g, 0, none⟩ ∧ g < w7.heap.size ∧ ∀ i, i < bs.length → w7.cell? ⟨g, i, none⟩ = (bs.map Value.string)[i]?) := R3
        obtain ⟨g4, c4, hv4, hg4, R4⟩ := own_form1 hown4a (by rw [enL_length]; omega)
        subst hv4
        have H4 : Hid (∀ j, j ≤ bs.length → w7.cell? ⟨g4, j, none⟩ = some (.int .i64 ((en bs j : Nat) : Int))) := fun j hj => by
          rw [R4 j (by rw [enL_length]; omega), List.getElem?_map, enL_at bs j hj]; rfl
        rw [enL_length]
        clear hown3a hown4a R3 R4 R9 HO9
        have hb5' : (bs.length : Int) ≤ 5 := by omega
        have hWl' : (Wn : Int) ≤ bs.length := by omega
        have hEn : Hid (en bs Wn ≤ 1000) := hen
        clear hen
        go_wp2
        go_loop [11] (fun x => ∃ j : Nat, j ≤ Wn ∧ x = .int .i64 (j : Int)) (fun x => Wn - (intOf x).toNat)
        case atStart => exact ⟨0, Nat.zero_le _, rfl⟩
        case round =>
          obtain ⟨j, hj, rfl⟩ := hrel
          by_cases hjw : j < Wn
          · obtain ⟨hj1, hj2⟩ := (HWI.out j).1 hjw
            have c1 := H4.out (j + 1) (by omega)
            have hj1' : (j : Int) + 1 < (bs.length : Int) + 1 := by omega
            have hj2' : ((en bs (j + 1) : Nat) : Int) ≤ (K : Int) := by omega
            generalize en bs (j + 1) = E at c1 hj2'
            go_wp2
            go_round
            case rel => exact ⟨j + 1, by omega, by go_num⟩
            case measure => simp [intOf]; omega
          · have hjw' : j = Wn := by omega
            subst hjw'
            have c2 := H4.out j (by omega)
            have hEn' : ((en bs j : Nat) : Int) ≤ 1000 := by have := hEn.out; omega
            generalize en bs j = E2 at c2 hEn' ⊢
            by_cases hjl : j < bs.length
            · have hno : ¬ en bs (j + 1) ≤ K := fun h => hjw ((HWI.out j).2 ⟨hjl, h⟩)
              have c1 := H4.out (j + 1) (by omega)
              have hj1' : (j : Int) + 1 < (bs.length : Int) + 1 := by omega
              have hj2' : ¬ ((en bs (j + 1) : Nat) : Int) ≤ (K : Int) := by omega
              generalize en bs (j + 1) = E at c1 hj2'
              clear hno hjw
              go_wp2
              go_loopw [12] (fun x W => ∃ i : Nat, i ≤ j ∧ x = .int .i64 (i : Int) ∧ Hid (Below w7.heap.size w7 W)) (fun x _ => j - (intOf x).toNat)
              case atStart => exact ⟨0, Nat.zero_le _, rfl, Below.refl _ _⟩
              case round =>
                obtain ⟨i, hi, rfl, HBi⟩ := hrel
                by_cases hij : i < j
                · obtain ⟨g9, hp9, hg9, r9⟩ := H9.out i hij
                  obtain ⟨g3, hp3, hg3, r3⟩ := H3.out i (by omega)
                  subst hp9
                  subst hp3
                  have hib : i < bs.length := by omega
                  have e9 : wr.cell? ⟨g9, i, none⟩ = some (.string bs[i]) := by rw [HBi.out.cell (by exact hg9), r9 i hij, cell_str hib]
                  have e3 : wr.cell? ⟨g3, i, none⟩ = some (.string bs[i]) := by rw [HBi.out.cell (by exact hg3), r3 i hib, cell_str hib]
                  have hij' : (i : Int) < j := by omega
                  have hib' : (i : Int) < bs.length := by omega
                  clear r9 r3
                  generalize bs[i] = Y at e9 e3
                  go_wp2
                  go_quiet (fail)
                  go_wp2
                  go_roundw
                  case rel => exact ⟨i + 1, by omega, by go_num, bel_drewN HBi.out _⟩
                  case measure => simp [intOf]; omega
                · have hie : i = j := by omega
                  subst hie
                  go_wp2
                  go_ret
                  exact ⟨rfl, HB7.out.trans (HBi.out.mono HB7.out.size)⟩
            · have hj1' : ¬ (j : Int) + 1 < (bs.length : Int) + 1 := by omega
              have hj1e : (j : Int) < (bs.length : Int) + 1 := by omega
              clear hjw
              go_wp2
              go_loopw [12] (fun x W => ∃ i : Nat, i ≤ j ∧ x = .int .i64 (i : Int) ∧ Hid (Below w7.heap.size w7 W)) (fun x _ => j - (intOf x).toNat)
              case atStart => exact ⟨0, Nat.zero_le _, rfl, Below.refl _ _⟩
              case round =>
                obtain ⟨i, hi, rfl, HBi⟩ := hrel
                by_cases hij : i < j
                · obtain ⟨g9, hp9, hg9, r9⟩ := H9.out i hij
                  obtain ⟨g3, hp3, hg3, r3⟩ := H3.out i (by omega)
                  subst hp9
                  subst hp3
                  have hib : i < bs.length := by omega
                  have e9 : wr.cell? ⟨g9, i, none⟩ = some (.string bs[i]) := by rw [HBi.out.cell (by exact hg9), r9 i hij, cell_str hib]
                  have e3 : wr.cell? ⟨g3, i, none⟩ = some (.string bs[i]) := by rw [HBi.out.cell (by exact hg3), r3 i hib, cell_str hib]
                  have hij' : (i : Int) < j := by omega
                  have hib' : (i : Int) < bs.length := by omega
                  clear r9 r3
                  generalize bs[i] = Y at e9 e3
                  go_wp2
                  go_quiet (fail)
                  go_wp2
                  go_roundw
                  case rel => exact ⟨i + 1, by omega, by go_num, bel_drewN HBi.out _⟩
                  case measure => simp [intOf]; omega
                · have hie : i = j := by omega
                  subst hie
                  go_wp2
                  go_ret
                  exact ⟨rfl, HB7.out.trans (HBi.out.mono HB7.out.size)⟩

end Go.Proofs.YtoeaobeljljdnaaDoor
