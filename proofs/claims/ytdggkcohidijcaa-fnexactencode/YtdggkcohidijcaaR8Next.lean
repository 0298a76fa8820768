/- The pair that merges next. -/
import Derived.Test.YtdggkcohidijcaaR8Jn
namespace Go.Proofs.Ytdggkcohidijcaa
open Go.RowKit
set_option linter.unusedVariables false
set_option linter.unusedSimpArgs false

/-- How many items the queue of a row has. -/
def lenAt (w : World) (R : Nat) : Nat := match w.cell? ⟨R, 3, none⟩ with
  | some (.slice _ n _) => n
  | _ => 0

theorem lenAt_row {w : World} {R B : Nat} {mp : Option Addr} {mc : Nat} {M : List S_Pair} {l : List Sy} {X : List Jt} {p : Option Addr} {n c : Nat} {C : Nat → Prop} (S : RowS w R B mp mc M l X p n c C) : lenAt w R = n := by unfold lenAt; rw [S.q.cells.2.2.2]

def NoPair (M : List S_Pair) (l : List Sy) : Prop := ∀ (i : Nat) (y z : Sy) (r : Int), l[i]? = some y → l[i + 1]? = some z → IsFst M y.tok z.tok r → r < 0

/-- The pair at place i, of number r, is the one that merges next. -/
def Best (M : List S_Pair) (l : List Sy) (i : Nat) (r : Int) : Prop := 0 ≤ r ∧ ∀ (j : Nat) (y z : Sy) (s : Int), l[j]? = some y → l[j + 1]? = some z → IsFst M y.tok z.tok s → 0 ≤ s → r < s ∨ (r = s ∧ i ≤ j)

theorem RowS.recov {w : World} {R B : Nat} {mp : Option Addr} {mc : Nat} {M : List S_Pair} {l : List Sy} {X : List Jt} {p : Option Addr} {n c : Nat} {C : Nat → Prop} {C' : Nat → Prop} (S : RowS w R B mp mc M l X p n c C) (h : ∀ (i : Nat) (y z : Sy) (r : Int), C' i → l[i]? = some y → l[i + 1]? = some z → 0 ≤ r → IsFst M y.tok z.tok r → ⟨r, y.b, y.pl⟩ ∈ X) : RowS w R B mp mc M l X p n c C' :=
  ⟨S.q, S.live, S.mono, S.hp, S.jok, h, S.mrow, S.bR, S.bl, S.bm⟩

def NxR (w : World) (R B : Nat) (mp : Option Addr) (mc : Nat) (M : List S_Pair) (l : List Sy) (n : Nat) (e : Ending) (w' : World) : Prop :=
  Below B w w' ∧ ((e = .returned (.bool false) ∧ NoPair M l ∧ ∃ X' p' c', RowS w' R B mp mc M l X' p' 0 c' (fun _ => True)) ∨
    ∃ (i : Nat) (y z : Sy) (r : Int) (l' : List Sy) (X' : List Jt) (p' : Option Addr) (n' c' : Nat), e = .returned (.bool true) ∧ l[i]? = some y ∧ l[i + 1]? = some z ∧ IsFst M y.tok z.tok r ∧ Best M l i r ∧ Mrg8 l l' i y (256 + r) ∧ l'.length + 1 = l.length ∧ RowS w' R B mp mc M l' X' p' n' c' (fun _ => True) ∧ n' + 2 * l'.length ≤ n + 2 * l.length)

set_option maxRecDepth 20000 in
set_option maxHeartbeats 8000000 in
theorem mergeNext_c {w : World} {R B : Nat} {mp : Option Addr} {mc : Nat} {M : List S_Pair} {l : List Sy} {X : List Jt} {p : Option Addr} {n c : Nat} {C : Nat → Prop} (S : RowS w R B mp mc M l X p n c (fun _ => True)) (hM : M.length ≤ 1048576) (hn : n + 2 * l.length ≤ 3900) (hB : B ≤ w.heap.size) :
    Calls Try.prog 49 #[.pointer (some ⟨R, 0, none⟩)] w (NxR w R B mp mc M l n) := by
  have HS : Hid (RowS w R B mp mc M l X p n c (fun _ => True)) := S
  have HM : Hid (M.length ≤ 1048576) := hM
  clear S hM
  go_enter Try.func49, Try.ntmps49
  go_wp2_with fail
  go_loopw [] (fun wr => ∃ (Y : List Jt) (p2 : Option Addr) (n2 c2 : Nat), Hid (RowS wr R B mp mc M l Y p2 n2 c2 (fun _ => True)) ∧ n2 ≤ n ∧ Hid (Below B w wr)) (fun wr => lenAt wr R)
  case atStart => exact ⟨X, p, n, c, HS, Nat.le_refl _, (Below.refl _ _).mono hB⟩
  case round =>
    clear HS
    obtain ⟨X, p, n2, c, S, hn2, HB⟩ := hrel
    have HBS0 : Hid (B ≤ wr.heap.size) := Nat.le_trans hB HB.out.size
    have HLN : Hid (lenAt wr R = n2) := lenAt_row S.out
    rcases n2 with _ | m
    · go_wp2_with fail
      refine (pop_none X wr R B _ _ p c S.out.q).mono ?_
      rintro e W1 ⟨rfl, b1⟩
      have S1 : Hid (RowS W1 R B mp mc M l X p 0 c (fun _ => True)) := S.out.bel b1
      have HB1 : Hid (Below B w W1) := HB.out.trans (b1.mono HBS0.out)
      have HNP : Hid (NoPair M l) := fun i y z r hy hz hf => by
        rcases Int.lt_or_le r 0 with h | h
        · exact h
        · have hx := S.out.cov i y z r trivial hy hz h hf
          have : X = [] := List.eq_nil_of_length_eq_zero S.out.q.len
          rw [this] at hx
          cases hx
      have HBS1 : Hid (B ≤ W1.heap.size) := Nat.le_trans HBS0.out b1.size
      clear b1
      go_upto_region 2 with fail
      refine wp_genW (fun W => Hid (RowS W R B mp mc M l X p 0 c (fun _ => True)) ∧ Hid (Below B w W)) ⟨S1.out.bel ((Below.refl _ _).alloc (Nat.le_refl _) _), HB1.out.trans (((Below.refl _ _).alloc (Nat.le_refl _) _).mono HBS1.out)⟩ ?_
      rintro W2 ⟨S2, HB2⟩
      go_wp2
      go_ret
      exact ⟨HB2.out, .inl ⟨rfl, HNP.out, X, p, c, S2.out⟩⟩
    · go_wp2_with fail
      refine (pop_some X wr R B _ _ p m c (by omega) S.out.q S.out.hp).mono ?_
      rintro e W1 ⟨x0, Y, hx0, rfl, hq, hk, hm1, hm2, hf⟩
      have HX0 : Hid (X[0]? = some x0) := hx0
      have S1 : Hid (RowS W1 R B mp mc M l Y p m c (fun j => ∀ y, l[j]? = some y → y.b ≠ x0.b)) := S.out.fr hf HBS0.out hq hk (fun z hz => S.out.jok z (hm1 z hz)) (fun i y z r hC hy hz hr hf' => by
        rcases hm2 _ (S.out.cov i y z r trivial hy hz hr hf') with h | h
        · exact absurd (by rw [← h]) (hC y hy)
        · exact h)
      have HM2 : Hid (∀ z ∈ X, z = x0 ∨ z ∈ Y) := hm2
      have HB1 : Hid (Below B w W1) := HB.out.trans (hf.below S.out.bR (fun k hk => (S.out.q.own.lt k hk).1) HBS0.out)
      have HBS1 : Hid (B ≤ W1.heap.size) := Nat.le_trans hB HB1.out.size
      have HMIN : Hid (∀ x ∈ X, leJ x0 x) := fun x hx => by
        obtain ⟨k, hk'⟩ := List.mem_iff_getElem?.1 hx
        exact hp_min S.out.hp hx0 k x hk'
      have HJ0 : Hid (JOk wr l x0) := S.out.jok x0 (List.mem_of_getElem? hx0)
      have HBE : Hid (∀ (b : Nat) (cs : Array Value), wr.heap[b]? = some (.cells cs 109) → W1.heap[b]? = some (.cells cs 109)) := fun b cs h => blk_fr h hf S.out.q.own S.out.q.row
      obtain ⟨bx, hbx⟩ : ∃ bx, W1.heap.size = bx := ⟨_, rfl⟩
      have HBX : Hid (W1.heap.size = bx) := hbx
      clear hx0 hq hk hm1 hm2 hf hbx
      go_upto_region 2 with fail
      rw [HBX.out]
      refine wp_genW (fun W => Hid (RowS W R B mp mc M l Y p m c (fun j => ∀ y, l[j]? = some y → y.b ≠ x0.b)) ∧ Hid (Below B w W) ∧ Hid (W.heap[bx]? = some (.cells #[.int .i64 x0.r, .pointer (some ⟨x0.b, 0, none⟩)] 112)) ∧ Hid (Below W1.heap.size W1 W)) ⟨S1.out.bel ((Below.refl _ _).alloc (Nat.le_refl _) _), HB1.out.trans (((Below.refl _ _).alloc (Nat.le_refl _) _).mono HBS1.out), by rw [← HBX.out]; exact alloc_last _ _, (Below.refl _ _).alloc (Nat.le_refl _) _⟩ ?_
      rintro W2 ⟨S2, HB2, HX2, HW12⟩
      have HBS : Hid (B ≤ W2.heap.size) := Nat.le_trans hB HB2.out.size
      obtain ⟨b0, b1⟩ := box2 HX2.out
      rcases HJ0.out.2 with ⟨i, y, hy, hyb, hya⟩ | ⟨t, pv, hd⟩
      · obtain ⟨r, hr⟩ := rkAt_ex M l i y
        have HY : Hid (l[i]? = some y) := hy
        have HYB : Hid (y.b = x0.b ∧ y.pl = x0.a) := ⟨hyb, hya⟩
        have HR : Hid (RkAt M l i y r) := hr
        have HCON : Hid (∀ W : World, Below W2.heap.size W2 W → Calls Try.prog 75 #[.pointer (some ⟨R, 0, none⟩), .pointer (some ⟨x0.b, 0, none⟩)] W fun e w' => e = .returned (.int .i64 r) ∧ Below W.heap.size W w') := fun W hS => by rw [← HYB.out.1]; exact rank_live (S2.out.bel hS) HM.out HY.out HR.out
        clear hy hyb hya hr
        by_cases heq' : r = x0.r
        · have heq : (r == x0.r) = true := by simp [heq']
          have HEQ : Hid (r = x0.r) := heq'
          clear heq'
          go_upto_region 4 with fail
          refine wp_region_told (fun W => Below W2.heap.size W2 W) (by kernel_rfl) (by kernel_rfl) ((Below.refl W2.heap.size W2).drew) ?_
          refine told_pure (some 14) (.pointer (some ⟨R, 0, none⟩)) rfl (by kernel_rfl) (fun _ => by kernel_rfl) ?_
          refine told_pure (some 15) (.pointer (some ⟨bx, 1, none⟩)) rfl (by kernel_rfl) (fun _ => by kernel_rfl) ?_
          refine told_load (some 16) ⟨bx, 1, none⟩ (.pointer (some ⟨x0.b, 0, none⟩)) rfl (by kernel_rfl) (fun _ => by kernel_rfl) (fun _ hS => atB hS b1) ?_
          refine told_call (some 17) (.int .i64 r) 75 #[.pointer (some ⟨R, 0, none⟩), .pointer (some ⟨x0.b, 0, none⟩)] rfl (by kernel_rfl) (fun _ => by kernel_rfl) (fun W hS => below_S (HCON.out W hS) hS) ?_
          refine told_pure (some 18) (.pointer (some ⟨bx, 0, none⟩)) rfl (by kernel_rfl) (fun _ => by kernel_rfl) ?_
          refine told_load (some 19) ⟨bx, 0, none⟩ (.int .i64 x0.r) rfl (by kernel_rfl) (fun _ => by kernel_rfl) (fun _ hS => atB hS b0) ?_
          refine told_is (some 20) (.bool (r == x0.r)) (.bool true) (by rw [heq]) rfl (by kernel_rfl) (fun _ => by kernel_rfl) ?_
          refine told_nil ?_
          intro W3 hS3
          simp only [Act.put, List.setIfInBounds_toArray, List.set_cons_zero, List.set_cons_succ]
          have S3 : Hid (RowS W3 R B mp mc M l Y p m c (fun j => ∀ y, l[j]? = some y → y.b ≠ x0.b)) := S2.out.bel hS3
          have HB3 : Hid (Below B w W3) := HB2.out.trans (hS3.mono HBS.out)
          have HX3 : Hid (W3.heap[bx]? = some (.cells #[.int .i64 x0.r, .pointer (some ⟨x0.b, 0, none⟩)] 112)) := (hS3.block _ (lt_of_some HX2.out)).trans HX2.out
          have HBS3 : Hid (B ≤ W3.heap.size) := Nat.le_trans HBS.out hS3.size
          clear hS3 b0 b1
          obtain ⟨b0, b1⟩ := box2 HX3.out
          have hr0 : 0 ≤ r := by rw [HEQ.out]; exact HJ0.out.1
          obtain ⟨z, hz⟩ : ∃ z, l[i + 1]? = some z := by
            have := HR.out
            unfold RkAt at this
            rcases hz : l[i + 1]? with _ | z
            · rw [hz] at this; have h : r = -1 := this; omega
            · exact ⟨z, rfl⟩
          have HZ : Hid (l[i + 1]? = some z) := hz
          have HF : Hid (IsFst M y.tok z.tok r) := by
            have := HR.out
            unfold RkAt at this
            rw [hz] at this
            exact this
          have hrM : r ≤ 1048576 := by
            rcases HF.out with ⟨k, rfl, hk, _⟩ | ⟨h, _⟩
            · have := HM.out; omega
            · omega
          have HBEST : Hid (Best M l i r) := ⟨hr0, fun j v v2 s hv hv2 hf hs => by
            have hx := S.out.cov j v v2 s trivial hv hv2 hs hf
            have hle := (leJ_iff _ _).1 (HMIN.out _ hx)
            have e1 : x0.r = r := HEQ.out.symm
            have e2 : x0.a = y.pl := HYB.out.2.symm
            rw [e1, e2] at hle
            rcases hle with h | ⟨h, h2⟩
            · exact .inl h
            · refine .inr ⟨h, ?_⟩
              rcases Nat.lt_or_ge j i with h3 | h3
              · have h4 := (S.out.mono j i v y h3 hv HY.out).2
                have h5 : y.pl ≤ v.pl := h2
                omega
              · exact h3⟩
          clear hz heq
          go_wp2_with fail
          rw [← HEQ.out, ← HYB.out.1]
          refine (join_c S3.out HM.out (by omega) HBS3.out (i := i) (fun j hj y' hy' e => hj (S3.out.mono.inj hy' HY.out (e.trans HYB.out.1.symm))) HY.out HZ.out hr0 hrM).mono ?_
          rintro e W4 ⟨rfl, b4, l', X', p', n', c', hmg, hll, hn', S4⟩
          have HRES : Hid (NxR w R B mp mc M l n (.returned (.bool true)) W4) := ⟨HB3.out.trans b4, .inr ⟨i, y, z, r, l', X', p', n', c', rfl, HY.out, HZ.out, HF.out, HBEST.out, hmg, hll, S4, by omega⟩⟩
          clear b4 hmg hll hn' S4 b0 b1
          go_wp2
          go_ret
          exact HRES.out
        · have heq : (r == x0.r) = false := by simp [heq']
          have HST : Hid (∀ (j : Nat) (v z : Sy) (s : Int), True → l[j]? = some v → l[j + 1]? = some z → 0 ≤ s → IsFst M v.tok z.tok s → ⟨s, v.b, v.pl⟩ ∈ Y) := fun j v z s _ hv hz hs hf => by
            rcases HM2.out _ (S.out.cov j v z s trivial hv hz hs hf) with h | h
            · have e1 : v.b = x0.b := by rw [← h]
              have e2 : s = x0.r := by rw [← h]
              have hji : j = i := S.out.mono.inj hv HY.out (e1.trans HYB.out.1.symm)
              subst hji
              have := HR.out
              unfold RkAt at this
              rw [hz] at this
              have hvy : v = y := by have := HY.out; rw [hv] at this; exact Option.some.inj this
              rw [hvy] at hf
              exact absurd ((isFst_one this hf).trans e2) heq'
            · exact h
          clear heq'
          go_upto_region 4 with fail
          refine wp_region_told (fun W => Below W2.heap.size W2 W) (by kernel_rfl) (by kernel_rfl) ((Below.refl W2.heap.size W2).drew) ?_
          refine told_pure (some 14) (.pointer (some ⟨R, 0, none⟩)) rfl (by kernel_rfl) (fun _ => by kernel_rfl) ?_
          refine told_pure (some 15) (.pointer (some ⟨bx, 1, none⟩)) rfl (by kernel_rfl) (fun _ => by kernel_rfl) ?_
          refine told_load (some 16) ⟨bx, 1, none⟩ (.pointer (some ⟨x0.b, 0, none⟩)) rfl (by kernel_rfl) (fun _ => by kernel_rfl) (fun _ hS => atB hS b1) ?_
          refine told_call (some 17) (.int .i64 r) 75 #[.pointer (some ⟨R, 0, none⟩), .pointer (some ⟨x0.b, 0, none⟩)] rfl (by kernel_rfl) (fun _ => by kernel_rfl) (fun W hS => below_S (HCON.out W hS) hS) ?_
          refine told_pure (some 18) (.pointer (some ⟨bx, 0, none⟩)) rfl (by kernel_rfl) (fun _ => by kernel_rfl) ?_
          refine told_load (some 19) ⟨bx, 0, none⟩ (.int .i64 x0.r) rfl (by kernel_rfl) (fun _ => by kernel_rfl) (fun _ hS => atB hS b0) ?_
          refine told_is (some 20) (.bool (r == x0.r)) (.bool false) (by rw [heq]) rfl (by kernel_rfl) (fun _ => by kernel_rfl) ?_
          refine told_nil ?_
          intro W3 hS3
          simp only [Act.put, List.setIfInBounds_toArray, List.set_cons_zero, List.set_cons_succ]
          have S3 : Hid (RowS W3 R B mp mc M l Y p m c (fun _ => True)) := S2.out.bel hS3 |>.recov HST.out
          have HB3 : Hid (Below B w W3) := HB2.out.trans (hS3.mono HBS.out)
          clear hS3 b0 b1
          go_wp2
          go_roundw
          case rel => exact ⟨Y, p, m, c, S3, by omega, HB3⟩
          case measure => rw [HLN.out, lenAt_row S3.out]; omega
      · have hd1 := HBE.out _ _ hd
        have hd2 := (HW12.out.block _ (lt_of_some hd1)).trans hd1
        have HD : Hid (W2.heap[x0.b]? = some (.cells #[.int .i64 t, .int .i64 x0.a, pv, .pointer none] 109)) := hd2
        have heq : ((-1 : Int) == x0.r) = false := by rw [beq_eq_false_iff_ne]; have := HJ0.out.1; omega
        have HST : Hid (∀ (j : Nat) (v z : Sy) (s : Int), True → l[j]? = some v → l[j + 1]? = some z → 0 ≤ s → IsFst M v.tok z.tok s → ⟨s, v.b, v.pl⟩ ∈ Y) := fun j v z s _ hv hz hs hf => by
          rcases HM2.out _ (S.out.cov j v z s trivial hv hz hs hf) with h | h
          · have e1 : v.b = x0.b := by rw [← h]
            have h3 := S.out.live j v hv
            rw [e1, hd, hz] at h3
            simp [ptrO] at h3
          · exact h
        have HCON : Hid (∀ W : World, Below W2.heap.size W2 W → Calls Try.prog 75 #[.pointer (some ⟨R, 0, none⟩), .pointer (some ⟨x0.b, 0, none⟩)] W fun e w' => e = .returned (.int .i64 (-1)) ∧ Below W.heap.size W w') := fun W hS => (rank_last R x0.b W t _ pv ((hS.block _ (lt_of_some HD.out)).trans HD.out)).mono fun e w' ⟨he, hw⟩ => ⟨he, by rw [hw]; exact Below.refl _ _⟩
        clear hd hd1 hd2
        go_upto_region 4 with fail
        refine wp_region_told (fun W => Below W2.heap.size W2 W) (by kernel_rfl) (by kernel_rfl) ((Below.refl W2.heap.size W2).drew) ?_
        refine told_pure (some 14) (.pointer (some ⟨R, 0, none⟩)) rfl (by kernel_rfl) (fun _ => by kernel_rfl) ?_
        refine told_pure (some 15) (.pointer (some ⟨bx, 1, none⟩)) rfl (by kernel_rfl) (fun _ => by kernel_rfl) ?_
        refine told_load (some 16) ⟨bx, 1, none⟩ (.pointer (some ⟨x0.b, 0, none⟩)) rfl (by kernel_rfl) (fun _ => by kernel_rfl) (fun _ hS => atB hS b1) ?_
        refine told_call (some 17) (.int .i64 (-1)) 75 #[.pointer (some ⟨R, 0, none⟩), .pointer (some ⟨x0.b, 0, none⟩)] rfl (by kernel_rfl) (fun _ => by kernel_rfl) (fun W hS => below_S (HCON.out W hS) hS) ?_
        refine told_pure (some 18) (.pointer (some ⟨bx, 0, none⟩)) rfl (by kernel_rfl) (fun _ => by kernel_rfl) ?_
        refine told_load (some 19) ⟨bx, 0, none⟩ (.int .i64 x0.r) rfl (by kernel_rfl) (fun _ => by kernel_rfl) (fun _ hS => atB hS b0) ?_
        refine told_is (some 20) (.bool ((-1) == x0.r)) (.bool false) (by rw [heq]) rfl (by kernel_rfl) (fun _ => by kernel_rfl) ?_
        refine told_nil ?_
        intro W3 hS3
        simp only [Act.put, List.setIfInBounds_toArray, List.set_cons_zero, List.set_cons_succ]
        have S3 : Hid (RowS W3 R B mp mc M l Y p m c (fun _ => True)) := S2.out.bel hS3 |>.recov HST.out
        have HB3 : Hid (Below B w W3) := HB2.out.trans (hS3.mono HBS.out)
        clear hS3 b0 b1
        go_wp2
        go_roundw
        case rel => exact ⟨Y, p, m, c, S3, by omega, HB3⟩
        case measure => rw [HLN.out, lenAt_row S3.out]; omega


end Go.Proofs.Ytdggkcohidijcaa
