/- The exact law of Changes, walked. -/
import Derived.Test.YtengfkakiohfaaaWcImpl
import Derived.Test.YtengfkakiohfaaaHaOpW
namespace Go.Proofs.Ytengfkakiohfaaa
open Go.RowKit
set_option linter.unusedVariables false
set_option linter.unusedSimpArgs false

theorem bel_undrewC {B : Nat} {w w' : World} (h : Below B w.drew w') : Below B w w' := ⟨h.os, h.tape, h.output, h.size, h.block⟩

theorem hideC {p : Prop} (h : p) : Hid p := h

theorem own_block1 {w : World} {base : Nat} {x : S_Wal} {v : Value} (h : OwWal w base x v) : ∀ u ∈ [v], ∀ k, u.ownBlock = some k → base ≤ k ∧ k < w.heap.size := by
  intro u hu k hk
  rw [List.mem_singleton.1 hu] at hk
  exact World.ownsRow.lt h k hk

theorem sz_leC {n : Nat} {l : Int} (h : ¬ szF n l < 0) : (n : Int) ≤ l := by
  unfold szF at h
  split at h <;> omega

theorem ln_walC {x : S_Wal} (h : zWal x ≤ 1048576) : LnWal x 1048576 := by
  unfold zWal at h
  show x.f4.length ≤ 1048576
  omega

theorem toWalS_c (x : S_Wal) (v4 : Value) (w : World) (hn : LnWal x 1048576) (h : RdWal w x v4) :
    Calls Try.prog 16 #[.agg #[.int .i64 x.f0, .int .i64 x.f1, .int .i64 x.f2, .int .i64 x.f3, v4]] w fun e w' => ∃ p c, e = .returned (.agg #[.int .i64 x.f0, .int .i64 x.f1, .int .i64 x.f2, .int .i64 x.f3, .slice p x.f4.length c]) ∧ OwWal w' w.heap.size x (.slice p x.f4.length c) ∧ Below w.heap.size w w' :=
  (toWal_c x v4 w hn h).mono fun e w' ⟨u4, he, ho, hb⟩ => by
    obtain ⟨p, c, hv, _⟩ := own_shape ho
    subst hv
    exact ⟨p, c, he, ho, hb⟩

theorem ch_both (x y : S_Wal) (hx : LnWal x 1048576) (hy : LnWal y 1048576) (sx : ∀ e ∈ x.f4, sEntry e) (sy : ∀ e ∈ y.f4, sEntry e) : ∃ (L : List S_Rec) (G : Bool), L.length ≤ 1048576 ∧
    (∀ (W : World) (pa pb : Option Addr) (ca cb : Nat), RdWal W x (.slice pa x.f4.length ca) → RdWal W y (.slice pb y.f4.length cb) → Calls Try.prog 8 #[.agg #[.int .i64 x.f0, .int .i64 x.f1, .int .i64 x.f2, .int .i64 x.f3, .slice pa x.f4.length ca], .agg #[.int .i64 y.f0, .int .i64 y.f1, .int .i64 y.f2, .int .i64 y.f3, .slice pb y.f4.length cb]] W fun e w' => ∃ v, e = .returned (.tuple #[v, .bool G]) ∧ w'.ownsRow W.heap.size 35 5 v L.length (rRec L) ∧ Below W.heap.size W w') ∧
    (∀ (W : World) (pa pb : Option Addr) (ca cb : Nat), RdWal W x (.slice pa x.f4.length ca) → RdWal W y (.slice pb y.f4.length cb) → Calls Try.prog 7 #[.agg #[.int .i64 x.f0, .int .i64 x.f1, .int .i64 x.f2, .int .i64 x.f3, .slice pa x.f4.length ca], .agg #[.int .i64 y.f0, .int .i64 y.f1, .int .i64 y.f2, .int .i64 y.f3, .slice pb y.f4.length cb]] W fun e w' => ∃ v, e = .returned (.tuple #[v, .bool G]) ∧ w'.ownsRow W.heap.size 35 5 v L.length (rRec L) ∧ Below W.heap.size W w') := by
  by_cases hok : chOk x y
  · refine ⟨chL x y, true, ?_, fun W pa pb ca cb h1 h2 => specCh_yes x y pa pb ca cb W hok hx hy sx sy h1 h2, fun W pa pb ca cb h1 h2 => implCh_yes x y pa pb ca cb W hok hx hy sx sy h1 h2⟩
    have h1 := chP_len x y (y.f4.length - al x.f4 y.f4)
    have h2 := hok.1.2.1.1
    unfold headW at h2
    show (chP x y _).length ≤ _
    omega
  · exact ⟨[], false, Nat.zero_le _, fun W pa pb ca cb h1 h2 => specCh_no x y pa pb ca cb W hok hx hy sx sy h1 h2, fun W pa pb ca cb h1 h2 => implCh_no x y pa pb ca cb W hok hx hy sx sy h1 h2⟩

end Go.Proofs.Ytengfkakiohfaaa
