/- The walk of the program's reader of all frames. -/
import Derived.Test.YtoeaobeljljdnaaDoorFsWalk
namespace Go.Proofs.YtoeaobeljljdnaaDoor
open Go.RowKit
set_option linter.unusedVariables false

/-- What framesOf hands back. -/
def FoR (s : ByteArray) (w : World) (e : Ending) (w' : World) : Prop :=
  ∃ v L, ∃ k : Nat, ∃ a, e = .returned (.tuple #[v, fe a (k : Int)]) ∧ Frs s L k ∧ OwnS w' w.heap.size v L ∧ Below w.heap.size w w'

set_option maxRecDepth 20000 in
set_option maxHeartbeats 2000000 in
theorem implFo (s : ByteArray) (w : World) (a0 a2 : Addr) (hE : ErrB w a0 a2) (hm : s.size ≤ 1048576) :
    Calls Tryd.prog 23 #[.string s] w (FoR s w) := by
  obtain ⟨i0, hi, hz0, hz1, hz2⟩ := info_parts infoS
  have HX : Hid (s.size ≤ maxLen) := by show _ ≤ _; unfold maxLen; omega
  have hml : (1048577 : Nat) ≤ maxLen := by unfold maxLen; omega
  have HE : Hid (ErrB w a0 a2) := hE
  have fe0 : Hid (∀ k : Int, fe a0 k = .iface 48 (.agg #[.iface 102 (.pointer (some a0)), .int .i64 k])) := fun _ => rfl
  have fe2 : Hid (∀ k : Int, fe a2 k = .iface 48 (.agg #[.iface 102 (.pointer (some a2)), .int .i64 k])) := fun _ => rfl
  clear hE
  go_enter Tryd.func23, Tryd.ntmps23
  go_wp2
  go_loopw [4, 5] (fun v kv wr => ∃ (acc : List ByteArray) (k : Nat), kv = .int .i64 (k : Int) ∧ k ≤ s.size ∧ acc.length ≤ k ∧ wr.ownsRow w.heap.size 9 1 v acc.length (acc.map Value.string) ∧ Below w.heap.size w wr ∧ Hid (Upto s k acc)) (fun _ kv _ => s.size - (intOf kv).toNat)
  case atStart => exact ⟨[], 0, rfl, Nat.zero_le _, Nat.zero_le _, World.ownsRow_nil _ _ _ _, Below.refl _ _, upto_zero s (ext_all s)⟩
  case round =>
    obtain ⟨acc, k, rfl, hk, hal, hown, hbel, HU⟩ := hrel
    have hsz := hbel.size
    have HEr : Hid (ErrB wr a0 a2) := HE.out.keep hbel
    have hk' : (k : Int) ≤ s.size := by omega
    obtain ⟨T, hT⟩ : ∃ T, s.extract k s.size = T := ⟨_, rfl⟩
    have HT : Hid (s.extract k s.size = T) := hT
    rcases u_cases T with h | h | ⟨n, h⟩
    · have HF : Hid (Frs s acc k) := upto_end HU.out (by rw [hT]; exact Or.inl h)
      have H : Hid (UShort T) := h
      clear h HU hT
      go_wp2_with fail
      refine (at_short s T k _ a0 a2 HEr.out.toErrs HX.out hk HT.out H.out).mono ?_
      rintro e w1 ⟨rfl, b1⟩
      have hown1 := own_bel hown b1 (Nat.le_refl _)
      have hbel1 := hbel.trans (b1.mono hsz)
      clear hown hbel b1
      rw [fe0.out]
      go_wp2
      go_ret2
      exact ⟨_, acc, k, a0, by rw [fe0.out]; rfl, HF.out, hown1, hbel1⟩
    · have HF : Hid (Frs s acc k) := upto_end HU.out (by rw [hT]; exact Or.inr h)
      have H : Hid (UBad T) := h
      clear h HU hT
      go_wp2_with fail
      refine (at_bad s T k _ a0 a2 HEr.out.toErrs HX.out hk HT.out H.out).mono ?_
      rintro e w1 ⟨rfl, b1⟩
      have hown1 := own_bel hown b1 (Nat.le_refl _)
      have hbel1 := hbel.trans (b1.mono hsz)
      clear hown hbel b1
      rw [fe2.out]
      go_wp2
      go_ret2
      exact ⟨_, acc, k, a2, by rw [fe2.out]; rfl, HF.out, hown1, hbel1⟩
    · have HF : Hid (Upto s (k + (8 + n)) (acc ++ [T.extract 8 (8 + n)])) := by have := upto_more hk HU.out (by rw [hT]; exact h); rw [hT] at this; exact this
      have hle : k + (8 + n) ≤ s.size := ok_le hk (by rw [hT]; exact h)
      have H : Hid (UOk T n) := h
      have hY : (T.extract 8 (8 + n)).size = n := by rw [ext_size _ _ _ h.2.2.2.1]; omega
      clear h HU hT
      go_wp2_with fail
      refine (at_ok s T k n _ a0 a2 HEr.out.toErrs HX.out hk HT.out H.out).mono ?_
      rintro e w1 ⟨rfl, b1⟩
      have hown1 := own_bel hown b1 (Nat.le_refl _)
      have hbel1 := hbel.trans (b1.mono hsz)
      have hsz1 := hbel1.size
      clear hown hbel b1
      generalize T.extract 8 (8 + n) = Y at HF hY ⊢
      go_wp2_with (at_builtin; refine wpList_append_own _ rfl _ _ 24 rfl w.heap.size 9 i0 (.string ⟨#[]⟩) 1 16 Tryd.underlying24 hi hz0 hz1 hz2 rfl (by decide) _ _ _ rfl (hown1.alloc _) ⟨w1.heap.size, 0, none⟩ 1 1 [.string Y] rfl rfl (cell_one_new _ _ _) (by intro u hu; simp at hu; subst hu; rfl) (by omega) (by omega) (by simp; omega) ?_)
      intro v' w2 hown2 hgrow _
      have R1 := own_snocS hown2
      unfold OwnS at R1
      have R2 := below_append hbel1 (Nat.le_refl _) hown1 hgrow
      clear hown2 hgrow hown1 hbel1
      go_wp2
      go_roundw
      case rel => first | exact ⟨acc ++ [Y], k + (8 + n), by go_num, hle, by simp; omega, R1, R2, HF⟩ | ((repeat apply Exists.intro); exact ⟨⟨acc ++ [Y], k + (8 + n), by go_num, hle, by simp; omega, R1, R2, HF⟩, rfl⟩)
      case measure => simp [intOf]; omega

theorem asW_below {B : Nat} {w : World} (tb : Nat) (x y : Value) (hB : B ≤ w.heap.size) (ht : B ≤ tb) : Below B w (asW w tb x y) := by
  unfold asW
  refine below_setRow ?_ ht _
  refine Below.alloc (Below.alloc (Below.alloc (Below.alloc (Below.refl _ _) hB _) ?_ _) ?_ _) ?_ _
  all_goals (simp; omega)

theorem asW_cell {w : World} (tb : Nat) (x y : Value) (old : Array Value) (ht : w.heap[tb]? = some (.cells old 48 (0, 0))) : (asW w tb x y).cell? ⟨tb, 1, none⟩ = some y := by
  unfold asW
  rw [cell_setRow_same _ tb 1 old _ 48 (0, 0) (heap_old (heap_old (heap_old (heap_old ht))))]
  rfl

set_option maxRecDepth 20000 in
set_option maxHeartbeats 2000000 in
theorem implFs (s : ByteArray) (w : World) (a0 a2 : Addr) (hE : ErrB w a0 a2) (hg : w.cell? ⟨1, 0, none⟩ = some (.iface 86 (.agg #[.pointer (some ⟨3, 44, none⟩)]))) (hm : s.size ≤ 1048576) :
    Calls Tryd.prog 11 #[.string s] w (FsR s w) := by
  have HE : Hid (ErrB w a0 a2) := hE
  have HG : Hid (w.cell? ⟨1, 0, none⟩ = some (.iface 86 (.agg #[.pointer (some ⟨3, 44, none⟩)]))) := hg
  have HL : Hid (2 < w.heap.size) := hE.lt
  clear hE hg
  go_enter Tryd.func11, Tryd.ntmps11
  go_wp2_with fail
  refine (implFo s _ a0 a2 HE.out hm).mono ?_
  rintro e w1 ⟨v, L, k, a, rfl, hf, hown, b1⟩
  have HF : Hid (Frs s L k) := hf
  have HO : Hid (OwnS w1 w.heap.size v L) := hown
  have HB : Hid (Below w.heap.size w w1) := b1
  clear hf hown b1
  have ht : Hid ((w1.alloc (.cells #[.nilIface, .int .i64 0] 48)).heap[w1.heap.size]? = some (.cells #[.nilIface, .int .i64 0] 48 (0, 0))) := heap_top _ _
  have hg1 : Hid ((w1.alloc (.cells #[.nilIface, .int .i64 0] 48)).cell? ⟨1, 0, none⟩ = some (.iface 86 (.agg #[.pointer (some ⟨3, 44, none⟩)]))) := cell_old (by rw [HB.out.cell (by show 1 < w.heap.size; have := HL.out; omega)]; exact HG.out)
  go_wp2_with fail
  refine (as_hit a k w1.heap.size #[.nilIface, .int .i64 0] _ hg1.out ht.out rfl).mono ?_
  rintro e w2 ⟨rfl, hw⟩
  have hc : w2.cell? ⟨w1.heap.size, 1, none⟩ = some (.int .i64 (k : Int)) := by rw [hw]; exact asW_cell _ _ _ _ ht.out
  have HB2 : Hid (Below w1.heap.size w1 w2) := by
    show Below _ _ _
    rw [hw]
    exact ((Below.refl _ w1).alloc (Nat.le_refl _) _).trans (asW_below _ _ _ (by simp) (Nat.le_refl _))
  clear hw ht hg1
  go_wp2
  go_quiet (fail)
  go_wp2
  go_ret2
  exact ⟨v, L, k, rfl, HF.out, HO.out.keep (bel_drewN HB2.out _), bel_drewN (HB.out.trans (HB2.out.mono HB.out.size)) _⟩

end Go.Proofs.YtoeaobeljljdnaaDoor
