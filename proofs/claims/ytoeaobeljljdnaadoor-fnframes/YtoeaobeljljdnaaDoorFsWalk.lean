/- The walks of the two that read all frames. -/
import Derived.Test.YtoeaobeljljdnaaDoorUfLaw
import Derived.Test.YtoeaobeljljdnaaDoorFsMath
import Derived.Test.YtoeaobeljljdnaaDoorFrAs2
namespace Go.Proofs.YtoeaobeljljdnaaDoor
open Go.RowKit
set_option linter.unusedVariables false

theorem infoS : (Tryd.prog.info? 9).map (fun i => (i.zero, i.size, i.bytes)) = some (some (.string ⟨#[]⟩), 1, 16) := by kernel_rfl

/-- A row of texts of the call's own. -/
def OwnS (w : World) (base : Nat) (v : Value) (L : List ByteArray) : Prop := w.ownsRow base 9 1 v L.length (L.map Value.string)

theorem own_bel {w w' : World} {base N : Nat} {e : TypeId} {size : Nat} {v : Value} {n : Nat} {xs : List Value} (h : w.ownsRow base e size v n xs) (hb : Below N w w') (hN : w.heap.size ≤ N) : w'.ownsRow base e size v n xs := by
  obtain ⟨h1, h2⟩ := h
  refine ⟨h1, ?_⟩
  rcases h2 with h2 | ⟨g, cap, cur, hv, hg, hh, r⟩
  · exact Or.inl h2
  · exact Or.inr ⟨g, cap, cur, hv, hg, by rw [hb.block g (Nat.lt_of_lt_of_le (lt_of_some hh) hN)]; exact hh, r⟩

theorem OwnS.keep {w w' : World} {base : Nat} {v : Value} {L : List ByteArray} (h : OwnS w base v L) (hb : Below w.heap.size w w') : OwnS w' base v L := own_bel h hb (Nat.le_refl _)

theorem OwnS.low {w : World} {base base' : Nat} {v : Value} {L : List ByteArray} (h : OwnS w base v L) (hb : base' ≤ base) : OwnS w base' v L := by
  obtain ⟨h1, h2⟩ := h
  refine ⟨h1, ?_⟩
  rcases h2 with h2 | ⟨g, cap, cur, hv, hg, r⟩
  · exact Or.inl h2
  · exact Or.inr ⟨g, cap, cur, hv, Nat.le_trans hb hg, r⟩

theorem own_snocS {w : World} {base : Nat} {v : Value} {acc : List ByteArray} {y : ByteArray} (h : w.ownsRow base 9 1 v (acc.length + 1) (acc.map Value.string ++ [.string y])) : OwnS w base v (acc ++ [y]) := by
  unfold OwnS
  simpa using h

/-- What a reader of all frames hands back. -/
def FsR (s : ByteArray) (w : World) (e : Ending) (w' : World) : Prop :=
  ∃ v L, ∃ k : Nat, e = .returned (.tuple #[v, .int .i64 (k : Int)]) ∧ Frs s L k ∧ OwnS w' w.heap.size v L ∧ Below w.heap.size w w'

set_option maxRecDepth 20000 in
set_option maxHeartbeats 2000000 in
theorem specFs (s : ByteArray) (w : World) (hm : s.size ≤ 1048576) :
    Calls Tryd.prog 14 #[.string s] w (FsR s w) := by
  obtain ⟨i0, hi, hz0, hz1, hz2⟩ := info_parts infoS
  have HX : Hid (s.size ≤ maxLen) := by show _ ≤ _; unfold maxLen; omega
  have hml : (1048577 : Nat) ≤ maxLen := by unfold maxLen; omega
  go_enter Tryd.func14, Tryd.ntmps14
  go_wp2
  go_loopw [4, 5] (fun v kv wr => ∃ (acc : List ByteArray) (k : Nat), kv = .int .i64 (k : Int) ∧ k ≤ s.size ∧ acc.length ≤ k ∧ wr.ownsRow w.heap.size 9 1 v acc.length (acc.map Value.string) ∧ Below w.heap.size w wr ∧ Hid (Upto s k acc)) (fun _ kv _ => s.size - (intOf kv).toNat)
  case atStart => exact ⟨[], 0, rfl, Nat.zero_le _, Nat.zero_le _, World.ownsRow_made w _ 0 (Nat.le_refl _) (by decide) (by simp), (Below.refl _ _).alloc (Nat.le_refl _) _, upto_zero s (ext_all s)⟩
  case round =>
    obtain ⟨acc, k, rfl, hk, hal, hown, hbel, HU⟩ := hrel
    have hsz := hbel.size
    by_cases hlt : k < s.size
    · have hlt' : (k : Int) < s.size := by omega
      have hk' : (k : Int) ≤ s.size := by omega
      obtain ⟨T, hT⟩ : ∃ T, s.extract k s.size = T := ⟨_, rfl⟩
      have HT : Hid (s.extract k s.size = T) := hT
      have HTm : Hid (T.size ≤ maxLen) := by show _ ≤ _; have := HX.out; rw [← hT]; simp; omega
      rcases u_cases T with h | h | ⟨n, h⟩
      · have HF : Hid (Frs s acc k) := upto_end HU.out (by rw [hT]; exact Or.inl h)
        have H : Hid (UShort T) := h
        clear h HU
        go_wp2_with fail
        refine (specUn_short T _ HTm.out H.out).mono ?_
        rintro e w1 ⟨rfl, hw⟩
        replace hw := hw.symm
        subst hw
        go_wp2
        go_ret2
        exact ⟨_, acc, k, rfl, HF.out, hown, hbel⟩
      · have HF : Hid (Frs s acc k) := upto_end HU.out (by rw [hT]; exact Or.inr h)
        have H : Hid (UBad T) := h
        clear h HU
        go_wp2_with fail
        refine (specUn_bad T _ HTm.out H.out).mono ?_
        rintro e w1 ⟨rfl, b1⟩
        have hown1 := own_bel hown b1 (Nat.le_refl _)
        have hbel1 := hbel.trans (b1.mono hsz)
        clear hown hbel b1
        go_wp2
        go_ret2
        exact ⟨_, acc, k, rfl, HF.out, hown1, hbel1⟩
      · have HF : Hid (Upto s (k + (8 + n)) (acc ++ [T.extract 8 (8 + n)])) := by have := upto_more hk HU.out (by rw [hT]; exact h); rw [hT] at this; exact this
        have hle : k + (8 + n) ≤ s.size := ok_le hk (by rw [hT]; exact h)
        have H : Hid (UOk T n) := h
        clear h HU
        go_wp2_with fail
        refine (specUn_ok T n _ HTm.out H.out).mono ?_
        rintro e w1 ⟨rfl, b1⟩
        have hown1 := own_bel hown b1 (Nat.le_refl _)
        have hbel1 := hbel.trans (b1.mono hsz)
        have hsz1 := hbel1.size
        clear hown hbel b1
        generalize T.extract 8 (8 + n) = Y at HF ⊢
        go_wp2_with (at_builtin; refine wpList_append_own _ rfl _ _ 24 rfl w.heap.size 9 i0 (.string ⟨#[]⟩) 1 16 Tryd.underlying24 hi hz0 hz1 hz2 rfl (by decide) _ _ _ rfl (hown1.alloc _) ⟨w1.heap.size, 0, none⟩ 1 1 [.string Y] rfl rfl (cell_one_new _ _ _) (by intro u hu; simp at hu; subst hu; rfl) (by omega) (by omega) (by simp; omega) ?_)
        intro v' w2 hown2 hgrow _
        have R1 := own_snocS hown2
        unfold OwnS at R1
        have R2 := below_append hbel1 (Nat.le_refl _) hown1 hgrow
        clear hown2 hgrow hown1 hbel1
        go_wp2
        go_roundw
        case rel => first | exact ⟨acc ++ [Y], k + (8 + n), by go_num, hle, by simp; omega, R1, R2, HF⟩ | ((repeat apply Exists.intro); exact ⟨⟨acc ++ [Y], k + (8 + n), by go_num, hle, by simp; omega, R1, R2, HF⟩, rfl⟩)
        case measure => simp [intOf]; omega
    · have hke : k = s.size := by omega
      have HF : Hid (Frs s acc k) := upto_end HU.out (by rw [hke]; exact Or.inl (short_end s))
      clear HU
      subst hke
      go_wp2
      go_ret2
      exact ⟨_, acc, _, rfl, HF.out, hown, hbel⟩

end Go.Proofs.YtoeaobeljljdnaaDoor
