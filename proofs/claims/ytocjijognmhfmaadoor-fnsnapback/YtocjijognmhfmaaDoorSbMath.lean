/- A snapshot's text is read as it was; nothing but a whole one is read. -/
import Derived.Test.YtocjijognmhfmaaDoorKrMath
namespace Go.Proofs.YtocjijognmhfmaaDoor
open Go.RowKit
set_option linter.unusedVariables false

theorem ext_mid (a b c : ByteArray) : (a ++ (b ++ c)).extract a.size (a.size + b.size) = b := by
  apply ba_ext
  rw [ext_data, ByteArray.data_append, ByteArray.data_append, Array.toList_append, Array.toList_append]
  have ha : a.size = a.data.toList.length := by rw [Array.length_toList]; rfl
  have hb : b.size = b.data.toList.length := by rw [Array.length_toList]; rfl
  rw [ha, List.drop_left, show a.data.toList.length + b.size - a.data.toList.length = b.data.toList.length by omega, List.take_left]

theorem ext_zero (a b : ByteArray) : (a ++ b).extract 0 a.size = a := by
  have h := ext_mid ⟨#[]⟩ a b
  have e0 : (⟨#[]⟩ : ByteArray).size = 0 := rfl
  have e1 : (⟨#[]⟩ : ByteArray) ++ (a ++ b) = a ++ b := by apply ba_ext; simp [ByteArray.data_append]
  rw [e0, Nat.zero_add, e1] at h
  exact h

theorem app_nil (a : ByteArray) : a ++ ⟨#[]⟩ = a := by apply ba_ext; simp [ByteArray.data_append]

theorem ext_end (a b : ByteArray) : (a ++ b).extract a.size (a ++ b).size = b := by
  have h := ext_mid a b ⟨#[]⟩
  rw [app_nil] at h
  rw [ByteArray.size_append]
  exact h

theorem snT_yes {y : S_Snap} (h : okS1 y) : snT y = frameOf (hdS y) ++ y.f2 := by unfold snT; rw [if_pos h]

theorem snT_no {y : S_Snap} (h : ¬ okS1 y) : snT y = ⟨#[]⟩ := by unfold snT; rw [if_neg h]

theorem snT_size {y : S_Snap} (h : okS1 y) : (snT y).size = 52 + y.f2.size := by
  rw [snT_yes h, ByteArray.size_append, frameOf_size, hdS_size]

theorem snT_small (y : S_Snap) : (snT y).size ≤ 52 + y.f2.size := by
  by_cases h : okS1 y
  · rw [snT_size h]; exact Nat.le_refl _
  · rw [snT_no h]; exact Nat.zero_le _

theorem hd_of (y : S_Snap) : (frameOf (hdS y) ++ y.f2).extract 8 52 = hdS y := by
  have e : frameOf (hdS y) ++ y.f2 = (strOfNums (beL (hdS y).size 4) ++ strOfNums (beL (fsum (strOfNums (beL (hdS y).size 4)) (hdS y)) 4)) ++ (hdS y ++ y.f2) := by
    unfold frameOf
    rw [ByteArray.append_assoc]
  have h8 : (strOfNums (beL (hdS y).size 4) ++ strOfNums (beL (fsum (strOfNums (beL (hdS y).size 4)) (hdS y)) 4)).size = 8 := by
    rw [ByteArray.size_append, be_size, be_size]
  have h := ext_mid (strOfNums (beL (hdS y).size 4) ++ strOfNums (beL (fsum (strOfNums (beL (hdS y).size 4)) (hdS y)) 4)) (hdS y) y.f2
  rw [← e, h8, hdS_size] at h
  exact h

theorem hd_rd {y : S_Snap} (h : okS1 y) : rd (hdS y) 4 = y.f0 ∧ rd ((hdS y).extract 4 (hdS y).size) 4 = y.f1 := by
  have e : hdS y = strOfNums (beL y.f0 4) ++ (strOfNums (beL y.f1 4) ++ (strOfNums (beL y.f2.size 4) ++ shaOut y.f2)) := by
    unfold hdS hd2 hd1
    rw [ByteArray.append_assoc, ByteArray.append_assoc]
  have h4 : (strOfNums (beL y.f0 4)).size = 4 := be_size _ _
  refine ⟨by rw [e]; exact rd_be y.f0 _ (by have := h.1.1; omega) (by have := h.1.2; omega), ?_⟩
  have h2 := ext_end (strOfNums (beL y.f0 4)) (strOfNums (beL y.f1 4) ++ (strOfNums (beL y.f2.size 4) ++ shaOut y.f2))
  rw [← e, h4] at h2
  rw [h2]
  exact rd_be y.f1 _ (by have := h.2.1.1; omega) (by have := h.2.1.2; omega)

/-- What was written is read as it was. -/
theorem sn_back {y : S_Snap} (h : okS1 y) : rsOk (snT y) ∧ rsN (snT y) 44 = y := by
  have hs := snT_size h
  have hx : (snT y).extract 8 (8 + 44) = hdS y := by rw [snT_yes h]; exact hd_of y
  have hf : (frameOf (hdS y)).size = 52 := by rw [frameOf_size, hdS_size]
  have hd : (snT y).extract (8 + 44) (snT y).size = y.f2 := by
    rw [snT_yes h]
    have h1 := ext_end (frameOf (hdS y)) y.f2
    rw [hf] at h1
    exact h1
  have hn : rsN (snT y) 44 = y := by
    unfold rsN
    rw [hx, hd, (hd_rd h).1, (hd_rd h).2]
  have h44 : rd (snT y) 4 = ((44 : Nat) : Int) := (snT_rd rfl (by omega)).1
  refine ⟨⟨⟨by omega, by omega, h44, by omega, ?_⟩, by rw [hn]⟩, hn⟩
  refine (frame_iff (snT y) 44 h44 (by omega)).1 ?_
  rw [hx]
  have h0 := ext_zero (frameOf (hdS y)) y.f2
  rw [hf, ← snT_yes h] at h0
  exact h0.symm

theorem hd_inj {y z : S_Snap} (hy : okS1 y) (hz : okS1 z) (h : hdS y = hdS z) : y.f2.size = z.f2.size := by
  unfold hdS at h
  have h1 := (app_inj (by rw [hd2_size, hd2_size]) h).1
  unfold hd2 at h1
  have h2 := (app_inj (by rw [hd1_size, hd1_size]) h1).2
  have h3 := be_inj _ _ (by omega) (by have := hy.2.2; omega) (by omega) (by have := hz.2.2; omega) h2
  omega

theorem sn_inj {y z : S_Snap} {a b : ByteArray} (hy : okS1 y) (hz : okS1 z) (h : snT y ++ a = snT z ++ b) : a = b := by
  rw [snT_yes hy, snT_yes hz, ByteArray.append_assoc, ByteArray.append_assoc] at h
  have h1 := app_inj (by rw [frameOf_size, frameOf_size, hdS_size, hdS_size]) h
  have h2 : hdS y = hdS z := by
    have h3 := h1.1
    unfold frameOf at h3
    exact (app_inj (by rw [ByteArray.size_append, ByteArray.size_append, be_size, be_size, be_size, be_size]) h3).2
  exact (app_inj (hd_inj hy hz h2) h1.2).2

theorem sn_part {y : S_Snap} (h : okS1 y) : ¬ rsOk ((snT y).extract 0 ((snT y).size - 1)) := fun hr => by
  have hs := snT_size h
  have hu : ((snT y).extract 0 ((snT y).size - 1)).size = (snT y).size - 1 := by rw [ext_size _ _ _ (by omega)]; omega
  have hz := (snT_rd hr.2 (by omega)).2
  have e := ext_app (snT y) 0 ((snT y).size - 1) (snT y).size (by omega) (by omega)
  have e2 : (snT y).extract 0 (snT y).size = snT y := by
    have := ext_zero (snT y) ⟨#[]⟩
    rw [app_nil] at this
    exact this
  rw [e2, ← hr.2] at e
  have h1 := sn_inj hz h (e.trans (app_nil _).symm)
  have h2 : ((snT y).extract ((snT y).size - 1) (snT y).size).size = 1 := by rw [ext_size _ _ _ (by omega)]; omega
  have h3 := congrArg ByteArray.size h1
  have h4 : (⟨#[]⟩ : ByteArray).size = 0 := rfl
  omega

theorem sn_more {y : S_Snap} (h : okS1 y) : ¬ rsOk (snT y ++ ⟨#[120]⟩) := fun hr => by
  have hs := snT_size h
  have hx : (⟨#[120]⟩ : ByteArray).size = 1 := rfl
  have hu : (snT y ++ ⟨#[120]⟩).size = (snT y).size + 1 := by rw [ByteArray.size_append, hx]
  have hz := (snT_rd hr.2 (by omega)).2
  have h1 := sn_inj hz h ((app_nil _).trans hr.2)
  have h3 := congrArg ByteArray.size h1
  have h4 : (⟨#[]⟩ : ByteArray).size = 0 := rfl
  omega

theorem sn_none : ¬ rsOk ⟨#[]⟩ := fun hr => by
  have h := hr.1.2.2.2.1
  have h4 : (⟨#[]⟩ : ByteArray).size = 0 := rfl
  omega

end Go.Proofs.YtocjijognmhfmaaDoor
