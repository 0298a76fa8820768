/- Plain facts on bodies that are framed one behind the other, and cut off anywhere; no program is named here. -/
import Derived.Test.YtoeaobeljljdnaaDoorFsMath
namespace Go.Proofs.YtoeaobeljljdnaaDoor

/-- Bodies framed one behind the other. -/
def jn : List ByteArray → ByteArray
  | [] => ⟨#[]⟩
  | b :: bs => frameOf b ++ jn bs

theorem ba_assoc (a b c : ByteArray) : a ++ b ++ c = a ++ (b ++ c) := by
  apply ba_ext
  simp [ByteArray.data_append]

theorem ba_nil (a : ByteArray) : a ++ ⟨#[]⟩ = a := by
  apply ba_ext
  simp [ByteArray.data_append]

theorem nil_ba (a : ByteArray) : (⟨#[]⟩ : ByteArray) ++ a = a := by
  apply ba_ext
  simp [ByteArray.data_append]

theorem jn_snoc (bs : List ByteArray) (b : ByteArray) : jn (bs ++ [b]) = jn bs ++ frameOf b := by
  induction bs with
  | nil => simp only [List.nil_append, jn]; rw [ba_nil, nil_ba]
  | cons c bs ih => simp only [List.cons_append, jn, ih]; rw [ba_assoc]

/-- How many bytes the first j frames have. -/
def en (bs : List ByteArray) (j : Nat) : Nat := (jn (bs.take j)).size

theorem en_zero (bs : List ByteArray) : en bs 0 = 0 := rfl

theorem en_cons (b : ByteArray) (bs : List ByteArray) (j : Nat) : en (b :: bs) (j + 1) = (frameOf b).size + en bs j := by
  unfold en
  simp only [List.take_succ_cons, jn, ByteArray.size_append]

theorem en_all (bs : List ByteArray) : en bs bs.length = (jn bs).size := by
  unfold en; rw [List.take_length]

theorem en_snoc (bs : List ByteArray) (b : ByteArray) (j : Nat) (h : j ≤ bs.length) : en (bs ++ [b]) j = en bs j := by
  unfold en; rw [List.take_append_of_le_length h]

/-- How many frames are whole in the first k bytes. -/
def wh : List ByteArray → Nat → Nat
  | [], _ => 0
  | b :: bs, k => if (frameOf b).size ≤ k then wh bs (k - (frameOf b).size) + 1 else 0

theorem wh_le : ∀ (bs : List ByteArray) (k : Nat), wh bs k ≤ bs.length
  | [], _ => Nat.le_refl _
  | b :: bs, k => by
    simp only [wh, List.length_cons]
    split
    · have := wh_le bs (k - (frameOf b).size); omega
    · omega

theorem wh_iff : ∀ (bs : List ByteArray) (k j : Nat), j < wh bs k ↔ j < bs.length ∧ en bs (j + 1) ≤ k
  | [], k, j => by simp [wh]
  | b :: bs, k, 0 => by
    simp only [wh, en_cons, en_zero, List.length_cons]
    split
    · constructor
      · intro _; omega
      · intro _; omega
    · constructor
      · intro h; omega
      · intro h; omega
  | b :: bs, k, j + 1 => by
    simp only [wh, en_cons, List.length_cons]
    split
    · have ih := wh_iff bs (k - (frameOf b).size) j
      constructor
      · intro h
        have := ih.1 (by omega)
        have e := en_cons b bs j
        omega
      · intro h
        have := ih.2 (by omega)
        omega
    · constructor
      · intro h; omega
      · intro h
        omega

theorem cut_app (a b : ByteArray) (k : Nat) (h : a.size ≤ k) : (a ++ b).extract 0 k = a ++ b.extract 0 (k - a.size) := by
  apply ba_ext
  have hl : a.data.toList.length = a.size := by rw [Array.length_toList]; rfl
  rw [ext_data, ByteArray.data_append, ByteArray.data_append, Array.toList_append, Array.toList_append, ext_data]
  simp only [List.drop_zero, Nat.sub_zero]
  rw [List.take_append, List.take_of_length_le (by omega), hl]

theorem drop_app (a b : ByteArray) : (a ++ b).extract a.size (a ++ b).size = b := by
  apply ba_ext
  have hl : a.data.toList.length = a.size := by rw [Array.length_toList]; rfl
  have hb : b.data.toList.length = b.size := by rw [Array.length_toList]; rfl
  rw [ext_data, ByteArray.data_append, Array.toList_append, ByteArray.size_append, ← hl, List.drop_left, List.take_of_length_le (by omega)]

theorem mid_app (a b c : ByteArray) : (a ++ b ++ c).extract a.size (a.size + b.size) = b := by
  apply ba_ext
  have hl : a.data.toList.length = a.size := by rw [Array.length_toList]; rfl
  have hb : b.data.toList.length = b.size := by rw [Array.length_toList]; rfl
  rw [ba_assoc, ext_data, ByteArray.data_append, Array.toList_append, ← hl, List.drop_left, ByteArray.data_append, Array.toList_append]
  have e : a.data.toList.length + b.size - a.data.toList.length = b.data.toList.length := by omega
  rw [e, List.take_left]

theorem frame_cut (b r : ByteArray) : (frameOf b ++ r).extract 8 (8 + b.size) = b := by
  have h := mid_app (strOfNums (beL b.size 4) ++ strOfNums (beL (fsum (strOfNums (beL b.size 4)) b) 4)) b r
  have e : (strOfNums (beL b.size 4) ++ strOfNums (beL (fsum (strOfNums (beL b.size 4)) b) 4)).size = 8 := by
    rw [ByteArray.size_append, be_size, be_size]
  rw [e] at h
  exact h

theorem frame_rd (b r : ByteArray) (h : b.size ≤ 2000) : rd (frameOf b ++ r) 4 = (b.size : Int) := by
  unfold frameOf
  rw [ba_assoc, ba_assoc]
  exact rd_be _ _ (by omega) (by omega)

theorem frame_ok (b r : ByteArray) (h1 : 1 ≤ b.size) (h2 : b.size ≤ 2000) : UOk (frameOf b ++ r) b.size := by
  have hz := frameOf_size b
  have hr := frame_rd b r h2
  have hs : 8 + b.size ≤ (frameOf b ++ r).size := by rw [ByteArray.size_append]; omega
  refine ⟨h1, h2, hr, hs, (frame_iff _ _ hr hs).1 ?_⟩
  rw [frame_cut]
  have := cut_app (frameOf b) r (8 + b.size) (by omega)
  rw [this, hz, Nat.sub_self]
  have e : r.extract 0 0 = ⟨#[]⟩ := by
    apply ba_ext
    rw [ext_data]
    simp
  rw [e, ba_nil]

theorem short_cut (b r : ByteArray) (k : Nat) (h1 : 1 ≤ b.size) (h2 : b.size ≤ 2000) (hk : k < 8 + b.size) : UShort ((frameOf b ++ r).extract 0 k) := by
  have hz := frameOf_size b
  have hs : ((frameOf b ++ r).extract 0 k).size = k := by rw [ext_size _ _ _ (by rw [ByteArray.size_append]; omega)]; omega
  by_cases h4 : k < 4
  · left; omega
  · right
    have e : rd ((frameOf b ++ r).extract 0 k) 4 = (b.size : Int) := by
      unfold frameOf
      rw [ba_assoc, ba_assoc, cut_app _ _ _ (by rw [be_size]; omega)]
      exact rd_be _ _ (by omega) (by omega)
    rw [e, hs]
    omega

theorem frs_cut : ∀ (bs : List ByteArray) (k : Nat), (∀ b ∈ bs, 1 ≤ b.size ∧ b.size ≤ 2000) → Frs ((jn bs).extract 0 k) (bs.take (wh bs k)) (en bs (wh bs k))
  | [], k, _ => by
    refine Frs.stop _ (.inl (.inl ?_))
    show ((⟨#[]⟩ : ByteArray).extract 0 k).size < 4
    simp
    show min k 0 < 4
    omega
  | b :: bs, k, h => by
    obtain ⟨h1, h2⟩ := h b (by simp)
    have hz := frameOf_size b
    by_cases hk : (frameOf b).size ≤ k
    · have ih := frs_cut bs (k - (frameOf b).size) (fun c hc => h c (by simp [hc]))
      have e : wh (b :: bs) k = wh bs (k - (frameOf b).size) + 1 := by simp only [wh]; rw [if_pos hk]
      rw [e, en_cons, List.take_succ_cons, hz]
      simp only [jn]
      rw [cut_app _ _ _ hk, hz]
      rw [hz] at ih
      have hd := drop_app (frameOf b) ((jn bs).extract 0 (k - (8 + b.size)))
      rw [hz] at hd
      have := Frs.more (frameOf b ++ (jn bs).extract 0 (k - (8 + b.size))) b.size _ _ (frame_ok b _ h1 h2) (by rw [hd]; exact ih)
      rw [frame_cut] at this
      exact this
    · have e : wh (b :: bs) k = 0 := by simp only [wh]; rw [if_neg hk]
      rw [e]
      exact Frs.stop _ (.inl (short_cut b (jn bs) k h1 h2 (by omega)))

end Go.Proofs.YtoeaobeljljdnaaDoor
