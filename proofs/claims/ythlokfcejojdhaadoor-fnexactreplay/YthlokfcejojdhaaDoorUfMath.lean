/- Plain facts on what stands ahead in a text: a frame, too little, or none; no program is named here. -/
import Derived.Test.YthlokfcejojdhaaDoorFrMath
namespace Go.Proofs.YthlokfcejojdhaaDoor

def UShort (s : ByteArray) : Prop := s.size < 4 ∨ (1 ≤ rd s 4 ∧ rd s 4 ≤ 2000 ∧ (s.size : Int) < 8 + rd s 4)

def USum (s : ByteArray) (n : Nat) : Prop := rd (s.extract 4 s.size) 4 = fsum (s.extract 0 4) (s.extract 8 (8 + n))

def UBad (s : ByteArray) : Prop := 4 ≤ s.size ∧ ((rd s 4 = 0 ∨ 2000 < rd s 4) ∨ ∃ n : Nat, 1 ≤ n ∧ n ≤ 2000 ∧ rd s 4 = (n : Int) ∧ 8 + n ≤ s.size ∧ ¬ USum s n)

def UOk (s : ByteArray) (n : Nat) : Prop := 1 ≤ n ∧ n ≤ 2000 ∧ rd s 4 = (n : Int) ∧ 8 + n ≤ s.size ∧ USum s n

theorem u_cases (s : ByteArray) : UShort s ∨ UBad s ∨ ∃ n, UOk s n := by
  obtain ⟨r0, r1⟩ := rd4_range s
  by_cases h4 : s.size < 4
  · exact .inl (.inl h4)
  · by_cases hz : rd s 4 = 0 ∨ 2000 < rd s 4
    · exact .inr (.inl ⟨by omega, .inl hz⟩)
    · by_cases hs : (s.size : Int) < 8 + rd s 4
      · exact .inl (.inr ⟨by omega, by omega, hs⟩)
      · obtain ⟨n, hn⟩ := Int.eq_ofNat_of_zero_le r0
        by_cases hu : USum s n
        · exact .inr (.inr ⟨n, by omega, by omega, hn, by omega, hu⟩)
        · exact .inr (.inl ⟨by omega, .inr ⟨n, by omega, by omega, hn, by omega, hu⟩⟩)

theorem ext_app (s : ByteArray) (i j k : Nat) (h : i ≤ j) (hk : j ≤ k) : s.extract i j ++ s.extract j k = s.extract i k := by
  apply ba_ext
  rw [ByteArray.data_append, Array.toList_append, ext_data, ext_data, ext_data]
  have e1 : k - i = (j - i) + (k - j) := by omega
  have e2 : s.data.toList.drop j = (s.data.toList.drop i).drop (j - i) := by rw [List.drop_drop]; congr 1; omega
  rw [e1, e2, List.take_add]

theorem ext_ext (s : ByteArray) (i j k : Nat) (h : i + k ≤ s.size) : (s.extract i s.size).extract j k = s.extract (i + j) (i + k) := by
  apply ba_ext
  rw [ext_data, ext_data, ext_data, List.drop_take, List.take_take, List.drop_drop]
  congr 1
  omega

theorem ext_tail (s : ByteArray) (i j : Nat) (h : i + j ≤ s.size) : (s.extract i s.size).extract j (s.extract i s.size).size = s.extract (i + j) s.size := by
  have e : (s.extract i s.size).size = s.size - i := by simp
  rw [e, ext_ext s i j (s.size - i) (by omega)]
  congr 1
  omega

theorem ext_size (s : ByteArray) (i j : Nat) (h : j ≤ s.size) : (s.extract i j).size = j - i := by simp; omega

theorem app_inj {a b c d : ByteArray} (hs : a.size = c.size) (h : a ++ b = c ++ d) : a = c ∧ b = d := by
  have h1 : a.data.toList ++ b.data.toList = c.data.toList ++ d.data.toList := by
    have := congrArg (fun x => x.data.toList) h
    simpa [ByteArray.data_append] using this
  have h2 := List.append_inj h1 (by rw [Array.length_toList, Array.length_toList]; exact hs)
  exact ⟨ba_ext h2.1, ba_ext h2.2⟩

theorem frame_iff (s : ByteArray) (n : Nat) (hn : rd s 4 = (n : Int)) (hs : 8 + n ≤ s.size) :
    frameOf (s.extract 8 (8 + n)) = s.extract 0 (8 + n) ↔ USum s n := by
  have hb : (s.extract 8 (8 + n)).size = n := by rw [ext_size _ _ _ hs]; omega
  have hH : strOfNums (beL (n : Int) 4) = s.extract 0 4 := by rw [← hn]; exact be_rd_text s (by omega)
  have hT : (s.extract 4 s.size).size = s.size - 4 := by simp
  have hC : strOfNums (beL (rd (s.extract 4 s.size) 4) 4) = s.extract 4 8 := by
    rw [be_rd_text _ (by omega), ext_ext s 4 0 4 (by omega)]
  have hcut : s.extract 0 (8 + n) = s.extract 0 4 ++ s.extract 4 8 ++ s.extract 8 (8 + n) := by
    rw [ext_app s 0 4 8 (by omega) (by omega), ext_app s 0 8 (8 + n) (by omega) (by omega)]
  unfold frameOf
  rw [hb, hH, hcut]
  have f := fsum_range (s.extract 0 4) (s.extract 8 (8 + n))
  have r := rd4_range (s.extract 4 s.size)
  have z1 : (s.extract 0 4).size = 4 := by rw [ext_size _ _ _ (by omega)]
  have z2 : (s.extract 4 8).size = 4 := by rw [ext_size _ _ _ (by omega)]
  have z3 := be_size (fsum (s.extract 0 4) (s.extract 8 (8 + n))) 4
  constructor
  · intro h
    have h1 := app_inj (by rw [ByteArray.size_append, ByteArray.size_append, z3, z2]) h
    have h2 := app_inj rfl h1.1
    rw [← hC] at h2
    exact (be_inj _ _ f.1 f.2 r.1 r.2 h2.2).symm
  · intro h
    unfold USum at h
    rw [← h, hC]

theorem beq_ba (a b : ByteArray) : (a.toList == b.toList) = decide (a = b) := by
  by_cases h : a = b
  · subst h; simp
  · have : a.toList ≠ b.toList := fun e => h (by rw [ByteArray.toList_eq, ByteArray.toList_eq] at e; exact ba_ext e)
    simp [h, this]

theorem frame_beq_ok (s : ByteArray) (n : Nat) (hn : rd s 4 = (n : Int)) (hs : 8 + n ≤ s.size) (hu : USum s n) :
    ((frameOf (s.extract 8 (8 + n))).toList == (s.extract 0 (8 + n)).toList) = true := by
  rw [beq_ba, (frame_iff s n hn hs).2 hu]; simp

theorem frame_beq_no (s : ByteArray) (n : Nat) (hn : rd s 4 = (n : Int)) (hs : 8 + n ≤ s.size) (hu : ¬ USum s n) :
    ((frameOf (s.extract 8 (8 + n))).toList == (s.extract 0 (8 + n)).toList) = false := by
  rw [beq_ba]; exact decide_eq_false (fun h => hu ((frame_iff s n hn hs).1 h))

end Go.Proofs.YthlokfcejojdhaaDoor
