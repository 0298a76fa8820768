/- Plain facts on frames: a length, a sum, a body; no program is named here. -/
import Derived.Laws.BytesArg
import Derived.Laws.Concat
import Derived.Laws.Strings
import Derived.Lib.Strings
import Derived.Test.YthlokfcejojdhaaDoorCrcMath
import Derived.Test.YthlokfcejojdhaaDoorFixMath
import Derived.Test.YthlokfcejojdhaaDoorRdMath
namespace Go.Proofs.YthlokfcejojdhaaDoor

/-- What the first k bytes of s make of c. -/
def cq (c : Int) (s : ByteArray) : Nat → Int
  | 0 => c
  | k + 1 => ci (cx (cq c s k) ((s.data[k]?.getD 0).toNat : Int)) 8

theorem cp_cq (s : ByteArray) : ∀ k, cp s k = cq 4294967295 s k
  | 0 => rfl
  | k + 1 => by simp only [cp, cq, cp_cq s k]

theorem cq_range (c : Int) (h0 : 0 ≤ c) (h1 : c ≤ 4294967295) (s : ByteArray) : ∀ k, 0 ≤ cq c s k ∧ cq c s k ≤ 4294967295
  | 0 => ⟨h0, h1⟩
  | k + 1 => by
    have h := cq_range c h0 h1 s k
    have hb := cbyte_lt (s.data[k]?.getD 0)
    have hx := cx_range (cq c s k) ((s.data[k]?.getD 0).toNat : Int) h.1 h.2 (by omega) (by omega)
    exact ci_range _ hx.1 hx.2 8

theorem cq_succ (c : Int) (s : ByteArray) (k : Nat) (h : k < s.size) : cq c s (k + 1) = ci (cx (cq c s k) ((s[k]).toNat : Int)) 8 := by
  have e : s.data[k]? = some s[k] := by
    rw [Array.getElem?_eq_getElem (by exact h)]; rfl
  simp only [cq, e, Option.getD_some]

theorem app_left (a b : ByteArray) (k : Nat) (h : k < a.size) : (a ++ b).data[k]? = a.data[k]? := by
  rw [ByteArray.data_append, Array.getElem?_append_left (by exact h)]

theorem app_right (a b : ByteArray) (k : Nat) : (a ++ b).data[a.size + k]? = b.data[k]? := by
  rw [ByteArray.data_append, Array.getElem?_append_right (by show a.data.size ≤ a.data.size + k; omega)]
  congr 1
  show a.data.size + k - a.data.size = k
  omega

theorem cq_app1 (c : Int) (a b : ByteArray) : ∀ k, k ≤ a.size → cq c (a ++ b) k = cq c a k
  | 0, _ => rfl
  | k + 1, h => by
    simp only [cq, cq_app1 c a b k (by omega), app_left a b k (by omega)]

theorem cq_app2 (c : Int) (a b : ByteArray) : ∀ k, cq c (a ++ b) (a.size + k) = cq (cq c a a.size) b k
  | 0 => cq_app1 c a b a.size (Nat.le_refl _)
  | k + 1 => by
    rw [show a.size + (k + 1) = (a.size + k) + 1 by omega]
    simp only [cq, cq_app2 c a b k, app_right a b k]

/-- The sum of a length's text and a body. -/
def fsum (h b : ByteArray) : Int := 4294967295 - cq (cq 4294967295 h h.size) b b.size

theorem fsum_range (h b : ByteArray) : 0 ≤ fsum h b ∧ fsum h b ≤ 4294967295 := by
  have h1 := cq_range 4294967295 (by omega) (by omega) h h.size
  have h2 := cq_range _ h1.1 h1.2 b b.size
  unfold fsum; omega

theorem fsum_cp (h b : ByteArray) : 4294967295 - cp (h ++ b) (h ++ b).size = fsum h b := by
  rw [cp_cq, ByteArray.size_append, cq_app2]; rfl

/-- The frame of a body. -/
def frameOf (b : ByteArray) : ByteArray := strOfNums (beL b.size 4) ++ strOfNums (beL (fsum (strOfNums (beL b.size 4)) b) 4) ++ b

theorem be_size (n : Int) (k : Nat) : (strOfNums (beL n k)).size = k := by rw [strOfNums_size, beL_length]

theorem frameOf_size (b : ByteArray) : (frameOf b).size = 8 + b.size := by
  unfold frameOf
  rw [ByteArray.size_append, ByteArray.size_append, be_size, be_size]

theorem fq4 (n : Int) (h0 : 0 ≤ n) (h1 : n ≤ 4294967295) : fq n 4 ≤ 0 := by
  simp only [fq]; omega

/-! ### The length that is read, the length that is told -/

def bt (s : ByteArray) (i : Nat) : Int := ((s.data[i]?.getD 0).toNat : Int)

theorem bt_range (s : ByteArray) (i : Nat) : 0 ≤ bt s i ∧ bt s i ≤ 255 := by
  have := byte_lt (s.data[i]?.getD 0)
  unfold bt; omega

theorem rd4 (s : ByteArray) : rd s 4 = ((bt s 0 * 256 + bt s 1) * 256 + bt s 2) * 256 + bt s 3 := by
  simp only [rd, bt]; omega

theorem rd4_range (s : ByteArray) : 0 ≤ rd s 4 ∧ rd s 4 ≤ 4294967295 := by
  have h0 := bt_range s 0
  have h1 := bt_range s 1
  have h2 := bt_range s 2
  have h3 := bt_range s 3
  rw [rd4]; omega

theorem be4 (n : Int) : beL n 4 = [n / 256 / 256 / 256 % 256, n / 256 / 256 % 256, n / 256 % 256, n % 256] := rfl

theorem be_rd (s : ByteArray) : beL (rd s 4) 4 = [bt s 0, bt s 1, bt s 2, bt s 3] := by
  have h0 := bt_range s 0
  have h1 := bt_range s 1
  have h2 := bt_range s 2
  have h3 := bt_range s 3
  rw [be4, rd4]
  have e0 : (((bt s 0 * 256 + bt s 1) * 256 + bt s 2) * 256 + bt s 3) / 256 / 256 / 256 % 256 = bt s 0 := by omega
  have e1 : (((bt s 0 * 256 + bt s 1) * 256 + bt s 2) * 256 + bt s 3) / 256 / 256 % 256 = bt s 1 := by omega
  have e2 : (((bt s 0 * 256 + bt s 1) * 256 + bt s 2) * 256 + bt s 3) / 256 % 256 = bt s 2 := by omega
  have e3 : (((bt s 0 * 256 + bt s 1) * 256 + bt s 2) * 256 + bt s 3) % 256 = bt s 3 := by omega
  rw [e0, e1, e2, e3]

theorem ba_ext {a b : ByteArray} (h : a.data.toList = b.data.toList) : a = b := by
  cases a; cases b; simp only [ByteArray.mk.injEq]; exact Array.toList_inj.1 h

theorem ext_data (s : ByteArray) (i j : Nat) : (s.extract i j).data.toList = (s.data.toList.drop i).take (j - i) := Lib.extract_data s i j

theorem bt_list (s : ByteArray) (i : Nat) : UInt8.ofNat (bt s i).toNat = s.data.toList[i]?.getD 0 := by
  unfold bt; simp

theorem four (l : List UInt8) (h : 4 ≤ l.length) : [l[0]?.getD 0, l[1]?.getD 0, l[2]?.getD 0, l[3]?.getD 0] = l.take 4 := by
  match l, h with
  | a :: b :: c :: d :: r, _ => rfl

theorem be_rd_text (s : ByteArray) (h : 4 ≤ s.size) : strOfNums (beL (rd s 4) 4) = s.extract 0 4 := by
  apply ba_ext
  rw [ext_data, be_rd]
  show (([bt s 0, bt s 1, bt s 2, bt s 3].map fun n => UInt8.ofNat n.toNat).toArray).toList = _
  simp only [List.map_cons, List.map_nil, bt_list, List.drop_zero, Nat.sub_zero]
  exact four _ (by rw [Array.length_toList]; exact h)

theorem bt_app (a b : ByteArray) (i : Nat) (h : i < a.size) : bt (a ++ b) i = bt a i := by unfold bt; rw [app_left a b i h]

theorem bt_be (n : Int) (i : Nat) (hi : i < 4) : bt (strOfNums (beL n 4)) i = (beL n 4)[i]'(by rw [beL_length]; exact hi) := by
  have hl := beL_length n 4
  unfold bt
  have e : (strOfNums (beL n 4)).data[i]? = some (UInt8.ofNat ((beL n 4)[i]'(by rw [hl]; exact hi)).toNat) := by
    show ((beL n 4).map fun n => UInt8.ofNat n.toNat).toArray[i]? = _
    rw [List.getElem?_toArray, List.getElem?_map, List.getElem?_eq_getElem (by rw [hl]; exact hi)]
    rfl
  rw [e]
  have hr : 0 ≤ (beL n 4)[i]'(by rw [hl]; exact hi) ∧ (beL n 4)[i]'(by rw [hl]; exact hi) < 256 := by
    match i, hi with
    | 0, _ => simp only [be4, List.getElem_cons_zero]; omega
    | 1, _ => simp only [be4, List.getElem_cons_zero, List.getElem_cons_succ]; omega
    | 2, _ => simp only [be4, List.getElem_cons_zero, List.getElem_cons_succ]; omega
    | 3, _ => simp only [be4, List.getElem_cons_zero, List.getElem_cons_succ]; omega
  simp only [Option.getD_some, UInt8.toNat_ofNat']
  omega

theorem rd_be (n : Int) (t : ByteArray) (h0 : 0 ≤ n) (h1 : n ≤ 4294967295) : rd (strOfNums (beL n 4) ++ t) 4 = n := by
  have hs := be_size n 4
  rw [rd4, bt_app _ _ 0 (by omega), bt_app _ _ 1 (by omega), bt_app _ _ 2 (by omega), bt_app _ _ 3 (by omega), bt_be n 0 (by omega), bt_be n 1 (by omega), bt_be n 2 (by omega), bt_be n 3 (by omega)]
  simp only [be4, List.getElem_cons_zero, List.getElem_cons_succ]
  omega

theorem be_inj (a b : Int) (ha0 : 0 ≤ a) (ha1 : a ≤ 4294967295) (hb0 : 0 ≤ b) (hb1 : b ≤ 4294967295) (h : strOfNums (beL a 4) = strOfNums (beL b 4)) : a = b := by
  have e1 := rd_be a ByteArray.empty ha0 ha1
  have e2 := rd_be b ByteArray.empty hb0 hb1
  rw [h] at e1
  omega

end Go.Proofs.YthlokfcejojdhaaDoor
