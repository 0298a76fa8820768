/- Plain facts on the marks that the exact laws set; no program is named here. -/
import Derived.Laws.BytesArg
namespace Go.Proofs.YtmknplpcpmkhiaaGreat

/-- The digits of a number above 0. -/
def md : Nat → Int → List Int
  | 0, _ => []
  | f + 1, n => if n ≤ 0 then [] else md f (n / 10) ++ [48 + n % 10]

theorem md_eq : ∀ (f g : Nat) (n : Int), n.toNat ≤ f → n.toNat ≤ g → md f n = md g n
  | 0, 0, _, _, _ => rfl
  | 0, g + 1, n, hf, _ => by simp only [md]; rw [if_pos (by omega)]
  | f + 1, 0, n, _, hg => by simp only [md]; rw [if_pos (by omega)]
  | f + 1, g + 1, n, hf, hg => by
    simp only [md]
    by_cases h : n ≤ 0
    · rw [if_pos h, if_pos h]
    · rw [if_neg h, if_neg h, md_eq f g (n / 10) (by omega) (by omega)]

/-- The digits of n. -/
def mD (n : Int) : List Int := md n.toNat n

theorem mD_zero (n : Int) (h : n ≤ 0) : mD n = [] := by
  unfold mD
  have : n.toNat = 0 := by omega
  rw [this]; rfl

theorem mD_more (n : Int) (h : 0 < n) : mD n = mD (n / 10) ++ [48 + n % 10] := by
  obtain ⟨k, hk⟩ : ∃ k, n.toNat = k + 1 := ⟨n.toNat - 1, by omega⟩
  unfold mD
  rw [hk]
  simp only [md]
  rw [if_neg (by omega), md_eq k (n / 10).toNat (n / 10) (by omega) (Nat.le_refl _)]

theorem md_len : ∀ (f : Nat) (n : Int), (md f n).length ≤ f
  | 0, _ => by simp [md]
  | f + 1, n => by
    simp only [md]
    split
    · simp
    · have := md_len f (n / 10)
      simp; omega

theorem mD_len (n : Int) : (mD n).length ≤ n.toNat := md_len _ _

/-- The mark of a number. -/
def mt (n : Int) : ByteArray := strOfNums (109 :: mD n)

end Go.Proofs.YtmknplpcpmkhiaaGreat
