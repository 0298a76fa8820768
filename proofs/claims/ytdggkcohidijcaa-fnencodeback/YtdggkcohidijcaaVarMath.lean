/- Plain facts on a number told by seven bits a byte, the lowest first; no program is named here. -/
import Derived.Laws.BitsLemmas
import Derived.Laws.Wrap64
namespace Go.Proofs.Ytdggkcohidijcaa

/-- The bytes of n, seven bits each, the lowest first; f bounds their number. -/
def varF : Nat → Int → List Int
  | 0, n => [n]
  | f + 1, n => if 128 ≤ n then (n % 128 + 128) :: varF f (n / 128) else [n]

/-- The bytes of n, seven bits each, the lowest first. -/
def varL (n : Int) : List Int := varF n.toNat n

theorem varF_eq : ∀ (f g : Nat) (n : Int), n.toNat ≤ f → n.toNat ≤ g → varF f n = varF g n
  | 0, 0, _, _, _ => rfl
  | 0, g + 1, n, h, _ => by rw [varF, varF, if_neg (by omega)]
  | f + 1, 0, n, _, h => by rw [varF, varF, if_neg (by omega)]
  | f + 1, g + 1, n, h1, h2 => by
    rw [varF, varF]
    by_cases h : 128 ≤ n
    · rw [if_pos h, if_pos h, varF_eq f g (n / 128) (by omega) (by omega)]
    · rw [if_neg h, if_neg h]

theorem varL_more (n : Int) (h : 128 ≤ n) : varL n = (n % 128 + 128) :: varL (n / 128) := by
  obtain ⟨k, hk⟩ : ∃ k, n.toNat = k + 1 := ⟨n.toNat - 1, by omega⟩
  unfold varL
  rw [hk, varF, if_pos h, varF_eq k (n / 128).toNat (n / 128) (by omega) (Nat.le_refl _)]

theorem varL_last (n : Int) (h : n < 128) : varL n = [n] := by
  unfold varL
  rw [varF_eq n.toNat (n.toNat + 1) n (Nat.le_refl _) (by omega), varF, if_neg (by omega)]

theorem var_step {acc : List Int} {x n : Int} (h : acc ++ varL x = varL n) (hx : 128 ≤ x) : (acc ++ [x % 128 + 128]) ++ varL (x / 128) = varL n := by
  rw [← h, varL_more x hx]; simp

theorem var_end {acc : List Int} {x n : Int} (h : acc ++ varL x = varL n) (hx : x < 128) : acc ++ [x] = varL n := by
  rw [← h, varL_last x hx]

end Go.Proofs.Ytdggkcohidijcaa
