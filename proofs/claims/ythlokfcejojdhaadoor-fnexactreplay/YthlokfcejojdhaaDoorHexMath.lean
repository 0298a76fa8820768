/- Plain facts on bytes told by two signs each; no program is named here. -/
import Derived.Laws.BitsLemmas
import Derived.Laws.Wrap64
import Derived.Test.YthlokfcejojdhaaDoorBlMath
namespace Go.Proofs.YthlokfcejojdhaaDoor

/-- The sign of a number below 16. -/
def hexd (d : Int) : Int := if d < 10 then 48 + d else 87 + d

/-- The sixteen signs. -/
def hexS : ByteArray := ⟨#[48, 49, 50, 51, 52, 53, 54, 55, 56, 57, 97, 98, 99, 100, 101, 102]⟩

theorem hexd_idx (d : Int) (h0 : 0 ≤ d) (h1 : d < 16) (hp : d.toNat < (⟨#[48, 49, 50, 51, 52, 53, 54, 55, 56, 57, 97, 98, 99, 100, 101, 102]⟩ : ByteArray).size) :
    ((((⟨#[48, 49, 50, 51, 52, 53, 54, 55, 56, 57, 97, 98, 99, 100, 101, 102]⟩ : ByteArray)[d.toNat]'hp).toNat : Nat) : Int) = hexd d := by
  obtain ⟨n, rfl⟩ := Int.eq_ofNat_of_zero_le h0
  have hn : n < 16 := by omega
  match n, hn with
  | 0, _ | 1, _ | 2, _ | 3, _ | 4, _ | 5, _ | 6, _ | 7, _ | 8, _ | 9, _ | 10, _ | 11, _ | 12, _ | 13, _ | 14, _ | 15, _ => rfl

/-- The signs of the first k bytes of s. -/
def hexP (s : ByteArray) : Nat → List Int
  | 0 => []
  | k + 1 => hexP s k ++ [hexd (byteAt s k / 16), hexd (byteAt s k % 16)]

theorem hexP_length (s : ByteArray) : ∀ k, (hexP s k).length = 2 * k
  | 0 => rfl
  | k + 1 => by simp [hexP, hexP_length s k]; omega

end Go.Proofs.YthlokfcejojdhaaDoor
