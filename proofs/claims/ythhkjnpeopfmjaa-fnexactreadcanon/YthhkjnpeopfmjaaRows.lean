/-
  No cell of these rows narrows 'for every input' (looked for: loops, veiled, ifaces, maps, wideKeys, modest, calm, conditions, laid).
  DERIVED. THE GIVEN ROWS OF THIS SEAT. 5 by the template 'for every input the law returns true; each argument reads behind the call as it read before'; 0 by the template 'total and deterministic' (their statements: YthhkjnpeopfmjaaTotals.lean).
  GIVEN WITH THE SEED: the statements are not yours to turn. If you find one false, say at which input.
  Laid BY PROGRAM, IN A SANDBOX (cutbox-rows.mjs): the forced cells as the released guide's own fill.sh prints them over the translation 76376d275e2ae76c… (all of the seat's roots in one cut). By AI agents, Wed Nov 11 2026. No macro, syntax, notation, axiom, sorry.
-/
import Derived.Test.YthhkjnpeopfmjaaChecked
import GoSem.Claim
import GoSem.ClaimJoined
import GoSem.ClaimMapViews
import Derived.JoinedTies
import Derived.KernelRfl
namespace Go.Proofs.Ythhkjnpeopfmjaa
/- THE CELL 'sum', in the pinned program and in every row, IS THE sha256 OF THE DUMP (.gsa) THAT YthhkjnpeopfmjaaProg.lean LOADS. Nothing in Lean hashes anything: it is a label: what it is worth is what the hold of that sum in a sandbox is worth. -/
noncomputable def Try.pinned : Pinned := { name := "ythhkjnpeopfmjaa", sum := "76376d275e2ae76c63d6cd4b00133b8ca3ed931a4d401419d5ac206a0cd220d3", checked := Try.checked }
namespace Rows
def none {H : Type} : Left H := { results := [], args := [] }

/-- 'laws.FnExactVocabOk': WHATEVER THE INPUT: true; the input reads as it did. -/
def fnExactVocabOkSpec : ChangeSpec := { name := "fnExactVocabOk", fn := fun _ => fun
  | [d] => { results := [.lit (.bool true)], args := [d] }
  | _ => none }
def fnExactVocabOkRow : OpenClaim := { program := "ythhkjnpeopfmjaa", sum := "76376d275e2ae76c63d6cd4b00133b8ca3ed931a4d401419d5ac206a0cd220d3", func := "loop.example/g00358/laws.FnExactVocabOk", spec := "fnExactVocabOk", apart := false }
def FnExactVocabOkSaid : Prop := fnExactVocabOkRow.holds Try.pinned (OpenSpec.ofChange fnExactVocabOkSpec)

/-- ITS FALSE NEIGHBOUR: 'it returns false'. Refute it at one input. -/
def fnExactVocabOkWrong : ChangeSpec := { name := "fnExactVocabOk", fn := fun _ => fun
  | [d] => { results := [.lit (.bool false)], args := [d] }
  | _ => none }
def FnExactVocabOkWrongFalsely : Prop := fnExactVocabOkRow.holds Try.pinned (OpenSpec.ofChange fnExactVocabOkWrong)

/-- 'laws.FnExactToken': WHATEVER THE INPUT: true; the input reads as it did. -/
def fnExactTokenSpec : ChangeSpec := { name := "fnExactToken", fn := fun _ => fun
  | [d1, d2] => { results := [.lit (.bool true)], args := [d1, d2] }
  | _ => none }
def fnExactTokenRow : OpenClaim := { program := "ythhkjnpeopfmjaa", sum := "76376d275e2ae76c63d6cd4b00133b8ca3ed931a4d401419d5ac206a0cd220d3", func := "loop.example/g00358/laws.FnExactToken", spec := "fnExactToken", apart := false }
def FnExactTokenSaid : Prop := fnExactTokenRow.holds Try.pinned (OpenSpec.ofChange fnExactTokenSpec)

/-- ITS FALSE NEIGHBOUR: 'it returns false'. Refute it at one input. -/
def fnExactTokenWrong : ChangeSpec := { name := "fnExactToken", fn := fun _ => fun
  | [d1, d2] => { results := [.lit (.bool false)], args := [d1, d2] }
  | _ => none }
def FnExactTokenWrongFalsely : Prop := fnExactTokenRow.holds Try.pinned (OpenSpec.ofChange fnExactTokenWrong)

/-- 'laws.FnExactRank': WHATEVER THE INPUT: true; the input reads as it did. -/
def fnExactRankSpec : ChangeSpec := { name := "fnExactRank", fn := fun _ => fun
  | [d1, d2, d3] => { results := [.lit (.bool true)], args := [d1, d2, d3] }
  | _ => none }
def fnExactRankRow : OpenClaim := { program := "ythhkjnpeopfmjaa", sum := "76376d275e2ae76c63d6cd4b00133b8ca3ed931a4d401419d5ac206a0cd220d3", func := "loop.example/g00358/laws.FnExactRank", spec := "fnExactRank", apart := false }
def FnExactRankSaid : Prop := fnExactRankRow.holds Try.pinned (OpenSpec.ofChange fnExactRankSpec)

/-- ITS FALSE NEIGHBOUR: 'it returns false'. Refute it at one input. -/
def fnExactRankWrong : ChangeSpec := { name := "fnExactRank", fn := fun _ => fun
  | [d1, d2, d3] => { results := [.lit (.bool false)], args := [d1, d2, d3] }
  | _ => none }
def FnExactRankWrongFalsely : Prop := fnExactRankRow.holds Try.pinned (OpenSpec.ofChange fnExactRankWrong)

/-- 'laws.FnExactCanon': WHATEVER THE INPUT: true; the input reads as it did. -/
def fnExactCanonSpec : ChangeSpec := { name := "fnExactCanon", fn := fun _ => fun
  | [d] => { results := [.lit (.bool true)], args := [d] }
  | _ => none }
def fnExactCanonRow : OpenClaim := { program := "ythhkjnpeopfmjaa", sum := "76376d275e2ae76c63d6cd4b00133b8ca3ed931a4d401419d5ac206a0cd220d3", func := "loop.example/g00358/laws.FnExactCanon", spec := "fnExactCanon", inPlace := ["internal/abi.NoEscape"], apart := false }
def FnExactCanonSaid : Prop := fnExactCanonRow.holds Try.pinned (OpenSpec.ofChange fnExactCanonSpec)

/-- ITS FALSE NEIGHBOUR: 'it returns false'. Refute it at one input. -/
def fnExactCanonWrong : ChangeSpec := { name := "fnExactCanon", fn := fun _ => fun
  | [d] => { results := [.lit (.bool false)], args := [d] }
  | _ => none }
def FnExactCanonWrongFalsely : Prop := fnExactCanonRow.holds Try.pinned (OpenSpec.ofChange fnExactCanonWrong)

/-- 'laws.FnExactReadCanon': WHATEVER THE INPUT: true; the input reads as it did. -/
def fnExactReadCanonSpec : ChangeSpec := { name := "fnExactReadCanon", fn := fun _ => fun
  | [d] => { results := [.lit (.bool true)], args := [d] }
  | _ => none }
def fnExactReadCanonRow : OpenClaim := { program := "ythhkjnpeopfmjaa", sum := "76376d275e2ae76c63d6cd4b00133b8ca3ed931a4d401419d5ac206a0cd220d3", func := "loop.example/g00358/laws.FnExactReadCanon", spec := "fnExactReadCanon", apart := false }
def FnExactReadCanonSaid : Prop := fnExactReadCanonRow.holds Try.pinned (OpenSpec.ofChange fnExactReadCanonSpec)

/-- ITS FALSE NEIGHBOUR: 'it returns false'. Refute it at one input. -/
def fnExactReadCanonWrong : ChangeSpec := { name := "fnExactReadCanon", fn := fun _ => fun
  | [d] => { results := [.lit (.bool false)], args := [d] }
  | _ => none }
def FnExactReadCanonWrongFalsely : Prop := fnExactReadCanonRow.holds Try.pinned (OpenSpec.ofChange fnExactReadCanonWrong)

/- THE SECOND FORM. 'bulk': how many values and letters a reading holds, each counted each time it is reached (what is shared counts as often as it is met; a slice's spare places count too). A statement '..UptoSaid' is the law's where the arguments, and the package variables that the reading takes, are together of bulk at most 1048576: NARROWER than '..Said'. Prove '..Said' where nothing that the law and all that it calls make is longer than what came in: it says more and counts as full. Else prove '..UptoSaid'. A law counts once. -/
mutual
def uptoBulk {H : Type} : DataW H → Nat
  | .lit (.string bytes) => bytes.length + 1
  | .lit _ => 1
  | .nil => 1
  | .ptr d => uptoBulk d + 1
  | .slice elems spare => uptoBulkAll elems + uptoBulkAll spare + 1
  | .agg parts => uptoBulkAll parts + 1
  | .iface _ d => uptoBulk d + 1
  | .map entries => uptoBulkEntries entries + 1
  | .held _ => 1
def uptoBulkAll {H : Type} : List (DataW H) → Nat
  | [] => 0
  | d :: r => uptoBulk d + uptoBulkAll r
def uptoBulkEntries {H : Type} : List (Lit × DataW H) → Nat
  | [] => 0
  | x :: r => uptoBulkEntry x + uptoBulkEntries r
def uptoBulkEntry {H : Type} : Lit × DataW H → Nat
  | (.string bytes, d) => bytes.length + uptoBulk d + 1
  | (_, d) => uptoBulk d + 1
 end
def uptoSmall : (H : Type) → List (DataW H) → Bool := fun _ ds => decide (uptoBulkAll ds ≤ 1048576)
def OpenSpec.upto (s : _root_.Go.ChangeSpec) : _root_.Go.OpenSpec := { _root_.Go.OpenSpec.ofChange s with cond := some uptoSmall }

/-- 'laws.FnExactVocabOk', WHERE WHAT IT READS IS OF BULK AT MOST 1048576: true; the input reads as it did. -/
def fnExactVocabOkUptoRow : OpenClaim := { program := "ythhkjnpeopfmjaa", sum := "76376d275e2ae76c63d6cd4b00133b8ca3ed931a4d401419d5ac206a0cd220d3", func := "loop.example/g00358/laws.FnExactVocabOk", spec := "fnExactVocabOk", apart := false, narrowed := true }
def FnExactVocabOkUptoSaid : Prop := fnExactVocabOkUptoRow.holds Try.pinned (OpenSpec.upto fnExactVocabOkSpec)

/-- 'laws.FnExactToken', WHERE WHAT IT READS IS OF BULK AT MOST 1048576: true; the input reads as it did. -/
def fnExactTokenUptoRow : OpenClaim := { program := "ythhkjnpeopfmjaa", sum := "76376d275e2ae76c63d6cd4b00133b8ca3ed931a4d401419d5ac206a0cd220d3", func := "loop.example/g00358/laws.FnExactToken", spec := "fnExactToken", apart := false, narrowed := true }
def FnExactTokenUptoSaid : Prop := fnExactTokenUptoRow.holds Try.pinned (OpenSpec.upto fnExactTokenSpec)

/-- 'laws.FnExactRank', WHERE WHAT IT READS IS OF BULK AT MOST 1048576: true; the input reads as it did. -/
def fnExactRankUptoRow : OpenClaim := { program := "ythhkjnpeopfmjaa", sum := "76376d275e2ae76c63d6cd4b00133b8ca3ed931a4d401419d5ac206a0cd220d3", func := "loop.example/g00358/laws.FnExactRank", spec := "fnExactRank", apart := false, narrowed := true }
def FnExactRankUptoSaid : Prop := fnExactRankUptoRow.holds Try.pinned (OpenSpec.upto fnExactRankSpec)

/-- 'laws.FnExactCanon', WHERE WHAT IT READS IS OF BULK AT MOST 1048576: true; the input reads as it did. -/
def fnExactCanonUptoRow : OpenClaim := { program := "ythhkjnpeopfmjaa", sum := "76376d275e2ae76c63d6cd4b00133b8ca3ed931a4d401419d5ac206a0cd220d3", func := "loop.example/g00358/laws.FnExactCanon", spec := "fnExactCanon", inPlace := ["internal/abi.NoEscape"], apart := false, narrowed := true }
def FnExactCanonUptoSaid : Prop := fnExactCanonUptoRow.holds Try.pinned (OpenSpec.upto fnExactCanonSpec)

/-- 'laws.FnExactReadCanon', WHERE WHAT IT READS IS OF BULK AT MOST 1048576: true; the input reads as it did. -/
def fnExactReadCanonUptoRow : OpenClaim := { program := "ythhkjnpeopfmjaa", sum := "76376d275e2ae76c63d6cd4b00133b8ca3ed931a4d401419d5ac206a0cd220d3", func := "loop.example/g00358/laws.FnExactReadCanon", spec := "fnExactReadCanon", apart := false, narrowed := true }
def FnExactReadCanonUptoSaid : Prop := fnExactReadCanonUptoRow.holds Try.pinned (OpenSpec.upto fnExactReadCanonSpec)

end Rows
end Go.Proofs.Ythhkjnpeopfmjaa
