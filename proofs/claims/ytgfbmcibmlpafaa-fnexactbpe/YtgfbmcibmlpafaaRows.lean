/-
  No cell of these rows narrows 'for every input' (looked for: loops, veiled, ifaces, maps, wideKeys, modest, calm, conditions, laid).
  DERIVED. THE GIVEN ROWS OF THIS SEAT. 5 by the template 'for every input the law returns true; each argument reads behind the call as it read before'; 0 by the template 'total and deterministic' (their statements: YtgfbmcibmlpafaaTotals.lean).
  GIVEN WITH THE SEED: the statements are not yours to turn. If you find one false, say at which input.
  Laid BY PROGRAM, IN A SANDBOX (cutbox-rows.mjs): the forced cells as the released guide's own fill.sh prints them over the translation fc6bfec325ccbc68… (all of the seat's roots in one cut). By AI agents, Wed Nov 11 2026. No macro, syntax, notation, axiom, sorry.
-/
import Derived.Test.YtgfbmcibmlpafaaChecked
import GoSem.Claim
import GoSem.ClaimJoined
import GoSem.ClaimMapViews
import Derived.JoinedTies
import Derived.KernelRfl
namespace Go.Proofs.Ytgfbmcibmlpafaa
/- THE CELL 'sum', in the pinned program and in every row, IS THE sha256 OF THE DUMP (.gsa) THAT YtgfbmcibmlpafaaProg.lean LOADS. Nothing in Lean hashes anything: it is a label: what it is worth is what the hold of that sum in a sandbox is worth. -/
noncomputable def Try.pinned : Pinned := { name := "ytgfbmcibmlpafaa", sum := "fc6bfec325ccbc68dbef49c0ebbb508ad0bcc60b972b490629cecb3455c4b973", checked := Try.checked }
namespace Rows
def none {H : Type} : Left H := { results := [], args := [] }

/-- 'laws.FnExactMergeOnce': WHATEVER THE INPUT: true; the input reads as it did. -/
def fnExactMergeOnceSpec : ChangeSpec := { name := "fnExactMergeOnce", fn := fun _ => fun
  | [d1, d2] => { results := [.lit (.bool true)], args := [d1, d2] }
  | _ => none }
def fnExactMergeOnceRow : OpenClaim := { program := "ytgfbmcibmlpafaa", sum := "fc6bfec325ccbc68dbef49c0ebbb508ad0bcc60b972b490629cecb3455c4b973", func := "loop.example/g00358/laws.FnExactMergeOnce", spec := "fnExactMergeOnce", unfollowed := true, recurses := true, apart := false }
def FnExactMergeOnceSaid : Prop := fnExactMergeOnceRow.holds Try.pinned (OpenSpec.ofChange fnExactMergeOnceSpec)

/-- ITS FALSE NEIGHBOUR: 'it returns false'. Refute it at one input. -/
def fnExactMergeOnceWrong : ChangeSpec := { name := "fnExactMergeOnce", fn := fun _ => fun
  | [d1, d2] => { results := [.lit (.bool false)], args := [d1, d2] }
  | _ => none }
def FnExactMergeOnceWrongFalsely : Prop := fnExactMergeOnceRow.holds Try.pinned (OpenSpec.ofChange fnExactMergeOnceWrong)

/-- 'laws.FnExactStable': WHATEVER THE INPUT: true; the input reads as it did. -/
def fnExactStableSpec : ChangeSpec := { name := "fnExactStable", fn := fun _ => fun
  | [d1, d2] => { results := [.lit (.bool true)], args := [d1, d2] }
  | _ => none }
def fnExactStableRow : OpenClaim := { program := "ytgfbmcibmlpafaa", sum := "fc6bfec325ccbc68dbef49c0ebbb508ad0bcc60b972b490629cecb3455c4b973", func := "loop.example/g00358/laws.FnExactStable", spec := "fnExactStable", unfollowed := true, recurses := true, apart := false }
def FnExactStableSaid : Prop := fnExactStableRow.holds Try.pinned (OpenSpec.ofChange fnExactStableSpec)

/-- ITS FALSE NEIGHBOUR: 'it returns false'. Refute it at one input. -/
def fnExactStableWrong : ChangeSpec := { name := "fnExactStable", fn := fun _ => fun
  | [d1, d2] => { results := [.lit (.bool false)], args := [d1, d2] }
  | _ => none }
def FnExactStableWrongFalsely : Prop := fnExactStableRow.holds Try.pinned (OpenSpec.ofChange fnExactStableWrong)

/-- 'laws.FnExactBpe': WHATEVER THE INPUT: true; the input reads as it did. -/
def fnExactBpeSpec : ChangeSpec := { name := "fnExactBpe", fn := fun _ => fun
  | [d1, d2] => { results := [.lit (.bool true)], args := [d1, d2] }
  | _ => none }
def fnExactBpeRow : OpenClaim := { program := "ytgfbmcibmlpafaa", sum := "fc6bfec325ccbc68dbef49c0ebbb508ad0bcc60b972b490629cecb3455c4b973", func := "loop.example/g00358/laws.FnExactBpe", spec := "fnExactBpe", unfollowed := true, recurses := true, apart := false }
def FnExactBpeSaid : Prop := fnExactBpeRow.holds Try.pinned (OpenSpec.ofChange fnExactBpeSpec)

/-- ITS FALSE NEIGHBOUR: 'it returns false'. Refute it at one input. -/
def fnExactBpeWrong : ChangeSpec := { name := "fnExactBpe", fn := fun _ => fun
  | [d1, d2] => { results := [.lit (.bool false)], args := [d1, d2] }
  | _ => none }
def FnExactBpeWrongFalsely : Prop := fnExactBpeRow.holds Try.pinned (OpenSpec.ofChange fnExactBpeWrong)

/-- 'laws.FnExactDecode': WHATEVER THE INPUT: true; the input reads as it did. -/
def fnExactDecodeSpec : ChangeSpec := { name := "fnExactDecode", fn := fun _ => fun
  | [d1, d2] => { results := [.lit (.bool true)], args := [d1, d2] }
  | _ => none }
def fnExactDecodeRow : OpenClaim := { program := "ytgfbmcibmlpafaa", sum := "fc6bfec325ccbc68dbef49c0ebbb508ad0bcc60b972b490629cecb3455c4b973", func := "loop.example/g00358/laws.FnExactDecode", spec := "fnExactDecode", inPlace := ["internal/abi.NoEscape", "internal/bytealg.MakeNoZero"], apart := false }
def FnExactDecodeSaid : Prop := fnExactDecodeRow.holds Try.pinned (OpenSpec.ofChange fnExactDecodeSpec)

/-- ITS FALSE NEIGHBOUR: 'it returns false'. Refute it at one input. -/
def fnExactDecodeWrong : ChangeSpec := { name := "fnExactDecode", fn := fun _ => fun
  | [d1, d2] => { results := [.lit (.bool false)], args := [d1, d2] }
  | _ => none }
def FnExactDecodeWrongFalsely : Prop := fnExactDecodeRow.holds Try.pinned (OpenSpec.ofChange fnExactDecodeWrong)

/-- 'laws.FnExactEnds': WHATEVER THE INPUT: true; the input reads as it did. -/
def fnExactEndsSpec : ChangeSpec := { name := "fnExactEnds", fn := fun _ => fun
  | [d1, d2] => { results := [.lit (.bool true)], args := [d1, d2] }
  | _ => none }
def fnExactEndsRow : OpenClaim := { program := "ytgfbmcibmlpafaa", sum := "fc6bfec325ccbc68dbef49c0ebbb508ad0bcc60b972b490629cecb3455c4b973", func := "loop.example/g00358/laws.FnExactEnds", spec := "fnExactEnds", apart := false }
def FnExactEndsSaid : Prop := fnExactEndsRow.holds Try.pinned (OpenSpec.ofChange fnExactEndsSpec)

/-- ITS FALSE NEIGHBOUR: 'it returns false'. Refute it at one input. -/
def fnExactEndsWrong : ChangeSpec := { name := "fnExactEnds", fn := fun _ => fun
  | [d1, d2] => { results := [.lit (.bool false)], args := [d1, d2] }
  | _ => none }
def FnExactEndsWrongFalsely : Prop := fnExactEndsRow.holds Try.pinned (OpenSpec.ofChange fnExactEndsWrong)

/- THE SECOND FORM. 'bulk': how many values and letters a reading holds, each counted each time it is reached (what is shared counts as often as it is met; a slice's spare places count too). A statement '..UptoSaid' is the law's where the arguments, and the package variables that the reading takes, are together of bulk at most 1048576: NARROWER than '..Said'. Prove '..Said' where nothing that the law and all that it calls make is longer than what came in: it says more and counts as full. Else prove '..UptoSaid'. A law counts once. -/
mutual
def uptoBulk {H : Type} : DataW H → Nat
  | .lit (.string bytes) => bytes.length + 1
  | .lit _ => 1
  | .nil => 1
  | .ptr d => uptoBulk d + 1
  | .slice elems spare => uptoBulkAll elems + uptoBulkAll spare + 1
  | .agg parts => uptoBulkAll parts + 1
  | .iface _ d => uptoBulk d + 1
  | .map entries => uptoBulkEntries entries + 1
  | .held _ => 1
def uptoBulkAll {H : Type} : List (DataW H) → Nat
  | [] => 0
  | d :: r => uptoBulk d + uptoBulkAll r
def uptoBulkEntries {H : Type} : List (Lit × DataW H) → Nat
  | [] => 0
  | x :: r => uptoBulkEntry x + uptoBulkEntries r
def uptoBulkEntry {H : Type} : Lit × DataW H → Nat
  | (.string bytes, d) => bytes.length + uptoBulk d + 1
  | (_, d) => uptoBulk d + 1
 end
def uptoSmall : (H : Type) → List (DataW H) → Bool := fun _ ds => decide (uptoBulkAll ds ≤ 1048576)
def OpenSpec.upto (s : _root_.Go.ChangeSpec) : _root_.Go.OpenSpec := { _root_.Go.OpenSpec.ofChange s with cond := some uptoSmall }

/-- 'laws.FnExactMergeOnce', WHERE WHAT IT READS IS OF BULK AT MOST 1048576: true; the input reads as it did. -/
def fnExactMergeOnceUptoRow : OpenClaim := { program := "ytgfbmcibmlpafaa", sum := "fc6bfec325ccbc68dbef49c0ebbb508ad0bcc60b972b490629cecb3455c4b973", func := "loop.example/g00358/laws.FnExactMergeOnce", spec := "fnExactMergeOnce", unfollowed := true, recurses := true, apart := false, narrowed := true }
def FnExactMergeOnceUptoSaid : Prop := fnExactMergeOnceUptoRow.holds Try.pinned (OpenSpec.upto fnExactMergeOnceSpec)

/-- 'laws.FnExactStable', WHERE WHAT IT READS IS OF BULK AT MOST 1048576: true; the input reads as it did. -/
def fnExactStableUptoRow : OpenClaim := { program := "ytgfbmcibmlpafaa", sum := "fc6bfec325ccbc68dbef49c0ebbb508ad0bcc60b972b490629cecb3455c4b973", func := "loop.example/g00358/laws.FnExactStable", spec := "fnExactStable", unfollowed := true, recurses := true, apart := false, narrowed := true }
def FnExactStableUptoSaid : Prop := fnExactStableUptoRow.holds Try.pinned (OpenSpec.upto fnExactStableSpec)

/-- 'laws.FnExactBpe', WHERE WHAT IT READS IS OF BULK AT MOST 1048576: true; the input reads as it did. -/
def fnExactBpeUptoRow : OpenClaim := { program := "ytgfbmcibmlpafaa", sum := "fc6bfec325ccbc68dbef49c0ebbb508ad0bcc60b972b490629cecb3455c4b973", func := "loop.example/g00358/laws.FnExactBpe", spec := "fnExactBpe", unfollowed := true, recurses := true, apart := false, narrowed := true }
def FnExactBpeUptoSaid : Prop := fnExactBpeUptoRow.holds Try.pinned (OpenSpec.upto fnExactBpeSpec)

/-- 'laws.FnExactDecode', WHERE WHAT IT READS IS OF BULK AT MOST 1048576: true; the input reads as it did. -/
def fnExactDecodeUptoRow : OpenClaim := { program := "ytgfbmcibmlpafaa", sum := "fc6bfec325ccbc68dbef49c0ebbb508ad0bcc60b972b490629cecb3455c4b973", func := "loop.example/g00358/laws.FnExactDecode", spec := "fnExactDecode", inPlace := ["internal/abi.NoEscape", "internal/bytealg.MakeNoZero"], apart := false, narrowed := true }
def FnExactDecodeUptoSaid : Prop := fnExactDecodeUptoRow.holds Try.pinned (OpenSpec.upto fnExactDecodeSpec)

/-- 'laws.FnExactEnds', WHERE WHAT IT READS IS OF BULK AT MOST 1048576: true; the input reads as it did. -/
def fnExactEndsUptoRow : OpenClaim := { program := "ytgfbmcibmlpafaa", sum := "fc6bfec325ccbc68dbef49c0ebbb508ad0bcc60b972b490629cecb3455c4b973", func := "loop.example/g00358/laws.FnExactEnds", spec := "fnExactEnds", apart := false, narrowed := true }
def FnExactEndsUptoSaid : Prop := fnExactEndsUptoRow.holds Try.pinned (OpenSpec.upto fnExactEndsSpec)

end Rows
end Go.Proofs.Ytgfbmcibmlpafaa
