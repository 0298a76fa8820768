/-
  No cell of these rows narrows 'for every input' (looked for: loops, veiled, ifaces, maps, wideKeys, modest, calm, conditions, laid).
  DERIVED. THE GIVEN ROWS OF THIS SEAT. 4 by the template 'for every input the law returns true; each argument reads behind the call as it read before'; 0 by the template 'total and deterministic' (their statements: YtehkfijghpddfaaTotals.lean).
  GIVEN WITH THE SEED: the statements are not yours to turn. If you find one false, say at which input.
  Laid BY PROGRAM, IN A SANDBOX (cutbox-rows.mjs): the forced cells as the released guide's own fill.sh prints them over the translation bfefdb4c5237d1ae… (all of the seat's roots in one cut). By AI agents, Wed Nov 11 2026. No macro, syntax, notation, axiom, sorry.
-/
import Derived.Test.YtehkfijghpddfaaChecked
import GoSem.Claim
import GoSem.ClaimJoined
import GoSem.ClaimMapViews
import Derived.JoinedTies
import Derived.KernelRfl
namespace Go.Proofs.Ytehkfijghpddfaa
/- THE CELL 'sum', in the pinned program and in every row, IS THE sha256 OF THE DUMP (.gsa) THAT YtehkfijghpddfaaProg.lean LOADS. Nothing in Lean hashes anything: it is a label: what it is worth is what the hold of that sum in a sandbox is worth. -/
noncomputable def Try.pinned : Pinned := { name := "ytehkfijghpddfaa", sum := "bfefdb4c5237d1ae654978673d17ea2c24b324402c8b7f51f3b46a74295693f5", checked := Try.checked }
namespace Rows
def none {H : Type} : Left H := { results := [], args := [] }

/-- 'laws.FnChanges': WHATEVER THE INPUT: true; the input reads as it did. -/
def fnChangesSpec : ChangeSpec := { name := "fnChanges", fn := fun _ => fun
  | [d] => { results := [.lit (.bool true)], args := [d] }
  | _ => none }
def fnChangesRow : OpenClaim := { program := "ytehkfijghpddfaa", sum := "bfefdb4c5237d1ae654978673d17ea2c24b324402c8b7f51f3b46a74295693f5", func := "loop.example/g00358/laws.FnChanges", spec := "fnChanges", unfollowed := true, recurses := true, apart := false }
def FnChangesSaid : Prop := fnChangesRow.holds Try.pinned (OpenSpec.ofChange fnChangesSpec)

/-- ITS FALSE NEIGHBOUR: 'it returns false'. Refute it at one input. -/
def fnChangesWrong : ChangeSpec := { name := "fnChanges", fn := fun _ => fun
  | [d] => { results := [.lit (.bool false)], args := [d] }
  | _ => none }
def FnChangesWrongFalsely : Prop := fnChangesRow.holds Try.pinned (OpenSpec.ofChange fnChangesWrong)

/-- 'laws.FnExactWalOk': WHATEVER THE INPUT: true; the input reads as it did. -/
def fnExactWalOkSpec : ChangeSpec := { name := "fnExactWalOk", fn := fun _ => fun
  | [d] => { results := [.lit (.bool true)], args := [d] }
  | _ => none }
def fnExactWalOkRow : OpenClaim := { program := "ytehkfijghpddfaa", sum := "bfefdb4c5237d1ae654978673d17ea2c24b324402c8b7f51f3b46a74295693f5", func := "loop.example/g00358/laws.FnExactWalOk", spec := "fnExactWalOk", apart := false }
def FnExactWalOkSaid : Prop := fnExactWalOkRow.holds Try.pinned (OpenSpec.ofChange fnExactWalOkSpec)

/-- ITS FALSE NEIGHBOUR: 'it returns false'. Refute it at one input. -/
def fnExactWalOkWrong : ChangeSpec := { name := "fnExactWalOk", fn := fun _ => fun
  | [d] => { results := [.lit (.bool false)], args := [d] }
  | _ => none }
def FnExactWalOkWrongFalsely : Prop := fnExactWalOkRow.holds Try.pinned (OpenSpec.ofChange fnExactWalOkWrong)

/-- 'laws.FnExactWalStep': WHATEVER THE INPUT: true; the input reads as it did. -/
def fnExactWalStepSpec : ChangeSpec := { name := "fnExactWalStep", fn := fun _ => fun
  | [d1, d2] => { results := [.lit (.bool true)], args := [d1, d2] }
  | _ => none }
def fnExactWalStepRow : OpenClaim := { program := "ytehkfijghpddfaa", sum := "bfefdb4c5237d1ae654978673d17ea2c24b324402c8b7f51f3b46a74295693f5", func := "loop.example/g00358/laws.FnExactWalStep", spec := "fnExactWalStep", unfollowed := true, recurses := true, apart := false }
def FnExactWalStepSaid : Prop := fnExactWalStepRow.holds Try.pinned (OpenSpec.ofChange fnExactWalStepSpec)

/-- ITS FALSE NEIGHBOUR: 'it returns false'. Refute it at one input. -/
def fnExactWalStepWrong : ChangeSpec := { name := "fnExactWalStep", fn := fun _ => fun
  | [d1, d2] => { results := [.lit (.bool false)], args := [d1, d2] }
  | _ => none }
def FnExactWalStepWrongFalsely : Prop := fnExactWalStepRow.holds Try.pinned (OpenSpec.ofChange fnExactWalStepWrong)

/-- 'laws.FnExactWalText': WHATEVER THE INPUT: true; the input reads as it did. -/
def fnExactWalTextSpec : ChangeSpec := { name := "fnExactWalText", fn := fun _ => fun
  | [d] => { results := [.lit (.bool true)], args := [d] }
  | _ => none }
def fnExactWalTextRow : OpenClaim := { program := "ytehkfijghpddfaa", sum := "bfefdb4c5237d1ae654978673d17ea2c24b324402c8b7f51f3b46a74295693f5", func := "loop.example/g00358/laws.FnExactWalText", spec := "fnExactWalText", inPlace := ["internal/abi.NoEscape"], apart := false }
def FnExactWalTextSaid : Prop := fnExactWalTextRow.holds Try.pinned (OpenSpec.ofChange fnExactWalTextSpec)

/-- ITS FALSE NEIGHBOUR: 'it returns false'. Refute it at one input. -/
def fnExactWalTextWrong : ChangeSpec := { name := "fnExactWalText", fn := fun _ => fun
  | [d] => { results := [.lit (.bool false)], args := [d] }
  | _ => none }
def FnExactWalTextWrongFalsely : Prop := fnExactWalTextRow.holds Try.pinned (OpenSpec.ofChange fnExactWalTextWrong)

/- THE SECOND FORM. 'bulk': how many values and letters a reading holds, each counted each time it is reached (what is shared counts as often as it is met; a slice's spare places count too). A statement '..UptoSaid' is the law's where the arguments, and the package variables that the reading takes, are together of bulk at most 1048576: NARROWER than '..Said'. Prove '..Said' where nothing that the law and all that it calls make is longer than what came in: it says more and counts as full. Else prove '..UptoSaid'. A law counts once. -/
mutual
def uptoBulk {H : Type} : DataW H → Nat
  | .lit (.string bytes) => bytes.length + 1
  | .lit _ => 1
  | .nil => 1
  | .ptr d => uptoBulk d + 1
  | .slice elems spare => uptoBulkAll elems + uptoBulkAll spare + 1
  | .agg parts => uptoBulkAll parts + 1
  | .iface _ d => uptoBulk d + 1
  | .map entries => uptoBulkEntries entries + 1
  | .held _ => 1
def uptoBulkAll {H : Type} : List (DataW H) → Nat
  | [] => 0
  | d :: r => uptoBulk d + uptoBulkAll r
def uptoBulkEntries {H : Type} : List (Lit × DataW H) → Nat
  | [] => 0
  | x :: r => uptoBulkEntry x + uptoBulkEntries r
def uptoBulkEntry {H : Type} : Lit × DataW H → Nat
  | (.string bytes, d) => bytes.length + uptoBulk d + 1
  | (_, d) => uptoBulk d + 1
 end
def uptoSmall : (H : Type) → List (DataW H) → Bool := fun _ ds => decide (uptoBulkAll ds ≤ 1048576)
def OpenSpec.upto (s : _root_.Go.ChangeSpec) : _root_.Go.OpenSpec := { _root_.Go.OpenSpec.ofChange s with cond := some uptoSmall }

/-- 'laws.FnChanges', WHERE WHAT IT READS IS OF BULK AT MOST 1048576: true; the input reads as it did. -/
def fnChangesUptoRow : OpenClaim := { program := "ytehkfijghpddfaa", sum := "bfefdb4c5237d1ae654978673d17ea2c24b324402c8b7f51f3b46a74295693f5", func := "loop.example/g00358/laws.FnChanges", spec := "fnChanges", unfollowed := true, recurses := true, apart := false, narrowed := true }
def FnChangesUptoSaid : Prop := fnChangesUptoRow.holds Try.pinned (OpenSpec.upto fnChangesSpec)

/-- 'laws.FnExactWalOk', WHERE WHAT IT READS IS OF BULK AT MOST 1048576: true; the input reads as it did. -/
def fnExactWalOkUptoRow : OpenClaim := { program := "ytehkfijghpddfaa", sum := "bfefdb4c5237d1ae654978673d17ea2c24b324402c8b7f51f3b46a74295693f5", func := "loop.example/g00358/laws.FnExactWalOk", spec := "fnExactWalOk", apart := false, narrowed := true }
def FnExactWalOkUptoSaid : Prop := fnExactWalOkUptoRow.holds Try.pinned (OpenSpec.upto fnExactWalOkSpec)

/-- 'laws.FnExactWalStep', WHERE WHAT IT READS IS OF BULK AT MOST 1048576: true; the input reads as it did. -/
def fnExactWalStepUptoRow : OpenClaim := { program := "ytehkfijghpddfaa", sum := "bfefdb4c5237d1ae654978673d17ea2c24b324402c8b7f51f3b46a74295693f5", func := "loop.example/g00358/laws.FnExactWalStep", spec := "fnExactWalStep", unfollowed := true, recurses := true, apart := false, narrowed := true }
def FnExactWalStepUptoSaid : Prop := fnExactWalStepUptoRow.holds Try.pinned (OpenSpec.upto fnExactWalStepSpec)

/-- 'laws.FnExactWalText', WHERE WHAT IT READS IS OF BULK AT MOST 1048576: true; the input reads as it did. -/
def fnExactWalTextUptoRow : OpenClaim := { program := "ytehkfijghpddfaa", sum := "bfefdb4c5237d1ae654978673d17ea2c24b324402c8b7f51f3b46a74295693f5", func := "loop.example/g00358/laws.FnExactWalText", spec := "fnExactWalText", inPlace := ["internal/abi.NoEscape"], apart := false, narrowed := true }
def FnExactWalTextUptoSaid : Prop := fnExactWalTextUptoRow.holds Try.pinned (OpenSpec.upto fnExactWalTextSpec)

end Rows
end Go.Proofs.Ytehkfijghpddfaa
