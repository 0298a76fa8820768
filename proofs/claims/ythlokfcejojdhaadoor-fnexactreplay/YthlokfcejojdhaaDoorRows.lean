/-
  NARROWER THAN 'FOR EVERY INPUT', by the rows' own cells (each row's printed sentence says how): FnWalBack: ifaces, laid · FnExactReplay: ifaces, laid.
  DERIVED. THE GIVEN ROWS OF THIS SEAT. 2 by the template 'for every input the law returns true; each argument reads behind the call as it read before'; 0 by the template 'total and deterministic' (their statements: YthlokfcejojdhaaDoorTotals.lean).
  GIVEN WITH THE SEED: the statements are not yours to turn. If you find one false, say at which input.
  Laid BY PROGRAM, IN A SANDBOX (cutbox-rows.mjs): the forced cells as the released guide's own fill.sh prints them over the translation 58170a1d1744d4f5… (all of the seat's roots in one cut). By AI agents, Wed Nov 11 2026. No macro, syntax, notation, axiom, sorry.
-/
import Derived.Test.YthlokfcejojdhaaDoorChecked
import GoSem.Claim
import GoSem.ClaimJoined
import GoSem.ClaimMapViews
import Derived.JoinedTies
import Derived.KernelRfl
namespace Go.Proofs.YthlokfcejojdhaaDoor
/- THE CELL 'sum', in the pinned program and in every row, IS THE sha256 OF THE DUMP (.gsa) THAT YthlokfcejojdhaaDoorProg.lean LOADS. Nothing in Lean hashes anything: it is a label: what it is worth is what the hold of that sum in a sandbox is worth. -/
noncomputable def Tryd.pinned : Pinned := { name := "ythlokfcejojdhaadoor", sum := "58170a1d1744d4f55eff6bc6efc5cf8ce67b95ef0d8828b2655920d100229de4", checked := Tryd.checked }
namespace Rows
def none {H : Type} : Left H := { results := [], args := [] }

/- WHAT THE LISTED PACKAGE-LEVEL VARIABLES READ AS WHEN THE CALL BEGINS. Each datum BY PROGRAM (the guide's laid-datum.mjs) off the statement by which the dump's own 'gosem.cut.vars' lays the variable. In a bare row this is a premise. The card (YthlokfcejojdhaaDoorCards.lean) ties it to the program's text. -/
def laid_errors_errorType {H : Type} : DataW H := .iface "internal/reflectlite.rtype" (.agg [.ptr (.lit (.string [101, 114, 114, 111, 114]))])
def laid_loop_example_g00358_impl_errFrameShort {H : Type} : DataW H := .iface "*errors.errorString" (.ptr (.agg [.lit (.string [116, 104, 101, 32, 102, 114, 97, 109, 101, 32, 103, 111, 101, 115, 32, 111, 110, 32, 98, 101, 104, 105, 110, 100, 32, 116, 104, 101, 32, 101, 110, 100])]))
def laid_loop_example_g00358_impl_errFrameBad {H : Type} : DataW H := .iface "*errors.errorString" (.ptr (.agg [.lit (.string [116, 104, 105, 115, 32, 105, 115, 32, 110, 111, 32, 102, 114, 97, 109, 101])]))

/-- 'laws.FnWalBack': WHATEVER THE INPUT: true; the input reads as it did. -/
def fnWalBackSpec : ChangeSpec := { name := "fnWalBack", vars := ["loop.example/g00358/impl.errFrameShort", "loop.example/g00358/impl.errFrameBad"], fn := fun _ => fun
  | [d, g1, g2] => { results := [.lit (.bool true)], args := [d], vars := [g1, g2] }
  | _ => none }
def fnWalBackRow : OpenClaim := { program := "ythlokfcejojdhaadoor", sum := "58170a1d1744d4f55eff6bc6efc5cf8ce67b95ef0d8828b2655920d100229de4", func := "loop.example/g00358/laws.FnWalBack", spec := "fnWalBack", inPlace := ["internal/abi.NoEscape", "internal/reflectlite.ValueOf", "(internal/reflectlite.Value).Type", "(internal/reflectlite.Value).IsNil", "internal/reflectlite.TypeOf", "(internal/reflectlite.Value).Elem", "(internal/reflectlite.Value).Set"], unfollowed := true, recurses := true, named := ["loop.example/g00358/impl.errFrameShort", "loop.example/g00358/impl.errFrameBad", "errors.errorType"], ifaces := true, apart := false, laid := [("errors.errorType", laid_errors_errorType), ("loop.example/g00358/impl.errFrameShort", laid_loop_example_g00358_impl_errFrameShort), ("loop.example/g00358/impl.errFrameBad", laid_loop_example_g00358_impl_errFrameBad)] }
def FnWalBackSaid : Prop := fnWalBackRow.holds Tryd.pinned (OpenSpec.ofChange fnWalBackSpec)

/-- ITS FALSE NEIGHBOUR: 'it returns false'. Refute it at one input. -/
def fnWalBackWrong : ChangeSpec := { name := "fnWalBack", vars := ["loop.example/g00358/impl.errFrameShort", "loop.example/g00358/impl.errFrameBad"], fn := fun _ => fun
  | [d, g1, g2] => { results := [.lit (.bool false)], args := [d], vars := [g1, g2] }
  | _ => none }
def FnWalBackWrongFalsely : Prop := fnWalBackRow.holds Tryd.pinned (OpenSpec.ofChange fnWalBackWrong)

/-- 'laws.FnExactReplay': WHATEVER THE INPUT: true; the input reads as it did. -/
def fnExactReplaySpec : ChangeSpec := { name := "fnExactReplay", vars := ["loop.example/g00358/impl.errFrameShort", "loop.example/g00358/impl.errFrameBad"], fn := fun _ => fun
  | [d, g1, g2] => { results := [.lit (.bool true)], args := [d], vars := [g1, g2] }
  | _ => none }
def fnExactReplayRow : OpenClaim := { program := "ythlokfcejojdhaadoor", sum := "58170a1d1744d4f55eff6bc6efc5cf8ce67b95ef0d8828b2655920d100229de4", func := "loop.example/g00358/laws.FnExactReplay", spec := "fnExactReplay", inPlace := ["internal/reflectlite.ValueOf", "(internal/reflectlite.Value).Type", "(internal/reflectlite.Value).IsNil", "internal/reflectlite.TypeOf", "(internal/reflectlite.Value).Elem", "(internal/reflectlite.Value).Set"], unfollowed := true, recurses := true, named := ["loop.example/g00358/impl.errFrameShort", "loop.example/g00358/impl.errFrameBad", "errors.errorType"], ifaces := true, apart := false, laid := [("errors.errorType", laid_errors_errorType), ("loop.example/g00358/impl.errFrameShort", laid_loop_example_g00358_impl_errFrameShort), ("loop.example/g00358/impl.errFrameBad", laid_loop_example_g00358_impl_errFrameBad)] }
def FnExactReplaySaid : Prop := fnExactReplayRow.holds Tryd.pinned (OpenSpec.ofChange fnExactReplaySpec)

/-- ITS FALSE NEIGHBOUR: 'it returns false'. Refute it at one input. -/
def fnExactReplayWrong : ChangeSpec := { name := "fnExactReplay", vars := ["loop.example/g00358/impl.errFrameShort", "loop.example/g00358/impl.errFrameBad"], fn := fun _ => fun
  | [d, g1, g2] => { results := [.lit (.bool false)], args := [d], vars := [g1, g2] }
  | _ => none }
def FnExactReplayWrongFalsely : Prop := fnExactReplayRow.holds Tryd.pinned (OpenSpec.ofChange fnExactReplayWrong)

/- THE SECOND FORM. 'bulk': how many values and letters a reading holds, each counted each time it is reached (what is shared counts as often as it is met; a slice's spare places count too). A statement '..UptoSaid' is the law's where the arguments, and the package variables that the reading takes, are together of bulk at most 1048576: NARROWER than '..Said'. Prove '..Said' where nothing that the law and all that it calls make is longer than what came in: it says more and counts as full. Else prove '..UptoSaid'. A law counts once. -/
mutual
def uptoBulk {H : Type} : DataW H → Nat
  | .lit (.string bytes) => bytes.length + 1
  | .lit _ => 1
  | .nil => 1
  | .ptr d => uptoBulk d + 1
  | .slice elems spare => uptoBulkAll elems + uptoBulkAll spare + 1
  | .agg parts => uptoBulkAll parts + 1
  | .iface _ d => uptoBulk d + 1
  | .map entries => uptoBulkEntries entries + 1
  | .held _ => 1
def uptoBulkAll {H : Type} : List (DataW H) → Nat
  | [] => 0
  | d :: r => uptoBulk d + uptoBulkAll r
def uptoBulkEntries {H : Type} : List (Lit × DataW H) → Nat
  | [] => 0
  | x :: r => uptoBulkEntry x + uptoBulkEntries r
def uptoBulkEntry {H : Type} : Lit × DataW H → Nat
  | (.string bytes, d) => bytes.length + uptoBulk d + 1
  | (_, d) => uptoBulk d + 1
 end
def uptoSmall : (H : Type) → List (DataW H) → Bool := fun _ ds => decide (uptoBulkAll ds ≤ 1048576)
def OpenSpec.upto (s : _root_.Go.ChangeSpec) : _root_.Go.OpenSpec := { _root_.Go.OpenSpec.ofChange s with cond := some uptoSmall }

/-- 'laws.FnWalBack', WHERE WHAT IT READS IS OF BULK AT MOST 1048576: true; the input reads as it did. -/
def fnWalBackUptoRow : OpenClaim := { program := "ythlokfcejojdhaadoor", sum := "58170a1d1744d4f55eff6bc6efc5cf8ce67b95ef0d8828b2655920d100229de4", func := "loop.example/g00358/laws.FnWalBack", spec := "fnWalBack", inPlace := ["internal/abi.NoEscape", "internal/reflectlite.ValueOf", "(internal/reflectlite.Value).Type", "(internal/reflectlite.Value).IsNil", "internal/reflectlite.TypeOf", "(internal/reflectlite.Value).Elem", "(internal/reflectlite.Value).Set"], unfollowed := true, recurses := true, named := ["loop.example/g00358/impl.errFrameShort", "loop.example/g00358/impl.errFrameBad", "errors.errorType"], ifaces := true, apart := false, laid := [("errors.errorType", laid_errors_errorType), ("loop.example/g00358/impl.errFrameShort", laid_loop_example_g00358_impl_errFrameShort), ("loop.example/g00358/impl.errFrameBad", laid_loop_example_g00358_impl_errFrameBad)], narrowed := true }
def FnWalBackUptoSaid : Prop := fnWalBackUptoRow.holds Tryd.pinned (OpenSpec.upto fnWalBackSpec)

/-- 'laws.FnExactReplay', WHERE WHAT IT READS IS OF BULK AT MOST 1048576: true; the input reads as it did. -/
def fnExactReplayUptoRow : OpenClaim := { program := "ythlokfcejojdhaadoor", sum := "58170a1d1744d4f55eff6bc6efc5cf8ce67b95ef0d8828b2655920d100229de4", func := "loop.example/g00358/laws.FnExactReplay", spec := "fnExactReplay", inPlace := ["internal/reflectlite.ValueOf", "(internal/reflectlite.Value).Type", "(internal/reflectlite.Value).IsNil", "internal/reflectlite.TypeOf", "(internal/reflectlite.Value).Elem", "(internal/reflectlite.Value).Set"], unfollowed := true, recurses := true, named := ["loop.example/g00358/impl.errFrameShort", "loop.example/g00358/impl.errFrameBad", "errors.errorType"], ifaces := true, apart := false, laid := [("errors.errorType", laid_errors_errorType), ("loop.example/g00358/impl.errFrameShort", laid_loop_example_g00358_impl_errFrameShort), ("loop.example/g00358/impl.errFrameBad", laid_loop_example_g00358_impl_errFrameBad)], narrowed := true }
def FnExactReplayUptoSaid : Prop := fnExactReplayUptoRow.holds Tryd.pinned (OpenSpec.upto fnExactReplaySpec)

end Rows
end Go.Proofs.YthlokfcejojdhaaDoor
