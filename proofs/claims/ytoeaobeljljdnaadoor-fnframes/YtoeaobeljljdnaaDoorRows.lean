/-
  NARROWER THAN 'FOR EVERY INPUT', by the rows' own cells (each row's printed sentence says how): FnFrames: ifaces, laid · FnExactUnframe: ifaces, laid · FnExactFrames: ifaces, laid.
  DERIVED. THE GIVEN ROWS OF THIS SEAT. 3 by the template 'for every input the law returns true; each argument reads behind the call as it read before'; 0 by the template 'total and deterministic' (their statements: YtoeaobeljljdnaaDoorTotals.lean).
  GIVEN WITH THE SEED: the statements are not yours to turn. If you find one false, say at which input.
  Laid BY PROGRAM, IN A SANDBOX (cutbox-rows.mjs): the forced cells as the released guide's own fill.sh prints them over the translation b724218678804e41… (all of the seat's roots in one cut). By AI agents, Wed Nov 11 2026. No macro, syntax, notation, axiom, sorry.
-/
import Derived.Test.YtoeaobeljljdnaaDoorChecked
import GoSem.Claim
import GoSem.ClaimJoined
import GoSem.ClaimMapViews
import Derived.JoinedTies
import Derived.KernelRfl
namespace Go.Proofs.YtoeaobeljljdnaaDoor
/- THE CELL 'sum', in the pinned program and in every row, IS THE sha256 OF THE DUMP (.gsa) THAT YtoeaobeljljdnaaDoorProg.lean LOADS. Nothing in Lean hashes anything: it is a label: what it is worth is what the hold of that sum in a sandbox is worth. -/
noncomputable def Tryd.pinned : Pinned := { name := "ytoeaobeljljdnaadoor", sum := "b724218678804e4154c2c7d4bdda1f74a21b60facf79d0ab53b75a9acd661292", checked := Tryd.checked }
namespace Rows
def none {H : Type} : Left H := { results := [], args := [] }

/- WHAT THE LISTED PACKAGE-LEVEL VARIABLES READ AS WHEN THE CALL BEGINS. Each datum BY PROGRAM (the guide's laid-datum.mjs) off the statement by which the dump's own 'gosem.cut.vars' lays the variable. In a bare row this is a premise. The card (YtoeaobeljljdnaaDoorCards.lean) ties it to the program's text. -/
def laid_errors_errorType {H : Type} : DataW H := .iface "internal/reflectlite.rtype" (.agg [.ptr (.lit (.string [101, 114, 114, 111, 114]))])
def laid_loop_example_g00358_impl_errFrameShort {H : Type} : DataW H := .iface "*errors.errorString" (.ptr (.agg [.lit (.string [116, 104, 101, 32, 102, 114, 97, 109, 101, 32, 103, 111, 101, 115, 32, 111, 110, 32, 98, 101, 104, 105, 110, 100, 32, 116, 104, 101, 32, 101, 110, 100])]))
def laid_loop_example_g00358_impl_errFrameBad {H : Type} : DataW H := .iface "*errors.errorString" (.ptr (.agg [.lit (.string [116, 104, 105, 115, 32, 105, 115, 32, 110, 111, 32, 102, 114, 97, 109, 101])]))

/-- 'laws.FnFrames': WHATEVER THE INPUT: true; the input reads as it did. -/
def fnFramesSpec : ChangeSpec := { name := "fnFrames", vars := ["loop.example/g00358/impl.errFrameShort", "loop.example/g00358/impl.errFrameBad"], fn := fun _ => fun
  | [d, g1, g2] => { results := [.lit (.bool true)], args := [d], vars := [g1, g2] }
  | _ => none }
def fnFramesRow : OpenClaim := { program := "ytoeaobeljljdnaadoor", sum := "b724218678804e4154c2c7d4bdda1f74a21b60facf79d0ab53b75a9acd661292", func := "loop.example/g00358/laws.FnFrames", spec := "fnFrames", inPlace := ["internal/reflectlite.ValueOf", "(internal/reflectlite.Value).Type", "(internal/reflectlite.Value).IsNil", "internal/reflectlite.TypeOf", "(internal/reflectlite.Value).Elem", "(internal/reflectlite.Value).Set"], unfollowed := true, recurses := true, named := ["loop.example/g00358/impl.errFrameShort", "loop.example/g00358/impl.errFrameBad", "errors.errorType"], ifaces := true, apart := false, laid := [("errors.errorType", laid_errors_errorType), ("loop.example/g00358/impl.errFrameShort", laid_loop_example_g00358_impl_errFrameShort), ("loop.example/g00358/impl.errFrameBad", laid_loop_example_g00358_impl_errFrameBad)] }
def FnFramesSaid : Prop := fnFramesRow.holds Tryd.pinned (OpenSpec.ofChange fnFramesSpec)

/-- ITS FALSE NEIGHBOUR: 'it returns false'. Refute it at one input. -/
def fnFramesWrong : ChangeSpec := { name := "fnFrames", vars := ["loop.example/g00358/impl.errFrameShort", "loop.example/g00358/impl.errFrameBad"], fn := fun _ => fun
  | [d, g1, g2] => { results := [.lit (.bool false)], args := [d], vars := [g1, g2] }
  | _ => none }
def FnFramesWrongFalsely : Prop := fnFramesRow.holds Tryd.pinned (OpenSpec.ofChange fnFramesWrong)

/-- 'laws.FnExactUnframe': WHATEVER THE INPUT: true; the input reads as it did. -/
def fnExactUnframeSpec : ChangeSpec := { name := "fnExactUnframe", vars := ["loop.example/g00358/impl.errFrameShort", "loop.example/g00358/impl.errFrameBad"], fn := fun _ => fun
  | [d, g1, g2] => { results := [.lit (.bool true)], args := [d], vars := [g1, g2] }
  | _ => none }
def fnExactUnframeRow : OpenClaim := { program := "ytoeaobeljljdnaadoor", sum := "b724218678804e4154c2c7d4bdda1f74a21b60facf79d0ab53b75a9acd661292", func := "loop.example/g00358/laws.FnExactUnframe", spec := "fnExactUnframe", inPlace := ["internal/reflectlite.TypeOf"], unfollowed := true, recurses := true, named := ["loop.example/g00358/impl.errFrameShort", "loop.example/g00358/impl.errFrameBad"], ifaces := true, apart := false, laid := [("loop.example/g00358/impl.errFrameShort", laid_loop_example_g00358_impl_errFrameShort), ("loop.example/g00358/impl.errFrameBad", laid_loop_example_g00358_impl_errFrameBad)] }
def FnExactUnframeSaid : Prop := fnExactUnframeRow.holds Tryd.pinned (OpenSpec.ofChange fnExactUnframeSpec)

/-- ITS FALSE NEIGHBOUR: 'it returns false'. Refute it at one input. -/
def fnExactUnframeWrong : ChangeSpec := { name := "fnExactUnframe", vars := ["loop.example/g00358/impl.errFrameShort", "loop.example/g00358/impl.errFrameBad"], fn := fun _ => fun
  | [d, g1, g2] => { results := [.lit (.bool false)], args := [d], vars := [g1, g2] }
  | _ => none }
def FnExactUnframeWrongFalsely : Prop := fnExactUnframeRow.holds Tryd.pinned (OpenSpec.ofChange fnExactUnframeWrong)

/-- 'laws.FnExactFrames': WHATEVER THE INPUT: true; the input reads as it did. -/
def fnExactFramesSpec : ChangeSpec := { name := "fnExactFrames", vars := ["loop.example/g00358/impl.errFrameShort", "loop.example/g00358/impl.errFrameBad"], fn := fun _ => fun
  | [d, g1, g2] => { results := [.lit (.bool true)], args := [d], vars := [g1, g2] }
  | _ => none }
def fnExactFramesRow : OpenClaim := { program := "ytoeaobeljljdnaadoor", sum := "b724218678804e4154c2c7d4bdda1f74a21b60facf79d0ab53b75a9acd661292", func := "loop.example/g00358/laws.FnExactFrames", spec := "fnExactFrames", inPlace := ["internal/reflectlite.ValueOf", "(internal/reflectlite.Value).Type", "(internal/reflectlite.Value).IsNil", "internal/reflectlite.TypeOf", "(internal/reflectlite.Value).Elem", "(internal/reflectlite.Value).Set"], unfollowed := true, recurses := true, named := ["loop.example/g00358/impl.errFrameShort", "loop.example/g00358/impl.errFrameBad", "errors.errorType"], ifaces := true, apart := false, laid := [("errors.errorType", laid_errors_errorType), ("loop.example/g00358/impl.errFrameShort", laid_loop_example_g00358_impl_errFrameShort), ("loop.example/g00358/impl.errFrameBad", laid_loop_example_g00358_impl_errFrameBad)] }
def FnExactFramesSaid : Prop := fnExactFramesRow.holds Tryd.pinned (OpenSpec.ofChange fnExactFramesSpec)

/-- ITS FALSE NEIGHBOUR: 'it returns false'. Refute it at one input. -/
def fnExactFramesWrong : ChangeSpec := { name := "fnExactFrames", vars := ["loop.example/g00358/impl.errFrameShort", "loop.example/g00358/impl.errFrameBad"], fn := fun _ => fun
  | [d, g1, g2] => { results := [.lit (.bool false)], args := [d], vars := [g1, g2] }
  | _ => none }
def FnExactFramesWrongFalsely : Prop := fnExactFramesRow.holds Tryd.pinned (OpenSpec.ofChange fnExactFramesWrong)

/- THE SECOND FORM. 'bulk': how many values and letters a reading holds, each counted each time it is reached (what is shared counts as often as it is met; a slice's spare places count too). A statement '..UptoSaid' is the law's where the arguments, and the package variables that the reading takes, are together of bulk at most 1048576: NARROWER than '..Said'. Prove '..Said' where nothing that the law and all that it calls make is longer than what came in: it says more and counts as full. Else prove '..UptoSaid'. A law counts once. -/
mutual
def uptoBulk {H : Type} : DataW H → Nat
  | .lit (.string bytes) => bytes.length + 1
  | .lit _ => 1
  | .nil => 1
  | .ptr d => uptoBulk d + 1
  | .slice elems spare => uptoBulkAll elems + uptoBulkAll spare + 1
  | .agg parts => uptoBulkAll parts + 1
  | .iface _ d => uptoBulk d + 1
  | .map entries => uptoBulkEntries entries + 1
  | .held _ => 1
def uptoBulkAll {H : Type} : List (DataW H) → Nat
  | [] => 0
  | d :: r => uptoBulk d + uptoBulkAll r
def uptoBulkEntries {H : Type} : List (Lit × DataW H) → Nat
  | [] => 0
  | x :: r => uptoBulkEntry x + uptoBulkEntries r
def uptoBulkEntry {H : Type} : Lit × DataW H → Nat
  | (.string bytes, d) => bytes.length + uptoBulk d + 1
  | (_, d) => uptoBulk d + 1
 end
def uptoSmall : (H : Type) → List (DataW H) → Bool := fun _ ds => decide (uptoBulkAll ds ≤ 1048576)
def OpenSpec.upto (s : _root_.Go.ChangeSpec) : _root_.Go.OpenSpec := { _root_.Go.OpenSpec.ofChange s with cond := some uptoSmall }

/-- 'laws.FnFrames', WHERE WHAT IT READS IS OF BULK AT MOST 1048576: true; the input reads as it did. -/
def fnFramesUptoRow : OpenClaim := { program := "ytoeaobeljljdnaadoor", sum := "b724218678804e4154c2c7d4bdda1f74a21b60facf79d0ab53b75a9acd661292", func := "loop.example/g00358/laws.FnFrames", spec := "fnFrames", inPlace := ["internal/reflectlite.ValueOf", "(internal/reflectlite.Value).Type", "(internal/reflectlite.Value).IsNil", "internal/reflectlite.TypeOf", "(internal/reflectlite.Value).Elem", "(internal/reflectlite.Value).Set"], unfollowed := true, recurses := true, named := ["loop.example/g00358/impl.errFrameShort", "loop.example/g00358/impl.errFrameBad", "errors.errorType"], ifaces := true, apart := false, laid := [("errors.errorType", laid_errors_errorType), ("loop.example/g00358/impl.errFrameShort", laid_loop_example_g00358_impl_errFrameShort), ("loop.example/g00358/impl.errFrameBad", laid_loop_example_g00358_impl_errFrameBad)], narrowed := true }
def FnFramesUptoSaid : Prop := fnFramesUptoRow.holds Tryd.pinned (OpenSpec.upto fnFramesSpec)

/-- 'laws.FnExactUnframe', WHERE WHAT IT READS IS OF BULK AT MOST 1048576: true; the input reads as it did. -/
def fnExactUnframeUptoRow : OpenClaim := { program := "ytoeaobeljljdnaadoor", sum := "b724218678804e4154c2c7d4bdda1f74a21b60facf79d0ab53b75a9acd661292", func := "loop.example/g00358/laws.FnExactUnframe", spec := "fnExactUnframe", inPlace := ["internal/reflectlite.TypeOf"], unfollowed := true, recurses := true, named := ["loop.example/g00358/impl.errFrameShort", "loop.example/g00358/impl.errFrameBad"], ifaces := true, apart := false, laid := [("loop.example/g00358/impl.errFrameShort", laid_loop_example_g00358_impl_errFrameShort), ("loop.example/g00358/impl.errFrameBad", laid_loop_example_g00358_impl_errFrameBad)], narrowed := true }
def FnExactUnframeUptoSaid : Prop := fnExactUnframeUptoRow.holds Tryd.pinned (OpenSpec.upto fnExactUnframeSpec)

/-- 'laws.FnExactFrames', WHERE WHAT IT READS IS OF BULK AT MOST 1048576: true; the input reads as it did. -/
def fnExactFramesUptoRow : OpenClaim := { program := "ytoeaobeljljdnaadoor", sum := "b724218678804e4154c2c7d4bdda1f74a21b60facf79d0ab53b75a9acd661292", func := "loop.example/g00358/laws.FnExactFrames", spec := "fnExactFrames", inPlace := ["internal/reflectlite.ValueOf", "(internal/reflectlite.Value).Type", "(internal/reflectlite.Value).IsNil", "internal/reflectlite.TypeOf", "(internal/reflectlite.Value).Elem", "(internal/reflectlite.Value).Set"], unfollowed := true, recurses := true, named := ["loop.example/g00358/impl.errFrameShort", "loop.example/g00358/impl.errFrameBad", "errors.errorType"], ifaces := true, apart := false, laid := [("errors.errorType", laid_errors_errorType), ("loop.example/g00358/impl.errFrameShort", laid_loop_example_g00358_impl_errFrameShort), ("loop.example/g00358/impl.errFrameBad", laid_loop_example_g00358_impl_errFrameBad)], narrowed := true }
def FnExactFramesUptoSaid : Prop := fnExactFramesUptoRow.holds Tryd.pinned (OpenSpec.upto fnExactFramesSpec)

end Rows
end Go.Proofs.YtoeaobeljljdnaaDoor
