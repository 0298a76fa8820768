/- errors.Is by its contracts, where the error is a frameError that wraps one of the two errors of the package, and the target is the first of these. -/
import Derived.Test.YthlokfcejojdhaaDoorRows
import Derived.WalkKit
import Derived.LaidEql
import Derived.Stop.Asserts
import Derived.RowKitTokens
import Derived.Below
namespace Go.Proofs.YthlokfcejojdhaaDoor
open Go.RowKit Go.Extern.Stop Go.Stop Go.Extern
set_option linter.unusedVariables false

/-- A frameError as a value of error. -/
def fe (a : Addr) (at_ : Int) : Value := .iface 96 (.agg #[.iface 155 (.pointer (some a)), .int .i64 at_])

theorem isTypeOf (v : Value) (w : World) : (ReflectliteType.typeOf #[.iface 155 v]).run Tryd.prog w = .ok (.iface 141 (.agg #[.pointer (some ⟨3, 155, none⟩)])) w := by kernel_rfl

/-- The model's entry for (rtype).Comparable, under a name. -/
def compE : Array Value → Sem Value := ReflectliteType.method fun t => do Rtype.noPackHeld "Comparable" t; pure (.bool (← typeInfo t).comparable)

theorem isComparable (w : World) : (compE #[.agg #[.pointer (some ⟨3, 155, none⟩)]]).run Tryd.prog w = .ok (.bool true) w := by kernel_rfl

theorem isMethodComparable (v : Value) (w : World) : (Go.method 286 141 v "Comparable").run Tryd.prog w = .ok (117, v) w := by kernel_rfl

theorem isComp : (Tryd.prog.info? 155).map (·.comparable) = some true := by kernel_rfl

theorem isSize : (Tryd.prog.info? 174).map (·.size) = some 1 := by kernel_rfl

theorem noUnwrapE (v : Value) (xT : TypeId) (w : World) : (Instr.typeAssert (.iface 155 v) xT 149 true).run Tryd.prog w = .ok (.tuple #[.nilIface, .bool false]) w := run_typeAssert_lacksB Tryd.underlying149 (by kernel_rfl) (by kernel_rfl) v xT w

theorem noUnwrapsE (v : Value) (xT : TypeId) (w : World) : (Instr.typeAssert (.iface 155 v) xT 151 true).run Tryd.prog w = .ok (.tuple #[.nilIface, .bool false]) w := run_typeAssert_lacksB Tryd.underlying151 (by kernel_rfl) (by kernel_rfl) v xT w

theorem hasUnwrapW (v : Value) (xT : TypeId) (w : World) : (Instr.typeAssert (.iface 96 v) xT 149 true).run Tryd.prog w = .ok (.tuple #[.iface 96 v, .bool true]) w := run_typeAssert_hasB Tryd.underlying149 (by kernel_rfl) v xT w

theorem methodUnwrap (v : Value) (w : World) : (Go.method 286 96 v "Unwrap").run Tryd.prog w = .ok (111, v) w := by kernel_rfl

theorem unwrap_c (v : Value) (n : Int) (w : World) :
    Calls Tryd.prog 111 #[.agg #[v, .int .i64 n]] w fun e w' => e = .returned v ∧ w' = w.alloc (.cells #[v, .int .i64 n] 96) := by
  go_enter Tryd.func111, Tryd.ntmps111
  go_wp2
  go_ret
  exact ⟨rfl, rfl⟩

end Go.Proofs.YthlokfcejojdhaaDoor
