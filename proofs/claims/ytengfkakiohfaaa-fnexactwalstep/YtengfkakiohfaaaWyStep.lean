/- Which method a record's step leads to. -/
import Derived.Test.YtengfkakiohfaaaWrOf
namespace Go.Proofs.Ytengfkakiohfaaa
open Go.RowKit
set_option linter.unusedVariables false

theorem inv_hard (x p : Value) (w : World) : (invoke (.fn (.method "loop.example/g00358/impl.step") #[]) #[.iface 58 x, p]).run Try.prog w = .ok (.enter 79 #[x, p]) w := by kernel_rfl

theorem inv_entry (x p : Value) (w : World) : (invoke (.fn (.method "loop.example/g00358/impl.step") #[]) #[.iface 89 x, p]).run Try.prog w = .ok (.enter 81 #[x, p]) w := by kernel_rfl

theorem inv_cut (x p : Value) (w : World) : (invoke (.fn (.method "loop.example/g00358/impl.step") #[]) #[.iface 61 x, p]).run Try.prog w = .ok (.enter 80 #[x, p]) w := by kernel_rfl

theorem inv_base (x p : Value) (w : World) : (invoke (.fn (.method "loop.example/g00358/impl.step") #[]) #[.iface 92 x, p]).run Try.prog w = .ok (.enter 84 #[x, p]) w := by kernel_rfl

set_option maxRecDepth 20000 in
theorem step_base (t i : Int) (p : Addr) (w : World) : Calls Try.prog 84 #[.agg #[.int .i64 t, .int .i64 i], .pointer (some p)] w fun e w' => e = .returned (.bool false) ∧ Below w.heap.size w w' := by
  go_enter Try.func84, Try.ntmps84
  go_wp2
  go_ret
  exact ⟨rfl, by first | exact Below.refl _ _ | exact (Below.refl _ _).alloc (Nat.le_refl _) _⟩

end Go.Proofs.Ytengfkakiohfaaa
