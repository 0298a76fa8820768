/- errors.Is by its contracts, where the error is a frameError that wraps one of the two errors of the package, and the target is the first of these. -/
import Derived.Test.YtocjijognmhfmaaDoorRows
import Derived.WalkKit
import Derived.LaidEql
import Derived.Stop.Asserts
import Derived.RowKitTokens
import Derived.Below
namespace Go.Proofs.YtocjijognmhfmaaDoor
open Go.RowKit Go.Extern.Stop Go.Stop Go.Extern
set_option linter.unusedVariables false

/-- A frameError as a value of error. -/
def fe (a : Addr) (at_ : Int) : Value := .iface 78 (.agg #[.iface 102 (.pointer (some a)), .int .i64 at_])

theorem isTypeOf (v : Value) (w : World) : (ReflectliteType.typeOf #[.iface 102 v]).run Tryd.prog w = .ok (.iface 90 (.agg #[.pointer (some ⟨3, 102, none⟩)])) w := by kernel_rfl

/-- The model's entry for (rtype).Comparable, under a name. -/
def compE : Array Value → Sem Value := ReflectliteType.method fun t => do Rtype.noPackHeld "Comparable" t; pure (.bool (← typeInfo t).comparable)

theorem isComparable (w : World) : (compE #[.agg #[.pointer (some ⟨3, 102, none⟩)]]).run Tryd.prog w = .ok (.bool true) w := by kernel_rfl

theorem isMethodComparable (v : Value) (w : World) : (Go.method 236 90 v "Comparable").run Tryd.prog w = .ok (80, v) w := by kernel_rfl

theorem isComp : (Tryd.prog.info? 102).map (·.comparable) = some true := by kernel_rfl

theorem isSize : (Tryd.prog.info? 124).map (·.size) = some 1 := by kernel_rfl

theorem noIsE (v : Value) (xT : TypeId) (w : World) : (Instr.typeAssert (.iface 102 v) xT 92 true).run Tryd.prog w = .ok (.tuple #[.nilIface, .bool false]) w := run_typeAssert_lacksB Tryd.underlying92 (by kernel_rfl) (by kernel_rfl) v xT w

theorem noUnwrapE (v : Value) (xT : TypeId) (w : World) : (Instr.typeAssert (.iface 102 v) xT 95 true).run Tryd.prog w = .ok (.tuple #[.nilIface, .bool false]) w := run_typeAssert_lacksB Tryd.underlying95 (by kernel_rfl) (by kernel_rfl) v xT w

theorem noUnwrapsE (v : Value) (xT : TypeId) (w : World) : (Instr.typeAssert (.iface 102 v) xT 97 true).run Tryd.prog w = .ok (.tuple #[.nilIface, .bool false]) w := run_typeAssert_lacksB Tryd.underlying97 (by kernel_rfl) (by kernel_rfl) v xT w

theorem noIsW (v : Value) (xT : TypeId) (w : World) : (Instr.typeAssert (.iface 78 v) xT 92 true).run Tryd.prog w = .ok (.tuple #[.nilIface, .bool false]) w := run_typeAssert_lacksB Tryd.underlying92 (by kernel_rfl) (by kernel_rfl) v xT w

theorem hasUnwrapW (v : Value) (xT : TypeId) (w : World) : (Instr.typeAssert (.iface 78 v) xT 95 true).run Tryd.prog w = .ok (.tuple #[.iface 78 v, .bool true]) w := run_typeAssert_hasB Tryd.underlying95 (by kernel_rfl) v xT w

theorem methodUnwrap (v : Value) (w : World) : (Go.method 236 78 v "Unwrap").run Tryd.prog w = .ok (76, v) w := by kernel_rfl

theorem unwrap_c (v : Value) (n : Int) (w : World) :
    Calls Tryd.prog 76 #[.agg #[v, .int .i64 n]] w fun e w' => e = .returned v ∧ w' = w.alloc (.cells #[v, .int .i64 n] 78) := by
  go_enter Tryd.func76, Tryd.ntmps76
  go_wp2
  go_ret
  exact ⟨rfl, rfl⟩

set_option maxHeartbeats 1000000 in
/-- errors.Is(e, x), e a frameError that wraps x itself. -/
theorem is_wrap_same (b : Addr) (n : Int) (w : World) :
    Calls Tryd.prog 39 #[fe b n, .iface 102 (.pointer (some b))] w fun e w' => e = .returned (.bool true) ∧ Below w.heap.size w w' := by
  unfold fe
  obtain ⟨i, hi, hcmp⟩ := Option.map_eq_some_iff.1 isComp
  obtain ⟨j, hj, hjs⟩ := Option.map_eq_some_iff.1 isSize
  have h8 := @run_callFunc_extern Tryd.prog 53 _ ReflectliteType.typeOf Tryd.func53 (by kernel_rfl) (by kernel_rfl) (by kernel_rfl) (by kernel_rfl)
  have h32 := @run_callFunc_extern Tryd.prog 80 _ compE Tryd.func80 (by kernel_rfl) (by kernel_rfl) (by kernel_rfl) (by kernel_rfl)
  have tT := isTypeOf
  have cT := isComparable
  have mR := isMethodComparable
  have nW := noIsW
  have uW := hasUnwrapW
  have mU := methodUnwrap
  have bel : Below w.heap.size w (w.alloc (.cells #[.iface 102 (.pointer (some b)), .int .i64 n] 78)) := (Below.refl _ _).alloc (Nat.le_refl _) _
  have heq := run_eql_iface_ptr_same (P := Tryd.prog) (w.alloc (.cells #[.iface 102 (.pointer (some b)), .int .i64 n] 78)) b Tryd.underlying55 Tryd.underlying102 hi hcmp hj
  have hty := run_eql_iface_types (P := Tryd.prog) 78 102 (.agg #[.iface 102 (.pointer (some b)), .int .i64 n]) (.pointer (some b)) Tryd.underlying55 (by decide) w
  go_enter Tryd.func39, Tryd.ntmps39
  go_wp2
  refine wp_loop_rounds 2 ?_
  rw [rounds_succ]
  go_wp2
  rw [rounds_succ]
  go_wp2
  go_ret
  exact ⟨rfl, bel⟩

set_option maxHeartbeats 1000000 in
/-- errors.Is(e, x), e a frameError that wraps another error of errors.New's make. -/
theorem is_wrap_other (a b : Addr) (n : Int) (ca cb : Array Value) (ta tb : TypeId) (w : World) (hne : a ≠ b) (ha : w.heap[a.block]? = some (.cells ca ta (0, 0))) (hb : w.heap[b.block]? = some (.cells cb tb (0, 0))) :
    Calls Tryd.prog 39 #[fe a n, .iface 102 (.pointer (some b))] w fun e w' => e = .returned (.bool false) ∧ Below w.heap.size w w' := by
  unfold fe
  obtain ⟨i, hi, hcmp⟩ := Option.map_eq_some_iff.1 isComp
  obtain ⟨j, hj, hjs⟩ := Option.map_eq_some_iff.1 isSize
  have h8 := @run_callFunc_extern Tryd.prog 53 _ ReflectliteType.typeOf Tryd.func53 (by kernel_rfl) (by kernel_rfl) (by kernel_rfl) (by kernel_rfl)
  have h32 := @run_callFunc_extern Tryd.prog 80 _ compE Tryd.func80 (by kernel_rfl) (by kernel_rfl) (by kernel_rfl) (by kernel_rfl)
  have tT := isTypeOf
  have cT := isComparable
  have mR := isMethodComparable
  have nE := noIsE
  have uE := noUnwrapE
  have vE := noUnwrapsE
  have nW := noIsW
  have uW := hasUnwrapW
  have mU := methodUnwrap
  have old : ∀ (k : Nat) (o x : Obj), w.heap[k]? = some x → (w.alloc o).heap[k]? = some x := fun k o x h => by
    have hlt : k < w.heap.size := by
      rcases Nat.lt_or_ge k w.heap.size with h' | h'
      · exact h'
      · simp [Array.getElem?_eq_none h'] at h
    show (w.heap.push o)[k]? = _
    simp only [Array.getElem?_push, Nat.ne_of_lt hlt, if_false]
    exact h
  have bel : Below w.heap.size w (w.alloc (.cells #[.iface 102 (.pointer (some a)), .int .i64 n] 78)) := (Below.refl _ _).alloc (Nat.le_refl _) _
  have heq := run_eql_iface_ptr_other (P := Tryd.prog) (w.alloc (.cells #[.iface 102 (.pointer (some a)), .int .i64 n] 78)) Tryd.underlying55 Tryd.underlying102 hi hcmp hj (by rw [hjs]; decide) hne (old _ _ _ ha) (old _ _ _ hb)
  have hty := run_eql_iface_types (P := Tryd.prog) 78 102 (.agg #[.iface 102 (.pointer (some a)), .int .i64 n]) (.pointer (some b)) Tryd.underlying55 (by decide) w
  clear old
  go_enter Tryd.func39, Tryd.ntmps39
  go_wp2
  refine wp_loop_rounds 2 ?_
  rw [rounds_succ]
  go_wp2
  rw [rounds_succ]
  go_wp2
  go_ret
  exact ⟨rfl, bel⟩

end Go.Proofs.YtocjijognmhfmaaDoor
