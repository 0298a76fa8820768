/- errors.As by its contract, where the error's own type is the target's: a frameError, and a variable of that type. -/
import Derived.Test.YtoeaobeljljdnaaDoorFrIs
import Derived.Laws.Rows
import Derived.Laws.Tables
import Derived.Laws.CopyOwn
namespace Go.Proofs.YtoeaobeljljdnaaDoor
open Go.RowKit Go.Extern.Stop Go.Stop Go.Extern
set_option linter.unusedVariables false

theorem asValueOf (t : Addr) (w : World) : (ReflectliteValue.unpack (.iface 50 (.pointer (some t)))).run Tryd.prog w
    = .ok (.agg #[.pointer (some ⟨3, 50, none⟩), .pointer (some ⟨w.heap.size, 0, none⟩), .int .u64 150]) (w.alloc (.cells #[.pointer (some t)] 50)) := by kernel_rfl

theorem asType (a : Addr) (w : World) : (ReflectliteValue.methodAny (ReflectliteValue.valueError "reflectlite.Value.Type" 0) (fun t _ _ _ => ReflectliteType.toType t) #[.agg #[.pointer (some ⟨3, 50, none⟩), .pointer (some a), .int .u64 150]]).run Tryd.prog w
    = .ok (.iface 86 (.agg #[.pointer (some ⟨3, 50, none⟩)])) w := by kernel_rfl

theorem asMethodKind (h : Value) (w : World) : (Go.method 233 86 (.agg #[h]) "Kind").run Tryd.prog w = .ok (63, h) w := by kernel_rfl

theorem asKindP (w : World) : ((ReflectliteType.abiMethod fun t => (fun a : Nat => Value.int IntKind.u8 (a : Int)) <$> Rtype.kind t) #[.pointer (some ⟨3, 50, none⟩)]).run Tryd.prog w = .ok (.int .u8 22) w := by kernel_rfl

theorem asKindS (w : World) : ((ReflectliteType.abiMethod fun t => (fun a : Nat => Value.int IntKind.u8 (a : Int)) <$> Rtype.kind t) #[.pointer (some ⟨3, 48, none⟩)]).run Tryd.prog w = .ok (.int .u8 25) w := by kernel_rfl

theorem asPartsP (a : Addr) (w : World) : (ReflectliteValue.parts (.agg #[.pointer (some ⟨3, 50, none⟩), .pointer (some a), .int .u64 150])).run Tryd.prog w = .ok (some (50, a, 150)) w := by kernel_rfl

theorem asIsNil (a p : Addr) (W : World) (ha : W.cell? a = some (.pointer (some p))) :
    (ReflectliteValue.method (ReflectliteValue.valueError "reflectlite.Value.IsNil" 0) ReflectliteValue.isNil #[.agg #[.pointer (some ⟨3, 50, none⟩), .pointer (some a), .int .u64 150]]).run Tryd.prog W = .ok (.bool false) W := by
  have e : ∀ (z : Sem Value) (f : TypeId → Addr → Nat → Nat → Sem Value) (v : Value), ReflectliteValue.method z f #[v] = (ReflectliteValue.parts v >>= fun p => _) := fun _ _ _ => rfl
  rw [e]
  simp only [Sem.run_bind, asPartsP, Result.andThen]
  simp [ReflectliteValue.isNil, loadVar, isAgg, underlying, Tryd.underlying50, ha, Result.andThen]

theorem asMethodElem (h : Value) (w : World) : (Go.method 233 86 (.agg #[h]) "Elem").run Tryd.prog w = .ok (74, .agg #[h]) w := by kernel_rfl

theorem asMethodImplements (h : Value) (w : World) : (Go.method 233 86 (.agg #[h]) "Implements").run Tryd.prog w = .ok (75, .agg #[h]) w := by kernel_rfl

theorem asMethodAssignableTo (h : Value) (w : World) : (Go.method 233 86 (.agg #[h]) "AssignableTo").run Tryd.prog w = .ok (72, .agg #[h]) w := by kernel_rfl

theorem asElem (w : World) : (ReflectliteType.method ReflectliteType.elem #[.agg #[.pointer (some ⟨3, 50, none⟩)]]).run Tryd.prog w = .ok (.iface 86 (.agg #[.pointer (some ⟨3, 48, none⟩)])) w := by kernel_rfl

theorem asImplements (w : World) : (ReflectliteType.relation "Implements" ReflectliteType.implements_ #[.agg #[.pointer (some ⟨3, 48, none⟩)], .iface 86 (.agg #[.pointer (some ⟨3, 44, none⟩)])]).run Tryd.prog w = .ok (.bool true) w := by kernel_rfl

theorem asTypeOf (v : Value) (w : World) : (ReflectliteType.typeOf #[.iface 48 v]).run Tryd.prog w = .ok (.iface 86 (.agg #[.pointer (some ⟨3, 48, none⟩)])) w := by kernel_rfl

theorem asAssignable (w : World) : (ReflectliteType.relation "AssignableTo" ReflectliteType.assignableTo #[.agg #[.pointer (some ⟨3, 48, none⟩)], .iface 86 (.agg #[.pointer (some ⟨3, 48, none⟩)])]).run Tryd.prog w = .ok (.bool true) w := by kernel_rfl

theorem asValueOfS (x y : Value) (w : World) : (ReflectliteValue.unpack (.iface 48 (.agg #[x, y]))).run Tryd.prog w
    = .ok (.agg #[.pointer (some ⟨3, 48, none⟩), .pointer (some ⟨w.heap.size, 0, none⟩), .int .u64 153]) (w.alloc (.cells #[x, y] 48)) := by kernel_rfl

theorem asElemOf (w : World) : (Rtype.elem? 50).run Tryd.prog w = .ok (some 48) w := by kernel_rfl

theorem asMk (p : Addr) (w : World) : (ReflectliteValue.mk 48 p ReflectliteValue.flagAddr).run Tryd.prog w = .ok (.agg #[.pointer (some ⟨3, 48, none⟩), .pointer (some p), .int .u64 409]) w := by kernel_rfl

theorem asElemV (a p : Addr) (W : World) (ha : W.cell? a = some (.pointer (some p))) :
    (ReflectliteValue.method (ReflectliteValue.valueError "reflectlite.Value.Elem" 0) ReflectliteValue.elem #[.agg #[.pointer (some ⟨3, 50, none⟩), .pointer (some a), .int .u64 150]]).run Tryd.prog W
      = .ok (.agg #[.pointer (some ⟨3, 48, none⟩), .pointer (some p), .int .u64 409]) W := by
  have e : ∀ (z : Sem Value) (f : TypeId → Addr → Nat → Nat → Sem Value) (v : Value), ReflectliteValue.method z f #[v] = (ReflectliteValue.parts v >>= fun p => _) := fun _ _ _ => rfl
  rw [e]
  simp only [Sem.run_bind, asPartsP, Result.andThen]
  simp [ReflectliteValue.elem, loadVar, isAgg, underlying, Tryd.underlying50, ha, Result.andThen, asElemOf, asMk]

theorem asPartsA (a : Addr) (w : World) : (ReflectliteValue.parts (.agg #[.pointer (some ⟨3, 48, none⟩), .pointer (some a), .int .u64 409])).run Tryd.prog w = .ok (some (48, a, 409)) w := by kernel_rfl

theorem asPartsS (a : Addr) (w : World) : (ReflectliteValue.parts (.agg #[.pointer (some ⟨3, 48, none⟩), .pointer (some a), .int .u64 153])).run Tryd.prog w = .ok (some (48, a, 153)) w := by kernel_rfl

theorem asDirect (w : World) : (Rtype.directlyAssignable 48 48).run Tryd.prog w = .ok true w := by kernel_rfl

theorem asInfo : (Tryd.prog.info? 48).map (·.size) = some 2 := by kernel_rfl

theorem asSet (tb b : Nat) (x y : Value) (old : Array Value) (W : World) (hb : W.heap[b]? = some (.cells #[x, y] 48 (0, 0))) (ht : W.heap[tb]? = some (.cells old 48 (0, 0))) (ho : old.size = 2) (h1 : #[x, y].all (·.oneCell') = true) :
    (ReflectliteValue.set #[.agg #[.pointer (some ⟨3, 48, none⟩), .pointer (some ⟨tb, 0, none⟩), .int .u64 409], .agg #[.pointer (some ⟨3, 48, none⟩), .pointer (some ⟨b, 0, none⟩), .int .u64 153]]).run Tryd.prog W
      = .ok (.tuple #[]) (W.setRow tb #[x, y]) := by
  have hl := run_loadVar_row (P := Tryd.prog) W b 48 48 #[x, y] (0, 0) _ hb Tryd.underlying48 rfl asInfo
  have hs := run_storeVar_row (P := Tryd.prog) W tb 48 48 old #[x, y] ht asInfo ho h1
  have e : ∀ (v z : Value), ReflectliteValue.set #[v, z] = (ReflectliteValue.parts v >>= fun p => ReflectliteValue.parts z >>= fun q => _) := fun _ _ => rfl
  rw [e]
  simp only [Sem.run_bind, asPartsA, asPartsS, Result.andThen]
  simp [ReflectliteValue.flagAddr, hl, Result.andThen, asDirect, hs]

end Go.Proofs.YtoeaobeljljdnaaDoor
