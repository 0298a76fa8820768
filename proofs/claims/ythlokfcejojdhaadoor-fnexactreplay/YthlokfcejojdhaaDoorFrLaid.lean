/- What the listed variables' reading gives a walk: the two errors' cells, and the handle that errors.As reads. -/
import Derived.Test.YthlokfcejojdhaaDoorUfLaw
import Derived.ProofKit
import Derived.LaidMore
import Derived.LaidHandle
import Derived.Stop.LaidTwo
import Derived.Stop.Joined
namespace Go.Proofs.YthlokfcejojdhaaDoor
open Go.ChangeShapes Go.WideShapes Go.ChangeAt Go.RowKit
set_option linter.unusedVariables false

theorem own : ownKnob Tryd.prog.godebug = none := by kernel_rfl

theorem laidOut : laidOutB Tryd.prog = true := by kernel_rfl

theorem gS : Tryd.prog.globalNamed "loop.example/g00358/impl.errFrameShort" = some 1 := by kernel_rfl

theorem gE : Tryd.prog.globalNamed "errors.errorType" = some 0 := by kernel_rfl

theorem gB : Tryd.prog.globalNamed "loop.example/g00358/impl.errFrameBad" = some 2 := by kernel_rfl

theorem gSType : (Tryd.prog.globals[1]?).map (·.type) = some 51 := by kernel_rfl

theorem gBType : (Tryd.prog.globals[2]?).map (·.type) = some 51 := by kernel_rfl

theorem cellsEL : Tryd.prog.cellsOf 174 = 1 := by kernel_rfl

theorem cellsSL : Tryd.prog.cellsOf 9 = 1 := by kernel_rfl

theorem star : "*" ++ "errors.errorString" = "*errors.errorString" := by decide

theorem rowE (u : TypeId) (h : Tryd.prog.typeName? 3 u = some "*errors.errorString") : u = 155 :=
  typeName_ptr_named (nm := "errors.errorString") (by rw [star]; kernel_rfl) (by kernel_rfl) (by decide) u (by rw [star]; exact h)

/-- The two errors, as the rows list them. -/
def laid2 : List (String × DataW Unit) := [("loop.example/g00358/impl.errFrameShort", Rows.laid_loop_example_g00358_impl_errFrameShort), ("loop.example/g00358/impl.errFrameBad", Rows.laid_loop_example_g00358_impl_errFrameBad)]

/-- The two errors and the handle, as the rows list them. -/
def laid3 : List (String × DataW Unit) := [("errors.errorType", Rows.laid_errors_errorType), ("loop.example/g00358/impl.errFrameShort", Rows.laid_loop_example_g00358_impl_errFrameShort), ("loop.example/g00358/impl.errFrameBad", Rows.laid_loop_example_g00358_impl_errFrameBad)]

theorem errs_of_laid {W : World} (h : laidMet Tryd.prog laid2 W) : ∃ a0 a2, ErrB W a0 a2 := by
  obtain ⟨a0, a1, s0, s1, c0, c1, t0, t1, hv0, hv1, hc0, hs0, hz0, hc1, hs1, hz1, hne, hb0, hb1⟩ := laid_sentinels2 h gS gSType gB gBType Tryd.underlying51 rowE Tryd.underlying155 Tryd.underlying174 rfl rfl Tryd.underlying9 cellsEL cellsSL
  exact ⟨a0, a1, ⟨by simpa using World.var?_cell gS hv0 0, by simpa using World.var?_cell gB hv1 0⟩, fun e => hne e.symm, ⟨c0, t0, hb0⟩, ⟨c1, t1, hb1⟩⟩

theorem met2 {W : World} (h : laidMetH Tryd.prog laid2 W) : ∃ a0 a2, ErrB W a0 a2 := by
  rw [MakeChecks.laidMetH_plain _ _ _ (by kernel_rfl)] at h
  exact errs_of_laid h

theorem rt : (Tryd.prog.cutTypes.find? (·.1 == "internal/reflectlite.rtype")).map (·.2) = some 141 := by kernel_rfl

theorem oneRow : ((List.range 186).filter fun t => Tryd.prog.rowNamed t [101, 114, 114, 111, 114]) = [51] := by kernel_rfl

theorem typesSize : Tryd.prog.types.size = 186 := by kernel_rfl

theorem handleE : typeHandle Tryd.prog 51 = .pointer (some ⟨3, 51, none⟩) := by kernel_rfl

theorem met3 {W : World} (h : laidMetH Tryd.prog laid3 W) : (∃ a0 a2, ErrB W a0 a2) ∧ W.cell? ⟨0, 0, none⟩ = some (.iface 141 (.agg #[.pointer (some ⟨3, 51, none⟩)])) := by
  have h' : laidMet Tryd.prog laid2 W ∧ handlesMet Tryd.prog [("errors.errorType", Rows.laid_errors_errorType)] W := h
  refine ⟨errs_of_laid h'.1, ?_⟩
  obtain ⟨name, u, ty, e1, e2, e3, e4, e5⟩ := h'.2 _ (List.mem_singleton.2 rfl)
  have en : name = [101, 114, 114, 111, 114] := (Option.some.inj e1).symm
  subst en
  obtain rfl := Option.some.inj (rt.symm.trans e2)
  have hm : ty ∈ (List.range 186).filter fun t => Tryd.prog.rowNamed t [101, 114, 114, 111, 114] := List.mem_filter.2 ⟨List.mem_range.2 (by rw [← typesSize]; exact e3), e4⟩
  rw [oneRow] at hm
  obtain rfl := List.mem_singleton.1 hm
  rw [handleE] at e5
  simpa using World.var?_cell gE e5 0

theorem door_met2 (os : Os) (args : Array Value) : laidMetH Tryd.prog laid2 ((World.doorLaid Tryd.prog 400 os).forCall (fun _ _ => 0) ⟨#[], args, []⟩).memory :=
  laidMetH_of_parts3 (fuel := 8) (laidMet_of_run' 8 (by kernel_rfl) (by kernel_rfl)) (by kernel_rfl) (by kernel_rfl)

theorem door_met3 (os : Os) (args : Array Value) : laidMetH Tryd.prog laid3 ((World.doorLaid Tryd.prog 400 os).forCall (fun _ _ => 0) ⟨#[], args, []⟩).memory :=
  laidMetH_of_parts3 (fuel := 8) (laidMet_of_run' 8 (by kernel_rfl) (by kernel_rfl)) (by kernel_rfl) (by kernel_rfl)

end Go.Proofs.YthlokfcejojdhaaDoor
