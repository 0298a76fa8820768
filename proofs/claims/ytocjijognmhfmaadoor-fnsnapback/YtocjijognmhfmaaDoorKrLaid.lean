/- What the listed variables' reading gives a walk: the table of the rounds, and the two errors' cells. -/
import Derived.Test.YtocjijognmhfmaaDoorKrLaw
import Derived.Lib.LaidTab
import Derived.ProofKit
import Derived.LaidMore
import Derived.Stop.LaidTwo
import Derived.Stop.Joined
namespace Go.Proofs.YtocjijognmhfmaaDoor
open Go.ChangeShapes Go.WideShapes Go.ChangeAt Go.RowKit
set_option linter.unusedVariables false

theorem own : ownKnob Tryd.prog.godebug = none := by kernel_rfl

theorem laidOut : laidOutB Tryd.prog = true := by kernel_rfl

theorem gS : Tryd.prog.globalNamed "loop.example/g00358/impl.errFrameShort" = some 0 := by kernel_rfl

theorem gB : Tryd.prog.globalNamed "loop.example/g00358/impl.errFrameBad" = some 1 := by kernel_rfl

theorem gSType : (Tryd.prog.globals[0]?).map (·.type) = some 55 := by kernel_rfl

theorem gBType : (Tryd.prog.globals[1]?).map (·.type) = some 55 := by kernel_rfl

theorem cellsE : Tryd.prog.cellsOf 124 = 1 := by kernel_rfl

theorem cellsS : Tryd.prog.cellsOf 9 = 1 := by kernel_rfl

theorem star : "*" ++ "errors.errorString" = "*errors.errorString" := by decide

theorem rowE (u : TypeId) (h : Tryd.prog.typeName? 3 u = some "*errors.errorString") : u = 102 :=
  typeName_ptr_named (nm := "errors.errorString") (by rw [star]; kernel_rfl) (by kernel_rfl) (by decide) u (by rw [star]; exact h)

/-- The two errors, as the rows list them. -/
def laid2 : List (String × DataW Unit) := [("loop.example/g00358/impl.errFrameShort", Rows.laid_loop_example_g00358_impl_errFrameShort), ("loop.example/g00358/impl.errFrameBad", Rows.laid_loop_example_g00358_impl_errFrameBad)]

theorem errs_of_laid {W : World} (h : laidMet Tryd.prog laid2 W) : ∃ a0 a2, ErrB W a0 a2 := by
  obtain ⟨a0, a1, s0, s1, c0, c1, t0, t1, hv0, hv1, hc0, hs0, hz0, hc1, hs1, hz1, hne, hb0, hb1⟩ := laid_sentinels2 h gS gSType gB gBType Tryd.underlying55 rowE Tryd.underlying102 Tryd.underlying124 rfl rfl Tryd.underlying9 cellsE cellsS
  exact ⟨a0, a1, ⟨by simpa using World.var?_cell gS hv0 0, by simpa using World.var?_cell gB hv1 0⟩, fun e => hne e.symm, ⟨c0, t0, hb0⟩, ⟨c1, t1, hb1⟩⟩

theorem gK : Tryd.prog.globalNamed "loop.example/g00358/impl.shaRounds" = some 2 := by kernel_rfl

theorem tK : (Tryd.prog.globals[2]?).map (·.type) = some 100 := by kernel_rfl

/-- The table and the two errors, as the row lists them. -/
def laidS : List (String × DataW Unit) := ("loop.example/g00358/impl.shaRounds", Rows.laid_loop_example_g00358_impl_shaRounds) :: laid2

theorem metS {W : World} (h : laidMetH Tryd.prog laidS W) : (∃ a0 a2, ErrB W a0 a2) ∧ Tab W kL := by
  rw [MakeChecks.laidMetH_plain _ _ _ (by kernel_rfl)] at h
  obtain ⟨ps, ⟨g0, t0, cs0, f0, p0, q0, hg0, ht0, hv0, hd0, hr, rfl⟩, hnd, hcl⟩ := h
  refine ⟨errs_of_laid ⟨q0, hr, (List.nodup_append.1 hnd).2.1, fun b off hb => hcl b off (List.mem_append_right _ hb)⟩, ?_⟩
  obtain rfl := Option.some.inj (gK.symm.trans hg0)
  obtain rfl := Option.some.inj (tK.symm.trans ht0)
  have hcs := Lib.cells_of_tab (zs := kL) (k := .u32) Tryd.underlying100 Tryd.underlying64 (by kernel_rfl) (by kernel_rfl) hd0
  intro j hj
  have hc := World.var?_cell hg0 hv0 j
  rw [hc, ← Array.getElem?_toList, hcs]
  have hjl : j < kL.length := hj
  simp [List.getD, List.getElem?_eq_getElem hjl]

theorem door_metS (os : Os) (args : Array Value) : laidMetH Tryd.prog laidS ((World.doorLaid Tryd.prog 400 os).forCall (fun _ _ => 0) ⟨#[], args, []⟩).memory :=
  laidMetH_of_parts3 (fuel := 8) (laidMet_of_run' 8 (by kernel_rfl) (by kernel_rfl)) (by kernel_rfl) (by kernel_rfl)

end Go.Proofs.YtocjijognmhfmaaDoor
