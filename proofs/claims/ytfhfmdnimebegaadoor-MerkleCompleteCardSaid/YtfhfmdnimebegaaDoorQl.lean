/-
  The three tables, of the package hash and of its specification, as the rows list them.
-/
import Derived.Test.YtfhfmdnimebegaaDoorHl
import Derived.Test.YtfhfmdnimebegaaDoorQs
namespace Go.Proofs.YtfhfmdnimebegaaDoor
open Go.ChangeShapes Go.WideShapes Go.ChangeAt Go.RowKit
set_option linter.unusedVariables false
set_option linter.unusedSimpArgs false

theorem gConst : Tryd.prog.globalNamed "passim/passimref02.constants" = some 0 := by kernel_rfl
theorem gConstType : (Tryd.prog.globals[0]?).map (·.type) = some 129 := by kernel_rfl
theorem glob3_of {W : World} {rest : List (String × DataW Unit)} (h : laidMet Tryd.prog (("passim/passimref02.constants", Lib.tabData .u32 roundsZ) :: ("passim/hash.start", Lib.tabData .u32 startZ) :: ("passim/hash.rounds", Lib.tabData .u32 roundsZ) :: rest) W) : GlobR W ∧ Glob W := by
  have h1 := Lib.tabIs_of_head gConst gConstType Tryd.underlying129 Tryd.underlying118 cells1 cells64 h
  refine ⟨⟨?_, lt_of_cell (h1.cell gConst 0 (by decide))⟩, glob_of (laid_tail h)⟩
  rw [rounds_words]
  exact range_tab h1 gConst

/-- A world in which the three tables are laid. -/
noncomputable def laidWorld3 (os : Os) : World :=
  { World.holding Tryd.prog os ⟨#[], #[], []⟩ with heap := ((((World.holding Tryd.prog os ⟨#[], #[], []⟩).heap.modify 1 (fun
      | .cells _ t frozen => .cells (startZ.map fun z => Value.int .u32 z).toArray t frozen
      | o => o)).modify 2 (fun
      | .cells _ t frozen => .cells (roundsZ.map fun z => Value.int .u32 z).toArray t frozen
      | o => o)).modify 0 (fun
      | .cells _ t frozen => .cells (roundsZ.map fun z => Value.int .u32 z).toArray t frozen
      | o => o)) }

end Go.Proofs.YtfhfmdnimebegaaDoor
