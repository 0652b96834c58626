/-
  The example's trace: as it is made.
-/
import Derived.Test.YtkogfgbgmifcnaaDoorTdB
namespace Go.Proofs.YtkogfgbgmifcnaaDoor
open Go.RowKit Go.Shelf Go.Maps Go.ChangeShapes
set_option linter.unusedVariables false
set_option linter.unusedSimpArgs false
attribute [local go_sem] Oper.semAt_some store_func
set_option maxRecDepth 100000 in
theorem v51 (w : World) (z : Int) : Calls Tryd.prog 51 #[.int .i64 z] w fun e w' => e = .returned (.agg #[.int .i64 1, .int .i64 0, .int .i64 0, .int .i64 z]) ∧ w' = w.alloc (.cells #[.int .i64 1, .int .i64 0, .int .i64 0, .int .i64 z] 51) := by
  have hb := heap_alloc_new w (.cells #[.int .i64 1, .int .i64 0, .int .i64 0, .int .i64 z] 51)
  go_enter Tryd.func51, Tryd.ntmps51
  go_wp2
  generalize w.alloc (.cells #[.int .i64 1, .int .i64 0, .int .i64 0, .int .i64 z] 51) = W at *
  refine ⟨rfl, .agg #[.int .i64 1, .int .i64 0, .int .i64 0, .int .i64 z], ?_, rfl, rfl⟩
  have c0 := at_cells hb 0 rfl
  have c1 := at_cells hb 1 rfl
  have c2 := at_cells hb 2 rfl
  have c3 := at_cells hb 3 rfl
  simp only [results, Tryd.results51]
  go_simp
end Go.Proofs.YtkogfgbgmifcnaaDoor
