/-
  The anchor of the laws: the document's examples.
-/
import Derived.Test.YtfoenafjaaidmaaDoorCt
namespace Go.Proofs.YtfoenafjaaidmaaDoor
open Go.RowKit
set_option linter.unusedVariables false
set_option linter.unusedSimpArgs false
set_option maxRecDepth 100000

theorem shp_ex : Shp 1000 64 32 2 16 := ⟨by decide, by decide, by decide⟩
theorem is0 : Is 0 0 := by have := is_ofInt 0 (by omega) (by omega); rwa [show floatOfInt .f64 0 = 0 by decide +kernel] at this
theorem is1 : Is 4607182418800017408 1 := by have := is_ofInt 1 (by omega) (by omega); rwa [show floatOfInt .f64 1 = 4607182418800017408 by decide +kernel] at this
theorem is2 : Is 4611686018427387904 2 := by have := is_ofInt 2 (by omega) (by omega); rwa [show floatOfInt .f64 2 = 4611686018427387904 by decide +kernel] at this
theorem is3 : Is 4613937818241073152 3 := by have := is_ofInt 3 (by omega) (by omega); rwa [show floatOfInt .f64 3 = 4613937818241073152 by decide +kernel] at this
theorem is5 : Is 4617315517961601024 5 := by have := is_ofInt 5 (by omega) (by omega); rwa [show floatOfInt .f64 5 = 4617315517961601024 by decide +kernel] at this
end Go.Proofs.YtfoenafjaaidmaaDoor
