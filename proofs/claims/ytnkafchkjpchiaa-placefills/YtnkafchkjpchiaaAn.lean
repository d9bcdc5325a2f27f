/-
  The anchor of the laws: the document's examples.
-/
import Derived.Test.YtnkafchkjpchiaaCt
namespace Go.Proofs.Ytnkafchkjpchiaa
open Go.RowKit
set_option linter.unusedVariables false
set_option linter.unusedSimpArgs false
set_option maxRecDepth 100000

theorem shp_ex : Shp 1000 64 32 2 16 := ⟨by decide, by decide, by decide⟩
theorem is0 : Is 0 0 := by have := is_ofInt 0 (by omega) (by omega); rwa [show floatOfInt .f64 0 = 0 by decide +kernel] at this
theorem is1 : Is 4607182418800017408 1 := by have := is_ofInt 1 (by omega) (by omega); rwa [show floatOfInt .f64 1 = 4607182418800017408 by decide +kernel] at this
theorem is2 : Is 4611686018427387904 2 := by have := is_ofInt 2 (by omega) (by omega); rwa [show floatOfInt .f64 2 = 4611686018427387904 by decide +kernel] at this
theorem is3 : Is 4613937818241073152 3 := by have := is_ofInt 3 (by omega) (by omega); rwa [show floatOfInt .f64 3 = 4613937818241073152 by decide +kernel] at this
theorem is5 : Is 4617315517961601024 5 := by have := is_ofInt 5 (by omega) (by omega); rwa [show floatOfInt .f64 5 = 4617315517961601024 by decide +kernel] at this
set_option maxHeartbeats 1000000 in
theorem anchor_of (C : Code) (w : World) : Calls Try.prog 8 #[] w fun e w' => e = .returned (.bool true) ∧ Below w.heap.size w w' := by
  have HT : Hid (∀ w : World, _) := fun w => C.totalOk 1000 64 32 2 16 w shp_ex
  have HA : Hid (∀ w : World, _) := fun w => C.aboveOk 1000 64 32 2 16 5 0 _ _ w shp_ex (by decide) (by decide) is5 is0
  have HO : Hid (∀ w : World, _) := fun w => C.offsetOk 1000 64 32 2 16 0 3 _ _ w shp_ex (by decide) (by decide) (by decide) is0 is3
  have HB1 : Hid (Below w.heap.size w (w.alloc (.cells #[.int .i64 1000, .int .i64 64, .int .i64 32] 23))) := (Below.refl _ _).alloc (Nat.le_refl _) _
  have HBK := Lib.hid (Blk.new w 23 [.int .i64 1000, .int .i64 64, .int .i64 32])
  go_enter Try.func8, Try.ntmps8
  go_wp2_with fail
  generalize w.alloc (.cells #[.int .i64 1000, .int .i64 64, .int .i64 32] 23) = W at *
  refine (HT.out W).mono ?_
  rintro e w1 ⟨rfl, hb1⟩
  rw [show above 2 16 * 64 = 960 by decide]
  have bk1 := HBK.out.below hb1 HBK.out.lt
  have BEL1 := Lib.hid (below_then HB1.out hb1)
  have c0 : w1.cell? ⟨w.heap.size, 0, none⟩ = some (.int .i64 1000) := bk1.cell 0
  have c1 : w1.cell? ⟨w.heap.size, 1, none⟩ = some (.int .i64 64) := bk1.cell 1
  have c2 : w1.cell? ⟨w.heap.size, 2, none⟩ = some (.int .i64 32) := bk1.cell 2
  have BK1 := Lib.hid bk1
  clear bk1 hb1
  go_wp2_with fail
  refine (HA.out w1).mono ?_
  rintro e w2 ⟨x', y', rfl, HX, HY, hb2⟩
  rw [show 5 % 2 * 32 = 32 by decide]
  have bk2 := BK1.out.below hb2 BK1.out.lt
  have BEL2 := Lib.hid (below_then BEL1.out hb2)
  clear c0 c1 c2
  have c0 : w2.cell? ⟨w.heap.size, 0, none⟩ = some (.int .i64 1000) := bk2.cell 0
  have c1 : w2.cell? ⟨w.heap.size, 1, none⟩ = some (.int .i64 64) := bk2.cell 1
  have c2 : w2.cell? ⟨w.heap.size, 2, none⟩ = some (.int .i64 32) := bk2.cell 2
  clear bk2 hb2
  go_wp2_with fail
  refine (HO.out w2).mono ?_
  rintro e w3 ⟨rfl, hb3⟩
  rw [show (((cs 2 16).drop (3 + 1)).sum + 0) * 64 = 64 by decide]
  have e1 := is_eq HX is2
  have e2 := is_eq HY is1
  rw [show decide (((5 / 2 : Nat) : Int) = 2) = true by decide] at e1
  rw [show decide (((0 + 1 : Nat) : Int) = 1) = true by decide] at e2
  clear c0 c1 c2
  go_wp2
  go_ret
  exact ⟨rfl, below_then BEL2.out hb3⟩
end Go.Proofs.Ytnkafchkjpchiaa
