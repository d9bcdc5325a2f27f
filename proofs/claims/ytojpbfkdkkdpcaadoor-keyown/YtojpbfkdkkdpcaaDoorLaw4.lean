/-
  What the rows' condition on the sums' two tables gives the walks.
-/
import Derived.Test.YtojpbfkdkkdpcaaDoorLaw
import Derived.Test.YtojpbfkdkkdpcaaDoorK9
import Derived.Lib.LaidTab
import Derived.Stop.LaidErr
namespace Go.Proofs.YtojpbfkdkkdpcaaDoor
open Go.ChangeShapes Go.WideShapes Go.ChangeAt Go.RowKit
set_option linter.unusedVariables false
set_option linter.unusedSimpArgs false

/-- The list of the rows that sums are made in. -/
def listed4 : List (String × DataW Unit) := Rows.keyMakesRow.laid
theorem gStart : Tryd.prog.globalNamed (listed4.getD 0 ("", .nil)).1 = some 0 := by kernel_rfl
theorem gRounds : Tryd.prog.globalNamed (listed4.getD 1 ("", .nil)).1 = some 1 := by kernel_rfl
theorem tStart : (Tryd.prog.globals[0]?).map (·.type) = some 113 := by kernel_rfl
theorem tRounds : (Tryd.prog.globals[1]?).map (·.type) = some 130 := by kernel_rfl
theorem cells73 : Tryd.prog.cellsOf 73 = 1 := by kernel_rfl
theorem cells113 : Tryd.prog.cellsOf 113 = 8 := by kernel_rfl
theorem cells130 : Tryd.prog.cellsOf 130 = 64 := by kernel_rfl
def initInts : List Int := YtojpbfkdkkdpcaaDoorSh.init8.list.map YtojpbfkdkkdpcaaDoorSh.ui
def kInts : List Int := YtojpbfkdkkdpcaaDoorSh.kTab.map YtojpbfkdkkdpcaaDoorSh.ui
theorem listed4_eq : listed4 = ((listed4.getD 0 ("", .nil)).1, Lib.tabData .u32 initInts) :: ((listed4.getD 1 ("", .nil)).1, Lib.tabData .u32 kInts) :: listed4.drop 2 := by kernel_rfl
theorem heap_of_var {W : World} {name : String} {g : Nat} {cs : Array Value} (hg : Tryd.prog.globalNamed name = some g) (h : W.var? Tryd.prog name = some cs) : ∃ t fr, W.heap[g]? = some (.cells cs t fr) := by
  unfold World.var? at h
  rw [hg] at h
  simp only [Option.bind_some] at h
  split at h
  · next c t fr hq =>
    injection h with h
    subst h
    exact ⟨_, _, hq⟩
  · cases h
theorem tabs_of_laid {W : World} (h : laidMetH Tryd.prog listed4 W) : YtojpbfkdkkdpcaaDoorSh.Tabs W := by
  rw [MakeChecks.laidMetH_plain _ _ _ (by kernel_rfl), listed4_eq] at h
  have h1 := Lib.tabIs_of_head gStart tStart Tryd.underlying113 Tryd.underlying73 cells73 cells113 h
  have h2 := Lib.tabIs_of_head gRounds tRounds Tryd.underlying130 Tryd.underlying73 cells73 cells130 h.tail
  obtain ⟨t1, f1, e1⟩ := heap_of_var gStart h1
  obtain ⟨t2, f2, e2⟩ := heap_of_var gRounds h2
  refine ⟨⟨t1, f1, ?_⟩, t2, f2, ?_⟩
  · rw [e1, initInts, List.map_map]; rfl
  · rw [e2, kInts, List.map_map]; rfl
end Go.Proofs.YtojpbfkdkkdpcaaDoor
