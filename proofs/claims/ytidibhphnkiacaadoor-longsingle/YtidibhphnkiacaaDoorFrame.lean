/-
  What the row's condition on the package's two tables gives the walks; the door's own heap meets it; bytes in memory turned into a string. No condition.
-/
import Derived.Test.YtidibhphnkiacaaDoorAnchor
import Derived.Test.YtidibhphnkiacaaDoorApp
import Derived.ProofKit
import Derived.LaidMore
import Derived.OpenShut
import Derived.Stop.Joined
import Derived.Lib.LaidTab
import Derived.Stop.LaidErr
import Derived.ChangeOld
import Derived.Below
namespace Go.Proofs.YtidibhphnkiacaaDoor
open Go.ChangeShapes Go.WideShapes Go.ChangeAt Go.RowKit
set_option linter.unusedVariables false

theorem own : ownKnob Tryd.prog.godebug = none := by kernel_rfl
/-- The list that all five rows bear. -/
def listed : List (String × DataW Unit) := Rows.longSumsRow.laid
theorem gStart : Tryd.prog.globalNamed (listed.getD 0 ("", .nil)).1 = some 0 := by kernel_rfl
theorem gRounds : Tryd.prog.globalNamed (listed.getD 1 ("", .nil)).1 = some 1 := by kernel_rfl
theorem tStart : (Tryd.prog.globals[0]?).map (·.type) = some 35 := by kernel_rfl
theorem tRounds : (Tryd.prog.globals[1]?).map (·.type) = some 43 := by kernel_rfl
theorem cells34 : Tryd.prog.cellsOf 34 = 1 := by kernel_rfl
theorem cells35 : Tryd.prog.cellsOf 35 = 8 := by kernel_rfl
theorem cells43 : Tryd.prog.cellsOf 43 = 80 := by kernel_rfl
theorem cells5 : Tryd.prog.cellsOf 5 = 1 := by kernel_rfl
theorem cells24 : Tryd.prog.cellsOf 24 = 1 := by kernel_rfl

theorem door_met (os : Os) (args : Array Value) : laidMetH Tryd.prog listed ((World.doorLaid Tryd.prog 19 os).forCall (fun _ _ => 0) ⟨#[], args, []⟩).memory :=
  laidMetH_of_parts3 (fuel := 8) (laidMet_of_run' 8 (by kernel_rfl) (by kernel_rfl)) (by kernel_rfl) (by kernel_rfl)

def initInts : List Int := init8.list.map ui
def kInts : List Int := kTab.map ui
theorem listed_eq : listed = [((listed.getD 0 ("", .nil)).1, Lib.tabData .u64 initInts), ((listed.getD 1 ("", .nil)).1, Lib.tabData .u64 kInts)] := by kernel_rfl
theorem heap_of_var {W : World} {name : String} {g : Nat} {cs : Array Value} (hg : Tryd.prog.globalNamed name = some g) (h : W.var? Tryd.prog name = some cs) : ∃ t fr, W.heap[g]? = some (.cells cs t fr) := by
  unfold World.var? at h
  rw [hg] at h
  simp only [Option.bind_some] at h
  split at h
  · next c t fr hq =>
    injection h with h
    subst h
    exact ⟨_, _, hq⟩
  · cases h
theorem tabs_of_laid {W : World} (h : laidMetH Tryd.prog listed W) : Tabs W := by
  rw [MakeChecks.laidMetH_plain _ _ _ (by kernel_rfl), listed_eq] at h
  have h1 := Lib.tabIs_of_head gStart tStart Tryd.underlying35 Tryd.underlying34 cells34 cells35 h
  have h2 := Lib.tabIs_of_head gRounds tRounds Tryd.underlying43 Tryd.underlying34 cells34 cells43 h.tail
  obtain ⟨t1, f1, e1⟩ := heap_of_var gStart h1
  obtain ⟨t2, f2, e2⟩ := heap_of_var gRounds h2
  refine ⟨⟨t1, f1, ?_⟩, t2, f2, ?_⟩
  · rw [e1, initInts, List.map_map]; rfl
  · rw [e2, kInts, List.map_map]; rfl

/-- A text of bytes as Go's string. -/
def strOf (l : List UInt8) : ByteArray := ⟨l.toArray⟩
end Go.Proofs.YtidibhphnkiacaaDoor
