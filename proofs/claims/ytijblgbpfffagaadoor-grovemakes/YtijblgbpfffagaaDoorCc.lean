/-
  The program's Total answers as the document says.
-/
import Derived.Test.YtijblgbpfffagaaDoorCb
namespace Go.Proofs.YtijblgbpfffagaaDoor
open Go.RowKit
set_option linter.unusedVariables false
set_option linter.unusedSimpArgs false
set_option maxRecDepth 100000

theorem run_from (A : Option Addr) (k cap lo : Nat) (L : Int) (hL : L = lo) (h : lo ≤ k) (h2 : k ≤ cap) (w : World) :
    (Instr.slice 39 (.slice A k cap) (some (.int .i64 L)) none none).run Tryd.prog w = .ok (.slice (if cap = lo then A else A.map (·.add lo)) (k - lo) (cap - lo)) w := by
  obtain ⟨i0, hi0, hz0, hz1, hz2⟩ := info_parts intInfo
  subst hL
  simp [Instr.slice, run_underlying Tryd.underlying39, Instr.sliceBounds, run_sliceBound, sizeOf, typeInfo, hi0, hz1, h, h2]
end Go.Proofs.YtijblgbpfffagaaDoor
