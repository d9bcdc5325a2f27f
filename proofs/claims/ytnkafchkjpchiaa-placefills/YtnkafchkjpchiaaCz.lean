/-
  The program's functions answer as the document says.
-/
import Derived.Test.YtnkafchkjpchiaaCg
namespace Go.Proofs.Ytnkafchkjpchiaa
theorem code : Code := ⟨Right_any, Counts_ok, Counts_bad, Total_ok, Total_bad, Above_ok, Offset_ok, Path_ok, Path_range, Path_bad⟩
end Go.Proofs.Ytnkafchkjpchiaa
