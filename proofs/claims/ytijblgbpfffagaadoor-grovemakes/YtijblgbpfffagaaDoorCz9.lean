/-
  The landed package grove answers as the document says: Make, Root, Check, Differ.
-/
import Derived.Test.YtijblgbpfffagaaDoorL9
import Derived.Test.YtijblgbpfffagaaDoorG2
import Derived.Test.YtijblgbpfffagaaDoorG3
namespace Go.Proofs.YtijblgbpfffagaaDoor
open Go.RowKit

theorem code9 : Code9 := ⟨Make_no, Make_ok, Root_no, Root_ok, Check_any, Differ_any⟩
end Go.Proofs.YtijblgbpfffagaaDoor
