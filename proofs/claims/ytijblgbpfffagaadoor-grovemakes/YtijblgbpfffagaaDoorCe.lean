/-
  The program's Offset and Above answer as the document says, of places.
-/
import Derived.Test.YtijblgbpfffagaaDoorCc
import Derived.Test.YtijblgbpfffagaaDoorCd
namespace Go.Proofs.YtijblgbpfffagaaDoor
open Go.RowKit
set_option linter.unusedVariables false
set_option linter.unusedSimpArgs false
set_option maxRecDepth 100000

section
variable {S B D a n : Nat}
theorem Shp.lev_le (h : Shp S B D a n) (j : Nat) (hj : j ≤ 40) : lev a n j ≤ 1099511627776 := by
  have := lev_pow h.a2.1 h.n1.2 j hj
  have h2 : 2 ^ (40 - j) ≤ 2 ^ 40 := Nat.pow_le_pow_right (by omega) (by omega)
  omega
theorem drops_sum_le (l : List Nat) (k : Nat) : (l.drop k).sum ≤ l.sum := by
  have : l.sum = (l.take k).sum + (l.drop k).sum := by rw [← List.sum_append, List.take_append_drop]
  omega
theorem drops_sum_le1 (l : List Nat) (k : Nat) (hk : 1 ≤ k) : (l.drop k).sum ≤ (l.drop 1).sum := by
  have := drops_sum_le (l.drop 1) (k - 1)
  rwa [List.drop_drop, show 1 + (k - 1) = k by omega] at this
end
end Go.Proofs.YtijblgbpfffagaaDoor
