/-
  Within and within answer one Bool of their three numbers; the document's stretch of a stretch.
-/
import Derived.Test.YthbhjpbcechdaaaStr
namespace Go.Proofs.Ythbhjpbcechdaaa
open Go.RowKit
set_option linter.unusedVariables false

def liesB (off len total : Int) : Bool := decide (0 ≤ off ∧ 0 ≤ len ∧ 0 ≤ total ∧ off + len ≤ total)
theorem liesB_yes {off len total : Int} (h : Lies off len total) : liesB off len total = true := decide_eq_true h
theorem liesB_no {off len total : Int} (h : ¬ Lies off len total) : liesB off len total = false := decide_eq_false h
theorem Within_any (off len total : Int) (w : World) (h1 : len ≤ 9223372036854775807) (h2 : off ≤ 9223372036854775807) (ht : total ≤ 9223372036854775807) :
    Calls Try.prog 15 #[.int .i64 off, .int .i64 len, .int .i64 total] w fun e w' => e = .returned (.bool (liesB off len total)) ∧ w = w' := by
  by_cases h : Lies off len total
  · rw [liesB_yes h]; exact Within_yes _ _ _ _ h ht
  · rw [liesB_no h]; exact Within_no _ _ _ _ h h1 h2 ht
theorem within_any (off len total : Int) (w : World) (h1 : len ≤ 9223372036854775807) (h2 : off ≤ 9223372036854775807) (ht : total ≤ 9223372036854775807) :
    Calls Try.prog 13 #[.int .i64 off, .int .i64 len, .int .i64 total] w fun e w' => e = .returned (.bool (liesB off len total)) ∧ w = w' := by
  by_cases h : Lies off len total
  · rw [liesB_yes h]; exact within_yes _ _ _ _ h ht
  · rw [liesB_no h]; exact within_no _ _ _ _ h h1 h2 ht
theorem seg_seg (l : List Int) (o m i n : Nat) (h : i + n ≤ m) : (((l.drop o).take m).drop i).take n = (l.drop (o + i)).take n := by
  rw [List.drop_take, List.take_take, List.drop_drop, Nat.min_eq_left (by omega)]
end Go.Proofs.Ythbhjpbcechdaaa
