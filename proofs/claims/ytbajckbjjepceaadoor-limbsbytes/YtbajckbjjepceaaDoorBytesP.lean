/-
  LimbsBytes where a text or a number is too long; what High answers of a number's digits.
-/
import Derived.Test.YtbajckbjjepceaaDoorLaw3
namespace Go.Proofs.YtbajckbjjepceaaDoor.limbsBytes
open Go.Proofs.YtbajckbjjepceaaDoor Go.ChangeShapes Go.WideShapes Go.ChangeAt Go.RowKit
set_option linter.unusedVariables false
set_option linter.unusedSimpArgs false

set_option maxHeartbeats 1000000 in
theorem walk_long (A : Option Addr) (n cap : Nat) (a : Int) (A' : Option Addr) (n' cap' : Nat) (s : Int) (w : World) (hl : 1200 < n ∨ (n ≤ 1200 ∧ 300 < n')) :
    Calls Tryd.prog 3 #[.slice A n cap, .int .i64 a, .slice A' n' cap', .int .i64 s] w fun e w' => e = .returned (.bool true) ∧ Below w.heap.size w w' := by
  rcases hl with h | ⟨h1, h⟩
  all_goals
    have h2 := Int.ofNat_lt.2 h
    go_enter Tryd.func3, Tryd.ntmps3
    go_wp2_with fail
    refine (anchor_any _).mono ?_
    rintro e w1 ⟨rfl, hb1⟩
    go_wp2
    go_ret
    exact ⟨rfl, hb1⟩
theorem high_bytes {X S : Nat} (h : (digs X).length ≤ S) : List.replicate (S - (digs X).length) 0 ++ (digs X).reverse = bytesOf S X := by
  refine bytesOf_eq (by simp; omega) ((Fit.replicate _ _ _ (by omega)).append (digs_fit X).reverse) ?_
  rw [vbe, List.reverse_append, List.reverse_reverse, List.reverse_replicate, val_append, val_replicate, Nat.mul_zero, Nat.add_zero, digs_val]
end Go.Proofs.YtbajckbjjepceaaDoor.limbsBytes
