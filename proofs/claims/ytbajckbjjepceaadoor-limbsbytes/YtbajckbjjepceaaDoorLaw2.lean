/-
  How long the digits of limbs are.
-/
import Derived.Test.YtbajckbjjepceaaDoorLaw
namespace Go.Proofs.YtbajckbjjepceaaDoor
open Go.RowKit
set_option linter.unusedVariables false
set_option linter.unusedSimpArgs false

theorem digs_le {l : List Nat} {n : Nat} (hf : Fit 4294967296 l) (hl : l.length = n) : (digs (val 4294967296 l)).length ≤ 4 * n := by
  rw [digs_len, pow256_32, ← hl]; exact val_lt hf
theorem digs_le_mul {la lb : List Nat} {n n' : Nat} (hf : Fit 4294967296 la) (hl : la.length = n) (hf' : Fit 4294967296 lb) (hl' : lb.length = n') : (digs (val 4294967296 la * val 4294967296 lb)).length ≤ 4 * (n + n') := by
  rw [digs_len, pow256_32, Nat.pow_add, ← hl, ← hl']; exact Nat.mul_lt_mul'' (val_lt hf) (val_lt hf')
theorem okW_of {n : Nat} (h : okW n = true) : 1 ≤ n ∧ n ≤ 256 := by simpa [okW] using h
theorem okW_yes {n : Nat} (h1 : 1 ≤ n) (h2 : n ≤ 256) : okW n = true := by simp [okW, h1, h2]
end Go.Proofs.YtbajckbjjepceaaDoor
