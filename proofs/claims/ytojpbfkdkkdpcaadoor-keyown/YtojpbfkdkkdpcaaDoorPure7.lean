/-
  What is against an odd number modulo 2^32, found bit by bit; powers by squares: the pure side. No condition.
-/
import Derived.Test.YtojpbfkdkkdpcaaDoorPure5
namespace Go.Proofs.YtojpbfkdkkdpcaaDoor
set_option linter.unusedVariables false

/-- One bit more of the number whose product with an odd one is -1. -/
theorem n0_step {n low k : Nat} (hlow : low % 2 = 1) (h : (n * low + 1) % 2 ^ k = 0) (hn : n < 2 ^ k) (b : Nat) (hb : b = (n * low + 1) / 2 ^ k % 2) : ((n + b * 2 ^ k) * low + 1) % 2 ^ (k + 1) = 0 ∧ n + b * 2 ^ k < 2 ^ (k + 1) := by
  have hp : 0 < 2 ^ k := Nat.two_pow_pos k
  have e := Nat.div_add_mod (n * low + 1) (2 ^ k)
  rw [h, Nat.add_zero] at e
  generalize (n * low + 1) / 2 ^ k = q at *
  have hb1 : b ≤ 1 := by omega
  have e2 : (n + b * 2 ^ k) * low + 1 = 2 ^ k * (q + b * low) := by
    rw [Nat.add_mul, Nat.mul_add, e, Nat.mul_assoc, Nat.mul_left_comm]
    omega
  refine ⟨?_, ?_⟩
  · have h2 : (q + b * low) % 2 = 0 := by
      rcases (by omega : b = 0 ∨ b = 1) with rfl | rfl
      · omega
      · omega
    obtain ⟨t, ht⟩ := Nat.dvd_of_mod_eq_zero h2
    rw [e2, ht, ← Nat.mul_assoc, Nat.pow_succ, Nat.mul_mod_right]
  · rw [Nat.pow_succ]
    have : b * 2 ^ k ≤ 1 * 2 ^ k := Nat.mul_le_mul_right _ hb1
    omega
/-- There is one such number. -/
theorem n0_one {x y low : Nat} {k : Nat} (hlow : low % 2 = 1) (hx : x < 2 ^ k) (hy : y < 2 ^ k) (h : (x * low + 1) % 2 ^ k = 0) (h' : (y * low + 1) % 2 ^ k = 0) : x = y := by
  have key : ∀ x y : Nat, y ≤ x → x < 2 ^ k → (x * low + 1) % 2 ^ k = 0 → (y * low + 1) % 2 ^ k = 0 → x = y := by
    intro x y hyx hx h h'
    have hle : y * low + 1 ≤ x * low + 1 := by have := Nat.mul_le_mul_right low hyx; omega
    have h1 := mod_sub (n := 2 ^ k) hle (by rw [h, h'])
    have e : x * low + 1 - (y * low + 1) = (x - y) * low := by rw [Nat.sub_mul]; omega
    rw [e] at h1
    have h2 : 2 ^ k ∣ x - y := (Nat.Coprime.symm (odd_coprime hlow k)).dvd_of_dvd_mul_right h1
    rcases Nat.eq_zero_or_pos (x - y) with h3 | h3
    · omega
    · have := Nat.le_of_dvd h3 h2
      omega
  rcases Nat.le_total y x with h1 | h1
  · exact key x y h1 hx h h'
  · exact (key y x h1 hy h' h).symm
/-- -1 as the program has it, and as the document has it. -/
theorem n0_forms {x low : Nat} (h : x * low % 4294967296 = 4294967295) : (x * low + 1) % 2 ^ 32 = 0 := by
  rw [show (2 : Nat) ^ 32 = 4294967296 from rfl]; omega
/-- j squares one behind the other. -/
theorem sq_step {x y n j : Nat} (h : y = x ^ (2 ^ j) % n) : y * y % n = x ^ (2 ^ (j + 1)) % n := by
  rw [h, ← Nat.mul_mod, ← Nat.pow_add, Nat.pow_succ, Nat.mul_two]
theorem sq_last {x y n e : Nat} (h : y = x ^ e % n) : y * x % n = x ^ (e + 1) % n := by
  rw [h, Nat.mul_mod, Nat.mod_mod, ← Nat.mul_mod, Nat.pow_succ]
end Go.Proofs.YtojpbfkdkkdpcaaDoor
