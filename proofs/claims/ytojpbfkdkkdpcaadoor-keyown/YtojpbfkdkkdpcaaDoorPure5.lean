/-
  Numbers modulo an odd one: the pure side. No condition.
-/
import Derived.Test.YtojpbfkdkkdpcaaDoorNum
namespace Go.Proofs.YtojpbfkdkkdpcaaDoor
set_option maxRecDepth 100000
set_option linter.unusedVariables false

theorem odd_coprime {n : Nat} (hn : n % 2 = 1) (k : Nat) : Nat.Coprime n (2 ^ k) := by
  have h2 : Nat.Coprime n 2 := by
    show Nat.gcd n 2 = 1
    rw [Nat.gcd_comm, Nat.gcd_rec, hn]
    rfl
  induction k with
  | zero => simp [Nat.Coprime]
  | succ k ih => rw [Nat.pow_succ]; exact Nat.Coprime.mul_right ih h2
theorem mod_sub {a b n : Nat} (hab : b ≤ a) (h : a % n = b % n) : n ∣ a - b := by
  have h1 := Nat.div_add_mod a n
  have h2 := Nat.div_add_mod b n
  have h3 : b / n ≤ a / n := Nat.div_le_div_right hab
  refine ⟨a / n - b / n, ?_⟩
  have h4 : n * (a / n - b / n) = n * (a / n) - n * (b / n) := Nat.mul_sub _ _ _
  rw [h4]
  omega
/-- What is the same behind a power of 2, modulo an odd number, is the same. -/
theorem odd_cancel {n c d k : Nat} (hn : n % 2 = 1) (h : (c * 2 ^ k) % n = (d * 2 ^ k) % n) (hc : c < n) (hd : d < n) : c = d := by
  have key : ∀ c d : Nat, d ≤ c → c < n → (c * 2 ^ k) % n = (d * 2 ^ k) % n → c = d := by
    intro c d hdc hcn hm
    have h1 := mod_sub (Nat.mul_le_mul_right _ hdc) hm
    rw [← Nat.sub_mul] at h1
    have h2 : n ∣ c - d := (odd_coprime hn k).dvd_of_dvd_mul_right h1
    rcases Nat.eq_zero_or_pos (c - d) with h3 | h3
    · omega
    · have := Nat.le_of_dvd h3 h2
      omega
  rcases Nat.le_total d c with h1 | h1
  · exact key c d h1 hc h
  · exact (key d c h1 hd h.symm).symm
/-- The number that makes a sum a multiple of B. -/
theorem mont_exact {B n n0 u : Nat} (hB : 0 < B) (h : (n0 * n) % B = B - 1) : (u + (u % B * n0 % B) * n) % B = 0 := by
  have h1 : ((u % B * n0 % B) * n) % B = (u % B * (B - 1)) % B := by
    rw [Nat.mul_mod, Nat.mod_mod, ← Nat.mul_mod, Nat.mul_assoc, Nat.mul_mod (u % B) (n0 * n), h, Nat.mul_mod (u % B) (B - 1), Nat.mod_mod]
    by_cases h2 : B = 1
    · subst h2; simp [Nat.mod_one]
    · rw [Nat.mod_eq_of_lt (by omega : B - 1 < B)]
  rw [Nat.add_mod, h1, Nat.add_mod_mod]
  have h3 : u % B + u % B * (B - 1) = u % B * B := by
    conv => lhs; lhs; rw [← Nat.mul_one (u % B)]
    rw [← Nat.mul_add, show 1 + (B - 1) = B by omega]
  rw [h3, Nat.mul_mod_left]
/-- One row of the short product: what comes out is as great as it may be, and has the same rest. -/
theorem mont_row {B n n0 t x b t' : Nat} (hB : 0 < B) (h : (n0 * n) % B = B - 1) (ht : t < 2 * n) (hx : x < B) (hb : b < n) (ht' : t' = (t + x * b + ((t + x * b) % B * n0 % B) * n) / B) :
    t' < 2 * n ∧ t' * B % n = (t + x * b) % n := by
  have e := mont_exact (u := t + x * b) hB h
  generalize hm : ((t + x * b) % B * n0 % B) = m at *
  have hmB : m < B := by rw [← hm]; exact Nat.mod_lt _ hB
  have h1 : t' * B = t + x * b + m * n := by
    rw [ht']
    exact Nat.div_mul_cancel (Nat.dvd_of_mod_eq_zero e)
  refine ⟨?_, ?_⟩
  · have h2 : x * b ≤ (B - 1) * n := Nat.mul_le_mul (by omega) (by omega)
    have h3 : m * n ≤ (B - 1) * n := Nat.mul_le_mul_right _ (by omega)
    have h4 : (B - 1) * n + n = B * n := by
      conv => lhs; rhs; rw [← Nat.one_mul n]
      rw [← Nat.add_mul, show B - 1 + 1 = B by omega]
    have h5 : t' * B < 2 * n * B := by
      have h6 : 2 * n * B = 2 * (B * n) := by rw [Nat.mul_assoc, Nat.mul_comm n B]
      omega
    exact Nat.lt_of_mul_lt_mul_right h5
  · rw [h1, Nat.add_mul_mod_self_right]
/-- Rows and rows: the rest of the product so far. -/
theorem mont_rows {B n t t' x b i A : Nat} (h : t * B ^ i % n = A * b % n) (h' : t' * B % n = (t + x * b) % n) : t' * B ^ (i + 1) % n = (A + x * B ^ i) * b % n := by
  have e1 : t' * B ^ (i + 1) = t' * B * B ^ i := by rw [Nat.pow_succ, Nat.mul_comm (B ^ i) B, Nat.mul_assoc]
  rw [e1, Nat.mul_mod, h', ← Nat.mul_mod, Nat.add_mul, Nat.add_mod, h, ← Nat.add_mod, Nat.add_mul A, Nat.mul_right_comm x b]
/-- Powers modulo a number. -/
theorem pow_add_mod (a x y n : Nat) : (a ^ x % n) * (a ^ y % n) % n = a ^ (x + y) % n := by rw [← Nat.mul_mod, Nat.pow_add]
theorem pow_mul_mod (a x y n : Nat) : (a ^ x % n) ^ y % n = a ^ (x * y) % n := by rw [← Nat.pow_mod, Nat.pow_mul]
theorem pow_bit (a e b n : Nat) (hb : b ≤ 1) : (a ^ e % n) * (a ^ e % n) % n * (a ^ b) % n = a ^ (2 * e + b) % n := by
  rw [Nat.mul_mod, Nat.mod_mod, ← Nat.mul_mod (a ^ e), ← Nat.mul_mod, ← Nat.pow_add, ← Nat.pow_add]
  congr 2
  omega
/-- There and back: a factor put in and taken out again. -/
theorem there_and_back {n a x y R k : Nat} (hR : R = 2 ^ k) (hn : n % 2 = 1) (ha : a < n) (hy : y < n) (hx : x * R % n = a * (R * R % n) % n) (hyx : y * R % n = x * 1 % n) : y = a := by
  subst hR
  have hxn : (x * 2 ^ k) % n = (a * 2 ^ k * 2 ^ k) % n := by rw [hx, Nat.mul_mod, Nat.mod_mod, ← Nat.mul_mod, Nat.mul_assoc]
  refine odd_cancel (k := k) hn ?_ hy ha
  rw [Nat.mul_one] at hyx
  rw [hyx]
  have h2 : (x % n * 2 ^ k) % n = ((a * 2 ^ k) % n * 2 ^ k) % n := by
    rw [Nat.mul_mod, Nat.mod_mod, ← Nat.mul_mod, hxn, Nat.mul_mod (a * 2 ^ k % n), Nat.mod_mod, ← Nat.mul_mod]
  exact odd_cancel (k := k) hn h2 (Nat.mod_lt _ (by omega)) (Nat.mod_lt _ (by omega))
end Go.Proofs.YtojpbfkdkkdpcaaDoor
