/-
  The fixed key 2: its primes, and that what is closed is opened again. No condition.
-/
import Derived.Test.YtppoikamenbckaaGreatDoorKeys0
namespace Go.Proofs.YtppoikamenbckaaGreatDoor
set_option linter.unusedVariables false

def m2 (A : Int) (x y : Int × Int) : Int × Int := (x.1 * y.1 - x.2 * y.2, x.1 * y.2 + x.2 * y.1 + A * (x.2 * y.2))
def a2 (x y : Int × Int) : Int × Int := (x.1 + y.1, x.2 + y.2)
/-- The difference. -/
def s2 (x y : Int × Int) : Int × Int := (x.1 - y.1, x.2 - y.2)
def p2 (A : Int) (x : Int × Int) : Nat → Int × Int
  | 0 => (1, 0)
  | n + 1 => m2 A (p2 A x n) x
section
variable {A : Int}
theorem m2_comm (x y : Int × Int) : m2 A x y = m2 A y x := Prod.ext (by simp only [m2]; grind) (by simp only [m2]; grind)
theorem m2_assoc (x y z : Int × Int) : m2 A (m2 A x y) z = m2 A x (m2 A y z) := Prod.ext (by simp only [m2]; grind) (by simp only [m2]; grind)
theorem m2_a2 (x y z : Int × Int) : m2 A x (a2 y z) = a2 (m2 A x y) (m2 A x z) := Prod.ext (by simp only [m2, a2]; grind) (by simp only [m2, a2]; grind)
theorem m2_s2 (x y z : Int × Int) : m2 A x (s2 y z) = s2 (m2 A x y) (m2 A x z) := Prod.ext (by simp only [m2, s2]; grind) (by simp only [m2, s2]; grind)
theorem m2_one (x : Int × Int) : m2 A x (1, 0) = x := Prod.ext (by simp only [m2]; grind) (by simp only [m2]; grind)
theorem one_m2 (x : Int × Int) : m2 A (1, 0) x = x := by rw [m2_comm, m2_one]
theorem p2_one (n : Nat) : p2 A (1, 0) n = (1, 0) := by
  induction n with
  | zero => rfl
  | succ n ih => rw [p2, ih, m2_one]
theorem p2_add (x : Int × Int) (m n : Nat) : p2 A x (m + n) = m2 A (p2 A x m) (p2 A x n) := by
  induction n with
  | zero => rw [p2, m2_one]; rfl
  | succ n ih => rw [← Nat.add_assoc, p2, ih, p2, m2_assoc]
theorem p2_mul (x : Int × Int) (m n : Nat) : p2 A x (m * n) = p2 A (p2 A x m) n := by
  induction n with
  | zero => rfl
  | succ n ih => rw [Nat.mul_succ, p2_add, ih, p2]
theorem p2_m2 (x y : Int × Int) (n : Nat) : p2 A (m2 A x y) n = m2 A (p2 A x n) (p2 A y n) := by
  induction n with
  | zero => rw [p2, p2, p2, m2_one]
  | succ n ih =>
    rw [p2, ih, p2, p2, m2_assoc, m2_assoc]
    congr 1
    rw [← m2_assoc, m2_comm (p2 A y n) x, m2_assoc]
theorem p2_one1 (x : Int × Int) : p2 A x 1 = x := by rw [p2, p2, one_m2]
theorem p2_int (c : Int) (n : Nat) : p2 A (c, 0) n = (c ^ n, 0) := by
  induction n with
  | zero => rw [p2, Int.pow_zero]
  | succ n ih => rw [p2, ih, Int.pow_succ]; exact Prod.ext (by simp only [m2]; grind) (by simp only [m2]; grind)

/-- The same modulo m. -/
def c2 (m : Int) (x y : Int × Int) : Prop := ∃ z : Int × Int, x.1 = y.1 + m * z.1 ∧ x.2 = y.2 + m * z.2
theorem c2.refl (m : Int) (x : Int × Int) : c2 m x x := ⟨(0, 0), by grind, by grind⟩
theorem c2.symm {m : Int} {x y : Int × Int} (h : c2 m x y) : c2 m y x := by
  obtain ⟨z, h0, h1⟩ := h
  exact ⟨(-z.1, -z.2), by grind, by grind⟩
theorem c2.trans {m : Int} {x y z : Int × Int} (h : c2 m x y) (k : c2 m y z) : c2 m x z := by
  obtain ⟨u, h0, h1⟩ := h
  obtain ⟨v, k0, k1⟩ := k
  exact ⟨(u.1 + v.1, u.2 + v.2), by grind, by grind⟩
theorem c2_iff {m : Int} {x y : Int × Int} : c2 m x y ↔ ∃ z : Int × Int, x = a2 y (m2 A (m, 0) z) := by
  constructor
  · rintro ⟨z, h0, h1⟩
    refine ⟨z, ?_⟩
    exact Prod.ext (by simp only [m2, a2]; grind) (by simp only [m2, a2]; grind)
  · rintro ⟨z, rfl⟩
    exact ⟨z, by simp only [m2, a2]; grind, by simp only [m2, a2]; grind⟩
theorem c2.add {m : Int} {x x' y y' : Int × Int} (h : c2 m x x') (k : c2 m y y') : c2 m (a2 x y) (a2 x' y') := by
  obtain ⟨u, h0, h1⟩ := h
  obtain ⟨v, k0, k1⟩ := k
  exact ⟨a2 u v, by simp only [a2]; grind, by simp only [a2]; grind⟩
theorem c2.sub {m : Int} {x x' y y' : Int × Int} (h : c2 m x x') (k : c2 m y y') : c2 m (s2 x y) (s2 x' y') := by
  obtain ⟨u, h0, h1⟩ := h
  obtain ⟨v, k0, k1⟩ := k
  exact ⟨s2 u v, by simp only [s2]; grind, by simp only [s2]; grind⟩
theorem c2.mul1 {m : Int} {x x' : Int × Int} (h : c2 m x x') (y : Int × Int) : c2 m (m2 A x y) (m2 A x' y) := by
  obtain ⟨u, h0, h1⟩ := h
  refine ⟨m2 A u y, ?_, ?_⟩
  · simp only [m2]; rw [h0, h1]; grind
  · simp only [m2]; rw [h0, h1]; grind
theorem c2.mul {m : Int} {x x' y y' : Int × Int} (h : c2 m x x') (k : c2 m y y') : c2 m (m2 A x y) (m2 A x' y') := by
  refine (c2.mul1 h y).trans ?_
  rw [m2_comm x', m2_comm x']
  exact c2.mul1 k x'
theorem c2.pow {m : Int} {x y : Int × Int} (h : c2 m x y) (n : Nat) : c2 m (p2 A x n) (p2 A y n) := by
  induction n with
  | zero => exact c2.refl _ _
  | succ n ih => exact ih.mul h
theorem c2.down {m r : Int} {x y : Int × Int} (h : c2 m x y) (hr : r ∣ m) : c2 r x y := by
  obtain ⟨u, h0, h1⟩ := h
  obtain ⟨s, rfl⟩ := hr
  exact ⟨(s * u.1, s * u.2), by grind, by grind⟩

/-- The first j parts of (x + y) to the power of n. -/
def b2 (A : Int) (x y : Int × Int) (n : Nat) : Nat → Int × Int
  | 0 => (0, 0)
  | j + 1 => a2 (b2 A x y n j) (m2 A ((ch n j : Nat), 0) (m2 A (p2 A x j) (p2 A y (n - j))))
theorem b2_succ (x y : Int × Int) (n : Nat) : ∀ j, j ≤ n + 1 → b2 A x y (n + 1) (j + 1) = a2 (m2 A y (b2 A x y n (j + 1))) (m2 A x (b2 A x y n j))
  | 0, _ => by
    simp only [b2, ch_zero_right, Nat.sub_zero]
    have e : p2 A y (n + 1) = m2 A (p2 A y n) y := rfl
    rw [e, show p2 A x 0 = (1, 0) from rfl]
    generalize p2 A y n = Y
    exact Prod.ext (by simp only [m2, a2]; grind) (by simp only [m2, a2]; grind)
  | j + 1, hj => by
    have h := b2_succ x y n j (by omega)
    have e1 : b2 A x y (n + 1) (j + 1 + 1) = a2 (b2 A x y (n + 1) (j + 1)) (m2 A ((ch n j + ch n (j + 1) : Nat), 0) (m2 A (p2 A x (j + 1)) (p2 A y (n - j)))) := by rw [show n - j = n + 1 - (j + 1) by omega]; rfl
    have e2 : b2 A x y n (j + 1 + 1) = a2 (b2 A x y n (j + 1)) (m2 A ((ch n (j + 1) : Nat), 0) (m2 A (p2 A x (j + 1)) (p2 A y (n - (j + 1))))) := rfl
    have e3 : b2 A x y n (j + 1) = a2 (b2 A x y n j) (m2 A ((ch n j : Nat), 0) (m2 A (p2 A x j) (p2 A y (n - j)))) := rfl
    have e4 : m2 A ((ch n (j + 1) : Nat), 0) (m2 A (p2 A x (j + 1)) (p2 A y (n - j))) = m2 A y (m2 A ((ch n (j + 1) : Nat), 0) (m2 A (p2 A x (j + 1)) (p2 A y (n - (j + 1))))) := by
      by_cases hjn : j < n
      · have e5 : p2 A y (n - j) = m2 A (p2 A y (n - (j + 1))) y := by rw [show n - j = n - (j + 1) + 1 by omega]; rfl
        rw [e5, m2_comm y, m2_assoc, m2_assoc]
      · rw [ch_above n (j + 1) (by omega)]
        generalize m2 A (p2 A x (j + 1)) (p2 A y (n - j)) = X
        generalize m2 A (p2 A x (j + 1)) (p2 A y (n - (j + 1))) = Y
        exact Prod.ext (by simp only [m2]; grind) (by simp only [m2]; grind)
    have e6 : m2 A ((ch n j : Nat), 0) (m2 A (p2 A x (j + 1)) (p2 A y (n - j))) = m2 A x (m2 A ((ch n j : Nat), 0) (m2 A (p2 A x j) (p2 A y (n - j)))) := by
      have e7 : p2 A x (j + 1) = m2 A (p2 A x j) x := rfl
      rw [e7, m2_comm (p2 A x j) x, m2_assoc, ← m2_assoc, m2_comm _ x, m2_assoc]
    have e8 : ∀ (p q : Int) (Z : Int × Int), m2 A (p + q, 0) Z = a2 (m2 A (p, 0) Z) (m2 A (q, 0) Z) := fun p q Z => Prod.ext (by simp only [m2, a2]; grind) (by simp only [m2, a2]; grind)
    have e9 : ∀ X Y Z U : Int × Int, a2 (a2 X Y) (a2 Z U) = a2 (a2 X U) (a2 Y Z) := fun X Y Z U => Prod.ext (by simp only [a2]; grind) (by simp only [a2]; grind)
    rw [e1, h, Int.natCast_add, e8, e4, e6, e9, ← m2_a2, ← m2_a2, ← e2, ← e3]
theorem bin2 (x y : Int × Int) : ∀ n, b2 A x y n (n + 1) = p2 A (a2 x y) n
  | 0 => by
    simp only [b2, ch, Nat.sub_zero, p2]
    exact Prod.ext (by simp only [m2, a2]; grind) (by simp only [m2, a2]; grind)
  | n + 1 => by
    have h := bin2 x y n
    rw [b2_succ x y n (n + 1) (by omega)]
    have e : b2 A x y n (n + 1 + 1) = a2 (b2 A x y n (n + 1)) (m2 A ((ch n (n + 1) : Nat), 0) (m2 A (p2 A x (n + 1)) (p2 A y (n - (n + 1))))) := rfl
    have e5 : p2 A (a2 x y) (n + 1) = m2 A (p2 A (a2 x y) n) (a2 x y) := rfl
    rw [e, ch_above n (n + 1) (by omega), h, e5]
    clear e e5 h
    generalize p2 A (a2 x y) n = X
    generalize m2 A (p2 A x (n + 1)) (p2 A y (n - (n + 1))) = Y
    exact Prod.ext (by simp only [m2, a2]; grind) (by simp only [m2, a2]; grind)
theorem b2_mod {r : Nat} (hr : Pr r) (x y : Int × Int) : ∀ j, j + 1 ≤ r → c2 r (b2 A x y r (j + 1)) (p2 A y r)
  | 0, _ => by
    have : b2 A x y r 1 = p2 A y r := by
      simp only [b2, ch_zero_right, Nat.sub_zero]
      rw [show p2 A x 0 = (1, 0) from rfl]
      generalize p2 A y r = Y
      exact Prod.ext (by simp only [m2, a2]; grind) (by simp only [m2, a2]; grind)
    rw [this]; exact c2.refl _ _
  | j + 1, h => by
    have ih := b2_mod hr x y j (by omega)
    obtain ⟨u, hu⟩ := hr.dvd_ch (k := j + 1) (by omega) (by omega)
    have e : b2 A x y r (j + 1 + 1) = a2 (b2 A x y r (j + 1)) (m2 A ((ch r (j + 1) : Nat), 0) (m2 A (p2 A x (j + 1)) (p2 A y (r - (j + 1))))) := rfl
    rw [e, hu, Int.natCast_mul]
    generalize m2 A (p2 A x (j + 1)) (p2 A y (r - (j + 1))) = X
    refine c2.trans ?_ ih
    exact ⟨m2 A ((u : Int), 0) X, by simp only [m2, a2]; grind, by simp only [m2, a2]; grind⟩
theorem dream2 {r : Nat} (hr : Pr r) (x y : Int × Int) : c2 r (p2 A (a2 x y) r) (a2 (p2 A x r) (p2 A y r)) := by
  have h := bin2 (A := A) x y r
  have e : b2 A x y r (r + 1) = a2 (b2 A x y r r) (m2 A ((ch r r : Nat), 0) (m2 A (p2 A x r) (p2 A y (r - r)))) := rfl
  obtain ⟨j, hj⟩ : ∃ j, r = j + 1 := ⟨r - 1, by have := hr.1; omega⟩
  have hb : c2 r (b2 A x y r r) (p2 A y r) := by
    have := b2_mod (A := A) hr x y j (by omega)
    rw [← hj] at this
    exact this
  rw [← h, e, ch_self, Nat.sub_self, show p2 A y 0 = (1, 0) from rfl, m2_one]
  have e2 : m2 A (((1 : Nat) : Int), 0) (p2 A x r) = p2 A x r := one_m2 _
  have e3 : ∀ X Y : Int × Int, a2 X Y = a2 Y X := fun X Y => Prod.ext (by simp only [a2]; grind) (by simp only [a2]; grind)
  rw [e2, e3]
  exact c2.add (c2.refl _ _) hb
theorem small2 {r c : Nat} (hr : Pr r) : c2 r (p2 A ((c : Int), 0) r) ((c : Int), 0) := by
  rw [p2_int]
  have hf := hr.fermat c
  have h2 : ((c ^ r : Nat) : Int) % r = (c : Int) % r := by rw [← Int.natCast_emod, hf, Int.natCast_emod]
  rw [Int.natCast_pow] at h2
  obtain ⟨k, hk⟩ := Int.dvd_of_emod_eq_zero (Int.emod_eq_emod_iff_emod_sub_eq_zero.1 h2)
  exact ⟨(k, 0), by simp only []; omega, by simp only []; omega⟩

/-- D divides x modulo r. -/
def d2 (A : Int) (r : Int) (D x : Int × Int) : Prop := ∃ w, c2 r x (m2 A D w)
theorem d2.sub {r : Int} {D x y : Int × Int} (h : d2 A r D x) (k : d2 A r D y) : d2 A r D (s2 x y) := by
  obtain ⟨u, hu⟩ := h
  obtain ⟨v, hv⟩ := k
  exact ⟨s2 u v, by rw [m2_s2]; exact hu.sub hv⟩
theorem d2.mul {r : Int} {D x : Int × Int} (h : d2 A r D x) (y : Int × Int) : d2 A r D (m2 A x y) := by
  obtain ⟨u, hu⟩ := h
  exact ⟨m2 A u y, by rw [← m2_assoc]; exact hu.mul1 y⟩
theorem d2.cong {r : Int} {D x y : Int × Int} (h : d2 A r D x) (k : c2 r y x) : d2 A r D y := by
  obtain ⟨u, hu⟩ := h
  exact ⟨u, k.trans hu⟩
theorem d2_pow {r : Int} {D x : Int × Int} (h : d2 A r D (s2 x (1, 0))) : ∀ n, d2 A r D (s2 (p2 A x n) (1, 0))
  | 0 => ⟨(0, 0), (0, 0), by simp only [p2, s2, m2]; grind, by simp only [p2, s2, m2]; grind⟩
  | n + 1 => by
    have ih := d2_pow h n
    have e : s2 (p2 A x (n + 1)) (1, 0) = s2 (s2 (m2 A (s2 (p2 A x n) (1, 0)) x) (0, 0)) (s2 (0, 0) (s2 x (1, 0))) := by
      rw [p2]
      generalize p2 A x n = X
      exact Prod.ext (by simp only [m2, s2]; grind) (by simp only [m2, s2]; grind)
    have hz : d2 A r D (0, 0) := ⟨(0, 0), (0, 0), by simp only [m2]; grind, by simp only [m2]; grind⟩
    rw [e]
    exact ((ih.mul x).sub hz).sub (hz.sub h)
theorem d2_gcd {r : Int} {D g : Int × Int} (x y : Nat) : d2 A r D (s2 (p2 A g x) (1, 0)) → d2 A r D (s2 (p2 A g y) (1, 0)) → d2 A r D (s2 (p2 A g (Nat.gcd x y)) (1, 0)) := by
  induction x, y using Nat.gcd.induction with
  | H0 n => intro _ h; rw [Nat.gcd_zero_left]; exact h
  | H1 m n hm ih =>
    intro h1 h2
    rw [Nat.gcd_rec]
    refine ih ?_ h1
    have e : p2 A g n = m2 A (p2 A (p2 A g m) (n / m)) (p2 A g (n % m)) := by rw [← p2_mul, ← p2_add, Nat.div_add_mod]
    have h3 := (d2_pow h1 (n / m)).mul (p2 A g (n % m))
    have h4 := h2.sub h3
    rw [e] at h4
    have e2 : ∀ X Y : Int × Int, s2 (s2 (m2 A X Y) (1, 0)) (m2 A (s2 X (1, 0)) Y) = s2 Y (1, 0) := fun X Y => Prod.ext (by simp only [m2, s2]; grind) (by simp only [m2, s2]; grind)
    rw [e2] at h4
    exact h4
end
/-- What is known of s: its primes. -/
theorem less_dvd2 {s g : Nat} (L : List Nat) (hs : 0 < s) (hL : ∀ p, Pr p → p ∣ s → p ∈ L) (hg : g ∣ s) (hne : g ≠ s) : ∃ q ∈ L, ∃ u, s / q = g * u ∧ q ∣ s := by
  obtain ⟨k, hk⟩ := hg
  have hk2 : 2 ≤ k := by
    rcases k with _ | _ | k
    · omega
    · omega
    · omega
  obtain ⟨p, hp, u, hu⟩ := exists_pr k hk2
  have hps : p ∣ s := ⟨g * u, by rw [hk, hu, Nat.mul_left_comm]⟩
  refine ⟨p, hL p hp hps, u, ?_, hps⟩
  rw [hk, hu, Nat.mul_left_comm, Nat.mul_div_cancel_left _ (by have := hp.1; omega)]
/-- Where s does not divide k, what is a unit is a multiple of x to the power of k less 1. -/
theorem side2 {A : Int} {r s c k : Nat} {x g : Int × Int} (L : List Nat) (hs : 0 < s) (hL : ∀ p, Pr p → p ∣ s → p ∈ L) (hg : g = p2 A x c) (h1 : c2 r (p2 A g s) (1, 0)) (hno : ¬ s ∣ k) : ∃ q ∈ L, d2 A r (s2 (p2 A x k) (1, 0)) (s2 (p2 A g (s / q)) (1, 0)) := by
  obtain ⟨q, hq, u, hu, hqs⟩ := less_dvd2 L hs hL (Nat.gcd_dvd_right k s) (fun e => hno (e ▸ Nat.gcd_dvd_left k s))
  refine ⟨q, hq, ?_⟩
  rw [hu, p2_mul]
  refine d2_pow ?_ u
  refine d2_gcd k s ?_ ?_
  · rw [hg, ← p2_mul, Nat.mul_comm, p2_mul]
    exact d2_pow ⟨(1, 0), by rw [m2_one]; exact c2.refl _ _⟩ c
  · have hz : d2 A r (s2 (p2 A x k) (1, 0)) (0, 0) := ⟨(0, 0), (0, 0), by simp only [m2]; grind, by simp only [m2]; grind⟩
    refine hz.cong ?_
    have := h1.sub (c2.refl (r : Int) (1, 0))
    have e : s2 (1, 0) (1, 0) = ((0, 0) : Int × Int) := rfl
    rw [e] at this
    exact this
end Go.Proofs.YtppoikamenbckaaGreatDoor

namespace Go.Proofs.YtppoikamenbckaaGreatDoor
set_option linter.unusedVariables false

def m3 (A B : Int) (x y : Int × Int × Int) : Int × Int × Int := (x.1 * y.1 + (x.2.1 * y.2.2 + x.2.2 * y.2.1) + A * (x.2.2 * y.2.2), x.1 * y.2.1 + x.2.1 * y.1 - B * (x.2.1 * y.2.2 + x.2.2 * y.2.1) + (1 - A * B) * (x.2.2 * y.2.2), x.1 * y.2.2 + x.2.1 * y.2.1 + x.2.2 * y.1 + A * (x.2.1 * y.2.2 + x.2.2 * y.2.1) + (A * A - B) * (x.2.2 * y.2.2))
def a3 (x y : Int × Int × Int) : Int × Int × Int := (x.1 + y.1, x.2.1 + y.2.1, x.2.2 + y.2.2)
/-- The difference. -/
def s3 (x y : Int × Int × Int) : Int × Int × Int := (x.1 - y.1, x.2.1 - y.2.1, x.2.2 - y.2.2)
def p3 (A B : Int) (x : Int × Int × Int) : Nat → Int × Int × Int
  | 0 => (1, 0, 0)
  | n + 1 => m3 A B (p3 A B x n) x
section
variable {A B : Int}
theorem m3_comm (x y : Int × Int × Int) : m3 A B x y = m3 A B y x := Prod.ext (by simp only [m3]; grind) (Prod.ext (by simp only [m3]; grind) (by simp only [m3]; grind))
theorem m3_assoc (x y z : Int × Int × Int) : m3 A B (m3 A B x y) z = m3 A B x (m3 A B y z) := Prod.ext (by simp only [m3]; grind) (Prod.ext (by simp only [m3]; grind) (by simp only [m3]; grind))
theorem m3_a3 (x y z : Int × Int × Int) : m3 A B x (a3 y z) = a3 (m3 A B x y) (m3 A B x z) := Prod.ext (by simp only [m3, a3]; grind) (Prod.ext (by simp only [m3, a3]; grind) (by simp only [m3, a3]; grind))
theorem m3_s3 (x y z : Int × Int × Int) : m3 A B x (s3 y z) = s3 (m3 A B x y) (m3 A B x z) := Prod.ext (by simp only [m3, s3]; grind) (Prod.ext (by simp only [m3, s3]; grind) (by simp only [m3, s3]; grind))
theorem m3_one (x : Int × Int × Int) : m3 A B x (1, 0, 0) = x := Prod.ext (by simp only [m3]; grind) (Prod.ext (by simp only [m3]; grind) (by simp only [m3]; grind))
theorem one_m3 (x : Int × Int × Int) : m3 A B (1, 0, 0) x = x := by rw [m3_comm, m3_one]
theorem p3_one (n : Nat) : p3 A B (1, 0, 0) n = (1, 0, 0) := by
  induction n with
  | zero => rfl
  | succ n ih => rw [p3, ih, m3_one]
theorem p3_add (x : Int × Int × Int) (m n : Nat) : p3 A B x (m + n) = m3 A B (p3 A B x m) (p3 A B x n) := by
  induction n with
  | zero => rw [p3, m3_one]; rfl
  | succ n ih => rw [← Nat.add_assoc, p3, ih, p3, m3_assoc]
theorem p3_mul (x : Int × Int × Int) (m n : Nat) : p3 A B x (m * n) = p3 A B (p3 A B x m) n := by
  induction n with
  | zero => rfl
  | succ n ih => rw [Nat.mul_succ, p3_add, ih, p3]
theorem p3_m3 (x y : Int × Int × Int) (n : Nat) : p3 A B (m3 A B x y) n = m3 A B (p3 A B x n) (p3 A B y n) := by
  induction n with
  | zero => rw [p3, p3, p3, m3_one]
  | succ n ih =>
    rw [p3, ih, p3, p3, m3_assoc, m3_assoc]
    congr 1
    rw [← m3_assoc, m3_comm (p3 A B y n) x, m3_assoc]
theorem p3_one1 (x : Int × Int × Int) : p3 A B x 1 = x := by rw [p3, p3, one_m3]
theorem p3_int (c : Int) (n : Nat) : p3 A B (c, 0, 0) n = (c ^ n, 0, 0) := by
  induction n with
  | zero => rw [p3, Int.pow_zero]
  | succ n ih => rw [p3, ih, Int.pow_succ]; exact Prod.ext (by simp only [m3]; grind) (Prod.ext (by simp only [m3]; grind) (by simp only [m3]; grind))

/-- The same modulo m. -/
def c3 (m : Int) (x y : Int × Int × Int) : Prop := ∃ z : Int × Int × Int, x.1 = y.1 + m * z.1 ∧ x.2.1 = y.2.1 + m * z.2.1 ∧ x.2.2 = y.2.2 + m * z.2.2
theorem c3.refl (m : Int) (x : Int × Int × Int) : c3 m x x := ⟨(0, 0, 0), by grind, by grind, by grind⟩
theorem c3.symm {m : Int} {x y : Int × Int × Int} (h : c3 m x y) : c3 m y x := by
  obtain ⟨z, h0, h1, h2⟩ := h
  exact ⟨(-z.1, -z.2.1, -z.2.2), by grind, by grind, by grind⟩
theorem c3.trans {m : Int} {x y z : Int × Int × Int} (h : c3 m x y) (k : c3 m y z) : c3 m x z := by
  obtain ⟨u, h0, h1, h2⟩ := h
  obtain ⟨v, k0, k1, k2⟩ := k
  exact ⟨(u.1 + v.1, u.2.1 + v.2.1, u.2.2 + v.2.2), by grind, by grind, by grind⟩
theorem c3_iff {m : Int} {x y : Int × Int × Int} : c3 m x y ↔ ∃ z : Int × Int × Int, x = a3 y (m3 A B (m, 0, 0) z) := by
  constructor
  · rintro ⟨z, h0, h1, h2⟩
    refine ⟨z, ?_⟩
    exact Prod.ext (by simp only [m3, a3]; grind) (Prod.ext (by simp only [m3, a3]; grind) (by simp only [m3, a3]; grind))
  · rintro ⟨z, rfl⟩
    exact ⟨z, by simp only [m3, a3]; grind, by simp only [m3, a3]; grind, by simp only [m3, a3]; grind⟩
theorem c3.add {m : Int} {x x' y y' : Int × Int × Int} (h : c3 m x x') (k : c3 m y y') : c3 m (a3 x y) (a3 x' y') := by
  obtain ⟨u, h0, h1, h2⟩ := h
  obtain ⟨v, k0, k1, k2⟩ := k
  exact ⟨a3 u v, by simp only [a3]; grind, by simp only [a3]; grind, by simp only [a3]; grind⟩
theorem c3.sub {m : Int} {x x' y y' : Int × Int × Int} (h : c3 m x x') (k : c3 m y y') : c3 m (s3 x y) (s3 x' y') := by
  obtain ⟨u, h0, h1, h2⟩ := h
  obtain ⟨v, k0, k1, k2⟩ := k
  exact ⟨s3 u v, by simp only [s3]; grind, by simp only [s3]; grind, by simp only [s3]; grind⟩
theorem c3.mul1 {m : Int} {x x' : Int × Int × Int} (h : c3 m x x') (y : Int × Int × Int) : c3 m (m3 A B x y) (m3 A B x' y) := by
  obtain ⟨u, h0, h1, h2⟩ := h
  refine ⟨m3 A B u y, ?_, ?_, ?_⟩
  · simp only [m3]; rw [h0, h1, h2]; grind
  · simp only [m3]; rw [h0, h1, h2]; grind
  · simp only [m3]; rw [h0, h1, h2]; grind
theorem c3.mul {m : Int} {x x' y y' : Int × Int × Int} (h : c3 m x x') (k : c3 m y y') : c3 m (m3 A B x y) (m3 A B x' y') := by
  refine (c3.mul1 h y).trans ?_
  rw [m3_comm x', m3_comm x']
  exact c3.mul1 k x'
theorem c3.pow {m : Int} {x y : Int × Int × Int} (h : c3 m x y) (n : Nat) : c3 m (p3 A B x n) (p3 A B y n) := by
  induction n with
  | zero => exact c3.refl _ _
  | succ n ih => exact ih.mul h
theorem c3.down {m r : Int} {x y : Int × Int × Int} (h : c3 m x y) (hr : r ∣ m) : c3 r x y := by
  obtain ⟨u, h0, h1, h2⟩ := h
  obtain ⟨s, rfl⟩ := hr
  exact ⟨(s * u.1, s * u.2.1, s * u.2.2), by grind, by grind, by grind⟩

/-- The first j parts of (x + y) to the power of n. -/
def b3 (A B : Int) (x y : Int × Int × Int) (n : Nat) : Nat → Int × Int × Int
  | 0 => (0, 0, 0)
  | j + 1 => a3 (b3 A B x y n j) (m3 A B ((ch n j : Nat), 0, 0) (m3 A B (p3 A B x j) (p3 A B y (n - j))))
theorem b3_succ (x y : Int × Int × Int) (n : Nat) : ∀ j, j ≤ n + 1 → b3 A B x y (n + 1) (j + 1) = a3 (m3 A B y (b3 A B x y n (j + 1))) (m3 A B x (b3 A B x y n j))
  | 0, _ => by
    simp only [b3, ch_zero_right, Nat.sub_zero]
    have e : p3 A B y (n + 1) = m3 A B (p3 A B y n) y := rfl
    rw [e, show p3 A B x 0 = (1, 0, 0) from rfl]
    generalize p3 A B y n = Y
    exact Prod.ext (by simp only [m3, a3]; grind) (Prod.ext (by simp only [m3, a3]; grind) (by simp only [m3, a3]; grind))
  | j + 1, hj => by
    have h := b3_succ x y n j (by omega)
    have e1 : b3 A B x y (n + 1) (j + 1 + 1) = a3 (b3 A B x y (n + 1) (j + 1)) (m3 A B ((ch n j + ch n (j + 1) : Nat), 0, 0) (m3 A B (p3 A B x (j + 1)) (p3 A B y (n - j)))) := by rw [show n - j = n + 1 - (j + 1) by omega]; rfl
    have e2 : b3 A B x y n (j + 1 + 1) = a3 (b3 A B x y n (j + 1)) (m3 A B ((ch n (j + 1) : Nat), 0, 0) (m3 A B (p3 A B x (j + 1)) (p3 A B y (n - (j + 1))))) := rfl
    have e3 : b3 A B x y n (j + 1) = a3 (b3 A B x y n j) (m3 A B ((ch n j : Nat), 0, 0) (m3 A B (p3 A B x j) (p3 A B y (n - j)))) := rfl
    have e4 : m3 A B ((ch n (j + 1) : Nat), 0, 0) (m3 A B (p3 A B x (j + 1)) (p3 A B y (n - j))) = m3 A B y (m3 A B ((ch n (j + 1) : Nat), 0, 0) (m3 A B (p3 A B x (j + 1)) (p3 A B y (n - (j + 1))))) := by
      by_cases hjn : j < n
      · have e5 : p3 A B y (n - j) = m3 A B (p3 A B y (n - (j + 1))) y := by rw [show n - j = n - (j + 1) + 1 by omega]; rfl
        rw [e5, m3_comm y, m3_assoc, m3_assoc]
      · rw [ch_above n (j + 1) (by omega)]
        generalize m3 A B (p3 A B x (j + 1)) (p3 A B y (n - j)) = X
        generalize m3 A B (p3 A B x (j + 1)) (p3 A B y (n - (j + 1))) = Y
        exact Prod.ext (by simp only [m3]; grind) (Prod.ext (by simp only [m3]; grind) (by simp only [m3]; grind))
    have e6 : m3 A B ((ch n j : Nat), 0, 0) (m3 A B (p3 A B x (j + 1)) (p3 A B y (n - j))) = m3 A B x (m3 A B ((ch n j : Nat), 0, 0) (m3 A B (p3 A B x j) (p3 A B y (n - j)))) := by
      have e7 : p3 A B x (j + 1) = m3 A B (p3 A B x j) x := rfl
      rw [e7, m3_comm (p3 A B x j) x, m3_assoc, ← m3_assoc, m3_comm _ x, m3_assoc]
    have e8 : ∀ (p q : Int) (Z : Int × Int × Int), m3 A B (p + q, 0, 0) Z = a3 (m3 A B (p, 0, 0) Z) (m3 A B (q, 0, 0) Z) := fun p q Z => Prod.ext (by simp only [m3, a3]; grind) (Prod.ext (by simp only [m3, a3]; grind) (by simp only [m3, a3]; grind))
    have e9 : ∀ X Y Z U : Int × Int × Int, a3 (a3 X Y) (a3 Z U) = a3 (a3 X U) (a3 Y Z) := fun X Y Z U => Prod.ext (by simp only [a3]; grind) (Prod.ext (by simp only [a3]; grind) (by simp only [a3]; grind))
    rw [e1, h, Int.natCast_add, e8, e4, e6, e9, ← m3_a3, ← m3_a3, ← e2, ← e3]
theorem bin3 (x y : Int × Int × Int) : ∀ n, b3 A B x y n (n + 1) = p3 A B (a3 x y) n
  | 0 => by
    simp only [b3, ch, Nat.sub_zero, p3]
    exact Prod.ext (by simp only [m3, a3]; grind) (Prod.ext (by simp only [m3, a3]; grind) (by simp only [m3, a3]; grind))
  | n + 1 => by
    have h := bin3 x y n
    rw [b3_succ x y n (n + 1) (by omega)]
    have e : b3 A B x y n (n + 1 + 1) = a3 (b3 A B x y n (n + 1)) (m3 A B ((ch n (n + 1) : Nat), 0, 0) (m3 A B (p3 A B x (n + 1)) (p3 A B y (n - (n + 1))))) := rfl
    have e5 : p3 A B (a3 x y) (n + 1) = m3 A B (p3 A B (a3 x y) n) (a3 x y) := rfl
    rw [e, ch_above n (n + 1) (by omega), h, e5]
    clear e e5 h
    generalize p3 A B (a3 x y) n = X
    generalize m3 A B (p3 A B x (n + 1)) (p3 A B y (n - (n + 1))) = Y
    exact Prod.ext (by simp only [m3, a3]; grind) (Prod.ext (by simp only [m3, a3]; grind) (by simp only [m3, a3]; grind))
theorem b3_mod {r : Nat} (hr : Pr r) (x y : Int × Int × Int) : ∀ j, j + 1 ≤ r → c3 r (b3 A B x y r (j + 1)) (p3 A B y r)
  | 0, _ => by
    have : b3 A B x y r 1 = p3 A B y r := by
      simp only [b3, ch_zero_right, Nat.sub_zero]
      rw [show p3 A B x 0 = (1, 0, 0) from rfl]
      generalize p3 A B y r = Y
      exact Prod.ext (by simp only [m3, a3]; grind) (Prod.ext (by simp only [m3, a3]; grind) (by simp only [m3, a3]; grind))
    rw [this]; exact c3.refl _ _
  | j + 1, h => by
    have ih := b3_mod hr x y j (by omega)
    obtain ⟨u, hu⟩ := hr.dvd_ch (k := j + 1) (by omega) (by omega)
    have e : b3 A B x y r (j + 1 + 1) = a3 (b3 A B x y r (j + 1)) (m3 A B ((ch r (j + 1) : Nat), 0, 0) (m3 A B (p3 A B x (j + 1)) (p3 A B y (r - (j + 1))))) := rfl
    rw [e, hu, Int.natCast_mul]
    generalize m3 A B (p3 A B x (j + 1)) (p3 A B y (r - (j + 1))) = X
    refine c3.trans ?_ ih
    exact ⟨m3 A B ((u : Int), 0, 0) X, by simp only [m3, a3]; grind, by simp only [m3, a3]; grind, by simp only [m3, a3]; grind⟩
theorem dream3 {r : Nat} (hr : Pr r) (x y : Int × Int × Int) : c3 r (p3 A B (a3 x y) r) (a3 (p3 A B x r) (p3 A B y r)) := by
  have h := bin3 (A := A) (B := B) x y r
  have e : b3 A B x y r (r + 1) = a3 (b3 A B x y r r) (m3 A B ((ch r r : Nat), 0, 0) (m3 A B (p3 A B x r) (p3 A B y (r - r)))) := rfl
  obtain ⟨j, hj⟩ : ∃ j, r = j + 1 := ⟨r - 1, by have := hr.1; omega⟩
  have hb : c3 r (b3 A B x y r r) (p3 A B y r) := by
    have := b3_mod (A := A) (B := B) hr x y j (by omega)
    rw [← hj] at this
    exact this
  rw [← h, e, ch_self, Nat.sub_self, show p3 A B y 0 = (1, 0, 0) from rfl, m3_one]
  have e2 : m3 A B (((1 : Nat) : Int), 0, 0) (p3 A B x r) = p3 A B x r := one_m3 _
  have e3 : ∀ X Y : Int × Int × Int, a3 X Y = a3 Y X := fun X Y => Prod.ext (by simp only [a3]; grind) (Prod.ext (by simp only [a3]; grind) (by simp only [a3]; grind))
  rw [e2, e3]
  exact c3.add (c3.refl _ _) hb
theorem small3 {r c : Nat} (hr : Pr r) : c3 r (p3 A B ((c : Int), 0, 0) r) ((c : Int), 0, 0) := by
  rw [p3_int]
  have hf := hr.fermat c
  have h2 : ((c ^ r : Nat) : Int) % r = (c : Int) % r := by rw [← Int.natCast_emod, hf, Int.natCast_emod]
  rw [Int.natCast_pow] at h2
  obtain ⟨k, hk⟩ := Int.dvd_of_emod_eq_zero (Int.emod_eq_emod_iff_emod_sub_eq_zero.1 h2)
  exact ⟨(k, 0, 0), by simp only []; omega, by simp only []; omega, by simp only []; omega⟩

/-- D divides x modulo r. -/
def d3 (A B : Int) (r : Int) (D x : Int × Int × Int) : Prop := ∃ w, c3 r x (m3 A B D w)
theorem d3.sub {r : Int} {D x y : Int × Int × Int} (h : d3 A B r D x) (k : d3 A B r D y) : d3 A B r D (s3 x y) := by
  obtain ⟨u, hu⟩ := h
  obtain ⟨v, hv⟩ := k
  exact ⟨s3 u v, by rw [m3_s3]; exact hu.sub hv⟩
theorem d3.mul {r : Int} {D x : Int × Int × Int} (h : d3 A B r D x) (y : Int × Int × Int) : d3 A B r D (m3 A B x y) := by
  obtain ⟨u, hu⟩ := h
  exact ⟨m3 A B u y, by rw [← m3_assoc]; exact hu.mul1 y⟩
theorem d3.cong {r : Int} {D x y : Int × Int × Int} (h : d3 A B r D x) (k : c3 r y x) : d3 A B r D y := by
  obtain ⟨u, hu⟩ := h
  exact ⟨u, k.trans hu⟩
theorem d3_pow {r : Int} {D x : Int × Int × Int} (h : d3 A B r D (s3 x (1, 0, 0))) : ∀ n, d3 A B r D (s3 (p3 A B x n) (1, 0, 0))
  | 0 => ⟨(0, 0, 0), (0, 0, 0), by simp only [p3, s3, m3]; grind, by simp only [p3, s3, m3]; grind, by simp only [p3, s3, m3]; grind⟩
  | n + 1 => by
    have ih := d3_pow h n
    have e : s3 (p3 A B x (n + 1)) (1, 0, 0) = s3 (s3 (m3 A B (s3 (p3 A B x n) (1, 0, 0)) x) (0, 0, 0)) (s3 (0, 0, 0) (s3 x (1, 0, 0))) := by
      rw [p3]
      generalize p3 A B x n = X
      exact Prod.ext (by simp only [m3, s3]; grind) (Prod.ext (by simp only [m3, s3]; grind) (by simp only [m3, s3]; grind))
    have hz : d3 A B r D (0, 0, 0) := ⟨(0, 0, 0), (0, 0, 0), by simp only [m3]; grind, by simp only [m3]; grind, by simp only [m3]; grind⟩
    rw [e]
    exact ((ih.mul x).sub hz).sub (hz.sub h)
theorem d3_gcd {r : Int} {D g : Int × Int × Int} (x y : Nat) : d3 A B r D (s3 (p3 A B g x) (1, 0, 0)) → d3 A B r D (s3 (p3 A B g y) (1, 0, 0)) → d3 A B r D (s3 (p3 A B g (Nat.gcd x y)) (1, 0, 0)) := by
  induction x, y using Nat.gcd.induction with
  | H0 n => intro _ h; rw [Nat.gcd_zero_left]; exact h
  | H1 m n hm ih =>
    intro h1 h2
    rw [Nat.gcd_rec]
    refine ih ?_ h1
    have e : p3 A B g n = m3 A B (p3 A B (p3 A B g m) (n / m)) (p3 A B g (n % m)) := by rw [← p3_mul, ← p3_add, Nat.div_add_mod]
    have h3 := (d3_pow h1 (n / m)).mul (p3 A B g (n % m))
    have h4 := h2.sub h3
    rw [e] at h4
    have e2 : ∀ X Y : Int × Int × Int, s3 (s3 (m3 A B X Y) (1, 0, 0)) (m3 A B (s3 X (1, 0, 0)) Y) = s3 Y (1, 0, 0) := fun X Y => Prod.ext (by simp only [m3, s3]; grind) (Prod.ext (by simp only [m3, s3]; grind) (by simp only [m3, s3]; grind))
    rw [e2] at h4
    exact h4
end
/-- What is known of s: its primes. -/
theorem less_dvd3 {s g : Nat} (L : List Nat) (hs : 0 < s) (hL : ∀ p, Pr p → p ∣ s → p ∈ L) (hg : g ∣ s) (hne : g ≠ s) : ∃ q ∈ L, ∃ u, s / q = g * u ∧ q ∣ s := by
  obtain ⟨k, hk⟩ := hg
  have hk2 : 2 ≤ k := by
    rcases k with _ | _ | k
    · omega
    · omega
    · omega
  obtain ⟨p, hp, u, hu⟩ := exists_pr k hk2
  have hps : p ∣ s := ⟨g * u, by rw [hk, hu, Nat.mul_left_comm]⟩
  refine ⟨p, hL p hp hps, u, ?_, hps⟩
  rw [hk, hu, Nat.mul_left_comm, Nat.mul_div_cancel_left _ (by have := hp.1; omega)]
/-- Where s does not divide k, what is a unit is a multiple of x to the power of k less 1. -/
theorem side3 {A B : Int} {r s c k : Nat} {x g : Int × Int × Int} (L : List Nat) (hs : 0 < s) (hL : ∀ p, Pr p → p ∣ s → p ∈ L) (hg : g = p3 A B x c) (h1 : c3 r (p3 A B g s) (1, 0, 0)) (hno : ¬ s ∣ k) : ∃ q ∈ L, d3 A B r (s3 (p3 A B x k) (1, 0, 0)) (s3 (p3 A B g (s / q)) (1, 0, 0)) := by
  obtain ⟨q, hq, u, hu, hqs⟩ := less_dvd3 L hs hL (Nat.gcd_dvd_right k s) (fun e => hno (e ▸ Nat.gcd_dvd_left k s))
  refine ⟨q, hq, ?_⟩
  rw [hu, p3_mul]
  refine d3_pow ?_ u
  refine d3_gcd k s ?_ ?_
  · rw [hg, ← p3_mul, Nat.mul_comm, p3_mul]
    exact d3_pow ⟨(1, 0, 0), by rw [m3_one]; exact c3.refl _ _⟩ c
  · have hz : d3 A B r (s3 (p3 A B x k) (1, 0, 0)) (0, 0, 0) := ⟨(0, 0, 0), (0, 0, 0), by simp only [m3]; grind, by simp only [m3]; grind, by simp only [m3]; grind⟩
    refine hz.cong ?_
    have := h1.sub (c3.refl (r : Int) (1, 0, 0))
    have e : s3 (1, 0, 0) (1, 0, 0) = ((0, 0, 0) : Int × Int × Int) := rfl
    rw [e] at this
    exact this
end Go.Proofs.YtppoikamenbckaaGreatDoor

namespace Go.Proofs.YtppoikamenbckaaGreatDoor
set_option linter.unusedVariables false

/-- x itself. -/
def x2 : Int × Int := (0, 1)
theorem zero2 {r t : Nat} (hr : Pr r) : c2 r (m2 t (s2 (p2 t x2 (r - 1)) (1, 0)) (s2 (p2 t x2 (r + 1)) (1, 0))) (0, 0) := by
  have h1 := dream2 (A := t) hr (p2 t x2 2) (1, 0)
  have e1 : a2 (p2 t x2 2) (1, 0) = m2 t ((t : Int), 0) x2 := Prod.ext (by simp only [p2, m2, a2, x2]; grind) (by simp only [p2, m2, a2, x2]; grind)
  rw [e1, p2_m2, p2_one, ← p2_mul] at h1
  have h2 : c2 r (a2 (p2 t x2 (2 * r)) (1, 0)) (m2 t ((t : Int), 0) (p2 t x2 r)) := h1.symm.trans (c2.mul1 (small2 hr) _)
  obtain ⟨m, rfl⟩ : ∃ m, r = m + 1 := ⟨r - 1, by have := hr.1; omega⟩
  have e0 : m + 1 - 1 = m := by omega
  rw [e0]
  have e2 : p2 t x2 (2 * (m + 1)) = m2 t (p2 t x2 m) (m2 t (p2 t x2 m) (m2 t x2 x2)) := by
    rw [show 2 * (m + 1) = m + (m + (1 + 1)) by omega, p2_add, p2_add, p2_add, p2_one1]
  have e3 : p2 t x2 (m + 1) = m2 t (p2 t x2 m) x2 := rfl
  have e4 : p2 t x2 (m + 1 + 1) = m2 t (p2 t x2 m) (m2 t x2 x2) := by rw [p2, p2, m2_assoc]
  rw [e2, e3] at h2
  rw [e4]
  generalize p2 t x2 m = X at *
  obtain ⟨u, v⟩ := X
  obtain ⟨z, ha, hb⟩ := h2
  simp only [m2, a2, x2] at ha hb
  exact ⟨z, by simp only [m2, s2, x2]; grind, by simp only [m2, s2, x2]; grind⟩
/-- Units at all primes of s. -/
def Units2 (n t s : Nat) (g : Int × Int) (L : List Nat) : Prop := ∀ q ∈ L, ∃ d, c2 n (m2 t (s2 (p2 t g (s / q)) (1, 0)) d) (1, 0)
theorem step2 {n t s c r : Nat} (L : List Nat) (hs : 0 < s) (hL : ∀ p, Pr p → p ∣ s → p ∈ L) (hr : Pr r) (hrn : r ∣ n) {g : Int × Int} (hg : g = p2 t x2 c) (h1 : c2 n (p2 t g s) (1, 0)) (hU : Units2 n t s g L) : s ∣ r - 1 ∨ s ∣ r + 1 := by
  refine Classical.byContradiction fun hno => ?_
  have hr2 := hr.1
  have hrz : (r : Int) ∣ (n : Int) := Int.natCast_dvd_natCast.2 hrn
  obtain ⟨q1, hq1, w1, k1⟩ := side2 (k := r - 1) L hs hL hg (h1.down hrz) (fun h => hno (.inl h))
  obtain ⟨q2, hq2, w2, k2⟩ := side2 (k := r + 1) L hs hL hg (h1.down hrz) (fun h => hno (.inr h))
  obtain ⟨d1, u1⟩ := hU q1 hq1
  obtain ⟨d2, u2⟩ := hU q2 hq2
  have z := zero2 (t := t) hr
  have a1 := (c2.mul1 (A := t) k1 d1).symm.trans (u1.down hrz)
  have a2 := (c2.mul1 (A := t) k2 d2).symm.trans (u2.down hrz)
  have a3 := c2.mul (A := t) a1 a2
  have e : ∀ X Y W1 W2 D1 D2 : Int × Int, m2 t (m2 t (m2 t X W1) D1) (m2 t (m2 t Y W2) D2) = m2 t (m2 t X Y) (m2 t (m2 t W1 D1) (m2 t W2 D2)) := by
    intro X Y W1 W2 D1 D2
    rw [m2_assoc X, m2_assoc Y, m2_assoc X, m2_assoc X]
    congr 1
    rw [← m2_assoc, m2_comm _ Y, m2_assoc]
  rw [e, m2_one] at a3
  have a4 := (c2.mul1 (A := t) z _).symm.trans a3
  obtain ⟨y, hy, _⟩ := a4
  simp only [m2] at hy
  have k8 : (r : Int) ∣ 1 := ⟨-y.1, by grind⟩
  have := Int.le_of_dvd (by omega) k8
  omega

def x3 : Int × Int × Int := (0, 1, 0)
theorem frob3 {r a b : Nat} (hr : Pr r) : c3 r (a3 (p3 a b x3 (3 * r)) (m3 a b ((b : Int), 0, 0) (p3 a b x3 r))) (a3 (m3 a b ((a : Int), 0, 0) (p3 a b x3 (2 * r))) (1, 0, 0)) := by
  have h1 := dream3 (A := a) (B := b) hr (p3 a b x3 3) (m3 a b ((b : Int), 0, 0) x3)
  have h2 := dream3 (A := a) (B := b) hr (m3 a b ((a : Int), 0, 0) (p3 a b x3 2)) (1, 0, 0)
  have e : a3 (p3 a b x3 3) (m3 a b ((b : Int), 0, 0) x3) = a3 (m3 a b ((a : Int), 0, 0) (p3 a b x3 2)) (1, 0, 0) := Prod.ext (by simp only [p3, m3, a3, x3]; grind) (Prod.ext (by simp only [p3, m3, a3, x3]; grind) (by simp only [p3, m3, a3, x3]; grind))
  rw [e] at h1
  rw [p3_m3, ← p3_mul] at h1
  rw [p3_m3, p3_one, ← p3_mul] at h2
  have h3 := h1.symm.trans h2
  have h4 : c3 r (a3 (p3 a b x3 (3 * r)) (m3 a b (p3 a b ((b : Int), 0, 0) r) (p3 a b x3 r))) (a3 (p3 a b x3 (3 * r)) (m3 a b ((b : Int), 0, 0) (p3 a b x3 r))) := c3.add (c3.refl _ _) (c3.mul1 (small3 hr) _)
  have h5 : c3 r (a3 (m3 a b (p3 a b ((a : Int), 0, 0) r) (p3 a b x3 (2 * r))) (1, 0, 0)) (a3 (m3 a b ((a : Int), 0, 0) (p3 a b x3 (2 * r))) (1, 0, 0)) := c3.add (c3.mul1 (small3 hr) _) (c3.refl _ _)
  exact h4.symm.trans (h3.trans h5)
/-- The three roots. -/
structure Roots3 (n a b : Nat) : Prop where
  one : c3 n (a3 x3 (a3 (p3 a b x3 n) (p3 a b x3 (n * n)))) ((a : Int), 0, 0)
  two : c3 n (a3 (m3 a b x3 (p3 a b x3 n)) (a3 (m3 a b x3 (p3 a b x3 (n * n))) (m3 a b (p3 a b x3 n) (p3 a b x3 (n * n))))) ((b : Int), 0, 0)
  three : c3 n (m3 a b x3 (m3 a b (p3 a b x3 n) (p3 a b x3 (n * n)))) (1, 0, 0)
theorem prod3 {r n a b : Nat} (hr : Pr r) (hrn : r ∣ n) (h : Roots3 n a b) : c3 r (m3 a b (s3 (p3 a b x3 r) x3) (m3 a b (s3 (p3 a b x3 r) (p3 a b x3 n)) (s3 (p3 a b x3 r) (p3 a b x3 (n * n))))) (0, 0, 0) := by
  have hrz : (r : Int) ∣ (n : Int) := Int.natCast_dvd_natCast.2 hrn
  have f := frob3 (a := a) (b := b) hr
  have e3 : p3 a b x3 (3 * r) = m3 a b (p3 a b x3 r) (m3 a b (p3 a b x3 r) (p3 a b x3 r)) := by rw [show 3 * r = r + (r + r) by omega, p3_add, p3_add]
  have e2 : p3 a b x3 (2 * r) = m3 a b (p3 a b x3 r) (p3 a b x3 r) := by rw [show 2 * r = r + r by omega, p3_add]
  rw [e3, e2] at f
  have o1 := h.one.down hrz
  have o2 := h.two.down hrz
  have o3 := h.three.down hrz
  generalize p3 a b x3 n = y1 at *
  generalize p3 a b x3 (n * n) = y2 at *
  generalize p3 a b x3 r = Y at *
  generalize x3 = X at *
  have key : m3 a b (s3 Y X) (m3 a b (s3 Y y1) (s3 Y y2)) = s3 (a3 (m3 a b Y (m3 a b Y Y)) (m3 a b (a3 (m3 a b X y1) (a3 (m3 a b X y2) (m3 a b y1 y2))) Y)) (a3 (m3 a b (a3 X (a3 y1 y2)) (m3 a b Y Y)) (m3 a b X (m3 a b y1 y2))) := by
    have d1 : ∀ U Z W : Int × Int × Int, m3 a b (s3 U Z) W = s3 (m3 a b U W) (m3 a b Z W) := fun U Z W => by rw [m3_comm, m3_s3, m3_comm W, m3_comm W]
    have d2 : ∀ U Z W : Int × Int × Int, m3 a b (a3 U Z) W = a3 (m3 a b U W) (m3 a b Z W) := fun U Z W => by rw [m3_comm, m3_a3, m3_comm W, m3_comm W]
    simp only [d1, d2, m3_s3]
    have c1 : m3 a b Y (m3 a b y1 Y) = m3 a b y1 (m3 a b Y Y) := by rw [← m3_assoc, m3_comm Y y1, m3_assoc]
    have c2' : m3 a b Y (m3 a b Y y2) = m3 a b y2 (m3 a b Y Y) := by rw [← m3_assoc, m3_comm _ y2]
    have c3' : m3 a b Y (m3 a b y1 y2) = m3 a b (m3 a b y1 y2) Y := m3_comm _ _
    have c4 : m3 a b X (m3 a b Y y2) = m3 a b (m3 a b X y2) Y := by rw [m3_comm Y y2, m3_assoc]
    have c5 : m3 a b X (m3 a b y1 Y) = m3 a b (m3 a b X y1) Y := by rw [m3_assoc]
    rw [c1, c2', c3', c4, c5]
    generalize m3 a b Y (m3 a b Y Y) = V1
    generalize m3 a b y2 (m3 a b Y Y) = V2
    generalize m3 a b y1 (m3 a b Y Y) = V3
    generalize m3 a b (m3 a b y1 y2) Y = V4
    generalize m3 a b X (m3 a b Y Y) = V5
    generalize m3 a b (m3 a b X y2) Y = V6
    generalize m3 a b (m3 a b X y1) Y = V7
    generalize m3 a b X (m3 a b y1 y2) = V8
    exact Prod.ext (by simp only [a3, s3]; omega) (Prod.ext (by simp only [a3, s3]; omega) (by simp only [a3, s3]; omega))
  rw [key]
  have g1 := c3.add (c3.refl (r : Int) (m3 a b Y (m3 a b Y Y))) (c3.mul1 (A := a) (B := b) o2 Y)
  have g2 := c3.add (c3.mul1 (A := a) (B := b) o1 (m3 a b Y Y)) o3
  refine (g1.sub g2).trans ?_
  obtain ⟨z, h1, h2, h3⟩ := f
  generalize m3 a b Y (m3 a b Y Y) = V1 at *
  generalize m3 a b ((b : Int), 0, 0) Y = V2 at *
  generalize m3 a b ((a : Int), 0, 0) (m3 a b Y Y) = V3 at *
  simp only [a3] at h1 h2 h3
  exact ⟨z, by simp only [a3, s3]; omega, by simp only [a3, s3]; omega, by simp only [a3, s3]; omega⟩
def Units3 (n a b s : Nat) (g : Int × Int × Int) (L : List Nat) : Prop := ∀ q ∈ L, ∃ d, c3 n (m3 a b (s3 (p3 a b g (s / q)) (1, 0, 0)) d) (1, 0, 0)
theorem step3 {n a b s c r : Nat} (L : List Nat) (hn : 0 < n) (hs : 0 < s) (hL : ∀ p, Pr p → p ∣ s → p ∈ L) (hr : Pr r) (hrn : r ∣ n) (hR : Roots3 n a b) {g : Int × Int × Int} (hg : g = p3 a b x3 c) (h1 : c3 n (p3 a b g s) (1, 0, 0)) (hU : Units3 n a b s g L) : s ∣ r - 1 ∨ s ∣ n - r ∨ s ∣ n * n - r := by
  refine Classical.byContradiction fun hno => ?_
  have hr2 := hr.1
  have hle := Nat.le_of_dvd hn hrn
  have hle2 : r ≤ n * n := Nat.le_trans hle (Nat.le_mul_of_pos_left n hn)
  have hrz : (r : Int) ∣ (n : Int) := Int.natCast_dvd_natCast.2 hrn
  obtain ⟨q1, hq1, w1, k1⟩ := side3 (k := r - 1) L hs hL hg (h1.down hrz) (fun h => hno (.inl h))
  obtain ⟨q2, hq2, w2, k2⟩ := side3 (k := n - r) L hs hL hg (h1.down hrz) (fun h => hno (.inr (.inl h)))
  obtain ⟨q3, hq3, w3, k3⟩ := side3 (k := n * n - r) L hs hL hg (h1.down hrz) (fun h => hno (.inr (.inr h)))
  obtain ⟨d1, u1⟩ := hU q1 hq1
  obtain ⟨d2, u2⟩ := hU q2 hq2
  obtain ⟨d3, u3⟩ := hU q3 hq3
  have z := prod3 hr hrn hR
  have b1 := (c3.mul1 (A := a) (B := b) k1 d1).symm.trans (u1.down hrz)
  have b2 := (c3.mul1 (A := a) (B := b) k2 d2).symm.trans (u2.down hrz)
  have b3 := (c3.mul1 (A := a) (B := b) k3 d3).symm.trans (u3.down hrz)
  have e1 : s3 (p3 a b x3 r) x3 = m3 a b x3 (s3 (p3 a b x3 (r - 1)) (1, 0, 0)) := by
    rw [m3_s3, m3_one, m3_comm]
    congr 1
    show _ = p3 a b x3 (r - 1 + 1)
    congr 1
    omega
  have e2 : ∀ k, r ≤ k → s3 (p3 a b x3 r) (p3 a b x3 k) = m3 a b (p3 a b x3 r) (s3 (0, 0, 0) (s3 (p3 a b x3 (k - r)) (1, 0, 0))) := by
    intro k hk
    have e3 : p3 a b x3 k = m3 a b (p3 a b x3 r) (p3 a b x3 (k - r)) := by rw [← p3_add]; congr 1; omega
    rw [e3]
    generalize p3 a b x3 r = Y
    generalize p3 a b x3 (k - r) = Z
    exact Prod.ext (by simp only [m3, s3]; grind) (Prod.ext (by simp only [m3, s3]; grind) (by simp only [m3, s3]; grind))
  rw [e1, e2 n hle, e2 (n * n) hle2] at z

  have ux : m3 a b x3 ((b : Int), -(a : Int), 1) = (1, 0, 0) := Prod.ext (by simp only [m3, x3]; grind) (Prod.ext (by simp only [m3, x3]; grind) (by simp only [m3, x3]; grind))
  have ur : ∀ k, m3 a b (p3 a b x3 k) (p3 a b ((b : Int), -(a : Int), 1) k) = (1, 0, 0) := fun k => by rw [← p3_m3, ux, p3_one]
  generalize s3 (p3 a b x3 (r - 1)) (1, 0, 0) = X1 at *
  generalize s3 (p3 a b x3 (n - r)) (1, 0, 0) = X2 at *
  generalize s3 (p3 a b x3 (n * n - r)) (1, 0, 0) = X3 at *
  have urr := ur r
  generalize p3 a b x3 r = Y at *
  generalize p3 a b ((b : Int), -(a : Int), 1) r = Y' at *
  have m1 : ∀ U W Z : Int × Int × Int, m3 a b U (m3 a b W Z) = m3 a b W (m3 a b U Z) := fun U W Z => by rw [← m3_assoc, m3_comm U W, m3_assoc]
  have neg : ∀ U W : Int × Int × Int, m3 a b (s3 (0, 0, 0) U) (s3 (0, 0, 0) W) = m3 a b U W := fun U W => Prod.ext (by simp only [m3, s3]; grind) (Prod.ext (by simp only [m3, s3]; grind) (by simp only [m3, s3]; grind))
  have z2 := c3.mul1 (A := a) (B := b) z (m3 a b ((b : Int), -(a : Int), 1) (m3 a b Y' Y'))
  have e4 : m3 a b (m3 a b (m3 a b x3 X1) (m3 a b (m3 a b Y (s3 (0, 0, 0) X2)) (m3 a b Y (s3 (0, 0, 0) X3)))) (m3 a b ((b : Int), -(a : Int), 1) (m3 a b Y' Y')) = m3 a b X1 (m3 a b X2 X3) := by
    have r1 : m3 a b (m3 a b Y (s3 (0, 0, 0) X2)) (m3 a b Y (s3 (0, 0, 0) X3)) = m3 a b (m3 a b Y Y) (m3 a b X2 X3) := by
      rw [m3_assoc, m3_assoc, m1 (s3 (0, 0, 0) X2) Y, neg]
    have r2 : ∀ P Q R S T U : Int × Int × Int, m3 a b (m3 a b (m3 a b P Q) (m3 a b R S)) (m3 a b T U) = m3 a b (m3 a b (m3 a b P T) (m3 a b R U)) (m3 a b Q S) := by
      intro P Q R S T U
      haveI : Std.Associative (m3 (a : Int) (b : Int)) := ⟨m3_assoc⟩
      haveI : Std.Commutative (m3 (a : Int) (b : Int)) := ⟨m3_comm⟩
      ac_rfl
    rw [r1, r2, ux, one_m3]
    have r3 : m3 a b (m3 a b Y Y) (m3 a b Y' Y') = (1, 0, 0) := by
      rw [m3_assoc, m1 Y Y', ← m3_assoc, urr, m3_one]
    rw [r3, one_m3]
  rw [e4] at z2
  have b4 := c3.mul (A := a) (B := b) b1 (c3.mul (A := a) (B := b) b2 b3)
  have e5 : m3 a b (m3 a b (m3 a b X1 w1) d1) (m3 a b (m3 a b (m3 a b X2 w2) d2) (m3 a b (m3 a b X3 w3) d3)) = m3 a b (m3 a b X1 (m3 a b X2 X3)) (m3 a b (m3 a b w1 d1) (m3 a b (m3 a b w2 d2) (m3 a b w3 d3))) := by
    haveI : Std.Associative (m3 (a : Int) (b : Int)) := ⟨m3_assoc⟩
    haveI : Std.Commutative (m3 (a : Int) (b : Int)) := ⟨m3_comm⟩
    ac_rfl
  rw [e5, m3_one, m3_one] at b4
  have b5 := (c3.mul1 (A := a) (B := b) z2 (m3 a b (m3 a b w1 d1) (m3 a b (m3 a b w2 d2) (m3 a b w3 d3)))).symm.trans b4
  obtain ⟨y, hy, _, _⟩ := b5
  simp only [m3] at hy
  have k8 : (r : Int) ∣ 1 := ⟨-y.1, by grind⟩
  have := Int.le_of_dvd (by omega) k8
  omega
end Go.Proofs.YtppoikamenbckaaGreatDoor

namespace Go.Proofs.YtppoikamenbckaaGreatDoor
set_option linter.unusedVariables false

theorem mod_is (n x : Nat) : ∃ k : Int, ((x % n : Nat) : Int) = (x : Int) + n * k := by
  refine ⟨-((x / n : Nat) : Int), ?_⟩
  have h0 := Nat.div_add_mod x n
  have h : (x : Int) = n * ((x / n : Nat) : Int) + ((x % n : Nat) : Int) := by rw [← Int.natCast_mul, ← Int.natCast_add, h0]
  grind
/-- The same, reckoned with numbers below n. -/
def mN2 (n : Nat) (t : Nat) (x y : Nat × Nat) : Nat × Nat := ((x.1 * y.1 + (n - x.2 * y.2 % n)) % n, (x.1 * y.2 + x.2 * y.1 + t * (x.2 * y.2)) % n)
def pN2 (n : Nat) (t : Nat) : Nat → Nat × Nat → Nat → Nat × Nat
  | 0, _, _ => (1 % n, 0)
  | f + 1, w, e => bif e == 0 then (1 % n, 0) else bif e % 2 == 1 then mN2 n t w (pN2 n t f (mN2 n t w w) (e / 2)) else pN2 n t f (mN2 n t w w) (e / 2)
def cN2 (x : Nat × Nat) : Int × Int := ((x.1 : Int), (x.2 : Int))
theorem mN2_c {n t : Nat} (hn : 0 < n) (x y : Nat × Nat) : c2 n (cN2 (mN2 n t x y)) (m2 t (cN2 x) (cN2 y)) := by
  obtain ⟨x1, x2⟩ := x
  obtain ⟨y1, y2⟩ := y
  obtain ⟨k, hk⟩ := mod_is n (x1 * y1 + (n - x2 * y2 % n))
  obtain ⟨l, hl⟩ := mod_is n (x2 * y2)
  obtain ⟨m, hm⟩ := mod_is n (x1 * y2 + x2 * y1 + t * (x2 * y2))
  have hle : x2 * y2 % n ≤ n := Nat.le_of_lt (Nat.mod_lt _ hn)
  rw [Int.natCast_add, Int.natCast_sub hle, Int.natCast_mul] at hk
  rw [Int.natCast_mul] at hl
  simp only [Int.natCast_add, Int.natCast_mul] at hm
  refine ⟨(1 - l + k, m), ?_, ?_⟩
  · show (((x1 * y1 + (n - x2 * y2 % n)) % n : Nat) : Int) = (x1 : Int) * y1 - (x2 : Int) * y2 + n * (1 - l + k)
    rw [hk, hl]; grind
  · show (((x1 * y2 + x2 * y1 + t * (x2 * y2)) % n : Nat) : Int) = (x1 : Int) * y2 + (x2 : Int) * y1 + (t : Int) * ((x2 : Int) * y2) + n * m
    rw [hm]
theorem one_c2 {n : Nat} : c2 n (cN2 (1 % n, 0)) (1, 0) := by
  obtain ⟨k, hk⟩ := mod_is n 1
  exact ⟨(k, 0), by simp only [cN2]; rw [hk]; simp, by simp [cN2]⟩
theorem pN2_c {n t : Nat} (hn : 0 < n) : ∀ f w e, e < 2 ^ f → c2 n (cN2 (pN2 n t f w e)) (p2 t (cN2 w) e)
  | 0, w, e, h => by
    have : e = 0 := by simp at h; omega
    subst this
    exact one_c2
  | f + 1, w, e, h => by
    have hlt : e / 2 < 2 ^ f := by rw [Nat.pow_succ] at h; omega
    have ih := pN2_c (t := t) hn f (mN2 n t w w) (e / 2) hlt
    have e2 : c2 n (p2 t (cN2 (mN2 n t w w)) (e / 2)) (p2 t (cN2 w) (2 * (e / 2))) := by
      rw [p2_mul]
      refine c2.pow ?_ _
      have : p2 t (cN2 w) 2 = m2 t (cN2 w) (cN2 w) := by rw [p2, p2_one1]
      rw [this]
      exact mN2_c hn w w
    have ih2 := ih.trans e2
    rw [pN2]
    by_cases h0 : e = 0
    · subst h0
      exact one_c2
    · have hb0 : (e == 0) = false := by simp [h0]
      rw [hb0]
      by_cases h1 : e % 2 = 1
      · have hb1 : (e % 2 == 1) = true := by simp [h1]
        rw [hb1]
        refine (mN2_c hn _ _).trans ?_
        have e3 : p2 t (cN2 w) e = m2 t (cN2 w) (p2 t (cN2 w) (2 * (e / 2))) := by
          rw [m2_comm]
          show _ = p2 t (cN2 w) (2 * (e / 2) + 1)
          congr 1
          omega
        rw [e3]
        exact c2.mul (c2.refl _ _) ih2
      · have hb1 : (e % 2 == 1) = false := by simp [h1]
        rw [hb1]
        have e3 : e = 2 * (e / 2) := by omega
        conv => rhs; rw [e3]
        exact ih2
/-- The units, reckoned: for each q the power and its opposite. -/
def un2 (n : Nat) (t : Nat) (f s : Nat) (g : Nat × Nat) (it : Nat × Nat × Nat) : Bool := mN2 n t ((pN2 n t f g (s / it.1)).1 + (n - 1), (pN2 n t f g (s / it.1)).2) it.2 == (1, 0)
theorem un2_c {n t : Nat} (hn : 0 < n) {f s c : Nat} {g : Nat × Nat} (L : List (Nat × Nat × Nat)) (hfs : s < 2 ^ f) (hg : c2 n (cN2 g) (p2 t x2 c)) (h : L.all (un2 n t f s g) = true) : Units2 n t s (p2 t x2 c) (L.map (·.1)) := by
  intro q hq
  obtain ⟨it, hit, rfl⟩ := List.mem_map.1 hq
  have h1 := List.all_eq_true.1 h it hit
  simp only [un2, beq_iff_eq] at h1
  have hle : s / it.1 ≤ s := Nat.div_le_self _ _
  have h2 := pN2_c (t := t) hn f g (s / it.1) (by omega)
  have h3 := h2.trans (c2.pow (A := t) hg (s / it.1))
  have h4 := mN2_c (t := t) hn ((pN2 n t f g (s / it.1)).1 + (n - 1), (pN2 n t f g (s / it.1)).2) it.2
  rw [h1] at h4
  refine ⟨cN2 it.2, ?_⟩
  have h5 : c2 n (cN2 ((pN2 n t f g (s / it.1)).1 + (n - 1), (pN2 n t f g (s / it.1)).2)) (s2 (p2 t (p2 t x2 c) (s / it.1)) (1, 0)) := by
    have h6 := h3.sub (c2.refl (n : Int) (1, 0))
    refine c2.trans ?_ h6
    generalize pN2 n t f g (s / it.1) = E
    refine ⟨(1, 0), ?_, ?_⟩
    · simp only [cN2, s2]; rw [Int.natCast_add, Int.natCast_sub (by omega)]; omega
    · simp only [cN2, s2]; omega
  refine (c2.mul1 h5.symm (cN2 it.2)).trans ?_
  exact h4.symm
/-- The same, reckoned with numbers below n. -/
def mN3 (n : Nat) (a b : Nat) (x y : Nat × Nat × Nat) : Nat × Nat × Nat := ((x.1 * y.1 + (x.2.1 * y.2.2 + x.2.2 * y.2.1) + a * (x.2.2 * y.2.2)) % n, (x.1 * y.2.1 + x.2.1 * y.1 + (n - b) * (x.2.1 * y.2.2 + x.2.2 * y.2.1) + (1 + a * (n - b)) * (x.2.2 * y.2.2)) % n, (x.1 * y.2.2 + x.2.1 * y.2.1 + x.2.2 * y.1 + a * (x.2.1 * y.2.2 + x.2.2 * y.2.1) + (a * a + (n - b)) * (x.2.2 * y.2.2)) % n)
def pN3 (n : Nat) (a b : Nat) : Nat → Nat × Nat × Nat → Nat → Nat × Nat × Nat
  | 0, _, _ => (1 % n, 0, 0)
  | f + 1, w, e => bif e == 0 then (1 % n, 0, 0) else bif e % 2 == 1 then mN3 n a b w (pN3 n a b f (mN3 n a b w w) (e / 2)) else pN3 n a b f (mN3 n a b w w) (e / 2)
def cN3 (x : Nat × Nat × Nat) : Int × Int × Int := ((x.1 : Int), (x.2.1 : Int), (x.2.2 : Int))
theorem mN3_c {n a b : Nat} (hn : 0 < n) (hb : b ≤ n) (x y : Nat × Nat × Nat) : c3 n (cN3 (mN3 n a b x y)) (m3 a b (cN3 x) (cN3 y)) := by
  obtain ⟨x0, x1, x2⟩ := x
  obtain ⟨y0, y1, y2⟩ := y
  obtain ⟨k, hk⟩ := mod_is n (x0 * y0 + (x1 * y2 + x2 * y1) + a * (x2 * y2))
  obtain ⟨l, hl⟩ := mod_is n (x0 * y1 + x1 * y0 + (n - b) * (x1 * y2 + x2 * y1) + (1 + a * (n - b)) * (x2 * y2))
  obtain ⟨m, hm⟩ := mod_is n (x0 * y2 + x1 * y1 + x2 * y0 + a * (x1 * y2 + x2 * y1) + (a * a + (n - b)) * (x2 * y2))
  simp only [Int.natCast_add, Int.natCast_mul, Int.natCast_sub hb, Int.natCast_one] at hk hl hm
  refine ⟨(k, l + ((x1 : Int) * y2 + (x2 : Int) * y1) + a * ((x2 : Int) * y2), m + (x2 : Int) * y2), ?_, ?_, ?_⟩
  · show (((x0 * y0 + (x1 * y2 + x2 * y1) + a * (x2 * y2)) % n : Nat) : Int) = _
    rw [hk]; simp only [m3, cN3]
  · show (((x0 * y1 + x1 * y0 + (n - b) * (x1 * y2 + x2 * y1) + (1 + a * (n - b)) * (x2 * y2)) % n : Nat) : Int) = _
    rw [hl]; simp only [m3, cN3]; grind
  · show (((x0 * y2 + x1 * y1 + x2 * y0 + a * (x1 * y2 + x2 * y1) + (a * a + (n - b)) * (x2 * y2)) % n : Nat) : Int) = _
    rw [hm]; simp only [m3, cN3]; grind
theorem one_c3 {n : Nat} : c3 n (cN3 (1 % n, 0, 0)) (1, 0, 0) := by
  obtain ⟨k, hk⟩ := mod_is n 1
  exact ⟨(k, 0, 0), by simp only [cN3]; rw [hk]; simp, by simp [cN3], by simp [cN3]⟩
theorem pN3_c {n a b : Nat} (hn : 0 < n) (hb : b ≤ n) : ∀ f w e, e < 2 ^ f → c3 n (cN3 (pN3 n a b f w e)) (p3 a b (cN3 w) e)
  | 0, w, e, h => by
    have : e = 0 := by simp at h; omega
    subst this
    exact one_c3
  | f + 1, w, e, h => by
    have hlt : e / 2 < 2 ^ f := by rw [Nat.pow_succ] at h; omega
    have ih := pN3_c (a := a) (b := b) hn hb f (mN3 n a b w w) (e / 2) hlt
    have e2 : c3 n (p3 a b (cN3 (mN3 n a b w w)) (e / 2)) (p3 a b (cN3 w) (2 * (e / 2))) := by
      rw [p3_mul]
      refine c3.pow ?_ _
      have : p3 a b (cN3 w) 2 = m3 a b (cN3 w) (cN3 w) := by rw [p3, p3_one1]
      rw [this]
      exact mN3_c hn hb w w
    have ih2 := ih.trans e2
    rw [pN3]
    by_cases h0 : e = 0
    · subst h0
      exact one_c3
    · have hb0 : (e == 0) = false := by simp [h0]
      rw [hb0]
      by_cases h1 : e % 2 = 1
      · have hb1 : (e % 2 == 1) = true := by simp [h1]
        rw [hb1]
        refine (mN3_c hn hb _ _).trans ?_
        have e3 : p3 a b (cN3 w) e = m3 a b (cN3 w) (p3 a b (cN3 w) (2 * (e / 2))) := by
          rw [m3_comm]
          show _ = p3 a b (cN3 w) (2 * (e / 2) + 1)
          congr 1
          omega
        rw [e3]
        exact c3.mul (c3.refl _ _) ih2
      · have hb1 : (e % 2 == 1) = false := by simp [h1]
        rw [hb1]
        have e3 : e = 2 * (e / 2) := by omega
        conv => rhs; rw [e3]
        exact ih2
/-- The units, reckoned: for each q the power and its opposite. -/
def un3 (n : Nat) (a b : Nat) (f s : Nat) (g : Nat × Nat × Nat) (it : Nat × Nat × Nat × Nat) : Bool := mN3 n a b ((pN3 n a b f g (s / it.1)).1 + (n - 1), (pN3 n a b f g (s / it.1)).2) it.2 == (1, 0, 0)
theorem un3_c {n a b : Nat} (hn : 0 < n) (hb : b ≤ n) {f s c : Nat} {g : Nat × Nat × Nat} (L : List (Nat × Nat × Nat × Nat)) (hfs : s < 2 ^ f) (hg : c3 n (cN3 g) (p3 a b x3 c)) (h : L.all (un3 n a b f s g) = true) : Units3 n a b s (p3 a b x3 c) (L.map (·.1)) := by
  intro q hq
  obtain ⟨it, hit, rfl⟩ := List.mem_map.1 hq
  have h1 := List.all_eq_true.1 h it hit
  simp only [un3, beq_iff_eq] at h1
  have hle : s / it.1 ≤ s := Nat.div_le_self _ _
  have h2 := pN3_c (a := a) (b := b) hn hb f g (s / it.1) (by omega)
  have h3 := h2.trans (c3.pow (A := a) (B := b) hg (s / it.1))
  have h4 := mN3_c (a := a) (b := b) hn hb ((pN3 n a b f g (s / it.1)).1 + (n - 1), (pN3 n a b f g (s / it.1)).2) it.2
  rw [h1] at h4
  refine ⟨cN3 it.2, ?_⟩
  have h5 : c3 n (cN3 ((pN3 n a b f g (s / it.1)).1 + (n - 1), (pN3 n a b f g (s / it.1)).2)) (s3 (p3 a b (p3 a b x3 c) (s / it.1)) (1, 0, 0)) := by
    have h6 := h3.sub (c3.refl (n : Int) (1, 0, 0))
    refine c3.trans ?_ h6
    generalize pN3 n a b f g (s / it.1) = E
    refine ⟨(1, 0, 0), ?_, ?_, ?_⟩
    · simp only [cN3, s3]; rw [Int.natCast_add, Int.natCast_sub (by omega)]; omega
    · simp only [cN3, s3]; omega
    · simp only [cN3, s3]; omega
  refine (c3.mul1 h5.symm (cN3 it.2)).trans ?_
  exact h4.symm
end Go.Proofs.YtppoikamenbckaaGreatDoor

namespace Go.Proofs.YtppoikamenbckaaGreatDoor
set_option linter.unusedVariables false

/-- All divisors are powers of n modulo s, where all primes of n are. -/
theorem res_all {n s t : Nat} (t0 : 0 < t) (ht : n ^ t % s = 1 % s) (h : ∀ r, Pr r → r ∣ n → ∃ j, j < t ∧ r % s = n ^ j % s) : ∀ u, 0 < u → u ∣ n → ∃ j, j < t ∧ u % s = n ^ j % s := by
  intro u
  induction u using Nat.strongRecOn with
  | _ u ih =>
    intro h0 hu
    by_cases h1 : u = 1
    · subst h1; exact ⟨0, t0, by rw [Nat.pow_zero]⟩
    · obtain ⟨r, hr, w, hw⟩ := exists_pr u (by omega)
      have hr2 := hr.1
      have hw0 : 0 < w := by
        rcases Nat.eq_zero_or_pos w with h2 | h2
        · subst h2; omega
        · exact h2
      have hwu : w < u := by
        rw [hw]
        have : 1 * w < r * w := Nat.mul_lt_mul_of_pos_right (by omega) hw0
        omega
      obtain ⟨i, hi, ei⟩ := h r hr (Nat.dvd_trans ⟨w, hw⟩ hu)
      obtain ⟨k, hk, ek⟩ := ih w hwu hw0 (Nat.dvd_trans ⟨r, by rw [hw, Nat.mul_comm]⟩ hu)
      have e : u % s = n ^ (i + k) % s := by rw [hw, Nat.mul_mod, ei, ek, ← Nat.mul_mod, ← Nat.pow_add]
      by_cases hlt : i + k < t
      · exact ⟨i + k, hlt, e⟩
      · refine ⟨i + k - t, by omega, ?_⟩
        rw [e, show i + k = t + (i + k - t) by omega, Nat.pow_add, Nat.mul_mod, ht, ← Nat.mul_mod, Nat.one_mul, show t + (i + k - t) - t = i + k - t by omega]
theorem abs_sq {w D c : Int} (h : w * w = D) (hD : D < 0 ∨ (0 ≤ c ∧ c * c < D ∧ D < (c + 1) * (c + 1))) : False := by
  rcases hD with hD | ⟨hc, h1, h2⟩
  · have : 0 ≤ w * w := by
      rcases Int.le_total 0 w with h3 | h3
      · exact Int.mul_nonneg h3 h3
      · have := Int.mul_nonneg (Int.neg_nonneg_of_nonpos h3) (Int.neg_nonneg_of_nonpos h3)
        have e : -w * -w = w * w := by grind
        omega
    omega
  · have key : ∀ v : Int, 0 ≤ v → v * v = D → False := by
      intro v hv hvD
      rcases Int.lt_or_le c v with h3 | h3
      · have h4 : c + 1 ≤ v := h3
        have := Int.mul_le_mul h4 h4 (by omega) hv
        omega
      · have := Int.mul_le_mul h3 h3 hv hc
        omega
    rcases Int.le_total 0 w with h3 | h3
    · exact key w h3 h
    · exact key (-w) (by omega) (by rw [← h]; grind)
theorem id1 (A B X Y S : Int) : (A + X * S) * (B + Y * S) = A * B + S * (A * Y + B * X + X * Y * S) := by grind
theorem id2 {lam A B K S X Y al al' be be' ka ka' : Int} (hal : lam * A = al + S * al') (hbe : lam * B = be + S * be') (hka : lam * K = ka + S * ka') (e1 : A * Y + B * X + X * Y * S = K) : al * Y + be * X - ka = S * (ka' - al' * Y - be' * X - lam * X * Y) := by
  have h1 : lam * (A * Y + B * X + X * Y * S) = lam * K := by rw [e1]
  have h2 : lam * A * Y + lam * B * X + lam * (X * Y * S) = lam * K := by rw [← h1]; grind
  rw [hal, hbe, hka] at h2
  grind
theorem id3 {A B K S X Y al be ka : Int} (e1 : A * Y + B * X + X * Y * S = K) (e3 : al * Y = ka - be * X) : be * S * X * X = (B * al - A * be + ka * S) * X + (A * ka - K * al) := by
  have h1 : al * (A * Y + B * X + X * Y * S) = al * K := by rw [e1]
  have h2 : A * (al * Y) + al * B * X + X * S * (al * Y) = al * K := by rw [← h1]; grind
  rw [e3] at h2
  grind
theorem id4 {be S X e d : Int} (h : be * S * X * X = e * X + d) : (2 * be * S * X - e) * (2 * be * S * X - e) = e * e + 4 * be * S * d := by
  have h5 : (2 * be * S * X - e) * (2 * be * S * X - e) = 4 * be * S * (be * S * X * X) - 4 * be * S * X * e + e * e := by grind
  rw [h5, h]
  grind
/-- Two factors of these rests there are not. -/
structure NoSplit (n s a b : Nat) : Prop where
  no : ∀ x y : Nat, (a + x * s) * (b + y * s) = n → 1 < a + x * s → 1 < b + y * s → False
theorem no_split (n s a b M Q : Nat) (lam al al' be be' ka ka' K c : Int) (hs : 0 < s) (hab : (n : Int) = a * b + s * K) (hal : lam * a = al + s * al') (hbe : lam * b = be + s * be') (hka : lam * K = ka + s * ka') (m1 : -(M : Int) ≤ al) (m2 : al ≤ M) (m3 : -(M : Int) ≤ be) (m4 : be ≤ M) (hQ : n < s * s * (Q + 1)) (b1 : (M : Int) * (Q + 1) + ka < s) (b2 : (M : Int) * (Q + 1) - ka < s)
    (hD : (b * al - a * be + ka * s) * (b * al - a * be + ka * s) + 4 * be * s * (a * ka - K * al) < 0 ∨ (0 ≤ c ∧ c * c < (b * al - a * be + ka * s) * (b * al - a * be + ka * s) + 4 * be * s * (a * ka - K * al) ∧ (b * al - a * be + ka * s) * (b * al - a * be + ka * s) + 4 * be * s * (a * ka - K * al) < (c + 1) * (c + 1)))
    (hx0 : a = 1 ∨ n % a ≠ 0) (hy0 : b = 1 ∨ n % b ≠ 0) : NoSplit n s a b := by
  refine ⟨fun x y huv hu hv => ?_⟩
  rcases Nat.eq_zero_or_pos x with rfl | hx
  · rw [Nat.zero_mul, Nat.add_zero] at huv hu
    rcases hx0 with h | h
    · omega
    · exact h (by rw [← huv]; exact Nat.mul_mod_right _ _)
  rcases Nat.eq_zero_or_pos y with rfl | hy
  · rw [Nat.zero_mul, Nat.add_zero] at huv hv
    rcases hy0 with h | h
    · omega
    · exact h (by rw [← huv]; exact Nat.mul_mod_left _ _)
  have hxy : x * y < Q + 1 := by
    refine Nat.lt_of_not_le fun hge => ?_
    have h1 : s * s * (Q + 1) ≤ s * s * (x * y) := Nat.mul_le_mul_left _ hge
    have h2 : x * s * (y * s) ≤ (a + x * s) * (b + y * s) := Nat.mul_le_mul (by omega) (by omega)
    have h3 : x * s * (y * s) = s * s * (x * y) := by grind
    omega
  have hsum : x + y ≤ Q + 1 := by
    obtain ⟨p, rfl⟩ : ∃ p, x = p + 1 := ⟨x - 1, by omega⟩
    obtain ⟨q, rfl⟩ : ∃ q, y = q + 1 := ⟨y - 1, by omega⟩
    have : (p + 1) * (q + 1) = p * q + p + q + 1 := by grind
    omega
  have hE : ((a : Int) + x * s) * (b + y * s) = n := by rw [← huv]; simp only [Int.natCast_add, Int.natCast_mul]
  have hs' : (0 : Int) < s := by omega
  have hx' : (0 : Int) ≤ x := by omega
  have hy' : (0 : Int) ≤ y := by omega
  have hsum' : (x : Int) + y ≤ Q + 1 := by omega
  generalize (x : Int) = X at *
  generalize (y : Int) = Y at *
  generalize (s : Int) = S at *
  generalize (a : Int) = A at *
  generalize (b : Int) = B at *
  generalize (M : Int) = W at *
  have hM0 : 0 ≤ W := by omega
  have e1 : A * Y + B * X + X * Y * S = K := by
    have h1 : S * (A * Y + B * X + X * Y * S) = S * K := by rw [id1] at hE; omega
    exact Int.eq_of_mul_eq_mul_left (by omega) h1
  have e2 := id2 hal hbe hka e1
  have p1 : al * Y ≤ W * Y := Int.mul_le_mul_of_nonneg_right m2 hy'
  have p2 : be * X ≤ W * X := Int.mul_le_mul_of_nonneg_right m4 hx'
  have p3 : -W * Y ≤ al * Y := Int.mul_le_mul_of_nonneg_right m1 hy'
  have p4 : -W * X ≤ be * X := Int.mul_le_mul_of_nonneg_right m3 hx'
  have p5 : W * (X + Y) ≤ W * (Q + 1) := Int.mul_le_mul_of_nonneg_left hsum' hM0
  have p6 : W * (X + Y) = W * X + W * Y := Int.mul_add _ _ _
  have p7 : -W * Y = -(W * Y) := Int.neg_mul _ _
  have p8 : -W * X = -(W * X) := Int.neg_mul _ _
  have hZ : ka' - al' * Y - be' * X - lam * X * Y = 0 := by
    generalize ka' - al' * Y - be' * X - lam * X * Y = Z at *
    rcases Int.lt_trichotomy Z 0 with h | h | h
    · have h1 : S * Z ≤ S * (-1) := Int.mul_le_mul_of_nonneg_left (by omega) (by omega)
      omega
    · exact h
    · have h1 : S * 1 ≤ S * Z := Int.mul_le_mul_of_nonneg_left (by omega) (by omega)
      omega
  rw [hZ, Int.mul_zero] at e2
  have e3 : al * Y = ka - be * X := by omega
  exact abs_sq (id4 (id3 e1 e3)) hD

/-- What is known of the primes of n: modulo three numbers. -/
structure Known (n F G H : Nat) : Prop where
  one : ∀ r, Pr r → r ∣ n → r % F = 1 % F
  two : ∀ r, Pr r → r ∣ n → ∃ j, j < 2 ∧ r % G = n ^ j % G
  three : ∀ r, Pr r → r ∣ n → ∃ j, j < 3 ∧ r % H = n ^ j % H
theorem inv_mod {s a ia b n u v : Nat} (hi : a * ia % s = 1 % s) (hb : n * ia % s = b % s) (hu : u % s = a % s) (huv : u * v = n) : v % s = b % s := by
  rw [← hb, ← huv]
  have e : u * v * ia % s = v * (u * ia) % s := by congr 1; grind
  rw [e, Nat.mul_mod v, Nat.mul_mod u, hu, ← Nat.mul_mod a, hi, ← Nat.mul_mod, Nat.mul_one]
theorem pr_by_split {n F G H s : Nat} (hn : 2 ≤ n) (hk : Known n F G H) (hs : s = F * G * H) (c1 : Nat.Coprime F G) (c2 : Nat.Coprime (F * G) H) (hG : n ^ 2 % G = 1 % G) (hH : n ^ 3 % H = 1 % H)
    (ra ia rb : Nat → Nat) (cert : ∀ j, j < 3 → (ra j % F = 1 % F ∧ ra j % G = 1 % G ∧ ra j % H = n ^ j % H ∧ ra j < s ∧ rb j < s ∧ ra j * ia j % s = 1 % s ∧ n * ia j % s = rb j % s) ∧ NoSplit n s (ra j) (rb j)) : Pr n := by
  have oneF : ∀ u, 0 < u → u ∣ n → u % F = 1 % F := by
    intro u
    induction u using Nat.strongRecOn with
    | _ u ih =>
      intro h0 hu
      by_cases h1 : u = 1
      · rw [h1]
      · obtain ⟨r, hr, w, hw⟩ := exists_pr u (by omega)
        have hr2 := hr.1
        have hw0 : 0 < w := by
          rcases Nat.eq_zero_or_pos w with h2 | h2
          · subst h2; omega
          · exact h2
        have hwu : w < u := by
          rw [hw]
          have : 1 * w < r * w := Nat.mul_lt_mul_of_pos_right (by omega) hw0
          omega
        rw [hw, Nat.mul_mod, hk.one r hr (Nat.dvd_trans ⟨w, hw⟩ hu), ih w hwu hw0 (Nat.dvd_trans ⟨r, by rw [hw, Nat.mul_comm]⟩ hu), ← Nat.mul_mod]
  have hG2 := res_all (t := 2) (s := G) (by omega) hG hk.two
  have hH2 := res_all (t := 3) (s := H) (by omega) hH hk.three
  have main : ∀ u v, u * v = n → 1 < u → 1 < v → u % G = 1 % G → False := by
    intro u v huv hu hv hu1
    have hun : u ∣ n := ⟨v, huv.symm⟩
    obtain ⟨j, hj, ej⟩ := hH2 u (by omega) hun
    obtain ⟨⟨q1, q2, q3, q4, q5, q6, q7⟩, hno⟩ := cert j hj
    have h1 : u % F = ra j % F := by rw [q1]; exact oneF u (by omega) hun
    have h2 : u % G = ra j % G := by rw [q2]; exact hu1
    have h3 : u % H = ra j % H := by rw [q3]; exact ej
    have h4 : u % s = ra j % s := by rw [hs]; exact mod_both c2 (mod_both c1 h1 h2) h3
    have h5 := inv_mod q6 q7 h4 huv
    rw [Nat.mod_eq_of_lt q4] at h4
    rw [Nat.mod_eq_of_lt q5] at h5
    have eu : u = ra j + u / s * s := by have := Nat.div_add_mod u s; rw [h4, Nat.mul_comm] at this; omega
    have ev : v = rb j + v / s * s := by have := Nat.div_add_mod v s; rw [h5, Nat.mul_comm] at this; omega
    refine hno.no (u / s) (v / s) ?_ ?_ ?_
    · rw [← eu, ← ev]; exact huv
    · rw [← eu]; exact hu
    · rw [← ev]; exact hv
  refine pr_of hn fun u v huv hu hv => ?_
  have hun : u ∣ n := ⟨v, huv⟩
  have hvn : v ∣ n := ⟨u, by rw [huv, Nat.mul_comm]⟩
  obtain ⟨i, hi, ei⟩ := hG2 u (by omega) hun
  obtain ⟨k, hk2, ek⟩ := hG2 v (by omega) hvn
  rcases (by omega : i = 0 ∨ i = 1) with rfl | rfl
  · exact main u v huv.symm hu hv (by rw [ei, Nat.pow_zero])
  · rcases (by omega : k = 0 ∨ k = 1) with rfl | rfl
    · exact main v u (by rw [huv, Nat.mul_comm]) hv hu (by rw [ek, Nat.pow_zero])
    · refine main u v huv.symm hu hv ?_
      have h1 : n % G = 1 % G := by
        have h2 : u * v % G = n ^ 2 % G := by rw [Nat.mul_mod, ei, ek, ← Nat.mul_mod, ← Nat.pow_add]
        rw [← huv, hG] at h2
        exact h2
      rw [ei, Nat.pow_one, h1]
end Go.Proofs.YtppoikamenbckaaGreatDoor

namespace Go.Proofs.YtppoikamenbckaaGreatDoor
set_option linter.unusedVariables false

theorem known_one {n f F : Nat} (hn : 2 ≤ n) (hf : n < 2 ^ f) (L : List (Nat × Nat × Nat)) (hq : ∀ it ∈ L, Pr it.1) (hc : L.all (chk n f) = true) (hcop : cop L = true) (hF : prodF L = F) : ∀ r, Pr r → r ∣ n → r % F = 1 % F := fun r hr hrn => by
  have h := poc hn hf L hq hc hcop hr hrn
  rw [hF] at h
  exact mod_of_dvd (by have := hr.1; omega) h
/-- The primes of a product of powers of primes. -/
theorem prodF_mem : ∀ (L : List (Nat × Nat × Nat)), (∀ it ∈ L, Pr it.1) → ∀ p, Pr p → p ∣ prodF L → ∃ it ∈ L, it.1 = p
  | [], _, p, hp, h => by
    have := Nat.le_of_dvd (by omega) (show p ∣ 1 from h)
    have := hp.1
    omega
  | it :: r, hq, p, hp, h => by
    rcases hp.dvd_mul (show p ∣ it.1 ^ it.2.1 * prodF r from h) with h1 | h1
    · have h2 := hp.dvd_pow h1
      rcases (hq it (by simp)).2 p h2 with h3 | h3
      · have := hp.1; omega
      · exact ⟨it, by simp, h3.symm⟩
    · obtain ⟨j, hj, e⟩ := prodF_mem r (fun x hx => hq x (by simp [hx])) p hp h1
      exact ⟨j, by simp [hj], e⟩
theorem known_two {n t G f c : Nat} (hn : 2 ≤ n) (PL : List (Nat × Nat × Nat)) (hq : ∀ it ∈ PL, Pr it.1) (hPL : prodF PL = G) (L : List (Nat × (Nat × Nat))) (hmap : PL.map (·.1) = L.map (·.1)) (hG0 : 0 < G) (hG : (n + 1) % G = 0) (hfc : c < 2 ^ f) (hfG : G < 2 ^ f) (g : Nat × Nat) (hg : pN2 n t f (0, 1) c = g) (h1 : pN2 n t f g G = (1, 0)) (hU : L.all (un2 n t f G g) = true) : ∀ r, Pr r → r ∣ n → ∃ j, j < 2 ∧ r % G = n ^ j % G := by
  intro r hr hrn
  have hn0 : 0 < n := by omega
  have hg2 := pN2_c (t := t) hn0 f (0, 1) c hfc
  rw [hg] at hg2
  have hg3 : c2 n (cN2 g) (p2 t x2 c) := hg2
  have k := pN2_c (t := t) hn0 f g G hfG
  rw [h1] at k
  have k2 : c2 n (p2 t (p2 t x2 c) G) (1, 0) := (c2.pow (A := t) hg3.symm G).trans (c2.symm k)
  have hL : ∀ p, Pr p → p ∣ G → p ∈ L.map (·.1) := by
    intro p hp hpG
    obtain ⟨it, hit, e⟩ := prodF_mem PL hq p hp (hPL ▸ hpG)
    rw [← hmap]
    exact List.mem_map.2 ⟨it, hit, e⟩
  have hr2 := hr.1
  have hle := Nat.le_of_dvd hn0 hrn
  rcases step2 (L.map (·.1)) hG0 hL hr hrn rfl k2 (un2_c hn0 L hfG hg3 hU) with h | h
  · exact ⟨0, by omega, by rw [Nat.pow_zero]; exact mod_of_dvd (by omega) h⟩
  · refine ⟨1, by omega, ?_⟩
    rw [Nat.pow_one]
    have h2 : G ∣ (n + 1) - (r + 1) := Nat.dvd_sub (Nat.dvd_of_mod_eq_zero hG) h
    have h3 : G ∣ n - r := by rw [show n - r = n + 1 - (r + 1) by omega]; exact h2
    exact (mod_of_dvd hle h3).symm
/-- The three roots, reckoned. -/
def rts (n a b f : Nat) (y z : Nat × Nat × Nat) : Bool :=
  pN3 n a b f (0, 1, 0) n == y && (pN3 n a b f y n == z && ((y.1 + z.1) % n == a % n && ((1 + y.2.1 + z.2.1) % n == 0 && ((y.2.2 + z.2.2) % n == 0 &&
    (((mN3 n a b (0, 1, 0) y).1 + (mN3 n a b (0, 1, 0) z).1 + (mN3 n a b y z).1) % n == b % n && (((mN3 n a b (0, 1, 0) y).2.1 + (mN3 n a b (0, 1, 0) z).2.1 + (mN3 n a b y z).2.1) % n == 0 && (((mN3 n a b (0, 1, 0) y).2.2 + (mN3 n a b (0, 1, 0) z).2.2 + (mN3 n a b y z).2.2) % n == 0 &&
      mN3 n a b (0, 1, 0) (mN3 n a b y z) == (1, 0, 0))))))))
theorem to_cg {n x y : Nat} (h : x % n = y % n) : ∃ k : Int, (x : Int) = (y : Int) + n * k := by
  have h1 : (x : Int) % n = (y : Int) % n := by rw [← Int.natCast_emod, h, Int.natCast_emod]
  obtain ⟨k, hk⟩ := Int.dvd_of_emod_eq_zero (Int.emod_eq_emod_iff_emod_sub_eq_zero.1 h1)
  exact ⟨k, by omega⟩
theorem rts_ok {n a b f : Nat} (hn : 2 ≤ n) (hb : b ≤ n) (hf : n < 2 ^ f) (y z : Nat × Nat × Nat) (h : rts n a b f y z = true) : Roots3 n a b := by
  have hn0 : 0 < n := by omega
  simp only [rts, Bool.and_eq_true, beq_iff_eq] at h
  obtain ⟨h1, h2, h3, h4, h5, h6, h7, h8, h9⟩ := h
  have hy := pN3_c (a := a) (b := b) hn0 hb f (0, 1, 0) n hf
  rw [h1] at hy
  have hy2 : c3 n (cN3 y) (p3 a b x3 n) := hy
  have hz := pN3_c (a := a) (b := b) hn0 hb f y n hf
  rw [h2] at hz
  have hz2 : c3 n (cN3 z) (p3 a b x3 (n * n)) := by
    rw [p3_mul]
    exact hz.trans (c3.pow (A := a) (B := b) hy2 n)
  have zero_ : (0 : Nat) = 0 % n := by rw [Nat.zero_mod]
  obtain ⟨k1, e1⟩ := to_cg h3
  obtain ⟨k2, e2⟩ := to_cg (h4.trans zero_)
  obtain ⟨k3, e3⟩ := to_cg (h5.trans zero_)
  obtain ⟨k4, e4⟩ := to_cg h6
  obtain ⟨k5, e5⟩ := to_cg (h7.trans zero_)
  obtain ⟨k6, e6⟩ := to_cg (h8.trans zero_)
  have xx : cN3 (0, 1, 0) = x3 := rfl
  have m1 := mN3_c (a := a) (b := b) hn0 hb (0, 1, 0) y
  have m2 := mN3_c (a := a) (b := b) hn0 hb (0, 1, 0) z
  have m3' := mN3_c (a := a) (b := b) hn0 hb y z
  have m4 := mN3_c (a := a) (b := b) hn0 hb (0, 1, 0) (mN3 n a b y z)
  rw [xx] at m1 m2 m4
  refine ⟨?_, ?_, ?_⟩
  · refine (c3.add (c3.refl _ x3) (c3.add hy2.symm hz2.symm)).trans ?_
    refine ⟨(k1, k2, k3), ?_, ?_, ?_⟩
    · simp only [a3, x3, cN3]; omega
    · simp only [a3, x3, cN3]; omega
    · simp only [a3, x3, cN3]; omega
  · have q1 := (c3.mul (A := a) (B := b) (c3.refl (n : Int) x3) hy2).symm.trans m1.symm
    have q2 := (c3.mul (A := a) (B := b) (c3.refl (n : Int) x3) hz2).symm.trans m2.symm
    have q3 := (c3.mul (A := a) (B := b) hy2 hz2).symm.trans m3'.symm
    refine (c3.add q1 (c3.add q2 q3)).trans ?_
    generalize mN3 n a b (0, 1, 0) y = U at *
    generalize mN3 n a b (0, 1, 0) z = V at *
    generalize mN3 n a b y z = W at *
    refine ⟨(k4, k5, k6), ?_, ?_, ?_⟩
    · simp only [a3, cN3]; omega
    · simp only [a3, cN3]; omega
    · simp only [a3, cN3]; omega
  · rw [h9] at m4
    have q3 := (c3.mul (A := a) (B := b) hy2 hz2).symm.trans m3'.symm
    exact (c3.mul (A := a) (B := b) (c3.refl (n : Int) x3) q3).trans m4.symm
theorem known_three {n a b H f c : Nat} (hn : 2 ≤ n) (hb : b ≤ n) (PL : List (Nat × Nat × Nat)) (hq : ∀ it ∈ PL, Pr it.1) (hPL : prodF PL = H) (L : List (Nat × (Nat × Nat × Nat))) (hmap : PL.map (·.1) = L.map (·.1)) (hH0 : 0 < H) (hfn : n < 2 ^ f) (hfc : c < 2 ^ f) (hfH : H < 2 ^ f) (y z g : Nat × Nat × Nat) (hR : rts n a b f y z = true) (hg : pN3 n a b f (0, 1, 0) c = g) (h1 : pN3 n a b f g H = (1, 0, 0)) (hU : L.all (un3 n a b f H g) = true) : ∀ r, Pr r → r ∣ n → ∃ j, j < 3 ∧ r % H = n ^ j % H := by
  intro r hr hrn
  have hn0 : 0 < n := by omega
  have hg2 := pN3_c (a := a) (b := b) hn0 hb f (0, 1, 0) c hfc
  rw [hg] at hg2
  have hg3 : c3 n (cN3 g) (p3 a b x3 c) := hg2
  have k := pN3_c (a := a) (b := b) hn0 hb f g H hfH
  rw [h1] at k
  have k2 : c3 n (p3 a b (p3 a b x3 c) H) (1, 0, 0) := (c3.pow (A := a) (B := b) hg3.symm H).trans (c3.symm k)
  have hL : ∀ p, Pr p → p ∣ H → p ∈ L.map (·.1) := by
    intro p hp hpG
    obtain ⟨it, hit, e⟩ := prodF_mem PL hq p hp (hPL ▸ hpG)
    rw [← hmap]
    exact List.mem_map.2 ⟨it, hit, e⟩
  have hr2 := hr.1
  have hle := Nat.le_of_dvd hn0 hrn
  have hle2 : r ≤ n * n := Nat.le_trans hle (Nat.le_mul_of_pos_left n hn0)
  rcases step3 (L.map (·.1)) hn0 hH0 hL hr hrn (rts_ok hn hb hfn y z hR) rfl k2 (un3_c hn0 hb L hfH hg3 hU) with h | h | h
  · exact ⟨0, by omega, by rw [Nat.pow_zero]; exact mod_of_dvd (by omega) h⟩
  · exact ⟨1, by omega, by rw [Nat.pow_one]; exact (mod_of_dvd hle h).symm⟩
  · exact ⟨2, by omega, by rw [Nat.pow_two]; exact (mod_of_dvd hle2 h).symm⟩
end Go.Proofs.YtppoikamenbckaaGreatDoor

namespace Go.Proofs.YtppoikamenbckaaGreatDoor
set_option linter.unusedVariables false

theorem pra_3 : Pr 3 := pr_small 2 (by omega) (by decide +kernel)
theorem pra_53 : Pr 53 := pr_small 8 (by omega) (by decide +kernel)
theorem pra_59 : Pr 59 := pr_small 8 (by omega) (by decide +kernel)
theorem pra_103 : Pr 103 := pr_small 11 (by omega) (by decide +kernel)
theorem pra_110609 : Pr 110609 := pr_small 333 (by omega) (by decide +kernel)
theorem pra_2 : Pr 2 := pr_small 2 (by omega) (by decide +kernel)
theorem pra_5 : Pr 5 := pr_small 3 (by omega) (by decide +kernel)
theorem pra_439 : Pr 439 := pr_small 21 (by omega) (by decide +kernel)
theorem pra_37262321 : Pr 37262321 :=
  pr_of_sq (f := 26) (by decide +kernel) (by decide +kernel) [(2, 4, 3), (5, 1, 2), (439, 1, 2)]
    (all_cons pra_2 (all_cons pra_5 (all_cons pra_439 all_nil)))
    (by decide +kernel) (by decide +kernel) (by decide +kernel)
theorem pra_2129 : Pr 2129 := pr_small 47 (by omega) (by decide +kernel)
theorem pra_x468834471561_42 : Pr 2468834471561 :=
  pr_of_cube (f := 42) (by decide +kernel) (by decide +kernel) [(2, 3, 3), (5, 1, 2), (2129, 1, 2)]
    (all_cons pra_2 (all_cons pra_5 (all_cons pra_2129 all_nil)))
    (by decide +kernel) (by decide +kernel) 85160 36141 340 (by decide +kernel) (by decide +kernel) (by decide +kernel) (by decide +kernel) (by decide +kernel) (.inr ⟨36140, by decide +kernel, by decide +kernel⟩)
theorem pra_61 : Pr 61 := pr_small 8 (by omega) (by decide +kernel)
theorem pra_97 : Pr 97 := pr_small 10 (by omega) (by decide +kernel)
theorem pra_5711 : Pr 5711 := pr_small 76 (by omega) (by decide +kernel)
theorem pra_7 : Pr 7 := pr_small 3 (by omega) (by decide +kernel)
theorem pra_865307 : Pr 865307 := pr_small 931 (by omega) (by decide +kernel)
theorem pra_12114299 : Pr 12114299 :=
  pr_of_sq (f := 24) (by decide +kernel) (by decide +kernel) [(2, 1, 2), (7, 1, 2), (865307, 1, 2)]
    (all_cons pra_2 (all_cons pra_7 (all_cons pra_865307 all_nil)))
    (by decide +kernel) (by decide +kernel) (by decide +kernel)
theorem pra_379 : Pr 379 := pr_small 20 (by omega) (by decide +kernel)
theorem pra_239 : Pr 239 := pr_small 16 (by omega) (by decide +kernel)
theorem pra_137 : Pr 137 := pr_small 12 (by omega) (by decide +kernel)
theorem pra_2213647 : Pr 2213647 :=
  pr_of_cube (f := 22) (by decide +kernel) (by decide +kernel) [(2, 1, 3), (3, 1, 2), (137, 1, 2)]
    (all_cons pra_2 (all_cons pra_3 (all_cons pra_137 all_nil)))
    (by decide +kernel) (by decide +kernel) 822 227 3 (by decide +kernel) (by decide +kernel) (by decide +kernel) (by decide +kernel) (by decide +kernel) (.inr ⟨226, by decide +kernel, by decide +kernel⟩)
theorem pra_3174369799 : Pr 3174369799 :=
  pr_of_sq (f := 32) (by decide +kernel) (by decide +kernel) [(2, 1, 3), (3, 1, 2), (239, 1, 2), (2213647, 1, 2)]
    (all_cons pra_2 (all_cons pra_3 (all_cons pra_239 (all_cons pra_2213647 all_nil))))
    (by decide +kernel) (by decide +kernel) (by decide +kernel)
theorem pra_57138656383 : Pr 57138656383 :=
  pr_of_sq (f := 36) (by decide +kernel) (by decide +kernel) [(2, 1, 3), (3, 2, 2), (3174369799, 1, 2)]
    (all_cons pra_2 (all_cons pra_3 (all_cons pra_3174369799 all_nil)))
    (by decide +kernel) (by decide +kernel) (by decide +kernel)

def pA : Nat := 10381621340989602630438101892975909089594587423182068202124588783094168422741567990413141241492069066522569929192747298242483237121291479479353985992550099
theorem pA_one : ∀ r, Pr r → r ∣ pA → r % 29495784853739858269582132025841 = 1 % 29495784853739858269582132025841 :=
  known_one (f := 512) (by decide +kernel) (by decide +kernel) [(3, 2, 5), (53, 1, 2), (59, 1, 2), (103, 1, 2), (110609, 1, 2), (37262321, 1, 2), (2468834471561, 1, 2)]
    (all_cons pra_3 (all_cons pra_53 (all_cons pra_59 (all_cons pra_103 (all_cons pra_110609 (all_cons pra_37262321 (all_cons pra_x468834471561_42 all_nil))))))) (by decide +kernel) (by decide +kernel) (by decide +kernel)
theorem pA_two : ∀ r, Pr r → r ∣ pA → ∃ j, j < 2 ∧ r % 40936623432211300 = pA ^ j % 40936623432211300 :=
  known_two (t := 6) (f := 512) (c := 253602287403624581068738791602348992263339514433180145992771185580421318595000260103377489683825406398075436189551969753078556884932335677) (by decide +kernel) [(2, 2, 0), (5, 2, 0), (61, 1, 0), (97, 1, 0), (5711, 1, 0), (12114299, 1, 0)]
    (all_cons pra_2 (all_cons pra_5 (all_cons pra_61 (all_cons pra_97 (all_cons pra_5711 (all_cons pra_12114299 all_nil)))))) (by decide +kernel)
    [(2, (5190810670494801315219050946487954544797293711591034101062294391547084211370783995206570620746034533261284964596373649121241618560645739739676992996275049, 0)), (5, (2907844181660472246187033364319980135513878215426651341642025302276958366523909225358661093490636388525701103828904384414912958712218514413415387533559317, 4221529276607977233156706491714627832959334306448816987181619290788098089196147586753683589582489070419384596653405520982937298989906234935205197151755277)), (61, (6992693694195507810782281049515825532774678345296078129998418532479296392783759821112811807521235556424195497634351212031284378658469953210215424515155339, 9780993666422700465250358525299952093602125878613720192479214069450097695603909381777727512567002058801599751513421443939135650422016741655841175486256669)), (97, (2968646875809812528059512240522392217710628354278553843863508570190683205449106092909527941326370914933600627766940235831395235895604191399014788800463420, 7661802158888064682678580830639126835425280067892205553815987795848245950468271294374441720801267250457608065071642669924937618969208169099790058726970609)), (5711, (4486672318935731923152870638038167885156094919012041752854855134365014358418730470950856891339744203116802444324564085649301531392806904035057622590737244, 3695253230849557340834760733808565249745262071920353516777342680092079425231207171556284990299453132222350816488185620571474441429710105061324452132695968)), (12114299, (7909739866046994377480782583762213572149122461387968449976109128937854080162444649415366107817772120303457767823449863943531802242504495053389151004268901, 2554230715145803189392123418567216687414252891128377951070258015234466184649969112068115251473443826493465708655223694473397684479810908055213942661518749))]
    (by decide +kernel) (by decide +kernel) (by decide +kernel) (by decide +kernel) (by decide +kernel) (734303164935571880075022414599441834793319347778796349506483513569968072485372024793964573537529514180207086538895668644213412610027265224016800412791406, 818622495941224762244951950808656232143599566259673771048170375463651203916146318134444792598998741418630520674620069923837352565689057128563916449846514) (by decide +kernel) (by decide +kernel) (by decide +kernel)
theorem pA_three : ∀ r, Pr r → r ∣ pA → ∃ j, j < 3 ∧ r % 151588855384099 = pA ^ j % 151588855384099 :=
  known_three (a := 0) (b := 3) (f := 1024) (c := 710989349412266865223236147691836693401828973344330140035870265274715416705523519790745894086987140173752280537781983691467082985739254751742538146292230429316124668095807693599964672067909487759303468282148744876883877504810339732817723400169135884077325081864992705670883723953817181106755999) (by decide +kernel) (by decide +kernel) [(7, 1, 0), (379, 1, 0), (57138656383, 1, 0)]
    (all_cons pra_7 (all_cons pra_379 (all_cons pra_57138656383 all_nil))) (by decide +kernel)
    [(7, (5536685271534961970086269277322161318083447680415901408895184446574166814374395492620772073747929728527531091268357279922619274183483084828202525563764598, 6333828938695218654587321073183927461917769216786772368716001999427124461037886100820319983513005647682400974368607354788154530777100674081585133598419106, 8315572905109325495448027331674285266798262613571203103010587029047741444811539135093720778526770686793832902514498868561268694712512727185682460623358908)), (379, (3489340352250844926789700069044749746460246719047736857390265303460275812742426337791072680328380504028291761172073467317739018663289203131382972044632163, 9557156961820618228804703289075003005844440572366411662888895388829792924461339296141848221118416438970894065342448134068030697395002656991032472297506756, 6177032426378434805503173866624469722154399423534468684155410028316312952885247577320355553715293950317074939466807279096652546582006245034067212020907544)), (57138656383, (3380414548682723786044237345112052297117506545011293509874150455076138435070184190130915101967280246604924140956972999747513016084661533412356279666758454, 8182165375088996839916151803452390378413137029874872410281537362765838144297530237365531613202308218226505067700611682336510582005489556394401879305432185, 2546288947481963266718163637838625559338835717798744426405484467152838684771457917104930636647392803307638674751681869375112979281882390836341681142791629))]
    (by decide +kernel) (by decide +kernel) (by decide +kernel) (by decide +kernel) (by decide +kernel)
    (865097396551545928636491760232372246228126661052455818632241325979289351505348153050879298424255696275152719563661890884778157927737731941130477844701887, 2811679684385287139768648413302070333955678521058631005189207527268364443561729035866005134979081190699430662189102297281815348762257302855121115959312996, 5623359368770574279537296826604140667911357042117262010378415054536728887123458071732010269958162381398861324378204594563630697524514605710242231918625993)
    (9516523944438056701801610132743536843366460762129612383492347457114879071236219837362261943067813370247417209629085407357705079193553747538223508147848212, 7569941656604315490669453479673838755638908902123437196935381255825803979179838954547136106512987875823139267003645000960667888359034176624232870033237102, 4758261972219028350900805066371768421683230381064806191746173728557439535618109918681130971533906685123708604814542703678852539596776873769111754073924106)
    (6411902776826428721516926821609071158685230587360695126195593405310486435239327095286818517843322594895959159114842008852214925348107351114082620972428416, 1952077369342438755071803653939344736413231126266046603754581018946713258394362733024876974385633033105496711773805332522482970457908206490482295486203537, 7963211370415823772709895853054317774694315836117699072925505313446145013382094743397201331481522475964957757880544109379553141025815737682140680944987578)
    (by decide +kernel) (by decide +kernel) (by decide +kernel) (by decide +kernel)
theorem pA_no0 : NoSplit pA 183037151495278227334165170327697980346172111423214881415326700 1 64183980753849404111237051938079385526195960983338280333002899 :=
  no_split pA 183037151495278227334165170327697980346172111423214881415326700 1 64183980753849404111237051938079385526195960983338280333002899 3102767944689398604375214059350 309875105344554757409054353836 (3102767944689398604375214059350) (3102767944689398604375214059350) (0) (3102767944689398604375214059350) (1088019543675769087654425417689) (2007577632344031113871732162072260919096182938075764320865800) (961470543720335041396668829365130028043222500012235852768114) (56718656601566569029688222242150786057177184680769959459782725835964032412595537392944349616) (367461291229886397921510539949978465516292194023309527140542304257147353427566458151132825874116837145329121791802604458868) (by decide +kernel) (by decide +kernel) (by decide +kernel) (by decide +kernel) (by decide +kernel) (by decide +kernel) (by decide +kernel) (by decide +kernel) (by decide +kernel) (by decide +kernel) (by decide +kernel) (by decide +kernel)
    (.inr ⟨by decide +kernel, by decide +kernel, by decide +kernel⟩) (.inl rfl) (.inr (by decide +kernel))
theorem pA_no1 : NoSplit pA 183037151495278227334165170327697980346172111423214881415326700 128110591175454915625144061244348834847193649266144282269217101 119110541073672715820258161021428531025174423140408879479112499 :=
  no_split pA 183037151495278227334165170327697980346172111423214881415326700 128110591175454915625144061244348834847193649266144282269217101 119110541073672715820258161021428531025174423140408879479112499 3102767944689398604375214059350 309875105344554757409054353836 (3102767944689398604375214059350) (3102767944689398604375214059350) (2171676254941413990266281356550) (3102767944689398604375214059350) (2019111233423753701763358120489) (2007577632344031113871732162069158151151493539471389106806450) (961470543720335041396668829363716820223663573597654798761857) (56718656601566569029688222242067418709578518856025798947242616469925470542997352559944975341) (367461291229886397921510539949978465516292194023309527140542304257147353427566458151132825874116837145329121791802604458868) (by decide +kernel) (by decide +kernel) (by decide +kernel) (by decide +kernel) (by decide +kernel) (by decide +kernel) (by decide +kernel) (by decide +kernel) (by decide +kernel) (by decide +kernel) (by decide +kernel) (by decide +kernel)
    (.inr ⟨by decide +kernel, by decide +kernel, by decide +kernel⟩) (.inr (by decide +kernel)) (.inr (by decide +kernel))
theorem pA_no2 : NoSplit pA 183037151495278227334165170327697980346172111423214881415326700 180787996980005905941988197553668452517054757322981900119137901 116861386558400394428081188247399003196057069040175898182923699 :=
  no_split pA 183037151495278227334165170327697980346172111423214881415326700 180787996980005905941988197553668452517054757322981900119137901 116861386558400394428081188247399003196057069040175898182923699 20468311716105650 309875105344554757409054353836 (114060954331245214449274391713300235277066012746494505870201750) (20468311716105650) (112659377064801532130753406506599966947747104348006474549429233) (20468311716105650) (72823037107128246474463021212504722609611511896775822993350628) (-3714785314922134734707846420864859057198314538311600769847350) (35344650239095060057663841649837652737535318906946656315761503250537921950449960335017444043) (56718656601566569029688222242035360659504601222948075990031757551994185578447432912122541829) (679943722459837614380688428173654631666523614820470147135527320391733197661789510911090824203003604286289010242760029937108) (by decide +kernel) (by decide +kernel) (by decide +kernel) (by decide +kernel) (by decide +kernel) (by decide +kernel) (by decide +kernel) (by decide +kernel) (by decide +kernel) (by decide +kernel) (by decide +kernel) (by decide +kernel)
    (.inr ⟨by decide +kernel, by decide +kernel, by decide +kernel⟩) (.inr (by decide +kernel)) (.inr (by decide +kernel))
def raA : Nat → Nat
  | 0 => 1
  | 1 => 128110591175454915625144061244348834847193649266144282269217101
  | _ => 180787996980005905941988197553668452517054757322981900119137901
def iaA : Nat → Nat
  | 0 => 1
  | 1 => 180787996980005905941988197553668452517054757322981900119137901
  | _ => 128110591175454915625144061244348834847193649266144282269217101
def rbA : Nat → Nat
  | 0 => 64183980753849404111237051938079385526195960983338280333002899
  | 1 => 119110541073672715820258161021428531025174423140408879479112499
  | _ => 116861386558400394428081188247399003196057069040175898182923699
theorem pr_pA : Pr pA :=
  pr_by_split (F := 29495784853739858269582132025841) (G := 40936623432211300) (H := 151588855384099) (s := 183037151495278227334165170327697980346172111423214881415326700) (by decide +kernel) ⟨pA_one, pA_two, pA_three⟩ (by decide +kernel) (by decide +kernel) (by decide +kernel) (by decide +kernel) (by decide +kernel) raA iaA rbA
    (fun j hj => match j, hj with
      | 0, _ => ⟨⟨by decide +kernel, by decide +kernel, by decide +kernel, by decide +kernel, by decide +kernel, by decide +kernel, by decide +kernel⟩, pA_no0⟩
      | 1, _ => ⟨⟨by decide +kernel, by decide +kernel, by decide +kernel, by decide +kernel, by decide +kernel, by decide +kernel, by decide +kernel⟩, pA_no1⟩
      | 2, _ => ⟨⟨by decide +kernel, by decide +kernel, by decide +kernel, by decide +kernel, by decide +kernel, by decide +kernel, by decide +kernel⟩, pA_no2⟩)
end Go.Proofs.YtppoikamenbckaaGreatDoor

namespace Go.Proofs.YtppoikamenbckaaGreatDoor
set_option linter.unusedVariables false

/-- Numbers u + v x, where x x = T x - 1. -/
def mq (T : Int) (x y : Int × Int) : Int × Int := (x.1 * y.1 - x.2 * y.2, x.1 * y.2 + x.2 * y.1 + T * (x.2 * y.2))
def aq (x y : Int × Int) : Int × Int := (x.1 + y.1, x.2 + y.2)
def sq1 (x : Int × Int) : Int × Int := (x.1 - 1, x.2)
def pq (T : Int) (x : Int × Int) : Nat → Int × Int
  | 0 => (1, 0)
  | n + 1 => mq T (pq T x n) x
section
variable {T : Int}
theorem mq_comm (x y : Int × Int) : mq T x y = mq T y x := Prod.ext (by simp only [mq]; grind) (by simp only [mq]; grind)
theorem mq_assoc (x y z : Int × Int) : mq T (mq T x y) z = mq T x (mq T y z) := Prod.ext (by simp only [mq]; grind) (by simp only [mq]; grind)
theorem mq_aq (x y z : Int × Int) : mq T x (aq y z) = aq (mq T x y) (mq T x z) := Prod.ext (by simp only [mq, aq]; grind) (by simp only [mq, aq]; grind)
theorem mq_one (x : Int × Int) : mq T x (1, 0) = x := Prod.ext (by simp only [mq]; grind) (by simp only [mq]; grind)
theorem one_mq (x : Int × Int) : mq T (1, 0) x = x := by rw [mq_comm, mq_one]
theorem aq_comm (x y : Int × Int) : aq x y = aq y x := Prod.ext (by simp only [aq]; omega) (by simp only [aq]; omega)
theorem aq_assoc (x y z : Int × Int) : aq (aq x y) z = aq x (aq y z) := Prod.ext (by simp only [aq]; omega) (by simp only [aq]; omega)
theorem pq_one (n : Nat) : pq T (1, 0) n = (1, 0) := by
  induction n with
  | zero => rfl
  | succ n ih => rw [pq, ih, mq_one]
theorem pq_add (x : Int × Int) (m n : Nat) : pq T x (m + n) = mq T (pq T x m) (pq T x n) := by
  induction n with
  | zero => rw [pq, mq_one]; rfl
  | succ n ih => rw [← Nat.add_assoc, pq, ih, pq, mq_assoc]
theorem pq_mul (x : Int × Int) (m n : Nat) : pq T x (m * n) = pq T (pq T x m) n := by
  induction n with
  | zero => rfl
  | succ n ih => rw [Nat.mul_succ, pq_add, ih, pq]
theorem pq_mq (x y : Int × Int) (n : Nat) : pq T (mq T x y) n = mq T (pq T x n) (pq T y n) := by
  induction n with
  | zero => rw [pq, pq, pq, mq_one]
  | succ n ih =>
    rw [pq, ih, pq, pq, mq_assoc, mq_assoc]
    congr 1
    rw [← mq_assoc, mq_comm (pq T y n) x, mq_assoc]
theorem pq_int (c : Int) (n : Nat) : pq T (c, 0) n = (c ^ n, 0) := by
  induction n with
  | zero => rw [pq, Int.pow_zero]
  | succ n ih => rw [pq, ih, Int.pow_succ]; exact Prod.ext (by simp only [mq]; grind) (by simp only [mq]; grind)
theorem pq_one1 (x : Int × Int) : pq T x 1 = x := by rw [pq, pq, one_mq]

/-- The same modulo m. -/
def cg (m : Int) (x y : Int × Int) : Prop := m ∣ x.1 - y.1 ∧ m ∣ x.2 - y.2
theorem cg.refl (m : Int) (x : Int × Int) : cg m x x := ⟨⟨0, by omega⟩, ⟨0, by omega⟩⟩
theorem cg.symm {m : Int} {x y : Int × Int} (h : cg m x y) : cg m y x := by
  obtain ⟨⟨a, ha⟩, ⟨b, hb⟩⟩ := h
  exact ⟨⟨-a, by grind⟩, ⟨-b, by grind⟩⟩
theorem cg.trans {m : Int} {x y z : Int × Int} (h : cg m x y) (k : cg m y z) : cg m x z := by
  obtain ⟨⟨a, ha⟩, ⟨b, hb⟩⟩ := h
  obtain ⟨⟨c, hc⟩, ⟨d, hd⟩⟩ := k
  exact ⟨⟨a + c, by grind⟩, ⟨b + d, by grind⟩⟩
theorem cg.mul {m : Int} {x x' y y' : Int × Int} (h : cg m x x') (k : cg m y y') : cg m (mq T x y) (mq T x' y') := by
  obtain ⟨⟨a, ha⟩, ⟨b, hb⟩⟩ := h
  obtain ⟨⟨c, hc⟩, ⟨d, hd⟩⟩ := k
  obtain ⟨x1, x2⟩ := x
  obtain ⟨y1, y2⟩ := y
  obtain ⟨u1, u2⟩ := x'
  obtain ⟨v1, v2⟩ := y'
  simp only at ha hb hc hd
  have ex1 : x1 = u1 + m * a := by omega
  have ex2 : x2 = u2 + m * b := by omega
  have ey1 : y1 = v1 + m * c := by omega
  have ey2 : y2 = v2 + m * d := by omega
  subst ex1 ex2 ey1 ey2
  refine ⟨⟨u1 * c + a * v1 + m * a * c - (u2 * d + b * v2 + m * b * d), ?_⟩, ⟨u1 * d + a * v2 + m * a * d + (u2 * c + b * v1 + m * b * c) + T * (u2 * d + b * v2 + m * b * d), ?_⟩⟩
  · simp only [mq]; grind
  · simp only [mq]; grind
theorem cg.add {m : Int} {x x' y y' : Int × Int} (h : cg m x x') (k : cg m y y') : cg m (aq x y) (aq x' y') := by
  obtain ⟨⟨a, ha⟩, ⟨b, hb⟩⟩ := h
  obtain ⟨⟨c, hc⟩, ⟨d, hd⟩⟩ := k
  exact ⟨⟨a + c, by simp only [aq]; grind⟩, ⟨b + d, by simp only [aq]; grind⟩⟩
theorem cg.sub1 {m : Int} {x y : Int × Int} (h : cg m x y) : cg m (sq1 x) (sq1 y) := by
  obtain ⟨⟨a, ha⟩, ⟨b, hb⟩⟩ := h
  exact ⟨⟨a, by simp only [sq1]; omega⟩, ⟨b, by simp only [sq1]; omega⟩⟩
theorem cg.pow {m : Int} {x y : Int × Int} (h : cg m x y) (n : Nat) : cg m (pq T x n) (pq T y n) := by
  induction n with
  | zero => exact cg.refl _ _
  | succ n ih => exact ih.mul h
theorem cg.down {m r : Int} {x y : Int × Int} (h : cg m x y) (hr : r ∣ m) : cg r x y := ⟨Int.dvd_trans hr h.1, Int.dvd_trans hr h.2⟩

/-- The first j parts of (a + 1) to the power of n. -/
def bq (T : Int) (a : Int × Int) (n : Nat) : Nat → Int × Int
  | 0 => (0, 0)
  | j + 1 => aq (bq T a n j) (mq T ((ch n j : Nat), 0) (pq T a j))
theorem bq_succ (a : Int × Int) (n : Nat) : ∀ j, bq T a (n + 1) (j + 1) = aq (bq T a n (j + 1)) (mq T a (bq T a n j))
  | 0 => by
    simp only [bq, ch_zero_right, pq]
    exact Prod.ext (by simp only [mq, aq]; grind) (by simp only [mq, aq]; grind)
  | j + 1 => by
    have h := bq_succ a n j
    have e1 : bq T a (n + 1) (j + 1 + 1) = aq (bq T a (n + 1) (j + 1)) (mq T ((ch n j + ch n (j + 1) : Nat), 0) (pq T a (j + 1))) := rfl
    have e2 : bq T a n (j + 1 + 1) = aq (bq T a n (j + 1)) (mq T ((ch n (j + 1) : Nat), 0) (pq T a (j + 1))) := rfl
    have e3 : bq T a n (j + 1) = aq (bq T a n j) (mq T ((ch n j : Nat), 0) (pq T a j)) := rfl
    have e4 : mq T a (bq T a n (j + 1)) = aq (mq T a (bq T a n j)) (mq T ((ch n j : Nat), 0) (pq T a (j + 1))) := by
      have e5 : pq T a (j + 1) = mq T (pq T a j) a := rfl
      rw [e3, mq_aq, e5]
      congr 1
      generalize pq T a j = X
      generalize (ch n j : Int) = p
      exact Prod.ext (by simp only [mq]; grind) (by simp only [mq]; grind)
    rw [e1, h, e2, e4, Int.natCast_add]
    generalize bq T a n (j + 1) = X
    generalize mq T a (bq T a n j) = Y
    generalize pq T a (j + 1) = Z
    generalize (ch n j : Int) = p
    generalize (ch n (j + 1) : Int) = q
    exact Prod.ext (by simp only [mq, aq]; grind) (by simp only [mq, aq]; grind)
theorem binq (a : Int × Int) : ∀ n, bq T a n (n + 1) = pq T (aq a (1, 0)) n
  | 0 => by
    simp only [bq, ch, pq]
    exact Prod.ext (by simp only [mq, aq]; grind) (by simp only [mq, aq]; grind)
  | n + 1 => by
    have h := binq a n
    rw [bq_succ]
    have e : bq T a n (n + 1 + 1) = aq (bq T a n (n + 1)) (mq T ((ch n (n + 1) : Nat), 0) (pq T a (n + 1))) := rfl
    have e5 : pq T (aq a (1, 0)) (n + 1) = mq T (pq T (aq a (1, 0)) n) (aq a (1, 0)) := rfl
    rw [e, ch_above n (n + 1) (by omega), h, e5]
    clear e e5 h
    generalize pq T (aq a (1, 0)) n = X
    generalize pq T a (n + 1) = Y
    exact Prod.ext (by simp only [mq, aq]; grind) (by simp only [mq, aq]; grind)
theorem bq_mod {r : Nat} (hr : Pr r) (a : Int × Int) : ∀ j, j + 1 ≤ r → cg r (bq T a r (j + 1)) (1, 0)
  | 0, _ => by
    have : bq T a r 1 = (1, 0) := by
      simp only [bq, ch_zero_right, pq]
      exact Prod.ext (by simp only [mq, aq]; grind) (by simp only [mq, aq]; grind)
    rw [this]; exact cg.refl _ _
  | j + 1, h => by
    have ih := bq_mod hr a j (by omega)
    obtain ⟨t, ht⟩ := hr.dvd_ch (k := j + 1) (by omega) (by omega)
    have e : bq T a r (j + 1 + 1) = aq (bq T a r (j + 1)) (mq T ((ch r (j + 1) : Nat), 0) (pq T a (j + 1))) := rfl
    rw [e, ht]
    refine cg.trans (cg.add ih (?_ : cg r _ (0, 0))) ?_
    · generalize pq T a (j + 1) = X
      rw [Int.natCast_mul]
      exact ⟨⟨t * X.1, by simp only [mq]; grind⟩, ⟨t * X.2, by simp only [mq]; grind⟩⟩
    · exact ⟨⟨0, by simp only [aq]; omega⟩, ⟨0, by simp only [aq]; omega⟩⟩
theorem dream {r : Nat} (hr : Pr r) (a : Int × Int) : cg r (pq T (aq a (1, 0)) r) (aq (pq T a r) (1, 0)) := by
  have h := binq (T := T) a r
  have e : bq T a r (r + 1) = aq (bq T a r r) (mq T ((ch r r : Nat), 0) (pq T a r)) := rfl
  obtain ⟨j, hj⟩ : ∃ j, r = j + 1 := ⟨r - 1, by have := hr.1; omega⟩
  have hb : cg r (bq T a r r) (1, 0) := by
    have := bq_mod (T := T) hr a j (by omega)
    rw [← hj] at this
    exact this
  rw [← h, e, ch_self]
  have e2 : mq T (((1 : Nat) : Int), 0) (pq T a r) = pq T a r := one_mq _
  rw [e2, aq_comm]
  exact cg.add (cg.refl _ _) hb
end

/-- x itself. -/
def xq : Int × Int := (0, 1)
theorem frob {r t : Nat} (hr : Pr r) : cg r (aq (pq t xq (2 * r)) (1, 0)) (mq t ((t : Int), 0) (pq t xq r)) := by
  have h := dream (T := t) hr (pq t xq 2)
  have e1 : aq (pq t xq 2) (1, 0) = mq t ((t : Int), 0) xq := Prod.ext (by simp only [pq, mq, aq, xq]; grind) (by simp only [pq, mq, aq, xq]; grind)
  rw [e1, pq_mq, pq_int, ← pq_mul] at h
  refine h.symm.trans (cg.mul ?_ (cg.refl _ _))
  have hf := hr.fermat t
  refine ⟨?_, ⟨0, by simp⟩⟩
  show (r : Int) ∣ (t : Int) ^ r - (t : Int)
  have h2 : ((t ^ r : Nat) : Int) % r = (t : Int) % r := by rw [← Int.natCast_emod, hf, Int.natCast_emod]
  rw [Int.natCast_pow] at h2
  exact Int.dvd_of_emod_eq_zero (Int.emod_eq_emod_iff_emod_sub_eq_zero.1 h2)
theorem zero_prod {r t : Nat} (hr : Pr r) : cg r (mq t (sq1 (pq t xq (r - 1))) (sq1 (pq t xq (r + 1)))) (0, 0) := by
  have h := frob (t := t) hr
  obtain ⟨m, rfl⟩ : ∃ m, r = m + 1 := ⟨r - 1, by have := hr.1; omega⟩
  have e0 : m + 1 - 1 = m := by omega
  rw [e0]
  have e1 : pq t xq (2 * (m + 1)) = mq t (pq t xq m) (mq t (pq t xq m) (mq t xq xq)) := by
    rw [show 2 * (m + 1) = m + (m + (1 + 1)) by omega, pq_add, pq_add, pq_add, pq_one1]
  have e2 : pq t xq (m + 1) = mq t (pq t xq m) xq := rfl
  have e3 : pq t xq (m + 1 + 1) = mq t (pq t xq m) (mq t xq xq) := by rw [pq, pq, mq_assoc]
  rw [e1, e2] at h
  rw [e3]
  generalize pq t xq m = X at *
  obtain ⟨x1, x2⟩ := X
  obtain ⟨⟨a, ha⟩, ⟨b, hb⟩⟩ := h
  simp only [mq, aq, sq1, xq] at ha hb ⊢
  exact ⟨⟨a, by grind⟩, ⟨b, by grind⟩⟩
theorem geom {T : Int} (x : Int × Int) : ∀ n, ∃ w, sq1 (pq T x n) = mq T (sq1 x) w
  | 0 => ⟨(0, 0), Prod.ext (by simp only [pq, sq1, mq]; grind) (by simp only [pq, sq1, mq]; grind)⟩
  | n + 1 => by
    obtain ⟨w, hw⟩ := geom (T := T) x n
    refine ⟨aq (mq T w x) (1, 0), ?_⟩
    have e : sq1 (pq T x (n + 1)) = aq (mq T (sq1 (pq T x n)) x) (sq1 x) := by
      rw [pq]
      generalize pq T x n = X
      exact Prod.ext (by simp only [sq1, mq, aq]; grind) (by simp only [sq1, mq, aq]; grind)
    rw [e, hw, mq_aq, mq_one, mq_assoc]
/-- One factor of what is 0. -/
theorem one_side {r n t q c k : Nat} (hq : Pr q) {g : Int × Int} (hg : g = pq t xq c) (h1 : cg r (pq t g q) (1, 0)) (hno : ¬ q ∣ k) (hk : 0 < k) : ∃ w, cg r (sq1 g) (mq t (sq1 (pq t xq k)) w) := by
  have hf := hq.fermat1 hno
  have hq2 := hq.1
  have hpos : 1 ≤ k ^ (q - 1) := Nat.pow_pos hk
  obtain ⟨s, hs⟩ := dvd_of_mod hpos hf
  have e1 : k * k ^ (q - 2) = 1 + q * s := by
    rw [← Nat.pow_succ', show (q - 2).succ = q - 1 by omega]
    omega
  have e2 : cg r (pq t g (k * k ^ (q - 2))) g := by
    rw [e1, pq_add, pq_one1, pq_mul]
    have := cg.mul (T := (t : Int)) (cg.refl r g) (cg.pow (T := (t : Int)) h1 s)
    rw [pq_one, mq_one] at this
    exact this
  have e3 : pq t g (k * k ^ (q - 2)) = pq t (pq t xq k) (c * k ^ (q - 2)) := by
    rw [hg, ← pq_mul, ← pq_mul]
    congr 1
    rw [Nat.mul_left_comm, ← Nat.mul_assoc]
  obtain ⟨w, hw⟩ := geom (T := (t : Int)) (pq t xq k) (c * k ^ (q - 2))
  refine ⟨w, ?_⟩
  rw [← hw, ← e3]
  exact (e2.sub1).symm
/-- A prime r of n is 1 less or 1 more than a multiple of q. -/
theorem plus_step {n q c t r : Nat} (hq : Pr q) (hr : Pr r) (hrn : r ∣ n) {g d : Int × Int} (hg : g = pq t xq c) (h1 : cg n (pq t g q) (1, 0)) (h2 : cg n (mq t (sq1 g) d) (1, 0)) : q ∣ r - 1 ∨ q ∣ r + 1 := by
  refine Classical.byContradiction fun hno => ?_
  have hr2 := hr.1
  have hrz : (r : Int) ∣ (n : Int) := Int.natCast_dvd_natCast.2 hrn
  obtain ⟨w1, k1⟩ := one_side (n := n) hq hg (h1.down hrz) (fun h => hno (.inl h)) (by omega)
  obtain ⟨w2, k2⟩ := one_side (n := n) hq hg (h1.down hrz) (fun h => hno (.inr h)) (by omega)
  have z := zero_prod (t := t) hr
  have k3 := cg.mul (T := (t : Int)) k1 k2
  have e : mq t (mq t (sq1 (pq t xq (r - 1))) w1) (mq t (sq1 (pq t xq (r + 1))) w2) = mq t (mq t (sq1 (pq t xq (r - 1))) (sq1 (pq t xq (r + 1)))) (mq t w1 w2) := by
    generalize sq1 (pq t xq (r - 1)) = X
    generalize sq1 (pq t xq (r + 1)) = Y
    exact Prod.ext (by simp only [mq]; grind) (by simp only [mq]; grind)
  rw [e] at k3
  have k4 : cg r (mq t (sq1 g) (sq1 g)) (0, 0) := by
    refine k3.trans ((cg.mul z (cg.refl r (mq t w1 w2))).trans ?_)
    exact ⟨⟨0, by simp only [mq]; grind⟩, ⟨0, by simp only [mq]; grind⟩⟩
  have u := h2.down hrz
  have k5 := cg.mul (T := (t : Int)) u u
  have e2 : mq t (mq t (sq1 g) d) (mq t (sq1 g) d) = mq t (mq t (sq1 g) (sq1 g)) (mq t d d) := by
    generalize sq1 g = X
    exact Prod.ext (by simp only [mq]; grind) (by simp only [mq]; grind)
  rw [e2, mq_one] at k5
  have k6 : cg r (mq t (mq t (sq1 g) (sq1 g)) (mq t d d)) (0, 0) := by
    refine (cg.mul k4 (cg.refl r (mq t d d))).trans ?_
    exact ⟨⟨0, by simp only [mq]; grind⟩, ⟨0, by simp only [mq]; grind⟩⟩
  have k7 := (k5.symm.trans k6).1
  have k8 : (r : Int) ∣ 1 := by simpa using k7
  have := Int.le_of_dvd (by omega) k8
  omega
/-- A prime q of n + 1 that is great enough. -/
theorem pr_of_plus {n q c t : Nat} (hn : 2 ≤ n) (hq : Pr q) {g d : Int × Int} (hg : g = pq t xq c) (h1 : cg n (pq t g q) (1, 0)) (h2 : cg n (mq t (sq1 g) d) (1, 0)) (hF : n < (q - 1) * (q - 1)) : Pr n := by
  have hbig : ∀ r, Pr r → r ∣ n → q - 1 ≤ r := by
    intro r hr hrn
    have hr2 := hr.1
    rcases plus_step hq hr hrn hg h1 h2 with h | h
    · have := Nat.le_of_dvd (by omega) h; omega
    · have := Nat.le_of_dvd (by omega) h; omega
  refine pr_of hn fun u v huv hu hv => ?_
  obtain ⟨r, hr, hru⟩ := exists_pr u (by omega)
  obtain ⟨s, hs, hsv⟩ := exists_pr v (by omega)
  have a := hbig r hr (Nat.dvd_trans hru ⟨v, huv⟩)
  have b := hbig s hs (Nat.dvd_trans hsv ⟨u, by rw [huv, Nat.mul_comm]⟩)
  have a2 := Nat.le_of_dvd (by omega) hru
  have b2 := Nat.le_of_dvd (by omega) hsv
  have : (q - 1) * (q - 1) ≤ u * v := Nat.mul_le_mul (by omega) (by omega)
  omega

/-- The same, reckoned with numbers below n. -/
def mN (n t : Nat) (x y : Nat × Nat) : Nat × Nat := ((x.1 * y.1 + (n - x.2 * y.2 % n)) % n, (x.1 * y.2 + x.2 * y.1 + t * (x.2 * y.2)) % n)
def pN (n t : Nat) : Nat → Nat × Nat → Nat → Nat × Nat
  | 0, _, _ => (1 % n, 0)
  | f + 1, a, e => bif e == 0 then (1 % n, 0) else bif e % 2 == 1 then mN n t a (pN n t f (mN n t a a) (e / 2)) else pN n t f (mN n t a a) (e / 2)
def cN (x : Nat × Nat) : Int × Int := (x.1, x.2)
theorem mod_cg (n : Nat) (x : Nat) : (n : Int) ∣ ((x % n : Nat) : Int) - (x : Int) := by
  refine ⟨-((x / n : Nat) : Int), ?_⟩
  have h0 := Nat.div_add_mod x n
  have h : (x : Int) = n * ((x / n : Nat) : Int) + ((x % n : Nat) : Int) := by rw [← Int.natCast_mul, ← Int.natCast_add, h0]
  grind
theorem mN_cg {n t : Nat} (hn : 0 < n) (x y : Nat × Nat) : cg n (cN (mN n t x y)) (mq t (cN x) (cN y)) := by
  obtain ⟨x1, x2⟩ := x
  obtain ⟨y1, y2⟩ := y
  refine ⟨?_, ?_⟩
  · obtain ⟨a, ha⟩ := mod_cg n (x1 * y1 + (n - x2 * y2 % n))
    obtain ⟨b, hb⟩ := mod_cg n (x2 * y2)
    have hle : x2 * y2 % n ≤ n := Nat.le_of_lt (Nat.mod_lt _ hn)
    show (n : Int) ∣ (((x1 * y1 + (n - x2 * y2 % n)) % n : Nat) : Int) - ((x1 : Int) * y1 - (x2 : Int) * y2)
    refine ⟨a + 1 - b, ?_⟩
    rw [Int.natCast_add, Int.natCast_sub hle, Int.natCast_mul] at ha
    rw [Int.natCast_mul] at hb
    grind
  · obtain ⟨a, ha⟩ := mod_cg n (x1 * y2 + x2 * y1 + t * (x2 * y2))
    show (n : Int) ∣ (((x1 * y2 + x2 * y1 + t * (x2 * y2)) % n : Nat) : Int) - ((x1 : Int) * y2 + (x2 : Int) * y1 + (t : Int) * ((x2 : Int) * y2))
    refine ⟨a, ?_⟩
    rw [← ha]
    simp only [Int.natCast_add, Int.natCast_mul]
theorem pN_cg {n t : Nat} (hn : 0 < n) : ∀ f a e, e < 2 ^ f → cg n (cN (pN n t f a e)) (pq t (cN a) e)
  | 0, a, e, h => by
    have : e = 0 := by simp at h; omega
    subst this
    exact ⟨by have := mod_cg n 1; simpa [pN, cN, pq] using this, ⟨0, by simp [pN, cN, pq]⟩⟩
  | f + 1, a, e, h => by
    have hlt : e / 2 < 2 ^ f := by rw [Nat.pow_succ] at h; omega
    have ih := pN_cg (t := t) hn f (mN n t a a) (e / 2) hlt
    have e2 : cg n (pq t (cN (mN n t a a)) (e / 2)) (pq t (cN a) (2 * (e / 2))) := by
      rw [pq_mul]
      refine cg.pow ?_ _
      have : pq t (cN a) 2 = mq t (cN a) (cN a) := by rw [pq, pq_one1]
      rw [this]
      exact mN_cg hn a a
    have ih2 := ih.trans e2
    rw [pN]
    by_cases h0 : e = 0
    · subst h0
      exact ⟨by have := mod_cg n 1; simpa [cN, pq] using this, ⟨0, by simp [cN, pq]⟩⟩
    · have hb : (e == 0) = false := by simp [h0]
      rw [hb]
      by_cases h1 : e % 2 = 1
      · have hb1 : (e % 2 == 1) = true := by simp [h1]
        rw [hb1]
        refine (mN_cg hn _ _).trans ?_
        have e3 : pq t (cN a) e = mq t (cN a) (pq t (cN a) (2 * (e / 2))) := by
          rw [mq_comm]
          show _ = pq t (cN a) (2 * (e / 2) + 1)
          congr 1
          omega
        rw [e3]
        exact cg.mul (cg.refl _ _) ih2
      · have hb1 : (e % 2 == 1) = false := by simp [h1]
        rw [hb1]
        have e3 : e = 2 * (e / 2) := by omega
        conv => rhs; rw [e3]
        exact ih2
/-- All that is told of a prime q of n + 1, reckoned. -/
theorem pr_by_plus {n q t f : Nat} (hn : 2 ≤ n) (hq : Pr q) (c : Nat) (g d : Nat × Nat) (hfc : c < 2 ^ f) (hfq : q < 2 ^ f) (hg : pN n t f (0, 1) c = g) (h1 : pN n t f g q = (1, 0)) (h2 : mN n t (g.1 + (n - 1), g.2) d = (1, 0)) (hF : n < (q - 1) * (q - 1)) : Pr n := by
  have hn0 : 0 < n := by omega
  have a := pN_cg (t := t) hn0 f (0, 1) c hfc
  rw [hg] at a
  have b := pN_cg (t := t) hn0 f g q hfq
  rw [h1] at b
  have e := mN_cg (t := t) hn0 (g.1 + (n - 1), g.2) d
  rw [h2] at e
  have s : cg n (cN (g.1 + (n - 1), g.2)) (sq1 (cN g)) := ⟨⟨1, by simp only [cN, sq1]; rw [Int.natCast_add, Int.natCast_sub (by omega)]; omega⟩, ⟨0, by simp only [cN, sq1]; omega⟩⟩
  refine pr_of_plus (c := c) (t := t) (g := pq t xq c) (d := cN d) hn hq rfl ?_ ?_ hF
  · exact (cg.pow (T := (t : Int)) a.symm q).trans (b.symm)
  · refine (cg.mul (T := (t : Int)) (cg.trans (a.symm).sub1 s.symm) (cg.refl n (cN d))).trans ?_
    exact e.symm
end Go.Proofs.YtppoikamenbckaaGreatDoor

namespace Go.Proofs.YtppoikamenbckaaGreatDoor
set_option linter.unusedVariables false

theorem prq_2 : Pr 2 := pr_small 2 (by omega) (by decide +kernel)
theorem prq_3 : Pr 3 := pr_small 2 (by omega) (by decide +kernel)
theorem prq_181 : Pr 181 := pr_small 14 (by omega) (by decide +kernel)
theorem prq_211 : Pr 211 := pr_small 15 (by omega) (by decide +kernel)
theorem prq_11593 : Pr 11593 := pr_small 108 (by omega) (by decide +kernel)
theorem prq_31 : Pr 31 := pr_small 6 (by omega) (by decide +kernel)
theorem prq_6827 : Pr 6827 := pr_small 83 (by omega) (by decide +kernel)
theorem prq_x883067297037_41 : Pr 1883067297037 :=
  pr_of_sq (f := 41) (by decide +kernel) (by decide +kernel) [(2, 2, 2), (3, 1, 2), (31, 1, 2), (6827, 1, 2)]
    (all_cons prq_2 (all_cons prq_3 (all_cons prq_31 (all_cons prq_6827 all_nil))))
    (by decide +kernel) (by decide +kernel) (by decide +kernel)
theorem prq_7 : Pr 7 := pr_small 3 (by omega) (by decide +kernel)
theorem prq_13 : Pr 13 := pr_small 4 (by omega) (by decide +kernel)
theorem prq_23 : Pr 23 := pr_small 5 (by omega) (by decide +kernel)
theorem prq_37 : Pr 37 := pr_small 7 (by omega) (by decide +kernel)
theorem prq_11 : Pr 11 := pr_small 4 (by omega) (by decide +kernel)
theorem prq_127 : Pr 127 := pr_small 12 (by omega) (by decide +kernel)
theorem prq_223 : Pr 223 := pr_small 15 (by omega) (by decide +kernel)
theorem prq_1463773 : Pr 1463773 :=
  pr_of_sq (f := 21) (by decide +kernel) (by decide +kernel) [(2, 2, 2), (3, 1, 3), (223, 1, 2)]
    (all_cons prq_2 (all_cons prq_3 (all_cons prq_223 all_nil)))
    (by decide +kernel) (by decide +kernel) (by decide +kernel)
theorem prq_x622078493573_47 : Pr 83622078493573 :=
  pr_of_sq (f := 47) (by decide +kernel) (by decide +kernel) [(2, 2, 2), (3, 1, 3), (1463773, 1, 2)]
    (all_cons prq_2 (all_cons prq_3 (all_cons prq_1463773 all_nil)))
    (by decide +kernel) (by decide +kernel) (by decide +kernel)
theorem prq_x87311042963_58 : Pr 233640087311042963 :=
  pr_of_sq (f := 58) (by decide +kernel) (by decide +kernel) [(2, 1, 2), (11, 1, 2), (127, 1, 2), (83622078493573, 1, 2)]
    (all_cons prq_2 (all_cons prq_11 (all_cons prq_127 (all_cons prq_x622078493573_47 all_nil))))
    (by decide +kernel) (by decide +kernel) (by decide +kernel)
theorem prq_x444846066353_82 : Pr 2605438368209444846066353 :=
  pr_of_sq (f := 82) (by decide +kernel) (by decide +kernel) [(2, 4, 5), (3, 2, 2), (7, 1, 2), (13, 1, 2), (23, 1, 2), (37, 1, 2), (233640087311042963, 1, 2)]
    (all_cons prq_2 (all_cons prq_3 (all_cons prq_7 (all_cons prq_13 (all_cons prq_23 (all_cons prq_37 (all_cons prq_x87311042963_58 all_nil)))))))
    (by decide +kernel) (by decide +kernel) (by decide +kernel)
theorem prq_x779384265413_84 : Pr 10421753472837779384265413 :=
  pr_of_sq (f := 84) (by decide +kernel) (by decide +kernel) [(2, 2, 2), (2605438368209444846066353, 1, 2)]
    (all_cons prq_2 (all_cons prq_x444846066353_82 all_nil))
    (by decide +kernel) (by decide +kernel) (by decide +kernel)
theorem prq_x84452631369_465 : Pr 66806713471827510995432173311867442112438173077186698100880120337871074427592341355953721302290116160287986596649206103473862517084452631369 :=
  pr_of_cube (f := 465) (by decide +kernel) (by decide +kernel) [(2, 3, 7), (3, 2, 2), (181, 1, 2), (211, 1, 2), (11593, 1, 2), (1883067297037, 1, 2), (10421753472837779384265413, 1, 2)]
    (all_cons prq_2 (all_cons prq_3 (all_cons prq_181 (all_cons prq_211 (all_cons prq_11593 (all_cons prq_x883067297037_41 (all_cons prq_x779384265413_84 all_nil)))))))
    (by decide +kernel) (by decide +kernel) 625598932892176431482058248697028196469703073016 261094179492610007087817970405461129800428595023 170697872705913487534057166347754443263368875 (by decide +kernel) (by decide +kernel) (by decide +kernel) (by decide +kernel) (by decide +kernel) (.inr ⟨261094179492610007087817970405461129800428595022, by decide +kernel, by decide +kernel⟩)
theorem pr_key2q : Pr 12329477222992863067035609111604184371805710698277106172196551772303302632927049457756976661843525144868265139576196260095675556062881725217631014058728183 :=
  pr_by_plus (q := 66806713471827510995432173311867442112438173077186698100880120337871074427592341355953721302290116160287986596649206103473862517084452631369) (t := 3) (f := 512) (by decide +kernel) prq_x84452631369_465 184554464398136
    (1775491898958790664007757287637393153059669459842988728282057294340118318773877770957947470165909541509898552269089596854617634192286422175700424449419907, 8551407446469686248223077552845315170140286616544486915046586291876391119593233478402693971924047632080558539218551885792106038383442327808403656225966024)
    (12028767972096752493758062025936143399312265244044504813924298829143578974971817717430451245311141396068461988202080108327926269850692042331197707516260043, 8420124315925982426875437464848150229532770768339805020312536476975350860588187465389001385583939262445378860633541607908949894850047605402709547067464215)
    (by decide +kernel) (by decide +kernel) (by decide +kernel) (by decide +kernel) (by decide +kernel) (by decide +kernel)
end Go.Proofs.YtppoikamenbckaaGreatDoor

namespace Go.Proofs.YtppoikamenbckaaGreatDoor
set_option linter.unusedVariables false

theorem key2_ok : KeyOk keyN2 keyE keyD2 :=
  keyOk_of pA 12329477222992863067035609111604184371805710698277106172196551772303302632927049457756976661843525144868265139576196260095675556062881725217631014058728183 120253501181590391113820640868512811573011698343862708866157034952531545013148489044656379041847181912948479327999834190133155590133306426622627823786128868440 101255413479118590988872953796158366653845876000769105198055155931111789349806093133162837575352646962150132042726595315525019839389662896521965876714005289160 pr_pA pr_key2q (by decide +kernel) (by decide +kernel) (by decide +kernel) (by decide +kernel)
end Go.Proofs.YtppoikamenbckaaGreatDoor
