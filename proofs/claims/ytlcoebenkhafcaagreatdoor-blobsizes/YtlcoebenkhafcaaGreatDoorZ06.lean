/-
  Primes, Fermat, and the fixed keys 0 and 1. No condition.
-/
namespace Go.Proofs.YtlcoebenkhafcaaGreatDoor
set_option linter.unusedVariables false
def Pr (p : Nat) : Prop := 2 ≤ p ∧ ∀ d, d ∣ p → d = 1 ∨ d = p
theorem Pr.coprime {p a : Nat} (hp : Pr p) (h : ¬ p ∣ a) : Nat.Coprime p a := by
  rcases hp.2 _ (Nat.gcd_dvd_left p a) with h1 | h1
  · exact h1
  · exact absurd (h1 ▸ Nat.gcd_dvd_right p a) h
theorem Pr.dvd_mul {p a b : Nat} (hp : Pr p) (h : p ∣ a * b) : p ∣ a ∨ p ∣ b := by
  by_cases ha : p ∣ a
  · exact .inl ha
  · exact .inr ((hp.coprime ha).dvd_of_dvd_mul_left h)
theorem exists_pr : ∀ n : Nat, 2 ≤ n → ∃ r, Pr r ∧ r ∣ n := by
  intro n
  induction n using Nat.strongRecOn with
  | _ n ih =>
    intro hn
    by_cases hp : ∀ d, d ∣ n → d = 1 ∨ d = n
    · exact ⟨n, ⟨hn, hp⟩, Nat.dvd_refl n⟩
    · have : ∃ d, d ∣ n ∧ d ≠ 1 ∧ d ≠ n := by
        refine Classical.byContradiction fun hno => hp fun d hd => ?_
        refine Classical.byContradiction fun h2 => hno ⟨d, hd, fun h => h2 (.inl h), fun h => h2 (.inr h)⟩
      obtain ⟨d, hd, h1, h2⟩ := this
      have hle := Nat.le_of_dvd (by omega) hd
      have h0 : d ≠ 0 := by
        rintro rfl
        have := Nat.eq_zero_of_zero_dvd hd
        omega
      obtain ⟨r, hr, hrd⟩ := ih d (by omega) (by omega)
      exact ⟨r, hr, Nat.dvd_trans hrd hd⟩
def ch : Nat → Nat → Nat
  | _, 0 => 1
  | 0, _ + 1 => 0
  | n + 1, k + 1 => ch n k + ch n (k + 1)
theorem ch_zero_right (n : Nat) : ch n 0 = 1 := by cases n <;> rfl
theorem ch_above : ∀ n k : Nat, n < k → ch n k = 0
  | 0, k + 1, _ => rfl
  | n + 1, k + 1, h => by rw [ch, ch_above n k (by omega), ch_above n (k + 1) (by omega)]
  | _, 0, h => by omega
theorem ch_self : ∀ n : Nat, ch n n = 1
  | 0 => rfl
  | n + 1 => by rw [ch, ch_self n, ch_above n (n + 1) (by omega)]
theorem ch_mul : ∀ n k : Nat, (k + 1) * ch (n + 1) (k + 1) = (n + 1) * ch n k
  | 0, 0 => rfl
  | 0, k + 1 => by
    have h1 : ch 1 (k + 1 + 1) = 0 := ch_above _ _ (by omega)
    have h2 : ch 0 (k + 1) = 0 := rfl
    rw [h1, h2, Nat.mul_zero, Nat.mul_zero]
  | n + 1, 0 => by
    have h := ch_mul n 0
    rw [ch_zero_right, Nat.zero_add, Nat.one_mul, Nat.mul_one] at h
    show (0 + 1) * (ch (n + 1) 0 + ch (n + 1) 1) = _
    rw [ch_zero_right, h]
    omega
  | n + 1, k + 1 => by
    have h1 := ch_mul n k
    have h2 := ch_mul n (k + 1)
    have e : ch (n + 1 + 1) (k + 1 + 1) = ch (n + 1) (k + 1) + ch (n + 1) (k + 1 + 1) := rfl
    have e2 : ch (n + 1) (k + 1) = ch n k + ch n (k + 1) := rfl
    rw [e, Nat.mul_add, h2]
    have h3 : (k + 1 + 1) * ch (n + 1) (k + 1) = (n + 1) * ch n k + ch (n + 1) (k + 1) := by
      rw [Nat.add_mul (k + 1) 1, h1, Nat.one_mul]
    have h4 : (n + 1 + 1) * ch (n + 1) (k + 1) = (n + 1) * ch n k + (n + 1) * ch n (k + 1) + ch (n + 1) (k + 1) := by
      rw [Nat.add_mul (n + 1) 1, Nat.one_mul]
      conv => lhs; lhs; rw [e2, Nat.mul_add]
    rw [h3, h4]
    omega
def bsum (a n : Nat) : Nat → Nat
  | 0 => 0
  | j + 1 => bsum a n j + ch n j * a ^ j
theorem bsum_succ (a n : Nat) : ∀ j, bsum a (n + 1) (j + 1) = bsum a n (j + 1) + a * bsum a n j
  | 0 => by simp [bsum, ch_zero_right]
  | j + 1 => by
    have h := bsum_succ a n j
    have e1 : bsum a (n + 1) (j + 1 + 1) = bsum a (n + 1) (j + 1) + (ch n j + ch n (j + 1)) * a ^ (j + 1) := rfl
    have e2 : bsum a n (j + 1 + 1) = bsum a n (j + 1) + ch n (j + 1) * a ^ (j + 1) := rfl
    have e3 : a * bsum a n (j + 1) = a * bsum a n j + ch n j * a ^ (j + 1) := by
      have : bsum a n (j + 1) = bsum a n j + ch n j * a ^ j := rfl
      rw [this, Nat.mul_add, Nat.pow_succ, Nat.mul_left_comm a, Nat.mul_comm a (a ^ j)]
    rw [e1, h, e2, e3, Nat.add_mul]
    omega
theorem binomial (a : Nat) : ∀ n, bsum a n (n + 1) = (a + 1) ^ n
  | 0 => by simp [bsum, ch]
  | n + 1 => by
    have h := binomial a n
    rw [bsum_succ]
    have e : bsum a n (n + 1 + 1) = bsum a n (n + 1) + ch n (n + 1) * a ^ (n + 1) := rfl
    rw [e, ch_above n (n + 1) (by omega), Nat.zero_mul, Nat.add_zero, h, Nat.pow_succ, Nat.mul_add, Nat.mul_one, Nat.mul_comm a, Nat.add_comm]
theorem Pr.dvd_ch {p k : Nat} (hp : Pr p) (h0 : 0 < k) (hk : k < p) : p ∣ ch p k := by
  obtain ⟨n, rfl⟩ : ∃ n, p = n + 1 := ⟨p - 1, by omega⟩
  obtain ⟨j, rfl⟩ : ∃ j, k = j + 1 := ⟨k - 1, by omega⟩
  have h := ch_mul n j
  have h1 : (n + 1) ∣ (j + 1) * ch (n + 1) (j + 1) := ⟨_, h⟩
  rcases hp.dvd_mul h1 with h2 | h2
  · have := Nat.le_of_dvd (by omega) h2
    omega
  · exact h2
theorem bsum_mod {p a : Nat} (hp : Pr p) : ∀ j, j + 1 ≤ p → bsum a p (j + 1) % p = 1 % p
  | 0, _ => by simp [bsum, ch_zero_right]
  | j + 1, h => by
    have ih := bsum_mod (a := a) hp j (by omega)
    have e : bsum a p (j + 1 + 1) = bsum a p (j + 1) + ch p (j + 1) * a ^ (j + 1) := rfl
    obtain ⟨t, ht⟩ := hp.dvd_ch (k := j + 1) (by omega) (by omega)
    rw [e, ht, Nat.mul_assoc, Nat.add_mul_mod_self_left, ih]
theorem Pr.fermat {p : Nat} (hp : Pr p) : ∀ a, a ^ p % p = a % p
  | 0 => by
    have := hp.1
    rw [Nat.zero_pow (by omega)]
  | a + 1 => by
    have ih := hp.fermat a
    have h := binomial a p
    have e : bsum a p (p + 1) = bsum a p p + ch p p * a ^ p := rfl
    obtain ⟨j, hj⟩ : ∃ j, p = j + 1 := ⟨p - 1, by have := hp.1; omega⟩
    have hb : bsum a p p % p = 1 % p := by
      have := bsum_mod (a := a) hp j (by omega)
      rw [← hj] at this
      exact this
    rw [← h, e, ch_self, Nat.one_mul, Nat.add_mod, hb, ih, ← Nat.add_mod, Nat.add_comm]
theorem dvd_of_mod {p x y : Nat} (hxy : y ≤ x) (h : x % p = y % p) : p ∣ x - y := by
  have h1 := Nat.div_add_mod x p
  have h2 := Nat.div_add_mod y p
  have h3 : y / p ≤ x / p := Nat.div_le_div_right hxy
  refine ⟨x / p - y / p, ?_⟩
  have h4 : p * (x / p - y / p) = p * (x / p) - p * (y / p) := Nat.mul_sub _ _ _
  rw [h4]
  omega
theorem mod_of_dvd {p x y : Nat} (hxy : y ≤ x) (h : p ∣ x - y) : x % p = y % p := by
  obtain ⟨t, ht⟩ := h
  have : x = y + p * t := by omega
  rw [this, Nat.add_mul_mod_self_left]
theorem Pr.fermat1 {p a : Nat} (hp : Pr p) (ha : ¬ p ∣ a) : a ^ (p - 1) % p = 1 % p := by
  obtain ⟨n, rfl⟩ : ∃ n, p = n + 1 := ⟨p - 1, by have := hp.1; omega⟩
  have h := hp.fermat a
  have h0 : 0 < a := by
    rcases Nat.eq_zero_or_pos a with h1 | h1
    · exact absurd (h1 ▸ Nat.dvd_zero _) ha
    · exact h1
  have hpos : 1 ≤ a ^ n := Nat.pow_pos h0
  rw [Nat.pow_succ] at h
  have hle : a ≤ a ^ n * a := by
    have := Nat.mul_le_mul_right a hpos
    omega
  have h1 := dvd_of_mod hle h
  have h2 : a ^ n * a - a = (a ^ n - 1) * a := by rw [Nat.sub_mul, Nat.one_mul]
  rw [h2] at h1
  rcases hp.dvd_mul h1 with h3 | h3
  · exact mod_of_dvd hpos h3
  · exact absurd h3 ha
theorem pow_gcd {r a : Nat} (x y : Nat) : a ^ x % r = 1 % r → a ^ y % r = 1 % r → a ^ (Nat.gcd x y) % r = 1 % r := by
  induction x, y using Nat.gcd.induction with
  | H0 n => intro _ h; rw [Nat.gcd_zero_left]; exact h
  | H1 m n hm ih =>
    intro h1 h2
    rw [Nat.gcd_rec]
    refine ih ?_ h1
    have e : a ^ n = (a ^ m) ^ (n / m) * a ^ (n % m) := by rw [← Nat.pow_mul, ← Nat.pow_add, Nat.div_add_mod]
    rw [e, Nat.mul_mod, Nat.pow_mod, h1, ← Nat.pow_mod, Nat.one_pow, ← Nat.mul_mod, Nat.one_mul] at h2
    exact h2
theorem pow_one_mul {r a x : Nat} (h : a ^ x % r = 1 % r) (t : Nat) : a ^ (x * t) % r = 1 % r := by
  rw [Nat.pow_mul, Nat.pow_mod, h, ← Nat.pow_mod, Nat.one_pow]
theorem poc_step {r a M q k : Nat} (hq : Pr q) (hk : q ^ k ∣ M) (h1 : a ^ M % r = 1 % r) (h2 : a ^ (r - 1) % r = 1 % r) (h3 : ¬ a ^ (M / q) % r = 1 % r) : q ^ k ∣ r - 1 := by
  have hg := pow_gcd M (r - 1) h1 h2
  obtain ⟨t, ht⟩ := Nat.gcd_dvd_left M (r - 1)
  generalize hD : Nat.gcd M (r - 1) = D at *
  have hDr : D ∣ r - 1 := hD ▸ Nat.gcd_dvd_right M (r - 1)
  by_cases hqt : q ∣ t
  · obtain ⟨s, hs⟩ := hqt
    exfalso
    apply h3
    have e : M / q = D * s := by
      rw [ht, hs, Nat.mul_left_comm, Nat.mul_div_cancel_left _ (by have := hq.1; omega)]
    rw [e]
    exact pow_one_mul hg s
  · have hc : Nat.Coprime (q ^ k) t := Nat.Coprime.pow_left k (hq.coprime hqt)
    rw [ht] at hk
    exact Nat.dvd_trans (hc.dvd_of_dvd_mul_right hk) hDr
def pmod (n : Nat) : Nat → Nat → Nat → Nat
  | 0, _, _ => 1 % n
  | f + 1, a, e => bif e == 0 then 1 % n else bif e % 2 == 1 then a * pmod n f (a * a % n) (e / 2) % n else pmod n f (a * a % n) (e / 2)
theorem pmod_eq (n : Nat) : ∀ f a e, e < 2 ^ f → pmod n f a e = a ^ e % n
  | 0, a, e, h => by
    have : e = 0 := by simp at h; omega
    subst this
    rfl
  | f + 1, a, e, h => by
    have hlt : e / 2 < 2 ^ f := by rw [Nat.pow_succ] at h; omega
    have ih := pmod_eq n f (a * a % n) (e / 2) hlt
    have e2 : (a * a % n) ^ (e / 2) % n = a ^ (2 * (e / 2)) % n := by rw [← Nat.pow_mod, Nat.pow_mul, Nat.pow_two]
    rw [pmod, ih, e2]
    by_cases h0 : e = 0
    · subst h0; rfl
    · have hb : (e == 0) = false := by simp [h0]
      rw [hb]
      by_cases h1 : e % 2 = 1
      · have hb1 : (e % 2 == 1) = true := by simp [h1]
        rw [hb1]
        show a * (a ^ (2 * (e / 2)) % n) % n = _
        rw [Nat.mul_mod, Nat.mod_mod, ← Nat.mul_mod]
        congr 1
        rw [Nat.mul_comm, ← Nat.pow_succ]
        congr 1
        omega
      · have hb1 : (e % 2 == 1) = false := by simp [h1]
        rw [hb1]
        show a ^ (2 * (e / 2)) % n = _
        congr 2
        omega
def chk (n f : Nat) (it : Nat × Nat × Nat) : Bool := pmod n f it.2.2 (n - 1) == 1 && (Nat.gcd (pmod n f it.2.2 ((n - 1) / it.1) + (n - 1)) n == 1 && (n - 1) % it.1 ^ it.2.1 == 0)
def prodF : List (Nat × Nat × Nat) → Nat
  | [] => 1
  | it :: r => it.1 ^ it.2.1 * prodF r
def cop : List (Nat × Nat × Nat) → Bool
  | [] => true
  | it :: r => Nat.gcd (it.1 ^ it.2.1) (prodF r) == 1 && cop r
theorem prodF_dvd {m : Nat} : ∀ L : List (Nat × Nat × Nat), cop L = true → (∀ it ∈ L, it.1 ^ it.2.1 ∣ m) → prodF L ∣ m
  | [], _, _ => Nat.one_dvd m
  | it :: r, hc, h => by
    simp only [cop, Bool.and_eq_true, beq_iff_eq] at hc
    exact Nat.Coprime.mul_dvd_of_dvd_of_dvd hc.1 (h it (by simp)) (prodF_dvd r hc.2 fun x hx => h x (by simp [hx]))
theorem poc {n f : Nat} (hn : 2 ≤ n) (hf : n < 2 ^ f) (L : List (Nat × Nat × Nat)) (hq : ∀ it ∈ L, Pr it.1) (hc : L.all (chk n f) = true) (hcop : cop L = true) {r : Nat} (hr : Pr r) (hrn : r ∣ n) : prodF L ∣ r - 1 := by
  refine prodF_dvd L hcop fun it hit => ?_
  have h := List.all_eq_true.1 hc it hit
  obtain ⟨q, k, a⟩ := it
  simp only [chk, Bool.and_eq_true, beq_iff_eq] at h
  obtain ⟨h1, h2, h3⟩ := h
  rw [pmod_eq n f a (n - 1) (by omega)] at h1
  have hle : (n - 1) / q ≤ n - 1 := Nat.div_le_self _ _
  rw [pmod_eq n f a ((n - 1) / q) (by omega)] at h2
  obtain ⟨s, hs⟩ := hrn
  have toR : ∀ x, x % n % r = x % r := fun x => by rw [hs]; exact Nat.mod_mul_right_mod x r s
  have hr2 := hr.1
  have g1 : a ^ (n - 1) % r = 1 % r := by rw [← toR, h1]
  have hra : ¬ r ∣ a := by
    intro hd
    have h5 : r ∣ a ^ (n - 1) := Nat.dvd_trans hd ⟨a ^ (n - 2), by rw [show n - 1 = (n - 2) + 1 by omega, Nat.pow_succ']⟩
    have h6 := Nat.mod_eq_zero_of_dvd h5
    rw [h6, Nat.mod_eq_of_lt (by omega)] at g1
    omega
  refine poc_step (hq _ hit) (Nat.dvd_of_mod_eq_zero h3) g1 (hr.fermat1 hra) ?_
  intro hbad
  have h7 : (a ^ ((n - 1) / q) % n + (n - 1)) % r = 0 := by
    have e : a ^ ((n - 1) / q) % n % r = 1 % r := by rw [toR, hbad]
    rw [Nat.add_mod, e, ← Nat.add_mod, show 1 + (n - 1) = n by omega, hs, Nat.mul_mod_right]
  have h8 : r ∣ Nat.gcd (a ^ ((n - 1) / q) % n + (n - 1)) n := Nat.dvd_gcd (Nat.dvd_of_mod_eq_zero h7) ⟨s, hs⟩
  rw [h2] at h8
  have := Nat.le_of_dvd (by omega) h8
  omega
theorem all_one {n F : Nat} (h : ∀ r, Pr r → r ∣ n → F ∣ r - 1) : ∀ u, 0 < u → u ∣ n → F ∣ u - 1 := by
  intro u
  induction u using Nat.strongRecOn with
  | _ u ih =>
    intro h0 hu
    by_cases h1 : u = 1
    · subst h1; exact Nat.dvd_zero _
    · obtain ⟨r, hr, t, ht⟩ := exists_pr u (by omega)
      have hr2 := hr.1
      have ht0 : 0 < t := by
        rcases Nat.eq_zero_or_pos t with h2 | h2
        · subst h2; omega
        · exact h2
      have htu : t < u := by
        rw [ht]
        have : 1 * t < r * t := Nat.mul_lt_mul_of_pos_right (by omega) ht0
        omega
      have htn : t ∣ n := Nat.dvd_trans ⟨r, by rw [ht, Nat.mul_comm]⟩ hu
      obtain ⟨x, hx⟩ := h r hr (Nat.dvd_trans ⟨t, ht⟩ hu)
      obtain ⟨y, hy⟩ := ih t htu ht0 htn
      refine ⟨x * t + y, ?_⟩
      have e1 : r = F * x + 1 := by omega
      have e2 : F * (x * t + y) = F * x * t + F * y := by rw [Nat.mul_add, Nat.mul_assoc]
      have e3 : u = F * x * t + t := by rw [ht, e1, Nat.add_mul, Nat.one_mul]
      omega
theorem pr_of {n : Nat} (hn : 2 ≤ n) (h : ∀ u v, n = u * v → 1 < u → 1 < v → False) : Pr n := by
  refine ⟨hn, fun d hd => ?_⟩
  obtain ⟨v, hv⟩ := hd
  refine Classical.byContradiction fun hno => ?_
  have h1 : d ≠ 1 := fun e => hno (.inl e)
  have h2 : d ≠ n := fun e => hno (.inr e)
  have h3 : d ≠ 0 := by rintro rfl; simp at hv; omega
  have h4 : v ≠ 0 := by rintro rfl; simp at hv; omega
  have h5 : v ≠ 1 := by rintro rfl; rw [Nat.mul_one] at hv; exact h2 hv.symm
  exact h d v hv (by omega) (by omega)
theorem pr_of_sq {n f : Nat} (hn : 2 ≤ n) (hf : n < 2 ^ f) (L : List (Nat × Nat × Nat)) (hq : ∀ it ∈ L, Pr it.1) (hc : L.all (chk n f) = true) (hcop : cop L = true) (hF : n < prodF L * prodF L) : Pr n := by
  have hall := all_one (n := n) (F := prodF L) fun r hr hrn => poc hn hf L hq hc hcop hr hrn
  refine pr_of hn fun u v huv h1 h2 => ?_
  have a := Nat.le_of_dvd (by omega) (hall u (by omega) ⟨v, huv⟩)
  have b := Nat.le_of_dvd (by omega) (hall v (by omega) ⟨u, by rw [huv, Nat.mul_comm]⟩)
  have : prodF L * prodF L ≤ u * v := Nat.mul_le_mul (by omega) (by omega)
  omega
theorem pr_of_cube {n f : Nat} (hn : 2 ≤ n) (hf : n < 2 ^ f) (L : List (Nat × Nat × Nat)) (hq : ∀ it ∈ L, Pr it.1) (hc : L.all (chk n f) = true) (hcop : cop L = true) (F r s : Nat) (hF : prodF L = F) (hcube : n < F * F * F) (hn1 : n = 1 + (r + s * F) * F) (hr : r + 1 < F) (hr0 : 0 < r)
    (hns : r * r < 4 * s ∨ ∃ c, c * c + 4 * s < r * r ∧ r * r < (c + 1) * (c + 1) + 4 * s) : Pr n := by
  have hall := all_one (n := n) (F := F) fun x hx hxn => hF ▸ poc hn hf L hq hc hcop hx hxn
  refine pr_of hn fun u v huv h1 h2 => ?_
  obtain ⟨x, hx⟩ := hall u (by omega) ⟨v, huv⟩
  obtain ⟨y, hy⟩ := hall v (by omega) ⟨u, by rw [huv, Nat.mul_comm]⟩
  have hF0 : 0 < F := by omega
  have ux : u = 1 + x * F := by rw [Nat.mul_comm]; omega
  have vy : v = 1 + y * F := by rw [Nat.mul_comm]; omega
  have x1 : 1 ≤ x := by
    rcases Nat.eq_zero_or_pos x with h | h
    · subst h; omega
    · exact h
  have y1 : 1 ≤ y := by
    rcases Nat.eq_zero_or_pos y with h | h
    · subst h; omega
    · exact h
  have hexp : n = 1 + (x + y + x * y * F) * F := by
    rw [huv, ux, vy]
    grind
  have hmain : r + s * F = x + y + x * y * F := by
    have : (r + s * F) * F = (x + y + x * y * F) * F := by omega
    exact Nat.eq_of_mul_eq_mul_right hF0 this
  have hxy : x * y < F := by
    refine Nat.lt_of_not_le fun hge => ?_
    have h3 : F * F ≤ x * y * F := Nat.mul_le_mul_right _ hge
    have h4 : F * F * F ≤ x * y * F * F := Nat.mul_le_mul_right _ h3
    have h5 : x * y * F * F ≤ (x + y + x * y * F) * F := Nat.mul_le_mul_right _ (by omega)
    omega
  have hsum : x + y ≤ x * y + 1 := by
    obtain ⟨a, rfl⟩ : ∃ a, x = a + 1 := ⟨x - 1, by omega⟩
    obtain ⟨b, rfl⟩ : ∃ b, y = b + 1 := ⟨y - 1, by omega⟩
    have : (a + 1) * (b + 1) = a * b + a + b + 1 := by grind
    omega
  have hsF : x + y ≤ F := by omega
  have e1 : (r + s * F) % F = r := by rw [Nat.add_mul_mod_self_right, Nat.mod_eq_of_lt (by omega)]
  have e2 : (x + y + x * y * F) % F = (x + y) % F := by rw [Nat.add_mul_mod_self_right]
  have hr2 : r = (x + y) % F := by rw [← e1, hmain, e2]
  rcases Nat.lt_or_eq_of_le hsF with hlt | heq
  · rw [Nat.mod_eq_of_lt hlt] at hr2
    have hs2 : s = x * y := by
      have : s * F = x * y * F := by omega
      exact Nat.eq_of_mul_eq_mul_right hF0 this
    have key : ∀ a b : Nat, a ≤ b → (a + b) * (a + b) = (b - a) * (b - a) + 4 * (a * b) := by
      intro a b hab
      obtain ⟨t, rfl⟩ : ∃ t, b = a + t := ⟨b - a, by omega⟩
      rw [show a + t - a = t by omega]
      grind
    have hsq : ∃ t, r * r = t * t + 4 * s := by
      rcases Nat.le_total x y with h | h
      · exact ⟨y - x, by rw [hr2, hs2]; exact key x y h⟩
      · exact ⟨x - y, by rw [hr2, hs2, Nat.add_comm x y, Nat.mul_comm x y]; exact key y x h⟩
    obtain ⟨t, ht⟩ := hsq
    rcases hns with h | ⟨c, hc1, hc2⟩
    · omega
    · have h6 : c * c < t * t := by omega
      have h7 : t * t < (c + 1) * (c + 1) := by omega
      have h8 : c < t := Nat.lt_of_not_le fun h => by have := Nat.mul_le_mul h h; omega
      have h9 : t < c + 1 := Nat.lt_of_not_le fun h => by have := Nat.mul_le_mul h h; omega
      omega
  · rw [heq, Nat.mod_self] at hr2
    omega
theorem all_nil : ∀ it ∈ ([] : List (Nat × Nat × Nat)), Pr it.1 := fun _ h => by cases h
theorem all_cons {q k a : Nat} {L : List (Nat × Nat × Nat)} (h : Pr q) (hL : ∀ it ∈ L, Pr it.1) : ∀ it ∈ (q, k, a) :: L, Pr it.1 := fun it hit => by
  rcases List.mem_cons.1 hit with rfl | h2
  · exact h
  · exact hL it h2
def noDiv (n : Nat) : Nat → Nat → Bool
  | 0, d => Nat.blt n (d * d)
  | f + 1, d => Nat.blt n (d * d) || (!(n % d == 0) && noDiv n f (d + 1))
theorem noDiv_spec {n : Nat} : ∀ f d, noDiv n f d = true → ∀ e, d ≤ e → e * e ≤ n → ¬ e ∣ n
  | 0, d, h, e, hde, hee, _ => by
    simp only [noDiv, Nat.blt_eq] at h
    have := Nat.mul_le_mul hde hde
    omega
  | f + 1, d, h, e, hde, hee, hdv => by
    simp only [noDiv, Bool.or_eq_true, Nat.blt_eq, Bool.and_eq_true, Bool.not_eq_true', beq_eq_false_iff_ne] at h
    rcases h with h | ⟨h1, h2⟩
    · have := Nat.mul_le_mul hde hde
      omega
    · rcases Nat.lt_or_eq_of_le hde with hlt | heq
      · exact noDiv_spec f (d + 1) h2 e hlt hee hdv
      · subst heq
        exact h1 (Nat.mod_eq_zero_of_dvd hdv)
theorem pr_small {n : Nat} (f : Nat) (hn : 2 ≤ n) (h : noDiv n f 2 = true) : Pr n := by
  refine pr_of hn fun u v huv h1 h2 => ?_
  rcases Nat.le_total u v with hle | hle
  · exact noDiv_spec f 2 h u (by omega) (by rw [huv]; exact Nat.mul_le_mul_left _ hle) ⟨v, huv⟩
  · exact noDiv_spec f 2 h v (by omega) (by rw [huv]; exact Nat.mul_le_mul_right _ hle) ⟨u, by rw [huv, Nat.mul_comm]⟩
theorem Pr.pow_same {p : Nat} (hp : Pr p) (t m : Nat) : m ^ ((p - 1) * t + 1) % p = m % p := by
  by_cases hd : p ∣ m
  · have h1 : p ∣ m ^ ((p - 1) * t + 1) := Nat.dvd_trans hd ⟨m ^ ((p - 1) * t), by rw [Nat.pow_succ']⟩
    rw [Nat.mod_eq_zero_of_dvd h1, Nat.mod_eq_zero_of_dvd hd]
  · rw [Nat.pow_succ, Nat.mul_mod, pow_one_mul (hp.fermat1 hd) t, ← Nat.mul_mod, Nat.one_mul]
theorem pr_apart {p q : Nat} (hp : Pr p) (hq : Pr q) (hne : p ≠ q) : Nat.Coprime p q := by
  refine hp.coprime fun h => ?_
  have := hp.1
  rcases hq.2 p h with h1 | h1
  · omega
  · exact hne h1
theorem mod_both {p q x y : Nat} (hc : Nat.Coprime p q) (h1 : x % p = y % p) (h2 : x % q = y % q) : x % (p * q) = y % (p * q) := by
  have key : ∀ x y : Nat, y ≤ x → x % p = y % p → x % q = y % q → x % (p * q) = y % (p * q) := by
    intro x y hxy h1 h2
    exact mod_of_dvd hxy (hc.mul_dvd_of_dvd_of_dvd (dvd_of_mod hxy h1) (dvd_of_mod hxy h2))
  rcases Nat.le_total y x with h | h
  · exact key x y h h1 h2
  · exact (key y x h h1.symm h2.symm).symm
theorem close_open {p q N e d a b : Nat} (hp : Pr p) (hq : Pr q) (hne : p ≠ q) (hN : N = p * q) (ha : e * d = (p - 1) * a + 1) (hb : e * d = (q - 1) * b + 1) (m : Nat) (hm : m < N) : (m ^ d % N) ^ e % N = m := by
  rw [← Nat.pow_mod, ← Nat.pow_mul, Nat.mul_comm d e]
  have h : m ^ (e * d) % N = m % N := by
    rw [hN]
    refine mod_both (pr_apart hp hq hne) ?_ ?_
    · rw [ha]; exact hp.pow_same a m
    · rw [hb]; exact hq.pow_same b m
  rw [h, Nat.mod_eq_of_lt hm]
theorem close_inj {p q N e d a b : Nat} (hp : Pr p) (hq : Pr q) (hne : p ≠ q) (hN : N = p * q) (ha : e * d = (p - 1) * a + 1) (hb : e * d = (q - 1) * b + 1) {m m' : Nat} (hm : m < N) (hm' : m' < N) (h : m ^ d % N = m' ^ d % N) : m = m' := by
  have h1 := close_open hp hq hne hN ha hb m hm
  have h2 := close_open hp hq hne hN ha hb m' hm'
  rw [h, h2] at h1
  exact h1.symm
structure KeyOk (N e d : Nat) : Prop where
  back : ∀ m, m < N → (m ^ d % N) ^ e % N = m
  apart : ∀ m m', m < N → m' < N → m ^ d % N = m' ^ d % N → m = m'
theorem keyOk_of {N e d : Nat} (p q a b : Nat) (hp : Pr p) (hq : Pr q) (hne : p ≠ q) (hN : N = p * q) (ha : e * d = (p - 1) * a + 1) (hb : e * d = (q - 1) * b + 1) : KeyOk N e d :=
  ⟨fun m hm => close_open hp hq hne hN ha hb m hm, fun m m' hm hm' h => close_inj hp hq hne hN ha hb hm hm' h⟩
end Go.Proofs.YtlcoebenkhafcaaGreatDoor
namespace Go.Proofs.YtlcoebenkhafcaaGreatDoor
set_option linter.unusedVariables false
theorem prk_2 : Pr 2 := pr_small 2 (by omega) (by decide +kernel)
theorem prk_5 : Pr 5 := pr_small 3 (by omega) (by decide +kernel)
theorem prk_31 : Pr 31 := pr_small 6 (by omega) (by decide +kernel)
theorem prk_283 : Pr 283 := pr_small 17 (by omega) (by decide +kernel)
theorem prk_3083 : Pr 3083 := pr_small 56 (by omega) (by decide +kernel)
theorem prk_3 : Pr 3 := pr_small 2 (by omega) (by decide +kernel)
theorem prk_13 : Pr 13 := pr_small 4 (by omega) (by decide +kernel)
theorem prk_10390147 : Pr 10390147 :=
  pr_of_cube (f := 24) (by decide +kernel) (by decide +kernel) [(2, 1, 2), (3, 1, 2), (13, 1, 2), (31, 1, 2)]
    (all_cons prk_2 (all_cons prk_3 (all_cons prk_13 (all_cons prk_31 all_nil))))
    (by decide +kernel) (by decide +kernel) 2418 1879 1 (by decide +kernel) (by decide +kernel) (by decide +kernel) (by decide +kernel) (by decide +kernel) (.inr ⟨1878, by decide +kernel, by decide +kernel⟩)
theorem prk_59 : Pr 59 := pr_small 8 (by omega) (by decide +kernel)
theorem prk_139 : Pr 139 := pr_small 12 (by omega) (by decide +kernel)
theorem prk_43 : Pr 43 := pr_small 7 (by omega) (by decide +kernel)
theorem prk_1847 : Pr 1847 := pr_small 43 (by omega) (by decide +kernel)
theorem prk_x712853770641_51 : Pr 1810712853770641 :=
  pr_of_cube (f := 51) (by decide +kernel) (by decide +kernel) [(2, 4, 11), (3, 1, 2), (5, 1, 2), (43, 1, 2), (1847, 1, 2)]
    (all_cons prk_2 (all_cons prk_3 (all_cons prk_5 (all_cons prk_43 (all_cons prk_1847 all_nil)))))
    (by decide +kernel) (by decide +kernel) 19061040 18751331 4 (by decide +kernel) (by decide +kernel) (by decide +kernel) (by decide +kernel) (by decide +kernel) (.inr ⟨18751330, by decide +kernel, by decide +kernel⟩)
theorem prk_37 : Pr 37 := pr_small 7 (by omega) (by decide +kernel)
theorem prk_47 : Pr 47 := pr_small 7 (by omega) (by decide +kernel)
theorem prk_6314855047 : Pr 6314855047 :=
  pr_of_sq (f := 33) (by decide +kernel) (by decide +kernel) [(2, 1, 3), (3, 1, 2), (37, 1, 2), (47, 2, 2)]
    (all_cons prk_2 (all_cons prk_3 (all_cons prk_37 (all_cons prk_47 all_nil))))
    (by decide +kernel) (by decide +kernel) (by decide +kernel)
theorem prk_24499 : Pr 24499 := pr_small 157 (by omega) (by decide +kernel)
theorem prk_646879 : Pr 646879 := pr_small 805 (by omega) (by decide +kernel)
theorem prk_x899010458823_102 : Pr 2731182515094649967899010458823 :=
  pr_of_cube (f := 102) (by decide +kernel) (by decide +kernel) [(2, 1, 5), (24499, 1, 2), (646879, 1, 2)]
    (all_cons prk_2 (all_cons prk_24499 (all_cons prk_646879 all_nil)))
    (by decide +kernel) (by decide +kernel) 31695777242 24656914135 2718616268 (by decide +kernel) (by decide +kernel) (by decide +kernel) (by decide +kernel) (by decide +kernel) (.inr ⟨24656914134, by decide +kernel, by decide +kernel⟩)
theorem prk_x928163915119_140 : Pr 1345267691798441114533865426211928163915119 :=
  pr_of_sq (f := 140) (by decide +kernel) (by decide +kernel) [(2, 1, 3), (3, 1, 5), (13, 1, 2), (6314855047, 1, 2), (2731182515094649967899010458823, 1, 2)]
    (all_cons prk_2 (all_cons prk_3 (all_cons prk_13 (all_cons prk_6314855047 (all_cons prk_x899010458823_102 all_nil)))))
    (by decide +kernel) (by decide +kernel) (by decide +kernel)
theorem prk_x363265418159_205 : Pr 39953525208352098188797316830719885341485476593085363265418159 :=
  pr_of_sq (f := 205) (by decide +kernel) (by decide +kernel) [(2, 1, 13), (59, 1, 2), (139, 1, 2), (1810712853770641, 1, 2), (1345267691798441114533865426211928163915119, 1, 2)]
    (all_cons prk_2 (all_cons prk_59 (all_cons prk_139 (all_cons prk_x712853770641_51 (all_cons prk_x928163915119_140 all_nil)))))
    (by decide +kernel) (by decide +kernel) (by decide +kernel)
theorem prk_x570697513071_256 : Pr 112278977878014794934387468732230951909665353991314206570858853383570697513071 :=
  pr_of_sq (f := 256) (by decide +kernel) (by decide +kernel) [(2, 1, 13), (5, 1, 2), (31, 1, 2), (283, 1, 2), (3083, 1, 2), (10390147, 1, 2), (39953525208352098188797316830719885341485476593085363265418159, 1, 2)]
    (all_cons prk_2 (all_cons prk_5 (all_cons prk_31 (all_cons prk_283 (all_cons prk_3083 (all_cons prk_10390147 (all_cons prk_x363265418159_205 all_nil)))))))
    (by decide +kernel) (by decide +kernel) (by decide +kernel)
theorem prk_7 : Pr 7 := pr_small 3 (by omega) (by decide +kernel)
theorem prk_1381 : Pr 1381 := pr_small 38 (by omega) (by decide +kernel)
theorem prk_4422287917 : Pr 4422287917 :=
  pr_of_cube (f := 33) (by decide +kernel) (by decide +kernel) [(2, 2, 2), (3, 2, 5), (1381, 1, 2)]
    (all_cons prk_2 (all_cons prk_3 (all_cons prk_1381 all_nil)))
    (by decide +kernel) (by decide +kernel) 49716 39235 1 (by decide +kernel) (by decide +kernel) (by decide +kernel) (by decide +kernel) (by decide +kernel) (.inr ⟨39234, by decide +kernel, by decide +kernel⟩)
theorem prk_179749 : Pr 179749 := pr_small 424 (by omega) (by decide +kernel)
theorem prk_x995622942689_75 : Pr 27249882203995622942689 :=
  pr_of_cube (f := 75) (by decide +kernel) (by decide +kernel) [(2, 5, 11), (3, 2, 2), (179749, 1, 2)]
    (all_cons prk_2 (all_cons prk_3 (all_cons prk_179749 all_nil)))
    (by decide +kernel) (by decide +kernel) 51767712 3187867 10168261 (by decide +kernel) (by decide +kernel) (by decide +kernel) (by decide +kernel) (by decide +kernel) (.inr ⟨3187860, by decide +kernel, by decide +kernel⟩)
theorem prk_x868688280671_80 : Pr 817496466119868688280671 :=
  pr_of_sq (f := 80) (by decide +kernel) (by decide +kernel) [(2, 1, 3), (3, 1, 2), (5, 1, 2), (27249882203995622942689, 1, 2)]
    (all_cons prk_2 (all_cons prk_3 (all_cons prk_5 (all_cons prk_x995622942689_75 all_nil))))
    (by decide +kernel) (by decide +kernel) (by decide +kernel)
theorem prk_x955283313407_256 : Pr 112289642932016304371756649481332778992551393574107444139052838912955283313407 :=
  pr_of_cube (f := 256) (by decide +kernel) (by decide +kernel) [(2, 1, 3), (3, 1, 3), (7, 1, 2), (4422287917, 1, 2), (817496466119868688280671, 1, 2)]
    (all_cons prk_2 (all_cons prk_3 (all_cons prk_7 (all_cons prk_4422287917 (all_cons prk_x868688280671_80 all_nil)))))
    (by decide +kernel) (by decide +kernel) 151838599261107997300030536453996894 139023327389480914476515463068014463 4870519 (by decide +kernel) (by decide +kernel) (by decide +kernel) (by decide +kernel) (by decide +kernel) (.inr ⟨139023327389480914476515463068014462, by decide +kernel, by decide +kernel⟩)
theorem prk_1097 : Pr 1097 := pr_small 34 (by omega) (by decide +kernel)
theorem prk_5231 : Pr 5231 := pr_small 73 (by omega) (by decide +kernel)
theorem prk_17 : Pr 17 := pr_small 5 (by omega) (by decide +kernel)
theorem prk_19 : Pr 19 := pr_small 5 (by omega) (by decide +kernel)
theorem prk_139652927 : Pr 139652927 :=
  pr_of_cube (f := 28) (by decide +kernel) (by decide +kernel) [(2, 1, 5), (7, 1, 2), (17, 1, 2), (19, 1, 2)]
    (all_cons prk_2 (all_cons prk_7 (all_cons prk_17 (all_cons prk_19 all_nil))))
    (by decide +kernel) (by decide +kernel) 4522 3751 6 (by decide +kernel) (by decide +kernel) (by decide +kernel) (by decide +kernel) (by decide +kernel) (.inr ⟨3750, by decide +kernel, by decide +kernel⟩)
theorem prk_11 : Pr 11 := pr_small 4 (by omega) (by decide +kernel)
theorem prk_97 : Pr 97 := pr_small 10 (by omega) (by decide +kernel)
theorem prk_311 : Pr 311 := pr_small 18 (by omega) (by decide +kernel)
theorem prk_x364614140647_42 : Pr 3364614140647 :=
  pr_of_sq (f := 42) (by decide +kernel) (by decide +kernel) [(2, 1, 3), (3, 1, 2), (11, 1, 2), (97, 1, 2), (311, 1, 2)]
    (all_cons prk_2 (all_cons prk_3 (all_cons prk_11 (all_cons prk_97 (all_cons prk_311 all_nil)))))
    (by decide +kernel) (by decide +kernel) (by decide +kernel)
theorem prk_x409046197281_230 : Pr 1038515761502732774290605519516383798236899882625902882727409046197281 :=
  pr_of_cube (f := 230) (by decide +kernel) (by decide +kernel) [(2, 5, 7), (3, 2, 2), (5, 1, 2), (139652927, 1, 2), (3364614140647, 1, 2)]
    (all_cons prk_2 (all_cons prk_3 (all_cons prk_5 (all_cons prk_139652927 (all_cons prk_x364614140647_42 all_nil)))))
    (by decide +kernel) (by decide +kernel) 676624626672398242227360 467861291984321743967533 2268388783860313342089 (by decide +kernel) (by decide +kernel) (by decide +kernel) (by decide +kernel) (by decide +kernel) (.inr ⟨467861291984321743967532, by decide +kernel, by decide +kernel⟩)
theorem prk_x988810741873_256 : Pr 95350817846681796337898091958903254439827423116154551737010290600988810741873 :=
  pr_of_sq (f := 256) (by decide +kernel) (by decide +kernel) [(2, 4, 3), (1097, 1, 2), (5231, 1, 2), (1038515761502732774290605519516383798236899882625902882727409046197281, 1, 2)]
    (all_cons prk_2 (all_cons prk_1097 (all_cons prk_5231 (all_cons prk_x409046197281_230 all_nil))))
    (by decide +kernel) (by decide +kernel) (by decide +kernel)
theorem prk_358531 : Pr 358531 := pr_small 599 (by omega) (by decide +kernel)
theorem prk_1853701 : Pr 1853701 :=
  pr_of_cube (f := 21) (by decide +kernel) (by decide +kernel) [(2, 2, 2), (3, 1, 2), (5, 2, 2)]
    (all_cons prk_2 (all_cons prk_3 (all_cons prk_5 all_nil)))
    (by decide +kernel) (by decide +kernel) 300 179 20 (by decide +kernel) (by decide +kernel) (by decide +kernel) (by decide +kernel) (by decide +kernel) (.inr ⟨178, by decide +kernel, by decide +kernel⟩)
theorem prk_40781423 : Pr 40781423 :=
  pr_of_sq (f := 26) (by decide +kernel) (by decide +kernel) [(2, 1, 5), (11, 1, 2), (1853701, 1, 2)]
    (all_cons prk_2 (all_cons prk_11 (all_cons prk_1853701 all_nil)))
    (by decide +kernel) (by decide +kernel) (by decide +kernel)
theorem prk_947 : Pr 947 := pr_small 31 (by omega) (by decide +kernel)
theorem prk_25912319 : Pr 25912319 :=
  pr_of_cube (f := 25) (by decide +kernel) (by decide +kernel) [(2, 1, 11), (17, 2, 2)]
    (all_cons prk_2 (all_cons prk_17 all_nil))
    (by decide +kernel) (by decide +kernel) 578 325 77 (by decide +kernel) (by decide +kernel) (by decide +kernel) (by decide +kernel) (by decide +kernel) (.inr ⟨324, by decide +kernel, by decide +kernel⟩)
theorem prk_310947829 : Pr 310947829 :=
  pr_of_sq (f := 29) (by decide +kernel) (by decide +kernel) [(2, 2, 2), (3, 1, 2), (25912319, 1, 2)]
    (all_cons prk_2 (all_cons prk_3 (all_cons prk_25912319 all_nil)))
    (by decide +kernel) (by decide +kernel) (by decide +kernel)
theorem prk_x766805564379_41 : Pr 1766805564379 :=
  pr_of_sq (f := 41) (by decide +kernel) (by decide +kernel) [(2, 1, 2), (3, 1, 2), (947, 1, 2), (310947829, 1, 2)]
    (all_cons prk_2 (all_cons prk_3 (all_cons prk_947 (all_cons prk_310947829 all_nil))))
    (by decide +kernel) (by decide +kernel) (by decide +kernel)
theorem prk_x505232254317_256 : Pr 92279200474456872667267992849871381863045564664392769007913652786505232254317 :=
  pr_of_cube (f := 256) (by decide +kernel) (by decide +kernel) [(2, 2, 2), (3, 1, 2), (358531, 1, 2), (40781423, 1, 2), (1766805564379, 1, 2)]
    (all_cons prk_2 (all_cons prk_3 (all_cons prk_358531 (all_cons prk_40781423 (all_cons prk_x766805564379_41 all_nil)))))
    (by decide +kernel) (by decide +kernel) 309998143191212078193783924 33046680529359337949194159 960252923360120076925650 (by decide +kernel) (by decide +kernel) (by decide +kernel) (by decide +kernel) (by decide +kernel) (.inr ⟨33046680529359337949194158, by decide +kernel, by decide +kernel⟩)
end Go.Proofs.YtlcoebenkhafcaaGreatDoor
namespace Go.Proofs.YtlcoebenkhafcaaGreatDoor
set_option linter.unusedVariables false
def keyE : Nat := 65537
def keyN0 : Nat := 12607766334694039014391351008413601944683118988991459305310262151377373165058157047532882643118617957749893479614883761015472045962519006435872599572042897
def keyD0 : Nat := 4461879983577615604624651717558644379571965763937522489551147675480585081767111051003969606891830699444075379236997817217414472602895223140136589450812183
theorem key0_ok : KeyOk keyN0 keyE keyD0 :=
  keyOk_of 112278977878014794934387468732230951909665353991314206570858853383570697513071 112289642932016304371756649481332778992551393574107444139052838912955283313407 2604389833343720155446337849745291809563740746861061005639122019327628363529482061 2604142473413736146310715756040998583116823387797546050101214815951846972769389045 prk_x570697513071_256 prk_x955283313407_256 (by decide +kernel) (by decide +kernel) (by decide +kernel) (by decide +kernel)
def keyN1 : Nat := 8798897235477369662427135118463266393166531668360946010168437584925822992125429558809574850103081583861454032877256194821401750061414846908587360976915741
def keyD1 : Nat := 665485662632596122407734592649080606288481405116928134273805682272320568781250178228116130340889242470884941083446684742951338887724730162469359910046321
theorem key1_ok : KeyOk keyN1 keyE keyD1 :=
  keyOk_of 95350817846681796337898091958903254439827423116154551737010290600988810741873 92279200474456872667267992849871381863045564664392769007913652786505232254317 457404926951764103593480623558599972049651102650228857779975998449509809976580833 472630166361539993997876367317293706444614579530999074322425757936451287644774036 prk_x988810741873_256 prk_x505232254317_256 (by decide +kernel) (by decide +kernel) (by decide +kernel) (by decide +kernel)
def keyN2 : Nat := 127999963861467928976235131166093275292161515016063763923373206774501895897251866639788429389649847322170796078865058902473104027594537885017105652176856237612874369081376323347280241957528896247405164286184783857999238518557773932972970357366484208424006982919891871196302697261030613745495102320304850740117
def keyD2 : Nat := 19049183120916691344048094653503055449840781692631774073667801039727815198303195741236296259828567743649732178095791301027730004157530242537805674060428016987991313086216564246459434546712853419322174614433193377015960796308433284073844185721518512896022191151064406223025669709891446507495599229498951901233
end Go.Proofs.YtlcoebenkhafcaaGreatDoor
