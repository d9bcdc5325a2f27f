/-
  The ring's numbers: the pure side: a row that is added, a number moved down by a limb, what is taken off, an inverse modulo 2^32, powers bit by bit. No condition.
-/
import Derived.Test.YtojpbfkdkkdpcaaDoorPure5
import Derived.Test.YtojpbfkdkkdpcaaDoorRef4
namespace Go.Proofs.YtojpbfkdkkdpcaaDoor
set_option maxRecDepth 100000
set_option linter.unusedVariables false

/-- One limb of a row. -/
theorem row_step {B V a k c o : Nat} {lb O : List Nat} (h : val B O + B ^ k * c = V + a * val B (lb.take k)) (ho : O[k]? = some o) (x : Nat) (hx : x = o + c + a * dig lb k) :
    val B (O.set k (x % B)) + B ^ (k + 1) * (x / B) = V + a * val B (lb.take (k + 1)) := by
  have := mul_step (B := B) (V := V) (a := a) (i := 0) (k := k) (c := c) (o := o) (lb := lb) (O := O) (by simpa using h) (by simpa using ho) x hx
  simpa using this
theorem val_split {B : Nat} {l : List Nat} {j o : Nat} (h : l[j]? = some o) : val B l = val B (l.take j) + B ^ j * (o + B * val B (l.drop (j + 1))) := by
  have e := split_at h
  have hi := (List.getElem?_eq_some_iff.1 h).1
  have hl : (l.take j).length = j := by simp; omega
  conv => lhs; rw [e]
  rw [val_append, val, hl]
theorem drop_cons {l : List Nat} {j o : Nat} (h : l[j]? = some o) : l.drop j = o :: l.drop (j + 1) := by
  have i1 := (List.getElem?_eq_some_iff.1 h).1
  rw [List.drop_eq_getElem_cons i1, (List.getElem?_eq_some_iff.1 h).2]
/-- A row's end: what goes over into the two limbs above. -/
theorem row_end {B T n c o1 o2 : Nat} {O : List Nat} (hB : 0 < B) (h : val B O + B ^ n * c = T) (hT : T < B ^ (n + 2)) (h1 : O[n]? = some o1) (h2 : O[n + 1]? = some o2) (s : Nat) (hs : s = c + o1) :
    o2 + s / B < B ∧ val B ((O.set n (s % B)).set (n + 1) (o2 + s / B)) = T := by
  have e1 := val_split (B := B) h1
  rw [drop_cons h2, val] at e1
  have hP : 0 < B ^ n := Nat.pow_pos hB
  have hd : s % B + B * (s / B) = s := Nat.mod_add_div s B
  have key : B ^ n * (s % B) + B ^ (n + 1) * (s / B) = B ^ n * s := by
    rw [Nat.pow_succ, Nat.mul_assoc, ← Nat.mul_add, hd]
  constructor
  · refine Nat.lt_of_not_le fun hge => ?_
    have h3 : B ^ (n + 1) * B ≤ B ^ (n + 1) * (o2 + s / B) := Nat.mul_le_mul_left _ hge
    have h4 : B ^ (n + 2) = B ^ (n + 1) * B := Nat.pow_succ _ _
    have h5 : B ^ (n + 1) * (o2 + s / B) = B ^ (n + 1) * o2 + B ^ (n + 1) * (s / B) := Nat.mul_add _ _ _
    have h6 : B ^ n * (o1 + B * (o2 + B * val B (O.drop (n + 1 + 1)))) = B ^ n * o1 + B ^ (n + 1) * o2 + B ^ (n + 1) * (B * val B (O.drop (n + 1 + 1))) := by
      rw [Nat.mul_add, Nat.mul_add, Nat.mul_add, Nat.pow_succ, Nat.mul_assoc (B ^ n) B, Nat.mul_assoc (B ^ n) B]
      omega
    have h7 : B ^ n * s = B ^ n * c + B ^ n * o1 := by rw [hs, Nat.mul_add]
    have h8 : 0 ≤ B ^ (n + 1) * (B * val B (O.drop (n + 1 + 1))) := Nat.zero_le _
    omega
  · have g1 := val_set B h1 (s % B)
    have h2' : (O.set n (s % B))[n + 1]? = some o2 := by rw [List.getElem?_set_ne (by omega)]; exact h2
    have g2 := val_set B h2' (o2 + s / B)
    have h5 : B ^ (n + 1) * (o2 + s / B) = B ^ (n + 1) * o2 + B ^ (n + 1) * (s / B) := Nat.mul_add _ _ _
    have h7 : B ^ n * s = B ^ n * c + B ^ n * o1 := by rw [hs, Nat.mul_add]
    omega
/-- A number whose lowest limb is 0, moved down by one limb. -/
theorem down_val {B : Nat} {O : List Nat} {o : Nat} (hB : 0 < B) (ho : O[0]? = some o) (hf : Fit B O) (h : val B O % B = 0) : val B (O.drop 1 ++ [0]) = val B O / B := by
  have e := drop_cons ho
  rw [List.drop_zero] at e
  rw [val_snoc, Nat.mul_zero, Nat.add_zero]
  rw [e, val] at h ⊢
  have ho1 := hf.get ho
  rw [Nat.add_mul_mod_self_left, Nat.mod_eq_of_lt ho1] at h
  subst h
  rw [Nat.zero_add, Nat.zero_add, Nat.mul_div_cancel_left _ hB]
  rfl
theorem low_val {B : Nat} {O : List Nat} {o : Nat} (ho : O[0]? = some o) (hf : Fit B O) : o = val B O % B := by
  have e := drop_cons ho
  rw [List.drop_zero] at e
  rw [e, val, Nat.add_mul_mod_self_left, Nat.mod_eq_of_lt (hf.get ho)]
/-- The two limbs above a number below 2 B^k. -/
theorem top_val {B k V o1 o2 : Nat} {O : List Nat} (hB : 2 ≤ B) (hl : O.length = k + 2) (hf : Fit B O) (hv : val B O = V) (hV : V < 2 * B ^ k) (h1 : O[k]? = some o1) : o1 ≤ 1 ∧ val B (O.take k) + B ^ k * o1 = V := by
  have e1 := val_split (B := B) h1
  have hP : 0 < B ^ k := Nat.pow_pos (by omega)
  have hz : val B (O.drop (k + 1)) = 0 := by
    rcases Nat.eq_zero_or_pos (val B (O.drop (k + 1))) with h0 | h0
    · exact h0
    · have : B ^ k * 2 ≤ B ^ k * (o1 + B * val B (O.drop (k + 1))) := by
        refine Nat.mul_le_mul_left _ ?_
        have : 2 * 1 ≤ B * val B (O.drop (k + 1)) := Nat.mul_le_mul hB h0
        omega
      omega
  rw [hz, Nat.mul_zero, Nat.add_zero] at e1
  refine ⟨?_, by omega⟩
  refine Nat.le_of_not_lt fun h => ?_
  have : B ^ k * 2 ≤ B ^ k * o1 := Nat.mul_le_mul_left _ h
  omega
/-- What is taken off once: c is what was borrowed. -/
theorem below_val {N V a z c P o : Nat} (hN : N < P) (hV : a + P * o = V) (hV2 : V < 2 * N) (ho : o ≤ 1) (hz : z < P) (hc : c ≤ 1) (h : z + N = a + P * c) (hge : N ≤ V) : z = V % N := by
  have hm : V % N = V - N := by rw [Nat.mod_eq_sub_mod hge, Nat.mod_eq_of_lt (by omega)]
  rw [hm]
  rcases Nat.le_one_iff_eq_zero_or_eq_one.1 ho with rfl | rfl <;> rcases Nat.le_one_iff_eq_zero_or_eq_one.1 hc with rfl | rfl <;> simp only [Nat.mul_zero, Nat.mul_one] at * <;> omega

/-- z is the number below N that stands behind z R = P R. -/
theorem odd_back {N z P k : Nat} (hn : N % 2 = 1) (hz : z < N) (h : z * 2 ^ k % N = P * 2 ^ k % N) : z = P % N := by
  refine odd_cancel (k := k) hn ?_ hz (Nat.mod_lt _ (by omega))
  rw [h, Nat.mul_mod (P % N), Nat.mod_mod, ← Nat.mul_mod]
theorem pow32 (k : Nat) : 4294967296 ^ k = 2 ^ (32 * k) := by rw [Nat.pow_mul]
/-- The short product of long ones is long. -/
theorem short_long {N z x y k : Nat} (hn : N % 2 = 1) (hz : z < N) (h : z * 4294967296 ^ k % N = (x * 4294967296 ^ k % N) * (y * 4294967296 ^ k % N) % N) : z = x * y * 4294967296 ^ k % N := by
  rw [pow32] at *
  refine odd_back (k := 32 * k) hn hz ?_
  rw [h, ← Nat.mul_mod]
  congr 1
  rw [Nat.mul_assoc, Nat.mul_assoc x y, Nat.mul_assoc, Nat.mul_left_comm (2 ^ (32 * k)) y, Nat.mul_assoc y]
/-- A long one and a plain one. -/
theorem short_plain {N z x b k : Nat} (hn : N % 2 = 1) (hz : z < N) (h : z * 4294967296 ^ k % N = (x * 4294967296 ^ k % N) * b % N) : z = x * b % N := by
  rw [pow32] at *
  refine odd_back (k := 32 * k) hn hz ?_
  rw [h, Nat.mul_mod, Nat.mod_mod, ← Nat.mul_mod, Nat.mul_right_comm]
/-- A plain one and RR. -/
theorem short_rr {N z a k : Nat} (hn : N % 2 = 1) (hz : z < N) (h : z * 4294967296 ^ k % N = a * (4294967296 ^ (2 * k) % N) % N) : z = a * 4294967296 ^ k % N := by
  have e : 4294967296 ^ (2 * k) = 4294967296 ^ k * 4294967296 ^ k := by rw [← Nat.pow_add]; congr 1; omega
  rw [e] at h
  clear e
  rw [pow32] at *
  refine odd_back (k := 32 * k) hn hz ?_
  rw [h, Nat.mul_mod, Nat.mod_mod, ← Nat.mul_mod, Nat.mul_assoc]

/-- The inverse of an odd number modulo 2^32: what is right modulo M is right modulo M M. -/
theorem inv_step {x y y' M M' : Int} (h : M ∣ x * y - 1) (hM : M' ∣ M * M) (hB : M' ∣ 4294967296) (hy : y' = (y * ((2 - x * y % 4294967296) % 4294967296)) % 4294967296) : M' ∣ x * y' - 1 := by
  have h1 : (4294967296 : Int) ∣ y' - y * (2 - x * y) := by
    have e1 : y' % 4294967296 = (y * (2 - x * y)) % 4294967296 := by
      rw [hy, Int.emod_emod, Int.mul_emod, Int.emod_emod, ← Int.mul_emod, Int.mul_emod, Int.sub_emod, Int.emod_emod, ← Int.sub_emod, ← Int.mul_emod]
    exact Int.dvd_of_emod_eq_zero (Int.emod_eq_emod_iff_emod_sub_eq_zero.1 e1)
  obtain ⟨t, ht⟩ := h1
  obtain ⟨q, hq⟩ := h
  obtain ⟨u, hu⟩ := hM
  obtain ⟨v, hv⟩ := hB
  refine ⟨x * v * t - u * q * q, ?_⟩
  have e2 : y' = y * (2 - x * y) + M' * v * t := by rw [← hv]; omega
  have e3 : x * y = 1 + M * q := by omega
  have e4 : x * y' - 1 = x * y * (2 - x * y) - 1 + M' * (x * v * t) := by rw [e2]; grind
  rw [e4, e3]
  have e5 : (1 + M * q) * (2 - (1 + M * q)) - 1 = -(M * M * q * q) := by grind
  rw [e5, hu]
  grind
theorem inv_start {x : Int} (h : x % 2 = 1) : (8 : Int) ∣ x * x - 1 := by
  obtain ⟨m, hm⟩ : ∃ m, x = 2 * m + 1 := ⟨x / 2, by omega⟩
  have e : x * x - 1 = 4 * (m * (m + 1)) := by rw [hm]; grind
  rw [e]
  have h2 : m * (m + 1) % 2 = 0 := by
    rcases (by omega : m % 2 = 0 ∨ m % 2 = 1) with h0 | h0
    · rw [Int.mul_emod, h0]; simp
    · rw [Int.mul_emod, show (m + 1) % 2 = 0 by omega]; simp
  obtain ⟨t, ht⟩ := Int.dvd_of_emod_eq_zero h2
  exact ⟨t, by rw [ht]; omega⟩
/-- How many bits are right behind each step. -/
def rgt : Nat → Int
  | 0 => 8
  | 1 => 64
  | 2 => 4096
  | 3 => 16777216
  | _ => 4294967296
theorem inv_next {x y y' : Int} {j : Nat} (hj : j < 4) (h : rgt j ∣ x * y - 1) (hy : y' = (y * ((2 - x * y % 4294967296) % 4294967296)) % 4294967296) : rgt (j + 1) ∣ x * y' - 1 := by
  match j, hj with
  | 0, _ => exact inv_step h ⟨1, rfl⟩ ⟨67108864, rfl⟩ hy
  | 1, _ => exact inv_step h ⟨1, rfl⟩ ⟨1048576, rfl⟩ hy
  | 2, _ => exact inv_step h ⟨1, rfl⟩ ⟨256, rfl⟩ hy
  | 3, _ => exact inv_step h ⟨65536, rfl⟩ ⟨1, rfl⟩ hy
/-- What is against an inverse. -/
theorem inv_end {x y n0 : Nat} (h : (4294967296 : Int) ∣ (x : Int) * y - 1) (hn0 : (n0 : Int) = (-(y : Int)) % 4294967296) : n0 * x % 4294967296 = 4294967295 := by
  obtain ⟨q, hq⟩ := h
  have e0 : (n0 : Int) = -(y : Int) - 4294967296 * ((-(y : Int)) / 4294967296) := by have := Int.emod_add_mul_ediv (-(y : Int)) 4294967296; omega
  have e1 : ((n0 * x : Nat) : Int) = 4294967295 + 4294967296 * (-q - 1 - ((-(y : Int)) / 4294967296) * x) := by
    rw [Int.natCast_mul, e0]
    have : (x : Int) * y = 1 + 4294967296 * q := by omega
    generalize (-(y : Int)) / 4294967296 = t
    grind
  omega
theorem low_mul {n0 N d r : Nat} (h : n0 * d % 4294967296 = 4294967295) (hN : N = d + 4294967296 * r) : n0 * N % 4294967296 = 4294967296 - 1 := by
  rw [hN, Nat.mul_add, Nat.mul_left_comm, Nat.add_mul_mod_self_left, h]

/-- One bit of a number in limbs. -/
theorem bit_at {l : List Nat} {i d : Nat} (hf : Fit 4294967296 l) (h : l[i / 32]? = some d) : d / 2 ^ (i % 32) % 2 = val 4294967296 l / 2 ^ i % 2 := by
  have e := val_split (B := 4294967296) h
  have hlt := val_lt (hf.take (i / 32))
  have hi := (List.getElem?_eq_some_iff.1 h).1
  have hl : (l.take (i / 32)).length = i / 32 := by simp; omega
  rw [hl] at hlt
  have e2 : val 4294967296 l / 4294967296 ^ (i / 32) = d + 4294967296 * val 4294967296 (l.drop (i / 32 + 1)) := by
    rw [e, Nat.add_mul_div_left _ _ (Nat.pow_pos (by omega)), Nat.div_eq_of_lt hlt, Nat.zero_add]
  have e3 : 2 ^ i = 4294967296 ^ (i / 32) * 2 ^ (i % 32) := by
    rw [pow32, ← Nat.pow_add, Nat.div_add_mod]
  rw [e3, ← Nat.div_div_eq_div_mul, e2]
  have hm : i % 32 < 32 := Nat.mod_lt _ (by omega)
  have e4 : (4294967296 : Nat) = 2 ^ (i % 32) * 2 ^ (31 - i % 32) * 2 := by
    rw [← Nat.pow_add, show i % 32 + (31 - i % 32) = 31 by omega]
  rw [e4, Nat.mul_assoc, Nat.mul_assoc, Nat.add_mul_div_left _ _ (Nat.two_pow_pos _), Nat.mul_comm 2, ← Nat.mul_assoc, Nat.add_mul_mod_self_right]
theorem half_bit (e i : Nat) : e / 2 ^ i = 2 * (e / 2 ^ (i + 1)) + e / 2 ^ i % 2 := by
  rw [Nat.pow_succ, ← Nat.div_div_eq_div_mul]; omega
/-- A square, and a factor where a bit is. -/
theorem power_one {N z z' a q k b : Nat} (hn : N % 2 = 1) (hz : z < N) (hz' : z' < N) (h : z * 4294967296 ^ k % N = (a ^ q * 4294967296 ^ k % N) * (a ^ q * 4294967296 ^ k % N) % N) (h' : z' * 4294967296 ^ k % N = z * (a * 4294967296 ^ k % N) % N) : z' = a ^ (2 * q + 1) * 4294967296 ^ k % N := by
  have e := short_long hn hz h
  rw [e] at h'
  have e2 := short_long hn hz' h'
  rw [e2, Nat.pow_succ, Nat.two_mul, Nat.pow_add]
theorem power_zero {N z a q k : Nat} (hn : N % 2 = 1) (hz : z < N) (h : z * 4294967296 ^ k % N = (a ^ q * 4294967296 ^ k % N) * (a ^ q * 4294967296 ^ k % N) % N) : z = a ^ (2 * q) * 4294967296 ^ k % N := by
  have e := short_long hn hz h
  rw [e, Nat.two_mul, Nat.pow_add]
end Go.Proofs.YtojpbfkdkkdpcaaDoor
