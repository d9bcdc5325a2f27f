/-
  Rings: the pure side, and what the functions of package ring answer.
-/
import Derived.Test.YtlcoebenkhafcaaGreatDoorZ01
import Derived.Laws.CopyOwn
import Derived.Lib.SliceRun
import Derived.Test.YtlcoebenkhafcaaGreatDoorZ02
import Derived.Deep.RegionHeld3
namespace Go.Proofs.YtlcoebenkhafcaaGreatDoor
set_option maxRecDepth 100000
set_option linter.unusedVariables false
theorem odd_coprime {n : Nat} (hn : n % 2 = 1) (k : Nat) : Nat.Coprime n (2 ^ k) := by
  have h2 : Nat.Coprime n 2 := by
    show Nat.gcd n 2 = 1
    rw [Nat.gcd_comm, Nat.gcd_rec, hn]
    rfl
  induction k with
  | zero => simp [Nat.Coprime]
  | succ k ih => rw [Nat.pow_succ]; exact Nat.Coprime.mul_right ih h2
theorem mod_sub {a b n : Nat} (hab : b ≤ a) (h : a % n = b % n) : n ∣ a - b := by
  have h1 := Nat.div_add_mod a n
  have h2 := Nat.div_add_mod b n
  have h3 : b / n ≤ a / n := Nat.div_le_div_right hab
  refine ⟨a / n - b / n, ?_⟩
  have h4 : n * (a / n - b / n) = n * (a / n) - n * (b / n) := Nat.mul_sub _ _ _
  rw [h4]
  omega
theorem odd_cancel {n c d k : Nat} (hn : n % 2 = 1) (h : (c * 2 ^ k) % n = (d * 2 ^ k) % n) (hc : c < n) (hd : d < n) : c = d := by
  have key : ∀ c d : Nat, d ≤ c → c < n → (c * 2 ^ k) % n = (d * 2 ^ k) % n → c = d := by
    intro c d hdc hcn hm
    have h1 := mod_sub (Nat.mul_le_mul_right _ hdc) hm
    rw [← Nat.sub_mul] at h1
    have h2 : n ∣ c - d := (odd_coprime hn k).dvd_of_dvd_mul_right h1
    rcases Nat.eq_zero_or_pos (c - d) with h3 | h3
    · omega
    · have := Nat.le_of_dvd h3 h2
      omega
  rcases Nat.le_total d c with h1 | h1
  · exact key c d h1 hc h
  · exact (key d c h1 hd h.symm).symm
theorem mont_exact {B n n0 u : Nat} (hB : 0 < B) (h : (n0 * n) % B = B - 1) : (u + (u % B * n0 % B) * n) % B = 0 := by
  have h1 : ((u % B * n0 % B) * n) % B = (u % B * (B - 1)) % B := by
    rw [Nat.mul_mod, Nat.mod_mod, ← Nat.mul_mod, Nat.mul_assoc, Nat.mul_mod (u % B) (n0 * n), h, Nat.mul_mod (u % B) (B - 1), Nat.mod_mod]
    by_cases h2 : B = 1
    · subst h2; simp [Nat.mod_one]
    · rw [Nat.mod_eq_of_lt (by omega : B - 1 < B)]
  rw [Nat.add_mod, h1, Nat.add_mod_mod]
  have h3 : u % B + u % B * (B - 1) = u % B * B := by
    conv => lhs; lhs; rw [← Nat.mul_one (u % B)]
    rw [← Nat.mul_add, show 1 + (B - 1) = B by omega]
  rw [h3, Nat.mul_mod_left]
theorem mont_row {B n n0 t x b t' : Nat} (hB : 0 < B) (h : (n0 * n) % B = B - 1) (ht : t < 2 * n) (hx : x < B) (hb : b < n) (ht' : t' = (t + x * b + ((t + x * b) % B * n0 % B) * n) / B) :
    t' < 2 * n ∧ t' * B % n = (t + x * b) % n := by
  have e := mont_exact (u := t + x * b) hB h
  generalize hm : ((t + x * b) % B * n0 % B) = m at *
  have hmB : m < B := by rw [← hm]; exact Nat.mod_lt _ hB
  have h1 : t' * B = t + x * b + m * n := by
    rw [ht']
    exact Nat.div_mul_cancel (Nat.dvd_of_mod_eq_zero e)
  refine ⟨?_, ?_⟩
  · have h2 : x * b ≤ (B - 1) * n := Nat.mul_le_mul (by omega) (by omega)
    have h3 : m * n ≤ (B - 1) * n := Nat.mul_le_mul_right _ (by omega)
    have h4 : (B - 1) * n + n = B * n := by
      conv => lhs; rhs; rw [← Nat.one_mul n]
      rw [← Nat.add_mul, show B - 1 + 1 = B by omega]
    have h5 : t' * B < 2 * n * B := by
      have h6 : 2 * n * B = 2 * (B * n) := by rw [Nat.mul_assoc, Nat.mul_comm n B]
      omega
    exact Nat.lt_of_mul_lt_mul_right h5
  · rw [h1, Nat.add_mul_mod_self_right]
theorem mont_rows {B n t t' x b i A : Nat} (h : t * B ^ i % n = A * b % n) (h' : t' * B % n = (t + x * b) % n) : t' * B ^ (i + 1) % n = (A + x * B ^ i) * b % n := by
  have e1 : t' * B ^ (i + 1) = t' * B * B ^ i := by rw [Nat.pow_succ, Nat.mul_comm (B ^ i) B, Nat.mul_assoc]
  rw [e1, Nat.mul_mod, h', ← Nat.mul_mod, Nat.add_mul, Nat.add_mod, h, ← Nat.add_mod, Nat.add_mul A, Nat.mul_right_comm x b]
end Go.Proofs.YtlcoebenkhafcaaGreatDoor
namespace Go.Proofs.YtlcoebenkhafcaaGreatDoor
set_option maxRecDepth 100000
set_option linter.unusedVariables false
theorem row_step {B V a k c o : Nat} {lb O : List Nat} (h : val B O + B ^ k * c = V + a * val B (lb.take k)) (ho : O[k]? = some o) (x : Nat) (hx : x = o + c + a * dig lb k) :
    val B (O.set k (x % B)) + B ^ (k + 1) * (x / B) = V + a * val B (lb.take (k + 1)) := by
  have := mul_step (B := B) (V := V) (a := a) (i := 0) (k := k) (c := c) (o := o) (lb := lb) (O := O) (by simpa using h) (by simpa using ho) x hx
  simpa using this
theorem val_split {B : Nat} {l : List Nat} {j o : Nat} (h : l[j]? = some o) : val B l = val B (l.take j) + B ^ j * (o + B * val B (l.drop (j + 1))) := by
  have e := split_at h
  have hi := (List.getElem?_eq_some_iff.1 h).1
  have hl : (l.take j).length = j := by simp; omega
  conv => lhs; rw [e]
  rw [val_append, val, hl]
theorem drop_cons {l : List Nat} {j o : Nat} (h : l[j]? = some o) : l.drop j = o :: l.drop (j + 1) := by
  have i1 := (List.getElem?_eq_some_iff.1 h).1
  rw [List.drop_eq_getElem_cons i1, (List.getElem?_eq_some_iff.1 h).2]
theorem row_end {B T n c o1 o2 : Nat} {O : List Nat} (hB : 0 < B) (h : val B O + B ^ n * c = T) (hT : T < B ^ (n + 2)) (h1 : O[n]? = some o1) (h2 : O[n + 1]? = some o2) (s : Nat) (hs : s = c + o1) :
    o2 + s / B < B ∧ val B ((O.set n (s % B)).set (n + 1) (o2 + s / B)) = T := by
  have e1 := val_split (B := B) h1
  rw [drop_cons h2, val] at e1
  have hP : 0 < B ^ n := Nat.pow_pos hB
  have hd : s % B + B * (s / B) = s := Nat.mod_add_div s B
  have key : B ^ n * (s % B) + B ^ (n + 1) * (s / B) = B ^ n * s := by
    rw [Nat.pow_succ, Nat.mul_assoc, ← Nat.mul_add, hd]
  constructor
  · refine Nat.lt_of_not_le fun hge => ?_
    have h3 : B ^ (n + 1) * B ≤ B ^ (n + 1) * (o2 + s / B) := Nat.mul_le_mul_left _ hge
    have h4 : B ^ (n + 2) = B ^ (n + 1) * B := Nat.pow_succ _ _
    have h5 : B ^ (n + 1) * (o2 + s / B) = B ^ (n + 1) * o2 + B ^ (n + 1) * (s / B) := Nat.mul_add _ _ _
    have h6 : B ^ n * (o1 + B * (o2 + B * val B (O.drop (n + 1 + 1)))) = B ^ n * o1 + B ^ (n + 1) * o2 + B ^ (n + 1) * (B * val B (O.drop (n + 1 + 1))) := by
      rw [Nat.mul_add, Nat.mul_add, Nat.mul_add, Nat.pow_succ, Nat.mul_assoc (B ^ n) B, Nat.mul_assoc (B ^ n) B]
      omega
    have h7 : B ^ n * s = B ^ n * c + B ^ n * o1 := by rw [hs, Nat.mul_add]
    have h8 : 0 ≤ B ^ (n + 1) * (B * val B (O.drop (n + 1 + 1))) := Nat.zero_le _
    omega
  · have g1 := val_set B h1 (s % B)
    have h2' : (O.set n (s % B))[n + 1]? = some o2 := by rw [List.getElem?_set_ne (by omega)]; exact h2
    have g2 := val_set B h2' (o2 + s / B)
    have h5 : B ^ (n + 1) * (o2 + s / B) = B ^ (n + 1) * o2 + B ^ (n + 1) * (s / B) := Nat.mul_add _ _ _
    have h7 : B ^ n * s = B ^ n * c + B ^ n * o1 := by rw [hs, Nat.mul_add]
    omega
theorem down_val {B : Nat} {O : List Nat} {o : Nat} (hB : 0 < B) (ho : O[0]? = some o) (hf : Fit B O) (h : val B O % B = 0) : val B (O.drop 1 ++ [0]) = val B O / B := by
  have e := drop_cons ho
  rw [List.drop_zero] at e
  rw [val_snoc, Nat.mul_zero, Nat.add_zero]
  rw [e, val] at h ⊢
  have ho1 := hf.get ho
  rw [Nat.add_mul_mod_self_left, Nat.mod_eq_of_lt ho1] at h
  subst h
  rw [Nat.zero_add, Nat.zero_add, Nat.mul_div_cancel_left _ hB]
  rfl
theorem low_val {B : Nat} {O : List Nat} {o : Nat} (ho : O[0]? = some o) (hf : Fit B O) : o = val B O % B := by
  have e := drop_cons ho
  rw [List.drop_zero] at e
  rw [e, val, Nat.add_mul_mod_self_left, Nat.mod_eq_of_lt (hf.get ho)]
theorem top_val {B k V o1 o2 : Nat} {O : List Nat} (hB : 2 ≤ B) (hl : O.length = k + 2) (hf : Fit B O) (hv : val B O = V) (hV : V < 2 * B ^ k) (h1 : O[k]? = some o1) : o1 ≤ 1 ∧ val B (O.take k) + B ^ k * o1 = V := by
  have e1 := val_split (B := B) h1
  have hP : 0 < B ^ k := Nat.pow_pos (by omega)
  have hz : val B (O.drop (k + 1)) = 0 := by
    rcases Nat.eq_zero_or_pos (val B (O.drop (k + 1))) with h0 | h0
    · exact h0
    · have : B ^ k * 2 ≤ B ^ k * (o1 + B * val B (O.drop (k + 1))) := by
        refine Nat.mul_le_mul_left _ ?_
        have : 2 * 1 ≤ B * val B (O.drop (k + 1)) := Nat.mul_le_mul hB h0
        omega
      omega
  rw [hz, Nat.mul_zero, Nat.add_zero] at e1
  refine ⟨?_, by omega⟩
  refine Nat.le_of_not_lt fun h => ?_
  have : B ^ k * 2 ≤ B ^ k * o1 := Nat.mul_le_mul_left _ h
  omega
theorem below_val {N V a z c P o : Nat} (hN : N < P) (hV : a + P * o = V) (hV2 : V < 2 * N) (ho : o ≤ 1) (hz : z < P) (hc : c ≤ 1) (h : z + N = a + P * c) (hge : N ≤ V) : z = V % N := by
  have hm : V % N = V - N := by rw [Nat.mod_eq_sub_mod hge, Nat.mod_eq_of_lt (by omega)]
  rw [hm]
  rcases Nat.le_one_iff_eq_zero_or_eq_one.1 ho with rfl | rfl <;> rcases Nat.le_one_iff_eq_zero_or_eq_one.1 hc with rfl | rfl <;> simp only [Nat.mul_zero, Nat.mul_one] at * <;> omega
theorem odd_back {N z P k : Nat} (hn : N % 2 = 1) (hz : z < N) (h : z * 2 ^ k % N = P * 2 ^ k % N) : z = P % N := by
  refine odd_cancel (k := k) hn ?_ hz (Nat.mod_lt _ (by omega))
  rw [h, Nat.mul_mod (P % N), Nat.mod_mod, ← Nat.mul_mod]
theorem pow32 (k : Nat) : 4294967296 ^ k = 2 ^ (32 * k) := by rw [Nat.pow_mul]
theorem short_long {N z x y k : Nat} (hn : N % 2 = 1) (hz : z < N) (h : z * 4294967296 ^ k % N = (x * 4294967296 ^ k % N) * (y * 4294967296 ^ k % N) % N) : z = x * y * 4294967296 ^ k % N := by
  rw [pow32] at *
  refine odd_back (k := 32 * k) hn hz ?_
  rw [h, ← Nat.mul_mod]
  congr 1
  rw [Nat.mul_assoc, Nat.mul_assoc x y, Nat.mul_assoc, Nat.mul_left_comm (2 ^ (32 * k)) y, Nat.mul_assoc y]
theorem short_plain {N z x b k : Nat} (hn : N % 2 = 1) (hz : z < N) (h : z * 4294967296 ^ k % N = (x * 4294967296 ^ k % N) * b % N) : z = x * b % N := by
  rw [pow32] at *
  refine odd_back (k := 32 * k) hn hz ?_
  rw [h, Nat.mul_mod, Nat.mod_mod, ← Nat.mul_mod, Nat.mul_right_comm]
theorem short_rr {N z a k : Nat} (hn : N % 2 = 1) (hz : z < N) (h : z * 4294967296 ^ k % N = a * (4294967296 ^ (2 * k) % N) % N) : z = a * 4294967296 ^ k % N := by
  have e : 4294967296 ^ (2 * k) = 4294967296 ^ k * 4294967296 ^ k := by rw [← Nat.pow_add]; congr 1; omega
  rw [e] at h
  clear e
  rw [pow32] at *
  refine odd_back (k := 32 * k) hn hz ?_
  rw [h, Nat.mul_mod, Nat.mod_mod, ← Nat.mul_mod, Nat.mul_assoc]
theorem inv_step {x y y' M M' : Int} (h : M ∣ x * y - 1) (hM : M' ∣ M * M) (hB : M' ∣ 4294967296) (hy : y' = (y * ((2 - x * y % 4294967296) % 4294967296)) % 4294967296) : M' ∣ x * y' - 1 := by
  have h1 : (4294967296 : Int) ∣ y' - y * (2 - x * y) := by
    have e1 : y' % 4294967296 = (y * (2 - x * y)) % 4294967296 := by
      rw [hy, Int.emod_emod, Int.mul_emod, Int.emod_emod, ← Int.mul_emod, Int.mul_emod, Int.sub_emod, Int.emod_emod, ← Int.sub_emod, ← Int.mul_emod]
    exact Int.dvd_of_emod_eq_zero (Int.emod_eq_emod_iff_emod_sub_eq_zero.1 e1)
  obtain ⟨t, ht⟩ := h1
  obtain ⟨q, hq⟩ := h
  obtain ⟨u, hu⟩ := hM
  obtain ⟨v, hv⟩ := hB
  refine ⟨x * v * t - u * q * q, ?_⟩
  have e2 : y' = y * (2 - x * y) + M' * v * t := by rw [← hv]; omega
  have e3 : x * y = 1 + M * q := by omega
  have e4 : x * y' - 1 = x * y * (2 - x * y) - 1 + M' * (x * v * t) := by rw [e2]; grind
  rw [e4, e3]
  have e5 : (1 + M * q) * (2 - (1 + M * q)) - 1 = -(M * M * q * q) := by grind
  rw [e5, hu]
  grind
theorem inv_start {x : Int} (h : x % 2 = 1) : (8 : Int) ∣ x * x - 1 := by
  obtain ⟨m, hm⟩ : ∃ m, x = 2 * m + 1 := ⟨x / 2, by omega⟩
  have e : x * x - 1 = 4 * (m * (m + 1)) := by rw [hm]; grind
  rw [e]
  have h2 : m * (m + 1) % 2 = 0 := by
    rcases (by omega : m % 2 = 0 ∨ m % 2 = 1) with h0 | h0
    · rw [Int.mul_emod, h0]; simp
    · rw [Int.mul_emod, show (m + 1) % 2 = 0 by omega]; simp
  obtain ⟨t, ht⟩ := Int.dvd_of_emod_eq_zero h2
  exact ⟨t, by rw [ht]; omega⟩
def rgt : Nat → Int
  | 0 => 8
  | 1 => 64
  | 2 => 4096
  | 3 => 16777216
  | _ => 4294967296
theorem inv_next {x y y' : Int} {j : Nat} (hj : j < 4) (h : rgt j ∣ x * y - 1) (hy : y' = (y * ((2 - x * y % 4294967296) % 4294967296)) % 4294967296) : rgt (j + 1) ∣ x * y' - 1 := by
  match j, hj with
  | 0, _ => exact inv_step h ⟨1, rfl⟩ ⟨67108864, rfl⟩ hy
  | 1, _ => exact inv_step h ⟨1, rfl⟩ ⟨1048576, rfl⟩ hy
  | 2, _ => exact inv_step h ⟨1, rfl⟩ ⟨256, rfl⟩ hy
  | 3, _ => exact inv_step h ⟨65536, rfl⟩ ⟨1, rfl⟩ hy
theorem inv_end {x y n0 : Nat} (h : (4294967296 : Int) ∣ (x : Int) * y - 1) (hn0 : (n0 : Int) = (-(y : Int)) % 4294967296) : n0 * x % 4294967296 = 4294967295 := by
  obtain ⟨q, hq⟩ := h
  have e0 : (n0 : Int) = -(y : Int) - 4294967296 * ((-(y : Int)) / 4294967296) := by have := Int.emod_add_mul_ediv (-(y : Int)) 4294967296; omega
  have e1 : ((n0 * x : Nat) : Int) = 4294967295 + 4294967296 * (-q - 1 - ((-(y : Int)) / 4294967296) * x) := by
    rw [Int.natCast_mul, e0]
    have : (x : Int) * y = 1 + 4294967296 * q := by omega
    generalize (-(y : Int)) / 4294967296 = t
    grind
  omega
theorem low_mul {n0 N d r : Nat} (h : n0 * d % 4294967296 = 4294967295) (hN : N = d + 4294967296 * r) : n0 * N % 4294967296 = 4294967296 - 1 := by
  rw [hN, Nat.mul_add, Nat.mul_left_comm, Nat.add_mul_mod_self_left, h]
theorem bit_at {l : List Nat} {i d : Nat} (hf : Fit 4294967296 l) (h : l[i / 32]? = some d) : d / 2 ^ (i % 32) % 2 = val 4294967296 l / 2 ^ i % 2 := by
  have e := val_split (B := 4294967296) h
  have hlt := val_lt (hf.take (i / 32))
  have hi := (List.getElem?_eq_some_iff.1 h).1
  have hl : (l.take (i / 32)).length = i / 32 := by simp; omega
  rw [hl] at hlt
  have e2 : val 4294967296 l / 4294967296 ^ (i / 32) = d + 4294967296 * val 4294967296 (l.drop (i / 32 + 1)) := by
    rw [e, Nat.add_mul_div_left _ _ (Nat.pow_pos (by omega)), Nat.div_eq_of_lt hlt, Nat.zero_add]
  have e3 : 2 ^ i = 4294967296 ^ (i / 32) * 2 ^ (i % 32) := by
    rw [pow32, ← Nat.pow_add, Nat.div_add_mod]
  rw [e3, ← Nat.div_div_eq_div_mul, e2]
  have hm : i % 32 < 32 := Nat.mod_lt _ (by omega)
  have e4 : (4294967296 : Nat) = 2 ^ (i % 32) * 2 ^ (31 - i % 32) * 2 := by
    rw [← Nat.pow_add, show i % 32 + (31 - i % 32) = 31 by omega]
  rw [e4, Nat.mul_assoc, Nat.mul_assoc, Nat.add_mul_div_left _ _ (Nat.two_pow_pos _), Nat.mul_comm 2, ← Nat.mul_assoc, Nat.add_mul_mod_self_right]
theorem half_bit (e i : Nat) : e / 2 ^ i = 2 * (e / 2 ^ (i + 1)) + e / 2 ^ i % 2 := by
  rw [Nat.pow_succ, ← Nat.div_div_eq_div_mul]; omega
theorem power_one {N z z' a q k b : Nat} (hn : N % 2 = 1) (hz : z < N) (hz' : z' < N) (h : z * 4294967296 ^ k % N = (a ^ q * 4294967296 ^ k % N) * (a ^ q * 4294967296 ^ k % N) % N) (h' : z' * 4294967296 ^ k % N = z * (a * 4294967296 ^ k % N) % N) : z' = a ^ (2 * q + 1) * 4294967296 ^ k % N := by
  have e := short_long hn hz h
  rw [e] at h'
  have e2 := short_long hn hz' h'
  rw [e2, Nat.pow_succ, Nat.two_mul, Nat.pow_add]
theorem power_zero {N z a q k : Nat} (hn : N % 2 = 1) (hz : z < N) (h : z * 4294967296 ^ k % N = (a ^ q * 4294967296 ^ k % N) * (a ^ q * 4294967296 ^ k % N) % N) : z = a ^ (2 * q) * 4294967296 ^ k % N := by
  have e := short_long hn hz h
  rw [e, Nat.two_mul, Nat.pow_add]
end Go.Proofs.YtlcoebenkhafcaaGreatDoor
namespace Go.Proofs.YtlcoebenkhafcaaGreatDoor
set_option maxRecDepth 100000
open Go.RowKit
set_option linter.unusedVariables false
set_option linter.unusedSimpArgs false
def GivesInv (x : Nat) (w : World) (e : Ending) (w' : World) : Prop := ∃ y : Nat, e = .returned (.int .u32 (y : Int)) ∧ y < 4294967296 ∧ (4294967296 : Int) ∣ (x : Int) * y - 1 ∧ w = w'
set_option maxHeartbeats 1000000 in
theorem inverse_any (x : Nat) (hx : x < 4294967296) (ho : x % 2 = 1) (w : World) :
    Calls Tryz.prog 139 #[.int .u32 (x : Int)] w (GivesInv x w) := by
  have hst : (8 : Int) ∣ (x : Int) * x - 1 := inv_start (by omega)
  have HST := Lib.hid hst
  clear hst ho
  go_enter Tryz.func139, Tryz.ntmps139
  go_wp2
  go_loop [3, 4] (fun yy rr => ∃ (j y r : Nat), j ≤ 4 ∧ y < 4294967296 ∧ r ≤ 48 ∧ yy = .int .u32 (y : Int) ∧ rr = .int .i64 (r : Int) ∧ Hid (r = 3 * 2 ^ j) ∧ Hid (rgt j ∣ (x : Int) * y - 1)) (fun _ rr => 48 - (intOf rr).toNat)
  case atStart => exact ⟨0, x, 3, by omega, hx, by omega, rfl, rfl, rfl, HST.out⟩
  case round =>
    obtain ⟨j, y, r, hj, hy, hr, rfl, rfl, HRR, HD⟩ := hrel
    by_cases hlt : r < 32
    · have hj4 : j < 4 := by
        have := HRR.out
        rcases (by omega : j < 4 ∨ j = 4) with h | rfl
        · exact h
        · omega
      have hr1 : 3 ≤ r := by
        have := HRR.out
        have : 1 ≤ 2 ^ j := Nat.two_pow_pos j
        omega
      have hr2 : r ≤ 24 := by
        have := HRR.out
        rcases (by omega : j = 0 ∨ j = 1 ∨ j = 2 ∨ j = 3) with rfl | rfl | rfl | rfl <;> simp at this <;> omega
      go_wp2
      have hnn := Int.emod_nonneg ((y : Int) * ((2 - (x : Int) * y % 4294967296) % 4294967296)) (by omega : (4294967296 : Int) ≠ 0)
      have hlt2 := Int.emod_lt_of_pos ((y : Int) * ((2 - (x : Int) * y % 4294967296) % 4294967296)) (by omega : (0 : Int) < 4294967296)
      obtain ⟨y', hy'⟩ : ∃ y' : Nat, (y' : Int) = ((y : Int) * ((2 - (x : Int) * y % 4294967296) % 4294967296)) % 4294967296 := ⟨_, Int.toNat_of_nonneg hnn⟩
      go_round
      case rel =>
        refine ⟨j + 1, y', r * 2, by omega, by omega, by omega, by rw [hy', show (2 - (x : Int) * y % 4294967296) % 4294967296 = (2 - (x : Int) * y) % 4294967296 by omega], by go_num, ?_, ?_⟩
        · show r * 2 = 3 * 2 ^ (j + 1)
          rw [Nat.pow_succ, HRR.out, Nat.mul_assoc]
        · exact inv_next hj4 HD.out hy'
      case measure => simp [intOf]; omega
    · have hj4 : j = 4 := by
        have := HRR.out
        rcases (by omega : j = 0 ∨ j = 1 ∨ j = 2 ∨ j = 3 ∨ j = 4) with rfl | rfl | rfl | rfl | rfl <;> simp at this <;> omega
      subst hj4
      go_wp2
      go_ret
      exact ⟨y, rfl, hy, HD.out, rfl⟩
def Added (w : World) (g n V : Nat) (e : Ending) (w' : World) : Prop :=
  ∃ O, e = .returned (.tuple #[]) ∧ O.length = n + 2 ∧ Fit 4294967296 O ∧ val 4294967296 O = V ∧ Blk w' g 133 (cn .u32 O) ∧ w.grownBy w' (some g)
set_option maxHeartbeats 4000000 in
theorem addRow_any (g n m cap : Nat) (A' : Option Addr) (cap' : Nat) (O la : List Nat) (x : Nat) (w : World) (hB : Blk w g 133 (cn .u32 O)) (hO : Fit 4294967296 O) (hl : O.length = n + 2) (hm : m = n + 2) (h' : Rd .u32 w A' n la) (hf' : Fit 4294967296 la) (hne : ∀ ad, A' = some ad → ad.block ≠ g) (hx : x < 4294967296) (hn : n ≤ 1000)
    (hT : val 4294967296 O + x * val 4294967296 la < 4294967296 ^ (n + 2)) :
    Calls Tryz.prog 192 #[.slice (some ⟨g, 0, none⟩) m cap, .slice A' n cap', .int .u32 (x : Int)] w (Added w g n (val 4294967296 O + x * val 4294967296 la)) := by
  have HR := Lib.hid h'
  have HB := Lib.hid hB
  have HL := Lib.hid hl
  have HNE := Lib.hid hne
  have HT := Lib.hid hT
  have hm1 : n + 1 < m := by omega
  have HM := Lib.hid hm
  clear h' hB hl hne hT hm
  go_enter Tryz.func192, Tryz.ntmps192
  go_wp2
  go_loopw [6, 11] (fun cc i wr => ∃ (k c : Nat) (O' : List Nat), k ≤ n ∧ c < 4294967296 ∧ i = .int .i64 (k : Int) ∧ cc = .int .u64 (c : Int) ∧ Hid (O'.length = n + 2 ∧ Fit 4294967296 O' ∧ val 4294967296 O' + 4294967296 ^ k * c = val 4294967296 O + x * val 4294967296 (la.take k)) ∧ Hid (Blk wr g 133 (cn .u32 O')) ∧ w.grownBy wr (some g)) (fun _ i _ => n - (intOf i).toNat)
  case atStart => exact ⟨0, 0, O, by omega, by omega, rfl, rfl, ⟨HL.out, hO, by simp [val]⟩, HB, World.grownBy.refl w _⟩
  case round =>
    obtain ⟨k, c, O', hk, hc, rfl, rfl, HI, HB', hgr⟩ := hrel
    by_cases hkn : k < n
    · obtain ⟨ad, y, rfl, hy, hcell⟩ := (HR.out.grown hgr HNE.out).get (j := k) (by omega)
      have hy1 := hf'.get hy
      obtain ⟨o, ho⟩ := get_some (l := O') (i := k) (by rw [HI.out.1]; omega)
      have ho1 := HI.out.2.1.get ho
      have hoc := (HB'.out.cell k).trans (cn_get ho)
      have hof := HB'.out.frozen k
      have hm0 : x * y ≤ 4294967295 * 4294967295 := Nat.mul_le_mul (by omega) (by omega)
      obtain ⟨p, hp⟩ : ∃ p, p = x * y := ⟨_, rfl⟩
      have hp1 : (x : Int) * y = (p : Int) := by rw [hp, Int.natCast_mul]
      have hp2 : (p : Int) ≤ 18446744065119617025 := by omega
      have hst := row_step HI.out.2.2 ho (o + c + p) (by rw [dig_some hy, hp])
      have HST := Lib.hid hst
      have HO := Lib.hid ho
      clear hm0 hp hst ho hy
      go_wp2
      have es : ((c : Int) + ((p : Int) + o)) % 4294967296 = (((o + c + p) % 4294967296 : Nat) : Int) := by omega
      have ec : ((c : Int) + ((p : Int) + o)) / 4294967296 = (((o + c + p) / 4294967296 : Nat) : Int) := by omega
      have ES := Lib.hid es
      have EC := Lib.hid ec
      clear es ec
      go_roundw
      case rel =>
        refine ⟨k + 1, (o + c + p) / 4294967296, O'.set k ((o + c + p) % 4294967296), by omega, by omega, by go_num, by rw [EC.out], ⟨by simp [HI.out.1], HI.out.2.1.set _ _ (Nat.mod_lt _ (by omega)), HST.out⟩, ?_, only_setCell hgr (.inl rfl) _⟩
        have := HB'.out.set_ k (.int .u32 (((o + c + p) % 4294967296 : Nat) : Int))
        rw [cn_set] at this
        rw [ES.out]
        exact this
      case measure => simp [intOf]; omega
    · obtain rfl : k = n := by omega
      obtain ⟨o1, ho1⟩ := get_some (l := O') (i := k) (by rw [HI.out.1]; omega)
      obtain ⟨o2, ho2⟩ := get_some (l := O') (i := k + 1) (by rw [HI.out.1]; omega)
      have hv := HI.out.2.2
      rw [List.take_of_length_le (l := la) (by rw [HR.out.1]; omega)] at hv
      obtain ⟨hlt, hend⟩ := row_end (B := 4294967296) (by omega) hv HT.out ho1 ho2 (c + o1) rfl
      have b1 := HI.out.2.1.get ho1
      have b2 := HI.out.2.1.get ho2
      have hoc1 := (HB'.out.cell k).trans (cn_get ho1)
      have hof1 := HB'.out.frozen k
      have hoc2 := (HB'.out.cell (k + 1)).trans (cn_get ho2)
      have hof2 := HB'.out.frozen (k + 1)
      have HE := Lib.hid hend
      have HLT := Lib.hid hlt
      clear hend hv ho1 ho2 hlt
      go_wp2
      go_end0
      have es : ((c : Int) + o1) % 4294967296 = (((c + o1) % 4294967296 : Nat) : Int) := by omega
      have ec : ((o2 : Int) + ((c : Int) + o1) / 4294967296) % 4294967296 = ((o2 + (c + o1) / 4294967296 : Nat) : Int) := by have := HLT.out; omega
      have hb3 := (HB'.out.set_ k (.int .u32 (((c + o1) % 4294967296 : Nat) : Int))).set_ (k + 1) (.int .u32 ((o2 + (c + o1) / 4294967296 : Nat) : Int))
      rw [cn_set, cn_set] at hb3
      refine ⟨_, rfl, ?_, ?_, HE.out, ?_, only_setCell (only_setCell hgr (.inl rfl) _) (.inl rfl) _⟩
      · simp [HI.out.1]
      · exact (HI.out.2.1.set _ _ (Nat.mod_lt _ (by omega))).set _ _ HLT.out
      · first
        | (rw [es, ec]; exact hb3)
        | (rw [es]; exact hb3)
def Elem (w : World) (k x : Nat) (e : Ending) (w' : World) : Prop :=
  ∃ A c l, e = .returned (.slice A k c) ∧ Rd .u32 w' A k l ∧ Fit 4294967296 l ∧ val 4294967296 l = x ∧ Below w.heap.size w w'
theorem own_empty (w : World) (e : TypeId) : Row (w.alloc (.cells #[] e)) w.heap.size e (some ⟨w.heap.size, 0, none⟩) 0 0 [] :=
  World.ownsRow_made w #[] 0 (Nat.le_refl _) (Nat.zero_le _) (by simp)
set_option maxRecDepth 100000 in
set_option maxHeartbeats 1000000 in
theorem Clone_any (A : Option Addr) (n cap : Nat) (l : List Nat) (w : World) (h : Rd .u32 w A n l) (hf : Fit 4294967296 l) (hn1 : 1 ≤ n) (hn : n ≤ 1000) :
    Calls Tryz.prog 138 #[.slice A n cap] w (Elem w n (val 4294967296 l)) := by
  obtain ⟨ad, rfl, hlt, hcs⟩ := h.2 (by omega)
  obtain ⟨i0, hi, hz0, hz1, hz2⟩ := info_parts wordInfo
  have HR := Lib.hid h
  have HC := Lib.hid hcs
  have HI := Lib.hid (And.intro hi (And.intro hz0 (And.intro hz1 hz2)))
  have hsrc : (some ad = none ∧ cap = 0) ∨ ∃ ad', some ad = some ad' ∧ ∀ j u, (cn .u32 l)[j]? = some u → (w.alloc (.cells #[] 133)).cell? (ad'.add j) = some u := by
    refine .inr ⟨ad, rfl, fun j u hu => ?_⟩
    simp only [cn, List.getElem?_map] at hu
    cases hj : l[j]? with
    | none => rw [hj] at hu; cases hu
    | some x =>
      rw [hj] at hu
      injection hu with hu
      rw [← hu]
      exact Lib.cell?_alloc_some _ (hcs j x hj)
  have HS := Lib.hid hsrc
  clear h hcs hi hz0 hz1 hz2 hsrc
  have q23 : (binOp .eql 116 (.slice (some ad) n cap) (.slice none 0 0)).run Tryz.prog w = .ok (.bool false) w := Lib.run_eql_slice_nil w _ _ _ _ _ _ _ Tryz.underlying116
  go_enter Tryz.func138, Tryz.ntmps138
  go_wp2_with (first
    | ((with_reducible refine at_dst (some 7) ?_); refine wpList_app (o := ⟨some 7, _, _, _, _, _⟩) rfl (.tmp 5) (.tmp 6) 116 133 rfl Tryz.underlying116 HI.out.1 HI.out.2.1 HI.out.2.2.1 HI.out.2.2.2 rfl (by omega) ((Below.refl w.heap.size w).alloc (Nat.le_refl _) _) (by simp) rfl (own_empty w 133) rfl (by rw [cn_length, HR.out.1]) HS.out (cn_one _ _) (fun e => by cases e) (by omega) n (by omega) ?_; intro A2 c2 w2 HRow hbe hB))
  go_ret
  have hr := HRow.out.rd (l := l)
  exact ⟨A2, c2, l, rfl, hr, hf, rfl, hbe⟩
end Go.Proofs.YtlcoebenkhafcaaGreatDoor
namespace Go.Proofs.YtlcoebenkhafcaaGreatDoor
set_option maxRecDepth 100000
open Go.RowKit
set_option linter.unusedVariables false
set_option linter.unusedSimpArgs false
structure Ringed (w : World) (g k N n0 : Nat) (A : Option Addr) (c : Nat) (R : Value) (ln : List Nat) : Prop where
  blk : Blk w g 164 [.slice A k c, .int .u32 (n0 : Int), R]
  rd : Rd .u32 w A k ln
  fit : Fit 4294967296 ln
  num : val 4294967296 ln = N
  k1 : 1 ≤ k
  k2 : k ≤ 128
  odd : N % 2 = 1
  gt : 1 < N
  n1 : n0 < 4294967296
  inv : n0 * N % 4294967296 = 4294967296 - 1
section
variable {w w' : World} {g k N n0 : Nat} {A : Option Addr} {c : Nat} {R : Value} {ln : List Nat}
theorem Ringed.below (h : Ringed w g k N n0 A c R ln) (hb : Below w.heap.size w w') : Ringed w' g k N n0 A c R ln :=
  ⟨h.blk.below hb h.blk.lt, h.rd.below hb, h.fit, h.num, h.k1, h.k2, h.odd, h.gt, h.n1, h.inv⟩
theorem Ringed.c0 (h : Ringed w g k N n0 A c R ln) : w.cell? ⟨g, 0, none⟩ = some (.slice A k c) := h.blk.cell 0
theorem Ringed.c1 (h : Ringed w g k N n0 A c R ln) : w.cell? ⟨g, 1, none⟩ = some (.int .u32 (n0 : Int)) := h.blk.cell 1
theorem Ringed.c2 (h : Ringed w g k N n0 A c R ln) : w.cell? ⟨g, 2, none⟩ = some R := h.blk.cell 2
theorem Ringed.lt (h : Ringed w g k N n0 A c R ln) : N < 4294967296 ^ k := by
  have := val_lt h.fit
  rw [h.rd.1, h.num] at this
  exact this
end
set_option maxHeartbeats 1000000 in
theorem has_yes (g k N n0 : Nat) (A : Option Addr) (c : Nat) (R : Value) (ln : List Nat) (Aa : Option Addr) (ca : Nat) (la : List Nat) (w : World) (hr : Ringed w g k N n0 A c R ln) (h : Rd .u32 w Aa k la) (hf : Fit 4294967296 la) (hlt : val 4294967296 la < N) :
    Calls Tryz.prog 194 #[.pointer (some ⟨g, 0, none⟩), .slice Aa k ca] w fun e w' => e = .returned (.bool true) ∧ Below w.heap.size w w' := by
  have hc0 := hr.c0
  have k1 := hr.k1
  have k2 := hr.k2
  have HR := Lib.hid h
  have HRR := Lib.hid hr
  have HLT := Lib.hid hlt
  clear h hr hlt
  go_enter Tryz.func194, Tryz.ntmps194
  go_wp2_with fail
  refine (Compare_ok Aa A k ca k c la ln w HR.out HRR.out.rd hf HRR.out.fit k1 (by omega) k1 (by omega)).mono ?_
  rintro e w1 ⟨rfl, hb1⟩
  have ho : ord (val 4294967296 la) (val 4294967296 ln) < 0 := (ord_lt _ _).2 (by rw [HRR.out.num]; exact HLT.out)
  generalize ord (val 4294967296 la) (val 4294967296 ln) = z at *
  have hd : decide (z < 0) = true := decide_eq_true ho
  go_wp2
  go_ret
  exact ⟨rfl, hb1⟩
set_option maxHeartbeats 1000000 in
theorem has_no (g k N n0 : Nat) (A : Option Addr) (c : Nat) (R : Value) (ln : List Nat) (Aa : Option Addr) (n ca : Nat) (la : List Nat) (w : World) (hr : Ringed w g k N n0 A c R ln) (h : Rd .u32 w Aa n la) (hf : Fit 4294967296 la) (hno : ¬ (n = k ∧ val 4294967296 la < N)) :
    Calls Tryz.prog 194 #[.pointer (some ⟨g, 0, none⟩), .slice Aa n ca] w fun e w' => e = .returned (.bool false) ∧ Below w.heap.size w w' := by
  have hc0 := hr.c0
  have k1 := hr.k1
  have k2 := hr.k2
  have HR := Lib.hid h
  have HRR := Lib.hid hr
  clear h hr
  by_cases hnk : n = k
  · subst hnk
    have HGE : Hid (N ≤ val 4294967296 la) := Nat.not_lt.1 fun h => hno ⟨rfl, h⟩
    clear hno
    go_enter Tryz.func194, Tryz.ntmps194
    go_wp2_with fail
    refine (Compare_ok Aa A n ca n c la ln w HR.out HRR.out.rd hf HRR.out.fit k1 (by omega) k1 (by omega)).mono ?_
    rintro e w1 ⟨rfl, hb1⟩
    have ho : 0 ≤ ord (val 4294967296 la) (val 4294967296 ln) := (ord_ge _ _).2 (by rw [HRR.out.num]; exact HGE.out)
    generalize ord (val 4294967296 la) (val 4294967296 ln) = z at *
    have hd : decide (z < 0) = false := decide_eq_false (by omega)
    go_wp2
    go_ret
    exact ⟨rfl, hb1⟩
  · have h1 : ((n : Int) == (k : Int)) = false := by simp; omega
    have h2 : (n == k) = false := by simp [hnk]
    clear hno
    go_enter Tryz.func194, Tryz.ntmps194
    go_wp2
    go_ret
    exact ⟨rfl, below_self⟩
theorem val_one (k : Nat) (hk : 1 ≤ k) : val 4294967296 ((List.replicate k 0).set 0 1) = 1 := by
  obtain ⟨p, rfl⟩ : ∃ p, k = p + 1 := ⟨k - 1, by omega⟩
  rw [List.replicate_succ, List.set_cons_zero, val, val_replicate]
theorem first_zero {w : World} {g k : Nat} (h : Blk w g 133 (cn .u32 (List.replicate k 0))) (hk : 1 ≤ k) : w.cell? ⟨g, 0, none⟩ = some (.int .u32 0) :=
  (h.cell 0).trans (cn_get (x := 0) (by rw [List.getElem?_replicate, if_pos (by omega)]))
set_option maxHeartbeats 1000000 in
theorem one_any (g k N n0 : Nat) (A : Option Addr) (c : Nat) (R : Value) (ln : List Nat) (w : World) (hr : Ringed w g k N n0 A c R ln) :
    Calls Tryz.prog 196 #[.pointer (some ⟨g, 0, none⟩)] w (Elem w k 1) := by
  have hc0 := hr.c0
  have k1 := hr.k1
  have k2 := hr.k2
  have k0 : 0 < k := by omega
  have HRR := Lib.hid hr
  clear hr
  go_enter Tryz.func196, Tryz.ntmps196
  go_wp2_with (first
    | ((with_reducible refine at_dst (some 9) ?_); refine wpList_makeNums (o := ⟨some 9, _, _, _, _, _⟩) rfl (.tmp 8) (.tmp 8) 116 133 rfl .u32 4 Tryz.underlying116 wordInfo (by omega) _ _ rfl rfl k rfl (by omega) ?_; intro w1 hb1 hbel1 hs1; have hoc := first_zero hb1.out k1; have hof := hb1.out.frozen 0))
  go_ret
  have hb2 := hb1.out.set_ 0 (.int .u32 ((1 : Nat) : Int))
  rw [cn_set] at hb2
  exact ⟨_, k, (List.replicate k 0).set 0 1, rfl, hb2.rd k (by simp), (Fit.replicate _ _ _ (by omega)).set _ _ (by omega), val_one k k1, hbel1.setCell (Nat.le_refl _) _⟩
set_option maxHeartbeats 1000000 in
theorem below_any (g k N n0 : Nat) (A : Option Addr) (c : Nat) (R : Value) (ln : List Nat) (Aa : Option Addr) (ca : Nat) (la : List Nat) (b : Bool) (o V : Nat) (w : World) (hr : Ringed w g k N n0 A c R ln) (h : Rd .u32 w Aa k la) (hf : Fit 4294967296 la) (hbo : b = false ∧ o = 0 ∨ b = true ∧ o = 1) (hV : val 4294967296 la + 4294967296 ^ k * o = V) (hV2 : V < 2 * N) :
    Calls Tryz.prog 169 #[.pointer (some ⟨g, 0, none⟩), .slice Aa k ca, .bool b] w (Elem w k (V % N)) := by
  have hc0 := hr.c0
  have k1 := hr.k1
  have k2 := hr.k2
  have HR := Lib.hid h
  have HRR := Lib.hid hr
  have HV := Lib.hid hV
  have HV2 := Lib.hid hV2
  clear h hr hV hV2
  have fin : ∀ (zs : List Nat) (cc : Nat), cc ≤ 1 → zs.length = k → Fit 4294967296 zs → val 4294967296 zs + val 4294967296 ln = val 4294967296 la + 4294967296 ^ k * cc → N ≤ V → val 4294967296 zs = V % N := by
    intro zs cc hcc hl hfz he hge
    have hz := val_lt hfz
    rw [hl] at hz
    rw [HRR.out.num] at he
    exact below_val HRR.out.lt HV.out HV2.out (by omega) hz hcc he hge
  have FIN := Lib.hid fin
  clear fin
  rcases hbo with ⟨rfl, rfl⟩ | ⟨rfl, rfl⟩
  · by_cases hlt : val 4294967296 la < N
    · have HLT := Lib.hid hlt
      clear hlt
      go_enter Tryz.func169, Tryz.ntmps169
      go_wp2_with fail
      refine (Compare_ok Aa A k ca k c la ln w HR.out HRR.out.rd hf HRR.out.fit k1 (by omega) k1 (by omega)).mono ?_
      rintro e w1 ⟨rfl, hb1⟩
      have ho : ord (val 4294967296 la) (val 4294967296 ln) < 0 := (ord_lt _ _).2 (by rw [HRR.out.num]; exact HLT.out)
      generalize ord (val 4294967296 la) (val 4294967296 ln) = z at *
      have hd : decide (z < 0) = true := decide_eq_true ho
      go_wp2
      go_ret
      have hv := HV.out
      rw [Nat.mul_zero, Nat.add_zero] at hv
      exact ⟨Aa, ca, la, rfl, HR.out.below hb1, hf, by rw [← hv, Nat.mod_eq_of_lt HLT.out], hb1⟩
    · have HGE : Hid (N ≤ val 4294967296 la) := Nat.not_lt.1 hlt
      clear hlt
      go_enter Tryz.func169, Tryz.ntmps169
      go_wp2_with fail
      refine (Compare_ok Aa A k ca k c la ln w HR.out HRR.out.rd hf HRR.out.fit k1 (by omega) k1 (by omega)).mono ?_
      rintro e w1 ⟨rfl, hb1⟩
      have ho : 0 ≤ ord (val 4294967296 la) (val 4294967296 ln) := (ord_ge _ _).2 (by rw [HRR.out.num]; exact HGE.out)
      generalize ord (val 4294967296 la) (val 4294967296 ln) = z at *
      have hd : decide (z < 0) = false := decide_eq_false (by omega)
      have hc1 := (HRR.out.below hb1).c0
      go_wp2_with fail
      refine (Sub_ok Aa A k ca c la ln w1 (HR.out.below hb1) (HRR.out.rd.below hb1) hf HRR.out.fit k1 (by omega)).mono ?_
      rintro e w2 ⟨A2, cc, zs, rfl, hcc, ⟨hr2, hf2, _, _, hb2⟩, he⟩
      have HE := Lib.hid he
      have HR2 := Lib.hid hr2
      clear he hr2
      go_wp2
      go_ret
      have hv := HV.out
      rw [Nat.mul_zero, Nat.add_zero] at hv
      exact ⟨A2, k, zs, rfl, HR2.out, hf2, FIN.out zs cc hcc HR2.out.1 hf2 HE.out (by rw [← hv]; exact HGE.out), below_then hb1 hb2⟩
  · go_enter Tryz.func169, Tryz.ntmps169
    go_wp2_with fail
    refine (Sub_ok Aa A k ca c la ln w HR.out HRR.out.rd hf HRR.out.fit k1 (by omega)).mono ?_
    rintro e w2 ⟨A2, cc, zs, rfl, hcc, ⟨hr2, hf2, _, _, hb2⟩, he⟩
    have HE := Lib.hid he
    have HR2 := Lib.hid hr2
    clear he hr2
    go_wp2
    go_ret
    have hge : N ≤ V := by
      have := HV.out
      have := HRR.out.lt
      omega
    exact ⟨A2, k, zs, rfl, HR2.out, hf2, FIN.out zs cc hcc HR2.out.1 hf2 HE.out hge, hb2⟩
end Go.Proofs.YtlcoebenkhafcaaGreatDoor
namespace Go.Proofs.YtlcoebenkhafcaaGreatDoor
set_option maxRecDepth 100000
open Go.RowKit
set_option linter.unusedVariables false
set_option linter.unusedSimpArgs false
theorem row_bound {B N t x a k m : Nat} (hB : 2 ≤ B) (hN : N < B ^ k) (ht : t < 2 * N) (hx : x < B) (ha : a < N) (hm : m < B) : t + x * a + m * N < B ^ (k + 2) := by
  have h1 : x * a ≤ (B - 1) * N := Nat.mul_le_mul (by omega) (by omega)
  have h2 : m * N ≤ (B - 1) * N := Nat.mul_le_mul_right _ (by omega)
  have h3 : (B - 1) * N + N = B * N := by
    conv => lhs; rhs; rw [← Nat.one_mul N]
    rw [← Nat.add_mul, show B - 1 + 1 = B by omega]
  have h4 : B * N < B * B ^ k := Nat.mul_lt_mul_of_pos_left hN (by omega)
  have h5 : 2 * (B * N) ≤ B * (B * N) := Nat.mul_le_mul_right _ hB
  have h6 : B * (B * N) < B * (B * B ^ k) := Nat.mul_lt_mul_of_pos_left h4 (by omega)
  have h7 : B ^ (k + 2) = B * (B * B ^ k) := by rw [Nat.pow_succ, Nat.pow_succ, Nat.mul_comm, Nat.mul_comm (B ^ k)]
  omega
theorem wordSize : (Tryz.prog.info? 133).map (·.size) = some 1 := by kernel_rfl
theorem wpList_down {w : World} {ops : Array Oper} {rest : List Oper} {o : Oper} {a : Act} {Q : Exit → Act → World → Prop} (hgd : o.guard = none) (d x : Operand)
    (ho : o.op = .call { callee := .builtin .copy, args := #[d, x], argTypes := #[116, 116] }) (s T T1 c c' : Nat) (hd : a.eval d = .slice (some ⟨s, 0, none⟩) T c) (hx : a.eval x = .slice (some ⟨s, 1, none⟩) T1 c')
    (O : List Nat) (hO : O.length = T) (hT : T = T1 + 1) (hg : Blk w s 133 (cn .u32 O))
    (h : ∀ w', Hid (Blk w' s 133 (cn .u32 (O.drop 1 ++ O.drop T1))) → w.grownBy w' (some s) → wpList Tryz.prog ops Q rest (a.put o.dst (goInt T1)) w') :
    wpList Tryz.prog ops Q (o :: rest) a w := by
  have hlen : (cn .u32 (O.drop 1)).length = T1 := by rw [cn_length, List.length_drop]; omega
  by_cases h0 : T1 = 0
  · subst h0
    have hnil : cn .u32 (O.drop 1) = [] := List.eq_nil_of_length_eq_zero hlen
    refine wpList_copy_nothing hgd d x 116 116 ho 133 Tryz.underlying116 wordSize _ _ _ _ _ _ hd hx (by simp) ?_
    have h1 : O.drop 1 = [] := List.eq_nil_of_length_eq_zero (by rw [List.length_drop]; omega)
    refine h w ?_ (World.grownBy.refl w _)
    show Blk _ _ _ _
    rw [h1, List.nil_append, List.drop_zero]
    exact hg
  · have hsrc : ∀ j v, (cn .u32 (O.drop 1))[j]? = some v → w.cell? ((⟨s, 1, none⟩ : Addr).add j) = some v := by
      intro j v hv
      rw [addr_add, hg.cell, ← hv]
      simp only [cn, List.getElem?_map, List.getElem?_drop]
    have hmin : (cn .u32 (O.drop 1)).length = Nat.min T1 T := by rw [hlen]; show _ = min T1 T; omega
    refine wpList_copy_own hgd d x 116 116 ho 133 Tryz.underlying116 wordSize s 0 T c _ T1 c' hd hx (cn .u32 O).toArray 133 hg (cn .u32 (O.drop 1)) hmin hsrc (by simp [cn_length]) (cn_one _ _) ?_
    rw [hlen]
    refine h _ ?_ ⟨rfl, rfl, rfl, by simp [World.setRow], fun i hi hne => setRow_other w s i _ (fun e => hne (by rw [e]))⟩
    show Blk _ _ _ _
    have := setRow_heap w s _ ((cn .u32 O).toArray.toList.take 0 ++ (cn .u32 (O.drop 1) ++ (cn .u32 O).toArray.toList.drop (0 + T1))).toArray 133 _ hg
    unfold Blk
    rw [cn_append]
    simpa [cn, List.map_drop] using this
theorem run_from1 (s T T1 : Nat) (hT : T = T1 + 1) (h1 : 1 ≤ T1) (w : World) :
    (Instr.slice 116 (.slice (some ⟨s, 0, none⟩) T T) (some (.int .i64 1)) none none).run Tryz.prog w = .ok (.slice (some ⟨s, 1, none⟩) T1 T1) w := by
  subst hT
  obtain ⟨i0, hi0, hz0, hz1, hz2⟩ := info_parts wordInfo
  have h2 : ¬ T1 = 0 := by omega
  have hb : ∀ (w : World), (Instr.sliceBound (.int .i64 1) (T1 + 1) BoundsCode.sliceB).run Tryz.prog w = .ok 1 w := fun w => run_sliceBound w .i64 1 (T1 + 1) BoundsCode.sliceB (by omega) (by omega)
  simp [Instr.slice, run_underlying Tryz.underlying116, Instr.sliceBounds, hb, sizeOf, typeInfo, hi0, hz1, h2, addr_add]
theorem run_upto23 (A : Option Addr) (k cap : Nat) (hi : Nat) (h2 : hi ≤ cap) (w : World) :
    (Instr.slice 116 (.slice A k cap) none (some (.int .i64 (hi : Int))) none).run Tryz.prog w = .ok (.slice A hi cap) w := by
  obtain ⟨i0, hi0, hz0, hz1, hz2⟩ := info_parts wordInfo
  simp [Instr.slice, run_underlying Tryz.underlying116, Instr.sliceBounds, run_sliceBound, sizeOf, typeInfo, hi0, hz1, h2, add_zero_]
def Shorted (w : World) (k N a b : Nat) (e : Ending) (w' : World) : Prop :=
  ∃ A c l, e = .returned (.slice A k c) ∧ Rd .u32 w' A k l ∧ Fit 4294967296 l ∧ val 4294967296 l < N ∧ val 4294967296 l * 4294967296 ^ k % N = a * b % N ∧ Below w.heap.size w w'
structure Rows_ (N a : Nat) (lb : List Nat) (k i : Nat) (O : List Nat) : Prop where
  len : O.length = k + 2
  fit : Fit 4294967296 O
  lt : val 4294967296 O < 2 * N
  eq : val 4294967296 O * 4294967296 ^ i % N = val 4294967296 (lb.take i) * a % N
theorem Rows_.next {N n0 a k i x m : Nat} {lb O O1 O2 : List Nat} (h : Rows_ N a lb k i O) (hinv : n0 * N % 4294967296 = 4294967296 - 1) (ha : a < N) (hx : lb[i]? = some x) (hxb : x < 4294967296) (hv1 : val 4294967296 O1 = val 4294967296 O + x * a)
    (hm : m = val 4294967296 O1 % 4294967296 * n0 % 4294967296) (hl2 : O2.length = k + 2) (hf2 : Fit 4294967296 O2) (hv2 : val 4294967296 O2 = val 4294967296 O1 + m * N) : Rows_ N a lb k (i + 1) (O2.drop 1 ++ [0]) := by
  have hz := mont_exact (B := 4294967296) (n := N) (n0 := n0) (u := val 4294967296 O1) (by omega) hinv
  rw [← hm, ← hv2] at hz
  obtain ⟨o, ho⟩ := get_some (l := O2) (i := 0) (by omega)
  have hd := down_val (by omega) ho hf2 hz
  have hr := mont_row (B := 4294967296) (n := N) (n0 := n0) (t := val 4294967296 O) (x := x) (b := a) (t' := val 4294967296 (O2.drop 1 ++ [0])) (by omega) hinv h.lt hxb ha (by rw [hd, hv2, hm, hv1])
  refine ⟨by simp; omega, ?_, hr.1, ?_⟩
  · refine Fit.append (fun d hd => hf2 d (List.mem_of_mem_drop hd)) (Fit.one (by omega))
  · have := mont_rows h.eq hr.2
    rw [this, val_take_succ, dig_some hx, Nat.mul_comm x]
theorem set_last {O : List Nat} {T T1 : Nat} (hO : O.length = T) (hT : T = T1 + 1) : (O.drop 1 ++ O.drop T1).set T1 0 = O.drop 1 ++ [0] := by
  have hl : (O.drop 1).length = T1 := by rw [List.length_drop]; omega
  rw [List.set_append, if_neg (by omega), hl, Nat.sub_self]
  congr 1
  have h1 : (O.drop T1).length = 1 := by rw [List.length_drop]; omega
  match hq : O.drop T1, h1 with
  | [z], _ => rfl
theorem get_last {O : List Nat} {T T1 : Nat} (hO : O.length = T) (hT : T = T1 + 1) : ∃ z, (O.drop 1 ++ O.drop T1)[T1]? = some z := get_some (by simp; omega)
end Go.Proofs.YtlcoebenkhafcaaGreatDoor
namespace Go.Proofs.YtlcoebenkhafcaaGreatDoor
set_option maxRecDepth 100000
open Go.RowKit
set_option linter.unusedVariables false
set_option linter.unusedSimpArgs false
set_option maxRecDepth 100000 in
set_option maxHeartbeats 4000000 in
theorem short_any (g k N n0 : Nat) (A : Option Addr) (c : Nat) (R : Value) (ln : List Nat) (Aa : Option Addr) (ca : Nat) (la : List Nat) (Ab : Option Addr) (cb : Nat) (lb : List Nat) (w : World) (hr : Ringed w g k N n0 A c R ln) (ha : Rd .u32 w Aa k la) (hfa : Fit 4294967296 la) (hb : Rd .u32 w Ab k lb) (hfb : Fit 4294967296 lb) (hlt : val 4294967296 la < N) :
    Calls Tryz.prog 170 #[.pointer (some ⟨g, 0, none⟩), .slice Aa k ca, .slice Ab k cb] w (Shorted w k N (val 4294967296 la) (val 4294967296 lb)) := by
  have hc0 := hr.c0
  have k1 := hr.k1
  have k2 := hr.k2
  have HRR := Lib.hid hr
  have HA := Lib.hid ha
  have HB := Lib.hid hb
  have HLT := Lib.hid hlt
  obtain ⟨T1, hT1⟩ : ∃ T1, T1 = k + 1 := ⟨_, rfl⟩
  obtain ⟨T, hT⟩ : ∃ T, T = T1 + 1 := ⟨_, rfl⟩
  have hk1T : k + 1 < T := by omega
  have hT3 : (k : Int) + 2 = T := by omega
  have HT3 := Lib.hid hT3
  have HT := Lib.hid hT
  have HT1 := Lib.hid hT1
  clear hr ha hb hlt hT hT1 hT3
  go_enter Tryz.func170, Tryz.ntmps170
  go_wp2_with (first
    | ((with_reducible refine at_dst (some 18) ?_); refine wpList_makeNums (o := ⟨some 18, _, _, _, _, _⟩) rfl (.tmp 17) (.tmp 17) 116 133 rfl .u32 4 Tryz.underlying116 wordInfo (by omega) _ _ rfl rfl T HT3.out (by have := HT.out; have := HT1.out; omega) ?_; intro w1 hb1 hbel1 hs1))
  clear hc0
  have hgr : g < w.heap.size := HRR.out.blk.lt
  have haN : ∀ ad, Aa = some ad → ad.block ≠ w.heap.size := fun ad e => by have := HA.out.lt (by omega) ad e; omega
  have hnN : ∀ ad, A = some ad → ad.block ≠ w.heap.size := fun ad e => by have := HRR.out.rd.lt (by omega) ad e; omega
  have HAN := Lib.hid haN
  have HNN := Lib.hid hnN
  clear haN hnN
  go_loopw [21] (fun ii wr => ∃ (i : Nat) (O : List Nat), i ≤ k ∧ ii = .int .i64 (i : Int) ∧ Hid (Rows_ N (val 4294967296 la) lb k i O) ∧ Hid (Blk wr w.heap.size 133 (cn .u32 O)) ∧ Below w.heap.size w wr) (fun i _ => k - (intOf i).toNat)
  case atStart =>
    refine ⟨0, _, by omega, rfl, ⟨by rw [List.length_replicate]; have := HT.out; have := HT1.out; omega, Fit.replicate _ _ _ (by omega), by rw [val_replicate]; have := HRR.out.gt; omega, ?_⟩, hb1, hbel1⟩
    rw [val_replicate, List.take_zero, val, Nat.zero_mul, Nat.zero_mul]
  case round =>
    obtain ⟨i, O, hi, rfl, HI, HBO, hbe⟩ := hrel
    by_cases hik : i < k
    · obtain ⟨ad, x, rfl, hx, hcell⟩ := (HB.out.below hbe).get (j := i) (by omega)
      have hx1 := hfb.get hx
      have HX := Lib.hid hx
      clear hx
      go_wp2_with fail
      have hbd : val 4294967296 O + x * val 4294967296 la < 4294967296 ^ (k + 2) := by
        have := row_bound (B := 4294967296) (m := 0) (by omega) HRR.out.lt HI.out.lt hx1 HLT.out (by omega)
        omega
      refine (addRow_any w.heap.size k T T Aa ca O la x wr HBO.out HI.out.fit HI.out.len (by have := HT.out; have := HT1.out; omega) (HA.out.below hbe) hfa HAN.out hx1 (by omega) hbd).mono ?_
      rintro e w2 ⟨O1, rfl, hl1, hf1, hv1, hb2, hg2⟩
      have bel2 : Below w.heap.size w w2 := below_only hbe hg2 hbe.size (fun j hj => by injection hj with hj; omega)
      have q0 := (HRR.out.below bel2).c0
      have q1 := (HRR.out.below bel2).c1
      obtain ⟨o0, ho0⟩ := get_some (l := O1) (i := 0) (by omega)
      have hoc := (hb2.cell 0).trans (cn_get ho0)
      have hlow := low_val ho0 hf1
      have ho1 := hf1.get ho0
      have hn1 := HRR.out.n1
      obtain ⟨m, hm⟩ : ∃ m, m = o0 * n0 % 4294967296 := ⟨_, rfl⟩
      have hm1 : m < 4294967296 := by rw [hm]; exact Nat.mod_lt _ (by omega)
      have hmw : IntKind.u32.wrap ((o0 : Int) * n0) = (m : Int) := by rw [IntKind.wrap_u32', hm]; simp
      have hmw2 : (o0 : Int) * n0 % 4294967296 = (m : Int) := by rw [hm]; simp
      have hbd2 : val 4294967296 O1 + m * val 4294967296 ln < 4294967296 ^ (k + 2) := by
        rw [HRR.out.num, hv1]
        exact row_bound (B := 4294967296) (by omega) HRR.out.lt HI.out.lt hx1 HLT.out hm1
      have HM : Hid (m = val 4294967296 O1 % 4294967296 * n0 % 4294967296) := by show m = _; rw [← hlow]; exact hm
      have HD : Hid (val 4294967296 O1 + m * val 4294967296 ln < 4294967296 ^ (k + 2)) := hbd2
      have HV1 := Lib.hid hv1
      have HB2 := Lib.hid hb2
      have HL1 := Lib.hid hl1
      have hT0 : 0 < T := by omega
      clear hm hbd hbd2 hv1 hb2 hl1 ho0 hlow hg2
      have bel2' : Below w.heap.size w w2.drew := below_drew1 bel2
      go_wp2
      go_still_tail 13, (by kernel_rfl)
      change wpList _ _ _ _ _ w2.drew
      have HB2' : Hid (Blk w2.drew w.heap.size 133 (cn .u32 O1)) := HB2.out
      have HRR2 : Hid (Ringed w2.drew g k N n0 A c R ln) := HRR.out.below bel2'
      clear hmw hmw2 q0 q1 hoc HB2 bel2
      generalize w2.drew = w3 at *
      go_wp2_with fail
      refine (addRow_any w.heap.size k T T A c O1 ln m w3 HB2'.out hf1 HL1.out (by have := HT.out; have := HT1.out; omega) HRR2.out.rd HRR.out.fit HNN.out hm1 (by omega) HD.out).mono ?_
      rintro e w4 ⟨O2, rfl, hl2, hf2, hv2, hb4, hg4⟩
      have bel4 : Below w.heap.size w w4 := below_only bel2' hg4 bel2'.size (fun j hj => by injection hj with hj; omega)
      have hnx := HI.out.next HRR.out.inv HLT.out HX.out hx1 HV1.out HM.out hl2 hf2 (by rw [hv2, HRR.out.num])
      have HNX := Lib.hid hnx
      have HB4 := Lib.hid hb4
      have hlT : O2.length = T := by have := HT.out; have := HT1.out; omega
      have HLT2 := Lib.hid hlT
      obtain ⟨z, hz⟩ := get_last hlT HT.out
      have HZ := Lib.hid hz
      have hsl := run_from1 w.heap.size T T1 HT.out (by have := HT1.out; omega)
      have hk1 : (k : Int) + 1 = T1 := by have := HT1.out; omega
      have hT1T : T1 < T := by have := HT.out; omega
      clear hl2 hf2 hv2 hb4 hg4 hnx hlT hz hbe HBO hcell HB2' HRR2 bel2' HV1 HM HD HL1
      go_wp2_with (first
        | ((with_reducible refine at_dst (some 46) ?_); refine wpList_down (o := ⟨some 46, _, _, _, _, _⟩) rfl (.tmp 43) (.tmp 45) rfl w.heap.size T T1 T T1 rfl rfl O2 HLT2.out HT.out HB4.out ?_; intro w5 HB5 hg5; have hoc5 := (HB5.out.cell T1).trans (cn_get HZ.out); have hof5 := HB5.out.frozen T1))
      have bel5 : Below w.heap.size w w5 := below_only bel4 hg5 bel4.size (fun j hj => by injection hj with hj; omega)
      go_roundw
      case rel =>
        refine ⟨i + 1, _, by omega, by go_num, HNX, ?_, bel5.setCell (Nat.le_refl _) _⟩
        have := HB5.out.set_ T1 (.int .u32 ((0 : Nat) : Int))
        rw [cn_set, set_last HLT2.out HT.out] at this
        exact this
      case measure => simp [intOf]; omega
    · obtain rfl : k = i := by omega
      obtain ⟨o, ho⟩ := get_some (l := O) (i := k) (by rw [HI.out.len]; omega)
      have htop := top_val (B := 4294967296) (k := k) (o2 := 0) (V := val 4294967296 O) (by omega) HI.out.len HI.out.fit rfl (by have := HRR.out.lt; have := HI.out.lt; omega) ho
      have hoc := (HBO.out.cell k).trans (cn_get ho)
      have hsl := run_upto23 (some ⟨w.heap.size, 0, none⟩) T T k (by omega)
      have HRD : Hid (Rd .u32 wr (some ⟨w.heap.size, 0, none⟩) k (O.take k)) := (HBO.out.rd T (by rw [HI.out.len]; have := HT.out; have := HT1.out; omega)).take k (by omega)
      have HLS := Lib.hid HBO.out.lt
      have HTOP := Lib.hid htop.2
      have HFT := Lib.hid (HI.out.fit.take k)
      have HEQ := Lib.hid HI.out.eq
      have HV2 := Lib.hid HI.out.lt
      have HLB := Lib.hid HB.out.1
      have hle := htop.1
      have hkT : k < T := by omega
      clear htop ho
      have fin : ∀ (v : Nat), v = val 4294967296 O % N → v < N ∧ v * 4294967296 ^ k % N = val 4294967296 la * val 4294967296 lb % N := by
        intro v hv
        have hN : 0 < N := by have := HRR.out.gt; omega
        refine ⟨by rw [hv]; exact Nat.mod_lt _ hN, ?_⟩
        have h1 := HEQ.out
        rw [List.take_of_length_le (by rw [HLB.out]; exact Nat.le_refl _)] at h1
        rw [hv, Nat.mul_mod, Nat.mod_mod, ← Nat.mul_mod, h1, Nat.mul_comm]
      have FIN := Lib.hid fin
      clear fin
      rcases Nat.le_one_iff_eq_zero_or_eq_one.1 hle with rfl | rfl
      · go_wp2
        go_region_law (first
          | (go_simp; go_at_call 138; refine (Clone_any (some ⟨w.heap.size, 0, none⟩) k T (O.take k) _ (HRD.out.drewN _) HFT.out k1 (by omega)).mono ?_; rintro e w5 ⟨A5, c5, l5, rfl, hr5, hf5, hv5, hb5⟩; have hk5 := (hb5.cell (p := ⟨w.heap.size, k, none⟩) HLS.out).trans hoc; have HR5 := Lib.hid hr5; have HV5 := Lib.hid hv5; clear hr5 hv5)
          | (go_simp; go_at_call 169; refine (below_any g k N n0 A c R ln A5 c5 l5 false 0 (val 4294967296 O) w5 (HRR.out.below (below_then (below_drew1 hbe) hb5)) HR5.out hf5 (.inl ⟨rfl, rfl⟩) (by rw [HV5.out]; exact HTOP.out) HV2.out).mono ?_; rintro e w6 ⟨A6, c6, l6, rfl, hr6, hf6, hv6, hb6⟩; have HR6 := Lib.hid hr6; have HV6 := Lib.hid hv6; clear hr6 hv6))
        all_goals
          go_wp2
          go_ret
          exact ⟨A6, c6, l6, rfl, HR6.out, hf6, (FIN.out _ HV6.out).1, (FIN.out _ HV6.out).2, below_then (below_then (below_drew1 hbe) hb5) hb6⟩
      · go_wp2
        go_region_law (first
          | (go_simp; go_at_call 138; refine (Clone_any (some ⟨w.heap.size, 0, none⟩) k T (O.take k) _ (HRD.out.drewN _) HFT.out k1 (by omega)).mono ?_; rintro e w5 ⟨A5, c5, l5, rfl, hr5, hf5, hv5, hb5⟩; have hk5 := (hb5.cell (p := ⟨w.heap.size, k, none⟩) HLS.out).trans hoc; have HR5 := Lib.hid hr5; have HV5 := Lib.hid hv5; clear hr5 hv5)
          | (go_simp; go_at_call 169; refine (below_any g k N n0 A c R ln A5 c5 l5 true 1 (val 4294967296 O) w5 (HRR.out.below (below_then (below_drew1 hbe) hb5)) HR5.out hf5 (.inr ⟨rfl, rfl⟩) (by rw [HV5.out]; exact HTOP.out) HV2.out).mono ?_; rintro e w6 ⟨A6, c6, l6, rfl, hr6, hf6, hv6, hb6⟩; have HR6 := Lib.hid hr6; have HV6 := Lib.hid hv6; clear hr6 hv6))
        all_goals
          go_wp2
          go_ret
          exact ⟨A6, c6, l6, rfl, HR6.out, hf6, (FIN.out _ HV6.out).1, (FIN.out _ HV6.out).2, below_then (below_then (below_drew1 hbe) hb5) hb6⟩
end Go.Proofs.YtlcoebenkhafcaaGreatDoor
namespace Go.Proofs.YtlcoebenkhafcaaGreatDoor
set_option maxRecDepth 100000
open Go.RowKit
set_option linter.unusedVariables false
set_option linter.unusedSimpArgs false
theorem bitlen_bounds {x L : Nat} (h : bitlen x = L + 1) : 2 ^ L ≤ x ∧ x < 2 ^ (L + 1) := by
  refine ⟨Nat.not_lt.1 fun hlt => ?_, (bitlen_le x (L + 1)).1 (by omega)⟩
  have := (bitlen_le x L).2 hlt
  omega
theorem single_val {k q p : Nat} (hq : q < k) : val 4294967296 ((List.replicate k 0).set q p) = 4294967296 ^ q * p := by
  have h := val_set 4294967296 (l := List.replicate k 0) (j := q) (o := 0) (by rw [List.getElem?_replicate, if_pos hq]) p
  rw [val_replicate] at h
  omega
theorem pow_split (L : Nat) : 4294967296 ^ (L / 32) * 2 ^ (L % 32) = 2 ^ L := by
  rw [pow32, ← Nat.pow_add, Nat.div_add_mod]
theorem dbl_step {N v L j : Nat} (h : v = 2 ^ (L + j) % N) : (2 * v) % N = 2 ^ (L + (j + 1)) % N := by
  rw [h, Nat.mul_mod, Nat.mod_mod, ← Nat.mul_mod, ← Nat.add_assoc, Nat.pow_succ, Nat.mul_comm]
theorem dbl_end (k : Nat) : 2 ^ (32 * k + k) = 2 ^ (k * 2 ^ 0) * 4294967296 ^ k := by
  rw [pow32, ← Nat.pow_add]; congr 1; omega
theorem sqr_step (k j : Nat) : 2 ^ (k * 2 ^ j) * 2 ^ (k * 2 ^ j) = 2 ^ (k * 2 ^ (j + 1)) := by
  rw [← Nat.pow_add, Nat.pow_succ]; congr 1; rw [← Nat.mul_assoc, Nat.mul_two]
theorem sqr_end (k : Nat) : 2 ^ (k * 2 ^ 5) * 4294967296 ^ k = 4294967296 ^ (2 * k) := by
  have : 2 ^ (k * 2 ^ 5) = 4294967296 ^ k := by rw [pow32]; congr 1; omega
  rw [this, ← Nat.pow_add]; congr 1; omega
set_option maxRecDepth 100000 in
set_option maxHeartbeats 4000000 in
theorem square_any (g k N n0 : Nat) (A : Option Addr) (c : Nat) (R : Value) (ln : List Nat) (w : World) (hr : Ringed w g k N n0 A c R ln) :
    Calls Tryz.prog 140 #[.pointer (some ⟨g, 0, none⟩)] w (Elem w k (4294967296 ^ (2 * k) % N)) := by
  have hc0 := hr.c0
  have k1 := hr.k1
  have k2 := hr.k2
  have HRR := Lib.hid hr
  obtain ⟨L, hL⟩ : ∃ L, bitlen N = L + 1 := by
    have h1 : ¬ bitlen N ≤ 0 := fun h => by have := (bitlen_le N 0).1 h; have := hr.gt; simp at *; omega
    exact ⟨bitlen N - 1, by omega⟩
  have hbd := bitlen_bounds hL
  have hLk : L < 32 * k := by
    have h1 := hr.lt
    rw [pow32] at h1
    have := (bitlen_le N (32 * k)).2 h1
    omega
  have hbd1 : 2 ^ L < N := by
    rcases Nat.lt_or_eq_of_le hbd.1 with h | h
    · exact h
    · exfalso
      have h1 := hr.odd
      have h2 := hr.gt
      rcases L with _ | L
      · simp at h; omega
      · rw [← h, Nat.pow_succ] at h1; omega
  obtain ⟨q, hq⟩ : ∃ q, q = L / 32 := ⟨_, rfl⟩
  obtain ⟨r, hr2⟩ : ∃ r, r = L % 32 := ⟨_, rfl⟩
  obtain ⟨p, hp⟩ : ∃ p, p = 2 ^ r := ⟨_, rfl⟩
  have hr32 : r < 32 := by omega
  have hpb : p ≤ 2147483648 := by rw [hp]; exact Nat.pow_le_pow_right (by omega) (by omega : r ≤ 31)
  have hqk : q < k := by omega
  have hq1 : (L : Int) / 32 = q := by omega
  have hr1 : (L : Int) % 32 = r := by omega
  have hp1 : (2 : Int) ^ r = (p : Int) := by rw [hp]; simp
  have HP : Hid (4294967296 ^ q * p = 2 ^ L) := by show _ = _; rw [hp, hq, hr2]; exact pow_split L
  have HL : Hid (bitlen (val 4294967296 ln) = L + 1) := by show _ = _; rw [hr.num]; exact hL
  have HLT := Lib.hid hbd1
  obtain ⟨M, hM⟩ : ∃ M, M = 32 * k - L + k := ⟨_, rfl⟩
  have hM1 : 32 * (k : Int) - L + k = M := by omega
  have HM : Hid (L + M = 32 * k + k) := by show _ = _; omega
  have HM1 := Lib.hid hM1
  have hLb : L < 4096 := by omega
  have hMb : M < 5000 := by omega
  clear hr hL hbd hbd1 hq hr2 hp hM hM1
  go_enter Tryz.func140, Tryz.ntmps140
  go_wp2_with fail
  refine (Bits_ok A k c ln w HRR.out.rd HRR.out.fit k1 (by omega)).mono ?_
  rintro e w1 ⟨rfl, hb1⟩
  rw [HL.out]
  clear hc0
  go_wp2_with (first
    | ((with_reducible refine at_dst (some 22) ?_); refine wpList_makeNums (o := ⟨some 22, _, _, _, _, _⟩) rfl (.tmp 21) (.tmp 21) 116 133 rfl .u32 4 Tryz.underlying116 wordInfo (by omega) _ _ rfl rfl k rfl (by omega) ?_; intro w2 hb2 hbel2 hs2; have hoc := (hb2.out.cell q).trans (cn_get (x := 0) (by rw [List.getElem?_replicate, if_pos hqk])); have hof := hb2.out.frozen q))
  rw [HM1.out]
  have hb3 := hb2.out.set_ q (.int .u32 (p : Int))
  rw [cn_set] at hb3
  have hbel3 : Below w.heap.size w (w2.setCell ⟨w1.heap.size, q, none⟩ (.int .u32 (p : Int))) := (below_then hb1 hbel2).setCell hb1.size _
  have hr3 := hb3.rd k (by simp)
  have hf3 : Fit 4294967296 ((List.replicate k 0).set q p) := (Fit.replicate _ _ _ (by omega)).set _ _ (by omega)
  have hv3 : val 4294967296 ((List.replicate k 0).set q p) = 2 ^ (L + 0) % N := by rw [single_val hqk, HP.out, Nat.add_zero, Nat.mod_eq_of_lt HLT.out]
  have HR3 : Hid (Rd .u32 _ (some ⟨w1.heap.size, 0, none⟩) k ((List.replicate k 0).set q p) ∧ Fit 4294967296 ((List.replicate k 0).set q p) ∧ val 4294967296 ((List.replicate k 0).set q p) = 2 ^ (L + 0) % N) := ⟨hr3, hf3, hv3⟩
  clear hb2 hbel2 hs2 hoc hof hb3 hr3 hf3 hv3 hq1 hr1 hp1
  generalize (w2.setCell ⟨w1.heap.size, q, none⟩ (.int .u32 (p : Int))) = w3 at *
  go_loopw [5, 36] (fun aa ii wr => ∃ (j c1 : Nat) (A1 : Option Addr) (l1 : List Nat), j ≤ M ∧ ii = .int .i64 (j : Int) ∧ aa = .slice A1 k c1 ∧ Hid (Rd .u32 wr A1 k l1 ∧ Fit 4294967296 l1 ∧ val 4294967296 l1 = 2 ^ (L + j) % N) ∧ Below w.heap.size w wr) (fun _ ii _ => M - (intOf ii).toNat)
  case atStart => exact ⟨0, k, _, _, by omega, rfl, rfl, HR3, hbel3⟩
  case round =>
    obtain ⟨j, c1, A1, l1, hj, rfl, rfl, HI, hbe⟩ := hrel
    have hN : 0 < N := by have := HRR.out.gt; omega
    by_cases hjM : j < M
    · go_wp2_with fail
      refine (Add_ok A1 A1 k c1 c1 l1 l1 wr HI.out.1 HI.out.1 HI.out.2.1 HI.out.2.1 k1 (by omega)).mono ?_
      rintro e w4 ⟨A4, cc, zs, rfl, hcc, ⟨hr4, hf4, _, _, hb4⟩, he⟩
      have bel4 := below_then hbe hb4
      have hV : val 4294967296 zs + 4294967296 ^ k * cc = 2 * val 4294967296 l1 := by omega
      have hV2 : 2 * val 4294967296 l1 < 2 * N := by rw [HI.out.2.2]; have := Nat.mod_lt (2 ^ (L + j)) hN; omega
      have HV := Lib.hid hV
      have HV2 := Lib.hid hV2
      have HR4 := Lib.hid hr4
      clear he hV hV2 hr4
      rcases Nat.le_one_iff_eq_zero_or_eq_one.1 hcc with rfl | rfl
      · go_wp2_with fail
        refine (below_any g k N n0 A c R ln A4 k zs false 0 (2 * val 4294967296 l1) w4 (HRR.out.below bel4) HR4.out hf4 (.inl ⟨rfl, rfl⟩) HV.out HV2.out).mono ?_
        rintro e w5 ⟨A5, c5, l5, rfl, hr5, hf5, hv5, hb5⟩
        have HR5 : Hid (Rd .u32 w5 A5 k l5 ∧ Fit 4294967296 l5 ∧ val 4294967296 l5 = 2 ^ (L + (j + 1)) % N) := ⟨hr5, hf5, by rw [hv5]; exact dbl_step HI.out.2.2⟩
        have bel5 := below_then bel4 hb5
        clear hr5 hf5 hv5
        go_wp2
        go_roundw
        case rel => exact ⟨j + 1, c5, A5, l5, by omega, by go_num, rfl, HR5, bel5⟩
        case measure => simp [intOf]; omega
      · go_wp2_with fail
        refine (below_any g k N n0 A c R ln A4 k zs true 1 (2 * val 4294967296 l1) w4 (HRR.out.below bel4) HR4.out hf4 (.inr ⟨rfl, rfl⟩) HV.out HV2.out).mono ?_
        rintro e w5 ⟨A5, c5, l5, rfl, hr5, hf5, hv5, hb5⟩
        have HR5 : Hid (Rd .u32 w5 A5 k l5 ∧ Fit 4294967296 l5 ∧ val 4294967296 l5 = 2 ^ (L + (j + 1)) % N) := ⟨hr5, hf5, by rw [hv5]; exact dbl_step HI.out.2.2⟩
        have bel5 := below_then bel4 hb5
        clear hr5 hf5 hv5
        go_wp2
        go_roundw
        case rel => exact ⟨j + 1, c5, A5, l5, by omega, by go_num, rfl, HR5, bel5⟩
        case measure => simp [intOf]; omega
    · obtain rfl : M = j := by omega
      have HI2 : Hid (Rd .u32 wr A1 k l1 ∧ Fit 4294967296 l1 ∧ val 4294967296 l1 = 2 ^ (k * 2 ^ 0) * 4294967296 ^ k % N) := ⟨HI.out.1, HI.out.2.1, by rw [HI.out.2.2, HM.out, dbl_end]⟩
      clear HI HM HR3 hbel3
      go_wp2
      rename World => wz
      go_loopw [5, 9] (fun aa ii wr => ∃ (j r c1 : Nat) (A1 : Option Addr) (l1 : List Nat), j ≤ 5 ∧ r ≤ 32 ∧ ii = .int .i64 (r : Int) ∧ aa = .slice A1 k c1 ∧ Hid (r = 2 ^ j) ∧ Hid (Rd .u32 wr A1 k l1 ∧ Fit 4294967296 l1 ∧ val 4294967296 l1 = 2 ^ (k * 2 ^ j) * 4294967296 ^ k % N) ∧ Below w.heap.size w wr) (fun _ ii _ => 32 - (intOf ii).toNat)
      case atStart => exact ⟨0, 1, c1, A1, l1, by omega, by omega, rfl, rfl, rfl, HI2, hbe⟩
      case round =>
        obtain ⟨j, r, c2, A2, l2, hj, hr, rfl, rfl, HJ, HI, hbe2⟩ := hrel
        by_cases hr2 : r < 32
        · have hj5 : j < 5 := by
            have := HJ.out
            rcases (by omega : j < 5 ∨ j = 5) with h | rfl
            · exact h
            · omega
          have hr1 : 1 ≤ r ∧ r ≤ 16 := by
            have := HJ.out
            rcases (by omega : j = 0 ∨ j = 1 ∨ j = 2 ∨ j = 3 ∨ j = 4) with rfl | rfl | rfl | rfl | rfl <;> simp at this <;> omega
          have hr3 := hr1.1
          have hr4 := hr1.2
          clear hr1
          have hlt2 : val 4294967296 l2 < N := by rw [HI.out.2.2]; exact Nat.mod_lt _ hN
          have HLT2 := Lib.hid hlt2
          clear hlt2
          go_wp2_with fail
          refine (short_any g k N n0 A c R ln A2 c2 l2 A2 c2 l2 _ (HRR.out.below hbe2) HI.out.1 HI.out.2.1 HI.out.1 HI.out.2.1 HLT2.out).mono ?_
          rintro e w5 ⟨A5, c5, l5, rfl, hr5, hf5, hlt5, hv5, hb5⟩
          have HR5 : Hid (Rd .u32 w5 A5 k l5 ∧ Fit 4294967296 l5 ∧ val 4294967296 l5 = 2 ^ (k * 2 ^ (j + 1)) * 4294967296 ^ k % N) := ⟨hr5, hf5, by
            rw [HI.out.2.2] at hv5
            have := short_long HRR.out.odd hlt5 hv5
            rw [this, sqr_step]⟩
          have bel5 := below_then hbe2 hb5
          clear hr5 hf5 hlt5 hv5
          go_wp2
          go_roundw
          case rel =>
            refine ⟨j + 1, r * 2, c5, A5, l5, by omega, by omega, by go_num, rfl, ?_, HR5, bel5⟩
            show r * 2 = _
            rw [Nat.pow_succ, HJ.out]
          case measure => simp [intOf]; omega
        · have hj5 : j = 5 := by
            have := HJ.out
            rcases (by omega : j = 0 ∨ j = 1 ∨ j = 2 ∨ j = 3 ∨ j = 4 ∨ j = 5) with rfl | rfl | rfl | rfl | rfl | rfl <;> simp at this <;> omega
          subst hj5
          go_wp2
          go_ret
          exact ⟨A2, c2, l2, rfl, HI.out.1, HI.out.2.1, by rw [HI.out.2.2, sqr_end], hbe2⟩
end Go.Proofs.YtlcoebenkhafcaaGreatDoor
namespace Go.Proofs.YtlcoebenkhafcaaGreatDoor
set_option maxRecDepth 100000
open Go.RowKit
set_option linter.unusedVariables false
set_option linter.unusedSimpArgs false
theorem Rd.setOther {q : IntKind} {w : World} {A : Option Addr} {n : Nat} {l : List Nat} (h : Rd q w A n l) {p : Addr} {v0 : Value} (hp : w.cell? p = some v0) (hv : ∀ x : Int, v0 ≠ .int q x) (u : Value) : Rd q (w.setCell p u) A n l :=
  ⟨h.1, fun hn => by
    obtain ⟨ad, e, hlt, hc⟩ := h.2 hn
    refine ⟨ad, e, by simpa [World.setCell] using hlt, fun j x hj => ?_⟩
    have h1 := hc j x hj
    rw [World.cell?_setCell_other]
    · exact h1
    · intro hpe
      rw [← hpe, hp] at h1
      injection h1 with h1
      exact hv _ h1⟩
def Whole (w : World) (g k N : Nat) : Prop :=
  ∃ n0 A c ln A' c' lr, Ringed w g k N n0 A c (.slice A' k c') ln ∧ Rd .u32 w A' k lr ∧ Fit 4294967296 lr ∧ val 4294967296 lr = 4294967296 ^ (2 * k) % N
theorem Whole.below {w w' : World} {g k N : Nat} (h : Whole w g k N) (hb : Below w.heap.size w w') : Whole w' g k N := by
  obtain ⟨n0, A, c, ln, A', c', lr, h1, h2, h3, h4⟩ := h
  exact ⟨n0, A, c, ln, A', c', lr, h1.below hb, h2.below hb, h3, h4⟩
def GivesRing (w : World) (k N : Nat) (e : Ending) (w' : World) : Prop :=
  ∃ g, e = .returned (.tuple #[.pointer (some ⟨g, 0, none⟩), .int .i64 0]) ∧ Whole w' g k N ∧ Below w.heap.size w w'
theorem bitlen_one {x : Nat} (h : 1 < x) : bitlen x ≠ 1 := fun e => by
  have := (bitlen_le x 1).1 (by omega)
  omega
theorem odd_low {l : List Nat} {d : Nat} (hd : l[0]? = some d) : val 4294967296 l % 2 = d % 2 := by
  have e := drop_cons hd
  rw [List.drop_zero] at e
  rw [e, val]
  omega
theorem neg_nat (y : Nat) : ∃ n0 : Nat, IntKind.u32.wrap (-(y : Int)) = (n0 : Int) ∧ n0 < 4294967296 ∧ (n0 : Int) = (-(y : Int)) % 4294967296 := by
  have hnn := Int.emod_nonneg (-(y : Int)) (by omega : (4294967296 : Int) ≠ 0)
  have hlt := Int.emod_lt_of_pos (-(y : Int)) (by omega : (0 : Int) < 4294967296)
  have e := Int.toNat_of_nonneg hnn
  exact ⟨_, by rw [IntKind.wrap_u32', e], by omega, e⟩
set_option maxRecDepth 100000 in
set_option maxHeartbeats 4000000 in
theorem New_ok (A : Option Addr) (n cap : Nat) (l : List Nat) (w : World) (h : Rd .u32 w A n l) (hf : Fit 4294967296 l) (h1 : 1 ≤ n) (h2 : n ≤ 128) (hodd : val 4294967296 l % 2 = 1) (hgt : 1 < val 4294967296 l) :
    Calls Tryz.prog 99 #[.slice A n cap] w (GivesRing w n (val 4294967296 l)) := by
  obtain ⟨ad, d, rfl, hd, hcell⟩ := h.get (j := 0) (by omega)
  rw [add_zero_] at hcell
  have had : ad.block < w.heap.size := h.lt (by omega) ad rfl
  have hdo : d % 2 = 1 := by rw [← odd_low hd]; exact hodd
  have hdb := hf.get hd
  obtain ⟨rr, hrr⟩ : ∃ rr, val 4294967296 l = d + 4294967296 * rr := ⟨val 4294967296 (l.drop 1), by
    have e := drop_cons hd
    rw [List.drop_zero] at e
    conv => lhs; rw [e]
    rfl⟩
  have HRR := Lib.hid hrr
  have HR := Lib.hid h
  have HO := Lib.hid hodd
  have HG := Lib.hid hgt
  have HD := Lib.hid hd
  have g1 : ¬ (n : Int) < 1 := by omega
  have g2 : ¬ (128 : Int) < n := by omega
  have g3 : 0 < n := by omega
  have hb : ((d : Int) % 2 == 0) = false := by simp; omega
  have hb2 : (d : Int) % 2 = 1 := by omega
  have hbl := bitlen_one hgt
  obtain ⟨bl, hbl2⟩ : ∃ bl, bl = bitlen (val 4294967296 l) := ⟨_, rfl⟩
  rw [← hbl2] at hbl
  have HBL := Lib.hid hbl2.symm
  have hb3 : ((bl : Int) == 1) = false := by simp; omega
  have hb4 : (bl == 1) = false := by simp [hbl]
  clear h hd hodd hgt hrr hbl2
  go_enter Tryz.func99, Tryz.ntmps99
  go_wp2_with fail
  refine (Bits_ok (some ad) n cap l w HR.out hf h1 (by omega)).mono ?_
  rintro e w1 ⟨rfl, hb1⟩
  rw [HBL.out]
  have hcell1 := (hb1.cell (p := ad) had).trans hcell
  have had1 := Nat.lt_of_lt_of_le had hb1.size
  have HR1 := Lib.hid (HR.out.below hb1)
  go_wp2
  go_region_law (first
    | (go_simp; go_at_call 138; refine (Clone_any (some ad) n cap l _ (HR1.out.drewN _) hf h1 (by omega)).mono ?_; rintro e w5 ⟨A5, c5, l5, rfl, hr5, hf5, hv5, hb5⟩; have hk5 := (hb5.cell (p := ad) had1).trans hcell1; have HR5 := Lib.hid hr5; have HV5 := Lib.hid hv5; clear hr5 hv5)
    | (go_simp; go_at_call 139; refine (inverse_any d hdb hdo _).mono ?_; rintro e w6 ⟨y, rfl, hy, hyd, rfl⟩; obtain ⟨n0, hn0, hn1, hn2⟩ := neg_nat y; have HYD := Lib.hid (inv_end hyd hn2); clear hyd hn2))
  all_goals
    have bel5 : Below w.heap.size w w5 := below_then (below_drew1 hb1) hb5
    have HRG : Hid (Ringed (w5.alloc (.cells #[.slice A5 n c5, .int .u32 (n0 : Int), .slice none 0 0] 164)) w5.heap.size n (val 4294967296 l) n0 A5 c5 (.slice none 0 0) l5) :=
      ⟨Blk.new w5 164 [.slice A5 n c5, .int .u32 (n0 : Int), .slice none 0 0], HR5.out.below ((Below.refl _ _).alloc (Nat.le_refl _) _), hf5, HV5.out, h1, h2, HO.out, HG.out, hn1, low_mul HYD.out HRR.out⟩
    have bel6 : Below w.heap.size w (w5.alloc (.cells #[.slice A5 n c5, .int .u32 (n0 : Int), .slice none 0 0] 164)) := bel5.alloc bel5.size _
    have hsz : w.heap.size ≤ w5.heap.size := bel5.size
    clear HR5 HV5 hb5 hk5
    go_wp2_with fail
    clear hn0
    generalize (w5.alloc (.cells #[.slice A5 n c5, .int .u32 (n0 : Int), .slice none 0 0] 164)) = w6 at *
    refine (square_any w5.heap.size n (val 4294967296 l) n0 A5 c5 _ l5 w6 HRG.out).mono ?_
    rintro e w7 ⟨A7, c7, l7, rfl, hr7, hf7, hv7, hb7⟩
    have q7 := (HRG.out.below hb7).c2
    have f7 := (HRG.out.below hb7).blk.frozen 2
    have HR7 := Lib.hid hr7
    have HV7 := Lib.hid hv7
    clear hr7 hv7
    go_wp2
    go_ret2
    have R7 := HRG.out.below hb7
    refine ⟨_, rfl, ⟨n0, A5, c5, l5, A7, c7, l7, ⟨?_, R7.rd.setOther q7 (fun x e => by cases e) _, R7.fit, R7.num, R7.k1, R7.k2, R7.odd, R7.gt, R7.n1, R7.inv⟩, HR7.out.setOther q7 (fun x e => by cases e) _, hf7, HV7.out⟩, (below_then bel6 hb7).setCell hsz _⟩
    exact R7.blk.set_ 2 (.slice A7 n c7)
theorem N0_any (g k N n0 : Nat) (A : Option Addr) (c : Nat) (R : Value) (ln : List Nat) (w : World) (hr : Ringed w g k N n0 A c R ln) :
    Calls Tryz.prog 102 #[.pointer (some ⟨g, 0, none⟩)] w fun e w' => e = .returned (.int .i64 (n0 : Int)) ∧ w = w' := by
  have hc1 := hr.c1
  have hn := hr.n1
  clear hr
  go_enter Tryz.func102, Tryz.ntmps102
  go_wp2
  go_ret
  exact ⟨rfl, rfl⟩
theorem RR_any (g k N : Nat) (w : World) (hr : Whole w g k N) :
    Calls Tryz.prog 104 #[.pointer (some ⟨g, 0, none⟩)] w (Elem w k (4294967296 ^ (2 * k) % N)) := by
  obtain ⟨n0, A, c, ln, A', c', lr, h1, h2, h3, h4⟩ := hr
  have hc2 := h1.c2
  have k1 := h1.k1
  have k2 := h1.k2
  have HR := Lib.hid h2
  have HV := Lib.hid h4
  clear h1 h2 h4
  go_enter Tryz.func104, Tryz.ntmps104
  go_wp2_with fail
  refine (Clone_any A' k c' lr w HR.out h3 k1 (by omega)).mono ?_
  rintro e w5 ⟨A5, c5, l5, rfl, hr5, hf5, hv5, hb5⟩
  go_wp2
  go_ret
  exact ⟨A5, c5, l5, rfl, hr5, hf5, by rw [hv5, HV.out], hb5⟩
theorem long_any (g k N : Nat) (Aa : Option Addr) (ca : Nat) (la : List Nat) (w : World) (hr : Whole w g k N) (ha : Rd .u32 w Aa k la) (hfa : Fit 4294967296 la) (hlt : val 4294967296 la < N) :
    Calls Tryz.prog 195 #[.pointer (some ⟨g, 0, none⟩), .slice Aa k ca] w (Elem w k (val 4294967296 la * 4294967296 ^ k % N)) := by
  obtain ⟨n0, A, c, ln, A', c', lr, h1, h2, h3, h4⟩ := hr
  have hc2 := h1.c2
  have k1 := h1.k1
  have k2 := h1.k2
  have HR := Lib.hid h2
  have HV := Lib.hid h4
  have HA := Lib.hid ha
  have HRR := Lib.hid h1
  have HLT := Lib.hid hlt
  clear h1 h2 h4 ha hlt
  go_enter Tryz.func195, Tryz.ntmps195
  go_wp2_with fail
  refine (short_any g k N n0 A c _ ln Aa ca la A' c' lr w HRR.out HA.out hfa HR.out h3 HLT.out).mono ?_
  rintro e w5 ⟨A5, c5, l5, rfl, hr5, hf5, hlt5, hv5, hb5⟩
  have HV5 : Hid (val 4294967296 l5 = val 4294967296 la * 4294967296 ^ k % N) := by
    rw [HV.out] at hv5
    exact short_rr HRR.out.odd hlt5 hv5
  clear hv5
  go_wp2
  go_ret
  exact ⟨A5, c5, l5, rfl, hr5, hf5, HV5.out, hb5⟩
def ElemT (w : World) (k x : Nat) (e : Ending) (w' : World) : Prop :=
  ∃ A c l, e = .returned (.tuple #[.slice A k c, .int .i64 0]) ∧ Rd .u32 w' A k l ∧ Fit 4294967296 l ∧ val 4294967296 l = x ∧ Below w.heap.size w w'
end Go.Proofs.YtlcoebenkhafcaaGreatDoor
namespace Go.Proofs.YtlcoebenkhafcaaGreatDoor
set_option maxRecDepth 100000
open Go.RowKit
set_option linter.unusedVariables false
set_option linter.unusedSimpArgs false
def Refused (w : World) (er : Int) (e : Ending) (w' : World) : Prop := e = .returned (.tuple #[.slice none 0 0, .int .i64 er]) ∧ Below w.heap.size w w'
set_option maxHeartbeats 1000000 in
theorem Power_no (g k N : Nat) (Aa : Option Addr) (na ca : Nat) (la : List Nat) (Ae : Option Addr) (ne ce : Nat) (w : World) (hr : Whole w g k N) (ha : Rd .u32 w Aa na la) (hfa : Fit 4294967296 la) (hno : ¬ (na = k ∧ val 4294967296 la < N)) :
    Calls Tryz.prog 173 #[.pointer (some ⟨g, 0, none⟩), .slice Aa na ca, .slice Ae ne ce] w (Refused w 13) := by
  obtain ⟨n0, A, c, ln, A', c', lr, h1, h2, h3, h4⟩ := hr
  have HA := Lib.hid ha
  have HRR := Lib.hid h1
  have HNA := Lib.hid hno
  clear h1 h2 h4 ha hno
  go_enter Tryz.func173, Tryz.ntmps173
  go_wp2_with fail
  refine (has_no g k N n0 A c _ ln Aa na ca la w HRR.out HA.out hfa HNA.out).mono ?_
  rintro e w1 ⟨rfl, hb1⟩
  go_wp2
  go_ret2
  exact ⟨rfl, hb1⟩
set_option maxHeartbeats 1000000 in
theorem Power_big (g k N : Nat) (Aa : Option Addr) (ca : Nat) (la : List Nat) (Ae : Option Addr) (ne ce : Nat) (w : World) (hr : Whole w g k N) (ha : Rd .u32 w Aa k la) (hfa : Fit 4294967296 la) (hlt : val 4294967296 la < N) (hne : 1024 < ne) :
    Calls Tryz.prog 173 #[.pointer (some ⟨g, 0, none⟩), .slice Aa k ca, .slice Ae ne ce] w (Refused w 11) := by
  obtain ⟨n0, A, c, ln, A', c', lr, h1, h2, h3, h4⟩ := hr
  have HA := Lib.hid ha
  have HRR := Lib.hid h1
  have HLT := Lib.hid hlt
  have hne1 : (1024 : Int) < ne := by omega
  clear h1 h2 h4 ha hlt
  go_enter Tryz.func173, Tryz.ntmps173
  go_wp2_with fail
  refine (has_yes g k N n0 A c _ ln Aa ca la w HRR.out HA.out hfa HLT.out).mono ?_
  rintro e w1 ⟨rfl, hb1⟩
  go_wp2
  go_ret2
  exact ⟨rfl, hb1⟩
theorem bit_and {d r b : Nat} (hd : d < 4294967296) (h : d / 2 ^ r % 2 = b) : bits .and .u32 ((d : Int) / 2 ^ r) 1 = (b : Int) := by
  have e : (d : Int) / 2 ^ r = ((d / 2 ^ r : Nat) : Int) := by simp
  rw [e, show (1 : Int) = ((1 : Nat) : Int) from rfl, u32_and_nat _ _ (Nat.lt_of_le_of_lt (Nat.div_le_self _ _) hd) (by omega), Nat.and_one_is_mod, h]
theorem vbe_lt {l : List Nat} {W : Nat} (hf : Fit 256 l) (hl : l.length ≤ 4 * W) : vbe l < 4294967296 ^ W := by
  have h := val_lt hf.reverse
  rw [List.length_reverse] at h
  have h2 : (256 : Nat) ^ l.length ≤ 256 ^ (4 * W) := Nat.pow_le_pow_right (by omega) hl
  rw [pow256_32] at h2
  exact Nat.lt_of_lt_of_le h h2
theorem bitlen_fit {l : List Nat} {W : Nat} (hf : Fit 4294967296 l) (hl : l.length = W) : bitlen (val 4294967296 l) ≤ 32 * W := by
  rw [bitlen_le]
  have := val_lt hf
  rw [hl, pow32] at this
  exact this
theorem From_256 (A : Option Addr) (n cap : Nat) (l : List Nat) (w : World) (h : Rd .u8 w A n l) (hf : Fit 256 l) (hn : n ≤ cap) (hm : cap ≤ maxLen) (hn2 : n ≤ 1024) :
    Calls Tryz.prog 98 #[.slice A n cap, .int .i64 256] w fun e w' => ∃ A1 zs, e = .returned (.tuple #[.slice A1 256 256, .int .i64 0]) ∧ Limbs w w' A1 256 256 zs ∧ val 4294967296 zs = vbe l :=
  From_ok A n cap l 256 w h hf hn hm (by omega) (by omega) (by omega) (vbe_lt hf (by rw [h.1]; omega))
set_option maxRecDepth 100000 in
set_option maxHeartbeats 4000000 in
theorem Power_yes (g k N : Nat) (Aa : Option Addr) (ca : Nat) (la : List Nat) (Ae : Option Addr) (ne ce : Nat) (le : List Nat) (w : World) (hr : Whole w g k N) (ha : Rd .u32 w Aa k la) (hfa : Fit 4294967296 la) (hlt : val 4294967296 la < N) (he : Rd .u8 w Ae ne le) (hfe : Fit 256 le) (hnc : ne ≤ ce) (hcm : ce ≤ maxLen) (hne : ne ≤ 1024) :
    Calls Tryz.prog 173 #[.pointer (some ⟨g, 0, none⟩), .slice Aa k ca, .slice Ae ne ce] w (ElemT w k (val 4294967296 la ^ vbe le % N)) := by
  have HW := Lib.hid hr
  obtain ⟨n0, A, c, ln, A', c', lr, h1, h2, h3, h4⟩ := hr
  have HA := Lib.hid ha
  have HE := Lib.hid he
  have HRR := Lib.hid h1
  have HLT := Lib.hid hlt
  have HCM := Lib.hid hcm
  have hne1 : ¬ (1024 : Int) < ne := by omega
  have hN : 1 < N := h1.gt
  have k1 := h1.k1
  clear h1 h2 h4 ha hlt he hcm
  go_enter Tryz.func173, Tryz.ntmps173
  go_wp2_with fail
  refine (has_yes g k N n0 A c _ ln Aa ca la w HRR.out HA.out hfa HLT.out).mono ?_
  rintro e w1 ⟨rfl, hb1⟩
  go_wp2_with fail
  refine (From_256 Ae ne ce le w1 (HE.out.below hb1) hfe hnc HCM.out hne).mono ?_
  rintro e w2 ⟨As, zs, rfl, ⟨hrs, hfs, _, _, hb2⟩, hvs⟩
  have bel2 := below_then hb1 hb2
  have HRS := Lib.hid hrs
  have HVS := Lib.hid hvs
  clear hrs hvs
  go_wp2_with fail
  refine (long_any g k N Aa ca la w2 (HW.out.below bel2) (HA.out.below bel2) hfa HLT.out).mono ?_
  rintro e w3 ⟨Af, cf, lf, rfl, hrf, hff, hvf, hb3⟩
  have bel3 := below_then bel2 hb3
  have HRF := Lib.hid hrf
  have HVF := Lib.hid hvf
  clear hrf hvf
  go_wp2_with fail
  refine (one_any g k N n0 A c _ ln w3 (HRR.out.below bel3)).mono ?_
  rintro e w4 ⟨A4, c4, l4, rfl, hr4, hf4, hv4, hb4⟩
  have bel4 := below_then bel3 hb4
  have HR4 := Lib.hid hr4
  have HV4 := Lib.hid hv4
  clear hr4 hv4
  go_wp2_with fail
  refine (long_any g k N A4 c4 l4 w4 (HW.out.below bel4) HR4.out hf4 (by rw [HV4.out]; exact hN)).mono ?_
  rintro e w5 ⟨A5, c5, l5, rfl, hr5, hf5, hv5, hb5⟩
  have bel5 := below_then bel4 hb5
  have HR5 := Lib.hid hr5
  have HV5 : Hid (val 4294967296 l5 = 1 * 4294967296 ^ k % N) := by rw [HV4.out] at hv5; exact hv5
  have HRS5 : Hid (Rd .u32 w5 As 256 zs) := ((HRS.out.below hb3).below hb4).below hb5
  clear hr5 hv5
  go_wp2_with fail
  refine (Bits_ok As 256 256 zs w5 HRS5.out hfs (by omega) (by omega)).mono ?_
  rintro e w6 ⟨rfl, hb6⟩
  have bel6 := below_then bel5 hb6
  have HRS6 : Hid (Rd .u32 w6 As 256 zs) := HRS5.out.below hb6
  have HRF6 : Hid (Rd .u32 w6 Af k lf) := ((HRF.out.below hb4).below hb5).below hb6
  have HR6 : Hid (Rd .u32 w6 A5 k l5) := HR5.out.below hb6
  obtain ⟨bl, hbl⟩ : ∃ bl, bl = bitlen (val 4294967296 zs) := ⟨_, rfl⟩
  rw [← hbl]
  have hblb : bl ≤ 8192 := by
    rw [hbl]
    exact bitlen_fit hfs HRS6.out.1
  have hE0 : val 4294967296 zs / 2 ^ bl = 0 := Nat.div_eq_of_lt ((bitlen_le _ _).1 (by omega))
  have HE0 := Lib.hid hE0
  clear hbl hE0
  go_wp2
  go_loopw [11, 12] (fun pp ii wr => ∃ (t c1 : Nat) (A1 : Option Addr) (l1 : List Nat), t ≤ bl ∧ ii = .int .i64 ((t : Int) - 1) ∧ pp = .slice A1 k c1 ∧ Hid (Rd .u32 wr A1 k l1 ∧ Fit 4294967296 l1 ∧ val 4294967296 l1 = val 4294967296 la ^ (val 4294967296 zs / 2 ^ t) * 4294967296 ^ k % N) ∧ Below w.heap.size w wr ∧ Below w6.heap.size w6 wr) (fun _ ii _ => (intOf ii + 1).toNat)
  case atStart => exact ⟨bl, c5, A5, l5, Nat.le_refl _, rfl, rfl, ⟨HR6.out, hf5, by rw [HE0.out, Nat.pow_zero]; exact HV5.out⟩, bel6, below_self⟩
  case round =>
    obtain ⟨t, c1, A1, l1, ht, rfl, rfl, HI, hbe, hbe6⟩ := hrel
    have hlt1 : val 4294967296 l1 < N := by rw [HI.out.2.2]; exact Nat.mod_lt _ (by omega)
    have HLT1 := Lib.hid hlt1
    clear hlt1
    rcases t with _ | t
    · go_wp2_with fail
      refine (one_any g k N n0 A c _ ln wr (HRR.out.below hbe)).mono ?_
      rintro e w7 ⟨A7, c7, l7, rfl, hr7, hf7, hv7, hb7⟩
      have bel7 := below_then hbe hb7
      have HR7 := Lib.hid hr7
      have HV7 := Lib.hid hv7
      clear hr7 hv7
      go_wp2_with fail
      refine (short_any g k N n0 A c _ ln A1 c1 l1 A7 c7 l7 w7 (HRR.out.below bel7) (HI.out.1.below hb7) HI.out.2.1 HR7.out hf7 HLT1.out).mono ?_
      rintro e w8 ⟨A8, c8, l8, rfl, hr8, hf8, hlt8, hv8, hb8⟩
      have HR8 := Lib.hid hr8
      have HV8 : Hid (val 4294967296 l8 = val 4294967296 la ^ vbe le % N) := by
        show _ = _
        rw [HI.out.2.2, HV7.out] at hv8
        have := short_plain HRR.out.odd hlt8 hv8
        rw [this, Nat.mul_one, Nat.pow_zero, Nat.div_one, HVS.out]
      clear hr8 hv8 hlt8
      go_wp2
      go_ret2
      exact ⟨A8, c8, l8, rfl, HR8.out, hf8, HV8.out, below_then bel7 hb8⟩
    · obtain ⟨q, hq⟩ : ∃ q, q = t / 32 := ⟨_, rfl⟩
      obtain ⟨r, hr2⟩ : ∃ r, r = t % 32 := ⟨_, rfl⟩
      have hq1 : (t : Int) / 32 = q := by omega
      have hr1 : (t : Int) % 32 = r := by omega
      have hqb : q < 256 := by omega
      have hrb : r < 32 := by omega
      have HQ := Lib.hid hq
      have HR2 := Lib.hid hr2
      clear hq hr2
      go_wp2_with fail
      refine (short_any g k N n0 A c _ ln A1 c1 l1 A1 c1 l1 wr (HRR.out.below hbe) HI.out.1 HI.out.2.1 HI.out.1 HI.out.2.1 HLT1.out).mono ?_
      rintro e w7 ⟨A7, c7, l7, rfl, hr7, hf7, hlt7, hv7, hb7⟩
      have bel7 := below_then hbe hb7
      have bel67 := below_then hbe6 hb7
      have HR7 := Lib.hid hr7
      have HV7 := Lib.hid hv7
      have HLT7 := Lib.hid hlt7
      clear hr7 hv7 hlt7
      obtain ⟨ad, d, hAs, hd, hcell⟩ := (HRS6.out.below bel67).get (j := q) hqb
      subst hAs
      have hbit := bit_at (i := t) hfs (by rw [← HQ.out]; exact hd)
      rw [← HR2.out] at hbit
      have hdb := hfs.get hd
      have hhalf := half_bit (val 4294967296 zs) t
      have HHALF := Lib.hid hhalf
      have HI' := HI.out.2.2
      rcases (by omega : val 4294967296 zs / 2 ^ t % 2 = 0 ∨ val 4294967296 zs / 2 ^ t % 2 = 1) with hz | hz
      · have hb := bit_and hdb (hbit.trans hz)
        have hb' : (bits .and .u32 ((d : Int) / 2 ^ r) 1 == 1) = false := by rw [hb]; rfl
        have HV8 : Hid (val 4294967296 l7 = val 4294967296 la ^ (val 4294967296 zs / 2 ^ t) * 4294967296 ^ k % N) := by
          show _ = _
          have hv7 := HV7.out
          rw [HI'] at hv7
          rw [HHALF.out, hz, Nat.add_zero]
          exact power_zero HRR.out.odd HLT7.out hv7
        clear hbit hd hhalf hz HI' hb
        go_wp2
        go_roundw
        case rel => exact ⟨t, c7, A7, l7, by omega, by go_num, rfl, ⟨HR7.out, hf7, HV8.out⟩, bel7, bel67⟩
        case measure => simp [intOf]
      · have hb := bit_and hdb (hbit.trans hz)
        have hb' : (bits .and .u32 ((d : Int) / 2 ^ r) 1 == 1) = true := by rw [hb]; rfl
        have HZ := Lib.hid hz
        have HHI := Lib.hid HI'
        clear hbit hd hhalf hz HI' hb
        go_wp2_with fail
        refine (short_any g k N n0 A c _ ln A7 c7 l7 Af cf lf w7 (HRR.out.below bel7) HR7.out hf7 (HRF6.out.below bel67) hff HLT7.out).mono ?_
        rintro e w8 ⟨A8, c8, l8, rfl, hr8, hf8, hlt8, hv8, hb8⟩
        have bel8 := below_then bel7 hb8
        have bel68 := below_then bel67 hb8
        have HR8 := Lib.hid hr8
        have HV8 : Hid (val 4294967296 l8 = val 4294967296 la ^ (val 4294967296 zs / 2 ^ t) * 4294967296 ^ k % N) := by
          show _ = _
          have hv7 := HV7.out
          rw [HHI.out] at hv7
          rw [HVF.out] at hv8
          rw [HHALF.out, HZ.out]
          exact power_one (b := 0) HRR.out.odd HLT7.out hlt8 hv7 hv8
        clear hr8 hv8 hlt8
        go_wp2
        go_roundw
        case rel => exact ⟨t, c8, A8, l8, by omega, by go_num, rfl, ⟨HR8.out, hf8, HV8.out⟩, bel8, bel68⟩
        case measure => simp [intOf]
end Go.Proofs.YtlcoebenkhafcaaGreatDoor
namespace Go.Proofs.YtlcoebenkhafcaaGreatDoor
set_option linter.unusedVariables false
theorem n0_step {n low k : Nat} (hlow : low % 2 = 1) (h : (n * low + 1) % 2 ^ k = 0) (hn : n < 2 ^ k) (b : Nat) (hb : b = (n * low + 1) / 2 ^ k % 2) : ((n + b * 2 ^ k) * low + 1) % 2 ^ (k + 1) = 0 ∧ n + b * 2 ^ k < 2 ^ (k + 1) := by
  have hp : 0 < 2 ^ k := Nat.two_pow_pos k
  have e := Nat.div_add_mod (n * low + 1) (2 ^ k)
  rw [h, Nat.add_zero] at e
  generalize (n * low + 1) / 2 ^ k = q at *
  have hb1 : b ≤ 1 := by omega
  have e2 : (n + b * 2 ^ k) * low + 1 = 2 ^ k * (q + b * low) := by
    rw [Nat.add_mul, Nat.mul_add, e, Nat.mul_assoc, Nat.mul_left_comm]
    omega
  refine ⟨?_, ?_⟩
  · have h2 : (q + b * low) % 2 = 0 := by
      rcases (by omega : b = 0 ∨ b = 1) with rfl | rfl
      · omega
      · omega
    obtain ⟨t, ht⟩ := Nat.dvd_of_mod_eq_zero h2
    rw [e2, ht, ← Nat.mul_assoc, Nat.pow_succ, Nat.mul_mod_right]
  · rw [Nat.pow_succ]
    have : b * 2 ^ k ≤ 1 * 2 ^ k := Nat.mul_le_mul_right _ hb1
    omega
theorem n0_one {x y low : Nat} {k : Nat} (hlow : low % 2 = 1) (hx : x < 2 ^ k) (hy : y < 2 ^ k) (h : (x * low + 1) % 2 ^ k = 0) (h' : (y * low + 1) % 2 ^ k = 0) : x = y := by
  have key : ∀ x y : Nat, y ≤ x → x < 2 ^ k → (x * low + 1) % 2 ^ k = 0 → (y * low + 1) % 2 ^ k = 0 → x = y := by
    intro x y hyx hx h h'
    have hle : y * low + 1 ≤ x * low + 1 := by have := Nat.mul_le_mul_right low hyx; omega
    have h1 := mod_sub (n := 2 ^ k) hle (by rw [h, h'])
    have e : x * low + 1 - (y * low + 1) = (x - y) * low := by rw [Nat.sub_mul]; omega
    rw [e] at h1
    have h2 : 2 ^ k ∣ x - y := (Nat.Coprime.symm (odd_coprime hlow k)).dvd_of_dvd_mul_right h1
    rcases Nat.eq_zero_or_pos (x - y) with h3 | h3
    · omega
    · have := Nat.le_of_dvd h3 h2
      omega
  rcases Nat.le_total y x with h1 | h1
  · exact key x y h1 hx h h'
  · exact (key y x h1 hy h' h).symm
theorem n0_forms {x low : Nat} (h : x * low % 4294967296 = 4294967295) : (x * low + 1) % 2 ^ 32 = 0 := by
  rw [show (2 : Nat) ^ 32 = 4294967296 from rfl]; omega
end Go.Proofs.YtlcoebenkhafcaaGreatDoor
