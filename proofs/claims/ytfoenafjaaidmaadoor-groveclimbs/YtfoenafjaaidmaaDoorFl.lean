/-
  Whole numbers as words of 64 bits (float64): their value, order, sums, and back. No condition.
-/
import Derived.Laws.Cover3
import Derived.Laws.ComplexArith
namespace Go.Proofs.YtfoenafjaaidmaaDoor
open Ieee
set_option linter.unusedVariables false
set_option linter.unusedSimpArgs false

/-- The least place of a word of 64 bits. -/
theorem least : double.leastPlace = -1074 := by decide
theorem bin : double.binade = 2 ^ 52 := rfl
theorem inf : double.infRung = 2047 * 2 ^ 52 := by decide
theorem sgn : double.signWeight = 2 ^ 63 := rfl
/-- A number's value, in units of the least place. -/
def svD : Datum → Int
  | .number s m i => signed s m (i + 1074).toNat
  | _ => 0
/-- A finite datum, no place below the least. -/
def FinD (d : Datum) : Prop := ∃ s m i, d = .number s m i ∧ -1074 ≤ i
/-- A finite word, and its value. -/
def Fin (x : Nat) : Prop := FinD (double.read x)
def sv (x : Nat) : Int := svD (double.read x)

theorem signed_eq (s : Bool) (m u : Nat) : signed s m u = if s then -((m * 2 ^ u : Nat) : Int) else ((m * 2 ^ u : Nat) : Int) := by
  unfold signed; rw [Nat.shiftLeft_eq]
theorem signed_up (s : Bool) (m u v : Nat) : signed s m (u + v) = signed s m u * (2 ^ v : Nat) := by
  rw [signed_eq, signed_eq, Nat.pow_add, ← Nat.mul_assoc]
  cases s
  · simp
  · simp [Int.neg_mul]
theorem pow_pos_int (v : Nat) : (0 : Int) < (2 ^ v : Nat) := by exact_mod_cast Nat.pow_pos (by omega)
theorem compare_mul (a b : Int) (v : Nat) : compare (a * (2 ^ v : Nat)) (b * (2 ^ v : Nat)) = compare a b := by
  have hp := pow_pos_int v
  rcases Int.lt_trichotomy a b with h | h | h
  · have : a * (2 ^ v : Nat) < b * (2 ^ v : Nat) := Int.mul_lt_mul_of_pos_right h hp
    rw [Int.compare_eq_lt.2 h, Int.compare_eq_lt.2 this]
  · subst h; simp
  · have : b * (2 ^ v : Nat) < a * (2 ^ v : Nat) := Int.mul_lt_mul_of_pos_right h hp
    rw [Int.compare_eq_gt.2 h, Int.compare_eq_gt.2 this]
/-- The order of finite data is that of their values. -/
theorem order_fin {d e : Datum} (hd : FinD d) (he : FinD e) : d.order e = some (compare (svD d) (svD e)) := by
  obtain ⟨s, m, i, rfl, hi⟩ := hd
  obtain ⟨t, n, j, rfl, hj⟩ := he
  show some (compare (signed s m (i - min i j).toNat) (signed t n (j - min i j).toNat)) = _
  have e1 : (i + 1074).toNat = (i - min i j).toNat + (min i j + 1074).toNat := by omega
  have e2 : (j + 1074).toNat = (j - min i j).toNat + (min i j + 1074).toNat := by omega
  simp only [svD]
  rw [e1, e2, signed_up, signed_up, compare_mul]
theorem word_order {x y : Nat} (hx : Fin x) (hy : Fin y) : double.order x y = some (compare (sv x) (sv y)) := order_fin hx hy
/-- Every word that is read has no place below the least. -/
theorem read_cases (x : Nat) : FinD (double.read x) ∨ (∃ s, double.read x = .infinity s) ∨ (∃ s t, double.read x = .nan s t) := by
  unfold Format.read
  rw [least]
  simp only []
  split
  · exact .inl ⟨_, _, _, rfl, by omega⟩
  · split
    · exact .inl ⟨_, _, _, rfl, by omega⟩
    · split
      · exact .inr (.inl ⟨_, rfl⟩)
      · exact .inr (.inr ⟨_, _, rfl⟩)

theorem cut_none (neg : Bool) (n : Nat) : Toward.even.cut neg n 0 = n := by
  simp [Toward.cut, Nat.mod_one]
theorem cut_exact (neg : Bool) (n drop : Nat) (hn : n ≠ 0) (h : 2 ^ drop ∣ n) : Toward.even.cut neg n drop = n / 2 ^ drop := by
  have hle : 2 ^ drop ≤ n := Nat.le_of_dvd (by omega) h
  have hlog : drop ≤ n.log2 := (Nat.le_log2 hn).2 hle
  have hmin : min drop (n.log2 + 2) = drop := by omega
  have hm : n % 2 ^ drop = 0 := Nat.mod_eq_zero_of_dvd h
  have hp : 0 < 2 ^ drop := Nat.pow_pos (by omega)
  simp only [Toward.cut, hmin, Nat.shiftLeft_eq, Nat.one_mul, hm, Nat.mul_zero]
  have e1 : decide (2 ^ drop < 0) = false := by simp
  have e2 : (2 ^ drop == 0) = false := by simp
  simp [e2]
theorem read_word (neg : Bool) (r : Nat) (hr : r < 2047 * 2 ^ 52) : double.read (double.word neg r) = if r < 2 ^ 52 then .number neg r (-1074) else .number neg (2 ^ 52 + r % 2 ^ 52) (-1074 + ((r / 2 ^ 52 - 1 : Nat) : Int)) := by
  have h1 : double.word neg r % 2 ^ 63 = r := by
    unfold Format.word
    rw [sgn]
    cases neg
    · simp; omega
    · simp; omega
  have h2 : (double.word neg r / 2 ^ 63 % 2 == 1) = neg := by
    unfold Format.word
    rw [sgn]
    cases neg
    · simp; omega
    · simp; omega
  unfold Format.read
  rw [sgn, bin, inf, least]
  simp only [h1, h2]
  by_cases hb : r < 2 ^ 52
  · rw [if_pos hb, if_pos hb]
  · rw [if_neg hb, if_neg hb, if_pos hr]
theorem log2_bounds {m : Nat} (h : m ≠ 0) : 2 ^ m.log2 ≤ m ∧ m < 2 ^ (m.log2 + 1) := ⟨(Nat.le_log2 h).1 (Nat.le_refl _), Nat.lt_log2_self⟩
/-- The word of a rung. -/
theorem read_rung (neg : Bool) (u kept : Nat) (hu : u < 2000) (hk : kept < 2 ^ 53) (hl : 2 ^ 52 ≤ kept ∨ u = 0) : double.read (double.word neg (min (u * 2 ^ 52 + kept) (2047 * 2 ^ 52))) = .number neg kept (-1074 + (u : Int)) := by
  have h1 : u * 2 ^ 52 + kept < 2047 * 2 ^ 52 := by
    have : u * 2 ^ 52 ≤ 1999 * 2 ^ 52 := Nat.mul_le_mul_right _ (by omega)
    omega
  rw [Nat.min_eq_left (by omega), read_word neg _ h1]
  by_cases hb : 2 ^ 52 ≤ kept
  · obtain ⟨f, rfl⟩ : ∃ f, kept = 2 ^ 52 + f := ⟨kept - 2 ^ 52, by omega⟩
    have hf : f < 2 ^ 52 := by omega
    have e : u * 2 ^ 52 + (2 ^ 52 + f) = f + 2 ^ 52 * (u + 1) := by rw [Nat.mul_add, Nat.mul_comm]; omega
    have e1 : (f + 2 ^ 52 * (u + 1)) % 2 ^ 52 = f := by rw [Nat.add_mul_mod_self_left, Nat.mod_eq_of_lt hf]
    have e2 : (f + 2 ^ 52 * (u + 1)) / 2 ^ 52 = u + 1 := by rw [Nat.add_mul_div_left _ _ (by omega), Nat.div_eq_of_lt hf]; omega
    rw [e, e1, e2, if_neg (by omega)]
    congr 1
  · have hu0 : u = 0 := hl.resolve_left hb
    subst hu0
    rw [if_pos (by omega)]
    congr 1
    omega
/-- A number that the format has is written as itself. -/
theorem read_nearest (neg : Bool) (mag : Nat) (place : Int) (h0 : mag ≠ 0) (hp : -1074 ≤ place) (k : Nat) (hk : mag.log2 ≤ 52 + k) (hd : 2 ^ k ∣ mag) (ht : place + mag.log2 ≤ 900) :
    ∃ kept last, double.read (double.nearest neg mag place) = .number neg kept last ∧ -1074 ≤ last ∧ kept * 2 ^ (last + 1074).toNat = mag * 2 ^ (place + 1074).toNat := by
  obtain ⟨b1, b2⟩ := log2_bounds h0
  unfold Format.nearest
  rw [if_neg h0, least, inf, bin, show double.fractionBits = 52 from rfl]
  simp only []
  generalize hlast : max (place + (mag.log2 : Int) - ((52 : Nat) : Int)) (-1074) = last
  by_cases hc : last ≤ place
  · have e1 : (last - place).toNat = 0 := by omega
    rw [e1, cut_none, Nat.shiftLeft_eq]
    obtain ⟨u, hu⟩ : ∃ u : Nat, place = last + (u : Int) := ⟨(place - last).toNat, by omega⟩
    have e2 : (place - last).toNat = u := by omega
    have hul : mag.log2 + u ≤ 52 := by omega
    have hlt : mag * 2 ^ u < 2 ^ 53 := by
      have : mag * 2 ^ u < 2 ^ (mag.log2 + 1) * 2 ^ u := Nat.mul_lt_mul_of_pos_right b2 (Nat.pow_pos (by omega))
      rw [← Nat.pow_add] at this
      exact Nat.lt_of_lt_of_le this (Nat.pow_le_pow_right (by omega) (by omega))
    have hge : 2 ^ 52 ≤ mag * 2 ^ u ∨ (last - -1074).toNat = 0 := by
      by_cases hl : last = -1074
      · exact .inr (by omega)
      · refine .inl ?_
        have : mag.log2 + u = 52 := by omega
        rw [← this, Nat.pow_add]
        exact Nat.mul_le_mul_right _ b1
    rw [e2, read_rung neg _ _ (by omega) hlt hge]
    refine ⟨_, _, rfl, by omega, ?_⟩
    have e3 : (place + 1074).toNat = u + (-1074 + (((last - -1074).toNat : Nat) : Int) + 1074).toNat := by omega
    rw [e3, Nat.pow_add, Nat.mul_assoc]
  · have hl : last = place + (mag.log2 : Int) - 52 := by omega
    obtain ⟨d, hdd⟩ : ∃ d : Nat, mag.log2 = 52 + d := ⟨mag.log2 - 52, by omega⟩
    have e1 : (last - place).toNat = d := by omega
    have e2 : (place - last).toNat = 0 := by omega
    have hdk : 2 ^ d ∣ mag := Nat.dvd_trans (Nat.pow_dvd_pow 2 (by omega)) hd
    rw [e1, e2, Nat.shiftLeft_zero, cut_exact neg mag d h0 hdk]
    obtain ⟨q, hq⟩ := hdk
    have hpd : 0 < 2 ^ d := Nat.pow_pos (by omega)
    have hqv : mag / 2 ^ d = q := by rw [hq, Nat.mul_div_cancel_left _ hpd]
    rw [hqv]
    rw [hdd] at b1 b2
    have hlt : q < 2 ^ 53 := by
      rw [hq, show 52 + d + 1 = d + 53 by omega, Nat.pow_add] at b2
      exact Nat.lt_of_mul_lt_mul_left b2
    have hge : 2 ^ 52 ≤ q := by
      rw [hq, show 52 + d = d + 52 by omega, Nat.pow_add] at b1
      exact Nat.le_of_mul_le_mul_left b1 hpd
    rw [read_rung neg _ _ (by omega) hlt (.inl hge)]
    refine ⟨_, _, rfl, by omega, ?_⟩
    have e3 : (-1074 + (((last - -1074).toNat : Nat) : Int) + 1074).toNat = d + (place + 1074).toNat := by omega
    rw [e3, Nat.pow_add, ← Nat.mul_assoc, Nat.mul_comm q, ← hq]

theorem write_zero (neg : Bool) (place : Int) : double.read (double.write (.number neg 0 place)) = .number neg 0 (-1074) := by
  show double.read (double.nearest neg 0 place) = _
  unfold Format.nearest
  rw [if_pos rfl, read_word neg 0 (by omega), if_pos (by omega)]
/-- A number that the format has is written as a finite word of its value. -/
theorem write_sv (neg : Bool) (mag : Nat) (place : Int) (hp : -1074 ≤ place) (k : Nat) (hk : mag.log2 ≤ 52 + k) (hd : 2 ^ k ∣ mag) (ht : place + mag.log2 ≤ 900) :
    Fin (double.write (.number neg mag place)) ∧ sv (double.write (.number neg mag place)) = svD (.number neg mag place) := by
  by_cases h0 : mag = 0
  · subst h0
    unfold Fin sv
    rw [write_zero]
    refine ⟨⟨_, _, _, rfl, by omega⟩, ?_⟩
    simp [svD, signed_eq]
  · obtain ⟨kept, last, hr, hl, he⟩ := read_nearest neg mag place h0 hp k hk hd ht
    unfold Fin sv
    show FinD (double.read (double.nearest neg mag place)) ∧ svD (double.read (double.nearest neg mag place)) = _
    rw [hr]
    refine ⟨⟨_, _, _, rfl, hl⟩, ?_⟩
    simp only [svD, signed_eq, he]
/-- The unit, in units of the least place. -/
def big : Nat := 1074
def one_ : Nat := 2 ^ big
theorem one_pos : 0 < one_ := by unfold one_; exact Nat.pow_pos (by omega)
/-- The word x is the whole number n. -/
def Is (x : Nat) (n : Int) : Prop := Fin x ∧ sv x = n * (one_ : Nat)
theorem log2_le {m j : Nat} (h : m < 2 ^ (j + 1)) : m.log2 ≤ j := by
  by_cases h0 : m = 0
  · subst h0; simp
  · have := (Nat.log2_lt h0).2 h
    omega
theorem fits {m : Nat} (h : m ≤ 2 ^ 53) : ∃ k, m.log2 ≤ 52 + k ∧ 2 ^ k ∣ m := by
  by_cases h1 : m = 2 ^ 53
  · subst h1
    exact ⟨1, log2_le (by decide), by decide⟩
  · exact ⟨0, log2_le (by omega), by simp⟩
theorem is_write (neg : Bool) (m : Nat) (h : m ≤ 2 ^ 53) : Is (double.write (.number neg m 0)) (if neg then -(m : Int) else m) := by
  obtain ⟨k, hk, hd⟩ := fits h
  have hl : m.log2 ≤ 53 := log2_le (by omega)
  obtain ⟨h1, h2⟩ := write_sv neg m 0 (by omega) k hk hd (by omega)
  refine ⟨h1, ?_⟩
  rw [h2]
  simp only [svD, signed_eq, one_, show ((0 : Int) + 1074).toNat = big from rfl]
  cases neg
  · simp only [Bool.false_eq_true, if_false]; rw [Int.natCast_mul]
  · simp only [if_true]; rw [Int.natCast_mul, Int.neg_mul]
/-- A whole number up to 2^53 is its word. -/
theorem is_ofInt (n : Int) (h1 : -9007199254740992 ≤ n) (h2 : n ≤ 9007199254740992) : Is (floatOfInt .f64 n) n := by
  have := is_write (decide (n < 0)) n.natAbs (by omega)
  have e : (if decide (n < 0) then -((n.natAbs : Nat) : Int) else ((n.natAbs : Nat) : Int)) = n := by
    by_cases h : n < 0
    · simp [h]; omega
    · simp [h]; omega
  rw [e] at this
  exact this
theorem one_int_pos : (0 : Int) < (one_ : Nat) := by exact_mod_cast one_pos
theorem Is.inj {x : Nat} {m n : Int} (h1 : Is x m) (h2 : Is x n) : m = n := by
  have := h1.2.symm.trans h2.2
  exact Int.eq_of_mul_eq_mul_right (by have := one_int_pos; omega) this
/-- The order of words that are whole numbers is the numbers'. -/
theorem is_order {x y : Nat} {m n : Int} (hx : Is x m) (hy : Is y n) : FloatKind.f64.format.order x y = some (compare m n) := by
  show double.order x y = _
  rw [word_order hx.1 hy.1, hx.2, hy.2]
  exact congrArg some (compare_mul m n big)
theorem is_eq {x y : Nat} {m n : Int} (hx : Is x m) (hy : Is y n) : (FloatKind.f64.format.order x y == some .eq) = decide (m = n) := by
  rw [is_order hx hy]
  rcases Int.lt_trichotomy m n with h | h | h
  · rw [Int.compare_eq_lt.2 h]; simp; omega
  · subst h; simp
  · rw [Int.compare_eq_gt.2 h]; simp; omega
/-- A finite word is equal to a whole number's just if it is one. -/
theorem fin_eq {x y : Nat} {n : Int} (hx : Fin x) (hy : Is y n) : (FloatKind.f64.format.order x y == some .eq) = decide (sv x = n * (one_ : Nat)) := by
  show (double.order x y == some .eq) = _
  rw [word_order hx hy.1, hy.2]
  rcases Int.lt_trichotomy (sv x) (n * (one_ : Nat)) with h | h | h
  · rw [Int.compare_eq_lt.2 h]; simp; omega
  · rw [h]; simp
  · rw [Int.compare_eq_gt.2 h]; simp; omega

/-- Cut towards zero. -/
theorem cut_zero (neg : Bool) (n drop : Nat) : Toward.zero.cut neg n drop = n / 2 ^ drop := by
  simp only [Toward.cut, Nat.shiftLeft_eq, Nat.one_mul, Bool.toNat_false, Nat.add_zero]
  by_cases h : drop ≤ n.log2 + 2
  · rw [Nat.min_eq_left h]
  · have hn : n < 2 ^ (n.log2 + 1) := Nat.lt_log2_self
    rw [Nat.min_eq_right (by omega), Nat.div_eq_of_lt (Nat.lt_of_lt_of_le hn (Nat.pow_le_pow_right (by omega) (by omega))), Nat.div_eq_of_lt (Nat.lt_of_lt_of_le hn (Nat.pow_le_pow_right (by omega) (by omega)))]
theorem tdiv_signed (s : Bool) (a b : Nat) : Int.tdiv (if s then -(a : Int) else (a : Int)) (b : Int) = if s then -((a / b : Nat) : Int) else ((a / b : Nat) : Int) := by
  cases s
  · simp only [Bool.false_eq_true, if_false]
    rw [Int.tdiv_eq_ediv_of_nonneg (by omega), Int.natCast_ediv]
  · simp only [if_true]
    rw [Int.neg_tdiv, Int.tdiv_eq_ediv_of_nonneg (by omega), Int.natCast_ediv]
/-- A finite word's whole part. -/
def whole (x : Nat) : Int := (sv x).tdiv (one_ : Nat)
theorem toInt_fin {x : Nat} (hx : Fin x) : (double.read x).toInt .zero = some (whole x) := by
  obtain ⟨s, m, i, he, hi⟩ := hx
  unfold whole sv
  rw [he]
  simp only [Datum.toInt, Datum.integral, cut_zero, svD]
  rw [signed_eq, signed_eq, Nat.pow_zero, Nat.mul_one, tdiv_signed]
  have e : (m <<< i.toNat) / 2 ^ (-i).toNat = m * 2 ^ (i + 1074).toNat / one_ := by
    rw [Nat.shiftLeft_eq]
    by_cases h : 0 ≤ i
    · have e1 : (-i).toNat = 0 := by omega
      have e2 : (i + 1074).toNat = i.toNat + big := by unfold big; omega
      rw [e1, e2, Nat.pow_zero, Nat.div_one, Nat.pow_add, ← Nat.mul_assoc, one_, Nat.mul_div_cancel _ (Nat.pow_pos (by omega))]
    · have e1 : i.toNat = 0 := by omega
      have e2 : big = (i + 1074).toNat + (-i).toNat := by unfold big; omega
      rw [e1, Nat.pow_zero, Nat.mul_one, one_, e2, Nat.pow_add, Nat.mul_comm m, Nat.mul_div_mul_left _ _ (Nat.pow_pos (by omega))]
  rw [e]
theorem whole_is {x : Nat} {n : Int} (h : Is x n) : whole x = n := by
  unfold whole
  rw [h.2, Int.mul_tdiv_cancel _ (by have := one_int_pos; omega)]
theorem toInt_is {x : Nat} {n : Int} (h : Is x n) (h1 : -9223372036854775808 ≤ n) (h2 : n ≤ 9223372036854775807) : floatToIntVal .f64 x .i64 = some n := by
  unfold floatToIntVal
  show (match (double.read x).toInt .zero with | some n => if IntKind.i64.min ≤ n ∧ n ≤ IntKind.i64.max then some n else none | none => none) = _
  rw [toInt_fin h.1, whole_is h]
  exact if_pos ⟨by simpa [IntKind.min, IntKind.bits, IntKind.signed] using h1, by simpa [IntKind.max, IntKind.bits, IntKind.signed] using h2⟩
/-- int(x) of a finite word within the integers. -/
theorem toInt_whole {x : Nat} (h : Fin x) (h1 : -9223372036854775808 ≤ whole x) (h2 : whole x ≤ 9223372036854775807) : floatToIntVal .f64 x .i64 = some (whole x) := by
  unfold floatToIntVal
  show (match (double.read x).toInt .zero with | some n => if IntKind.i64.min ≤ n ∧ n ≤ IntKind.i64.max then some n else none | none => none) = _
  rw [toInt_fin h]
  exact if_pos ⟨by simpa [IntKind.min, IntKind.bits, IntKind.signed] using h1, by simpa [IntKind.max, IntKind.bits, IntKind.signed] using h2⟩
/-- A finite word is whole just if its whole part is itself. -/
theorem is_whole {x : Nat} (h : Fin x) (e : sv x = whole x * (one_ : Nat)) : Is x (whole x) := ⟨h, e⟩
/-- Between two whole numbers. -/
theorem whole_le {x : Nat} {n : Int} (hn : 0 ≤ n) (h : sv x ≤ n * (one_ : Nat)) (h0 : -(n * (one_ : Nat)) ≤ sv x) : -n ≤ whole x ∧ whole x ≤ n := by
  have hp := one_int_pos
  unfold whole
  rcases Int.le_total 0 (sv x) with hs | hs
  · rw [Int.tdiv_eq_ediv_of_nonneg hs]
    have h1 : sv x / (one_ : Nat) ≤ n := Int.ediv_le_of_le_mul hp h
    have h2 : 0 ≤ sv x / (one_ : Nat) := Int.ediv_nonneg hs (by omega)
    omega
  · obtain ⟨y, hy⟩ : ∃ y, sv x = -y := ⟨-(sv x), by omega⟩
    rw [hy] at h h0 hs ⊢
    rw [Int.neg_tdiv, Int.tdiv_eq_ediv_of_nonneg (by omega)]
    have h1 : y / (one_ : Nat) ≤ n := Int.ediv_le_of_le_mul hp (by omega)
    have h2 : 0 ≤ y / (one_ : Nat) := Int.ediv_nonneg (by omega) (by omega)
    omega

section
variable {x y : Nat} {n : Int}
theorem geq_fin (hx : Fin x) (hy : Is y n) : (FloatKind.f64.format.order x y == some .gt || FloatKind.f64.format.order x y == some .eq) = decide (n * (one_ : Nat) ≤ sv x) := by
  show (double.order x y == some .gt || double.order x y == some .eq) = _
  rw [word_order hx hy.1, hy.2]
  rcases Int.lt_trichotomy (sv x) (n * (one_ : Nat)) with h | h | h
  · rw [Int.compare_eq_lt.2 h]; simp; omega
  · rw [h]; simp
  · rw [Int.compare_eq_gt.2 h]; simp; omega
theorem leq_fin (hx : Fin x) (hy : Is y n) : (FloatKind.f64.format.order x y == some .lt || FloatKind.f64.format.order x y == some .eq) = decide (sv x ≤ n * (one_ : Nat)) := by
  show (double.order x y == some .lt || double.order x y == some .eq) = _
  rw [word_order hx hy.1, hy.2]
  rcases Int.lt_trichotomy (sv x) (n * (one_ : Nat)) with h | h | h
  · rw [Int.compare_eq_lt.2 h]; simp; omega
  · rw [h]; simp
  · rw [Int.compare_eq_gt.2 h]; simp; omega
theorem lss_fin (hx : Fin x) (hy : Is y n) : (FloatKind.f64.format.order x y == some .lt) = decide (sv x < n * (one_ : Nat)) := by
  show (double.order x y == some .lt) = _
  rw [word_order hx hy.1, hy.2]
  rcases Int.lt_trichotomy (sv x) (n * (one_ : Nat)) with h | h | h
  · rw [Int.compare_eq_lt.2 h]; simp; omega
  · rw [h]; simp
  · rw [Int.compare_eq_gt.2 h]; simp; omega
theorem gtr_fin (hx : Fin x) (hy : Is y n) : (FloatKind.f64.format.order x y == some .gt) = decide (n * (one_ : Nat) < sv x) := by
  show (double.order x y == some .gt) = _
  rw [word_order hx hy.1, hy.2]
  rcases Int.lt_trichotomy (sv x) (n * (one_ : Nat)) with h | h | h
  · rw [Int.compare_eq_lt.2 h]; simp; omega
  · rw [h]; simp
  · rw [Int.compare_eq_gt.2 h]; simp; omega
/-- What is not finite: no number, or beyond all of them. -/
theorem order_not (hx : ¬ Fin x) (hy : Fin y) : double.order x y = none ∨ double.order x y = some .lt ∨ double.order x y = some .gt := by
  obtain ⟨t, m, j, he, _⟩ := hy
  rcases read_cases x with h | ⟨s, h⟩ | ⟨s, f, h⟩
  · exact absurd h hx
  · unfold Format.order
    rw [h, he]
    cases s
    · exact .inr (.inr rfl)
    · exact .inr (.inl rfl)
  · unfold Format.order
    rw [h, he]
    exact .inl rfl
theorem eq_not (hx : ¬ Fin x) (hy : Fin y) : (FloatKind.f64.format.order x y == some .eq) = false := by
  show (double.order x y == some .eq) = false
  rcases order_not hx hy with h | h | h <;> rw [h] <;> rfl
/-- What lies between two finite words is finite. -/
theorem between_not {z : Nat} (hx : ¬ Fin x) (hy : Fin y) (hz : Fin z) : ((FloatKind.f64.format.order x y == some .gt || FloatKind.f64.format.order x y == some .eq) && (FloatKind.f64.format.order x z == some .lt || FloatKind.f64.format.order x z == some .eq)) = false := by
  show ((double.order x y == some .gt || double.order x y == some .eq) && (double.order x z == some .lt || double.order x z == some .eq)) = false
  obtain ⟨t, m, j, he, _⟩ := hy
  obtain ⟨t', m', j', he', _⟩ := hz
  unfold Format.order
  rcases read_cases x with h | ⟨s, h⟩ | ⟨s, f, h⟩
  · exact absurd h hx
  · rw [h, he, he']
    cases s <;> rfl
  · rw [h, he, he']
    rfl
end
/-- A value in units, up to 2^53 of them, that is a whole number's. -/
theorem write_is (neg : Bool) (mag : Nat) (place : Int) (hp : -1074 ≤ place) (hp2 : place ≤ 500) (a : Nat) (ha : a < 2 ^ 53) (he : mag * 2 ^ (place + 1074).toNat = a * one_) : Fin (double.write (.number neg mag place)) ∧ sv (double.write (.number neg mag place)) = svD (.number neg mag place) := by
  by_cases h0 : place ≤ 0
  · obtain ⟨u, hu⟩ : ∃ u : Nat, place = -(u : Int) := ⟨(-place).toNat, by omega⟩
    have e : mag = a * 2 ^ u := by
      have e2 : big = u + (place + 1074).toNat := by unfold big; omega
      rw [one_, e2, Nat.pow_add, ← Nat.mul_assoc] at he
      exact Nat.eq_of_mul_eq_mul_right (Nat.pow_pos (by omega)) he
    have hl : mag.log2 ≤ 52 + u := by
      apply log2_le
      rw [e, show 52 + u + 1 = 53 + u by omega, Nat.pow_add]
      exact Nat.mul_lt_mul_of_pos_right ha (Nat.pow_pos (by omega))
    exact write_sv neg mag place hp u hl (by rw [e]; exact Nat.dvd_mul_left _ _) (by omega)
  · obtain ⟨u, hu⟩ : ∃ u : Nat, place = (u : Int) := ⟨place.toNat, by omega⟩
    have e : mag * 2 ^ u = a := by
      have e2 : (place + 1074).toNat = u + big := by unfold big; omega
      rw [one_, e2, Nat.pow_add, ← Nat.mul_assoc] at he
      exact Nat.eq_of_mul_eq_mul_right (Nat.pow_pos (by omega)) he
    have hm : mag ≤ a := by
      rw [← e]
      exact Nat.le_mul_of_pos_right _ (Nat.pow_pos (by omega))
    have hl : mag.log2 ≤ 52 + 0 := log2_le (by omega)
    exact write_sv neg mag place hp 0 hl (by simp) (by omega)
theorem svD_neg (total : Int) (base : Int) (b : Bool) : svD (.number (if total = 0 then b else decide (total < 0)) total.natAbs base) = total * (2 ^ (base + 1074).toNat : Nat) := by
  simp only [svD, signed_eq]
  by_cases h : total = 0
  · subst h; simp
  · rw [if_neg h]
    by_cases hn : total < 0
    · simp only [hn, decide_true, if_true]
      rw [Int.natCast_mul, ← Int.neg_mul, show -((total.natAbs : Nat) : Int) = total by omega]
    · simp only [hn, decide_false, Bool.false_eq_true, if_false]
      rw [Int.natCast_mul, show ((total.natAbs : Nat) : Int) = total by omega]
theorem sum_is {d e : Datum} {m n : Int} (hd : FinD d) (he : FinD e) (vd : svD d = m * (one_ : Nat)) (ve : svD e = n * (one_ : Nat)) (hpl : ∀ s k i t l j, d = .number s k i → e = .number t l j → min i j ≤ 500) (h1 : -9007199254740992 < m + n) (h2 : m + n < 9007199254740992) : ∃ r, (d.sum e).map double.write = some r ∧ Is r (m + n) := by
  obtain ⟨s, k, i, rfl, hi⟩ := hd
  obtain ⟨t, l, j, rfl, hj⟩ := he
  have hb := hpl s k i t l j rfl rfl
  have e1 : (i + 1074).toNat = (i - min i j).toNat + (min i j + 1074).toNat := by omega
  have e2 : (j + 1074).toNat = (j - min i j).toNat + (min i j + 1074).toNat := by omega
  simp only [svD] at vd ve
  rw [e1, signed_up] at vd
  rw [e2, signed_up] at ve
  have hbase : -1074 ≤ min i j := by omega
  simp only [Datum.sum, Option.map_some]
  generalize signed s k (i - min i j).toNat = A at *
  generalize signed t l (j - min i j).toNat = B at *
  generalize min i j = base at *
  have hv : (A + B) * (2 ^ (base + 1074).toNat : Nat) = (m + n) * (one_ : Nat) := by rw [Int.add_mul, Int.add_mul, vd, ve]
  have hab : (A + B).natAbs * 2 ^ (base + 1074).toNat = (m + n).natAbs * one_ := by
    have := congrArg Int.natAbs hv
    simpa [Int.natAbs_mul] using this
  refine ⟨_, rfl, ?_⟩
  obtain ⟨w1, w2⟩ := write_is (if A + B = 0 then s && t else decide (A + B < 0)) (A + B).natAbs base hbase hb (m + n).natAbs (by omega) hab
  refine ⟨w1, ?_⟩
  rw [w2, svD_neg, hv]

/-- The magnitude in units. -/
theorem mag_is {x : Nat} {n : Int} (h : Is x n) {s : Bool} {k : Nat} {i : Int} (e : double.read x = .number s k i) : k * 2 ^ (i + 1074).toNat = n.natAbs * one_ := by
  have h2 := h.2
  unfold sv at h2
  rw [e] at h2
  simp only [svD, signed_eq] at h2
  generalize k * 2 ^ (i + 1074).toNat = K at *
  have := congrArg Int.natAbs h2
  rw [Int.natAbs_mul] at this
  cases s
  · simpa using this
  · simpa using this
theorem read_place {x : Nat} {s : Bool} {k : Nat} {i : Int} (e : double.read x = .number s k i) : -1074 ≤ i ∧ (i = -1074 ∨ 2 ^ 52 ≤ k) := by
  unfold Format.read at e
  rw [least, bin] at e
  simp only [] at e
  split at e
  · injection e with _ _ e3
    exact ⟨by omega, .inl e3.symm⟩
  · split at e
    · injection e with _ e2 e3
      exact ⟨by omega, .inr (by omega)⟩
    · split at e
      · cases e
      · cases e
theorem place_le {x : Nat} {n : Int} (h : Is x n) (hn : n.natAbs < 2 ^ 53) {s : Bool} {k : Nat} {i : Int} (e : double.read x = .number s k i) : i ≤ 53 := by
  have hm := mag_is h e
  have hp := read_place e
  rcases Int.lt_or_le 53 i with hi | hi
  · exfalso
    have hk : 2 ^ 52 ≤ k := hp.2.resolve_left (by omega)
    obtain ⟨u, hu⟩ : ∃ u : Nat, i = (u : Int) := ⟨i.toNat, by omega⟩
    have e2 : (i + 1074).toNat = u + big := by unfold big; omega
    rw [e2, Nat.pow_add, ← Nat.mul_assoc, one_] at hm
    have hm2 := Nat.eq_of_mul_eq_mul_right (Nat.pow_pos (by omega)) hm
    have h1 : 2 ^ 53 ≤ 2 ^ u := Nat.pow_le_pow_right (by omega) (by omega)
    have h2 : 1 * 2 ^ u ≤ k * 2 ^ u := Nat.mul_le_mul_right _ (by omega)
    omega
  · exact hi
/-- The sum of whole numbers. -/
theorem add_is {x y : Nat} {m n : Int} (hx : Is x m) (hy : Is y n) (hm : m.natAbs < 2 ^ 53) (h1 : -9007199254740992 < m + n) (h2 : m + n < 9007199254740992) : ∃ r, floatBits .add .f64 x y = some r ∧ Is r (m + n) :=
  sum_is hx.1 hy.1 hx.2 hy.2 (fun s k i t l j e _ => by have := place_le hx hm e; omega) h1 h2
theorem fin_opposite {d : Datum} (h : FinD d) : FinD d.opposite := by
  obtain ⟨s, k, i, rfl, hi⟩ := h
  exact ⟨_, _, _, rfl, hi⟩
theorem svD_opposite {d : Datum} (h : FinD d) : svD d.opposite = -svD d := by
  obtain ⟨s, k, i, rfl, hi⟩ := h
  simp only [Datum.opposite, svD, signed_eq]
  cases s <;> simp
theorem sub_is {x y : Nat} {m n : Int} (hx : Is x m) (hy : Is y n) (hm : m.natAbs < 2 ^ 53) (h1 : -9007199254740992 < m - n) (h2 : m - n < 9007199254740992) : ∃ r, floatBits .sub .f64 x y = some r ∧ Is r (m - n) := by
  have := sum_is (n := -n) hx.1 (fin_opposite hy.1) hx.2 (by rw [svD_opposite hy.1, show svD (double.read y) = n * (one_ : Nat) from hy.2, Int.neg_mul]) (fun s k i t l j e _ => by have := place_le hx hm e; omega) (by omega) (by omega)
  rwa [show m + -n = m - n by omega] at this
/-- The product of whole numbers. -/
theorem mul_is {x y : Nat} {m n : Int} (hx : Is x m) (hy : Is y n) (hm : m.natAbs < 2 ^ 53) (hn : n.natAbs < 2 ^ 53) (h : (m * n).natAbs < 2 ^ 53) : ∃ r, floatBits .mul .f64 x y = some r ∧ Is r (m * n) := by
  obtain ⟨s, k, i, ex, hi⟩ := hx.1
  obtain ⟨t, l, j, ey, hj⟩ := hy.1
  have hmx := mag_is hx ex
  have hmy := mag_is hy ey
  have hpx := place_le hx hm ex
  have hpy := place_le hy hn ey
  have hr : floatBits .mul .f64 x y = some (double.write (.number (s ^^ t) (k * l) (i + j))) := by
    show ((double.read x).product (double.read y)).map double.write = _
    rw [ex, ey]
    rfl
  refine ⟨_, hr, ?_⟩
  have sx : sv x = m * (one_ : Nat) := hx.2
  have sy : sv y = n * (one_ : Nat) := hy.2
  by_cases hz : k * l = 0
  · have hmn : m * n = 0 := by
      rcases Nat.mul_eq_zero.1 hz with h0 | h0
      · subst h0
        rw [Nat.zero_mul] at hmx
        have : m.natAbs = 0 := by
          rcases Nat.mul_eq_zero.1 hmx.symm with h1 | h1
          · exact h1
          · have := one_pos; omega
        rw [show m = 0 by omega, Int.zero_mul]
      · subst h0
        rw [Nat.zero_mul] at hmy
        have : n.natAbs = 0 := by
          rcases Nat.mul_eq_zero.1 hmy.symm with h1 | h1
          · exact h1
          · have := one_pos; omega
        rw [show n = 0 by omega, Int.mul_zero]
    rw [hz, hmn]
    unfold Is Fin sv
    rw [write_zero]
    exact ⟨⟨_, _, _, rfl, by omega⟩, by simp [svD, signed_eq]⟩
  · have hk0 : k ≠ 0 := fun e => hz (by rw [e, Nat.zero_mul])
    have hl0 : l ≠ 0 := fun e => hz (by rw [e, Nat.mul_zero])
    have low : ∀ {x : Nat} {n : Int} {s : Bool} {k : Nat} {i : Int}, Is x n → double.read x = .number s k i → k ≠ 0 → -60 ≤ i := by
      intro x n s k i hx e hk
      rcases Int.lt_or_le i (-60) with hi | hi
      · exfalso
        have hm := mag_is hx e
        have hkb : k < 2 ^ 53 := by
          unfold Format.read at e
          rw [least, bin] at e
          simp only [] at e
          split at e
          · injection e with _ e2 _
            omega
          · split at e
            · injection e with _ e2 _
              have := Nat.mod_lt (x % double.signWeight) (show 0 < 2 ^ 52 by omega)
              omega
            · split at e
              · cases e
              · cases e
        have hp := (read_place e).1
        obtain ⟨u, hu⟩ : ∃ u : Nat, i = -(u : Int) := ⟨(-i).toNat, by omega⟩
        have e2 : big = u + (i + 1074).toNat := by unfold big; omega
        rw [one_, e2, Nat.pow_add, ← Nat.mul_assoc] at hm
        have hm2 := Nat.eq_of_mul_eq_mul_right (Nat.pow_pos (by omega)) hm
        have hpu : 2 ^ 60 ≤ 2 ^ u := Nat.pow_le_pow_right (by omega) (by omega)
        rcases Nat.eq_zero_or_pos n.natAbs with h0 | h0
        · rw [h0, Nat.zero_mul] at hm2; omega
        · have : 1 * 2 ^ u ≤ n.natAbs * 2 ^ u := Nat.mul_le_mul_right _ h0
          omega
      · exact hi
    have lx := low hx ex hk0
    have ly := low hy ey hl0
    have hmag : k * l * 2 ^ (i + j + 1074).toNat = (m * n).natAbs * one_ := by
      have e2 : (i + 1074).toNat + (j + 1074).toNat = (i + j + 1074).toNat + big := by unfold big; omega
      have : k * 2 ^ (i + 1074).toNat * (l * 2 ^ (j + 1074).toNat) = m.natAbs * one_ * (n.natAbs * one_) := by rw [hmx, hmy]
      have e3 : k * 2 ^ (i + 1074).toNat * (l * 2 ^ (j + 1074).toNat) = k * l * 2 ^ (i + j + 1074).toNat * one_ := by
        rw [Nat.mul_mul_mul_comm, ← Nat.pow_add, e2, Nat.pow_add, one_, ← Nat.mul_assoc]
      rw [e3, Nat.mul_mul_mul_comm, ← Nat.mul_assoc, ← Int.natAbs_mul] at this
      exact Nat.eq_of_mul_eq_mul_right one_pos this
    obtain ⟨w1, w2⟩ := write_is (s ^^ t) (k * l) (i + j) (by omega) (by omega) _ h hmag
    refine ⟨w1, ?_⟩
    rw [w2]
    simp only [svD, signed_eq, hmag]
    have vx : svD (double.read x) = m * (one_ : Nat) := sx
    have vy : svD (double.read y) = n * (one_ : Nat) := sy
    rw [ex] at vx
    rw [ey] at vy
    simp only [svD, signed_eq, hmx] at vx
    simp only [svD, signed_eq, hmy] at vy
    have o1 := one_int_pos
    have key : ∀ (b : Bool) (a : Int), (if b then -((a.natAbs * one_ : Nat) : Int) else ((a.natAbs * one_ : Nat) : Int)) = a * (one_ : Nat) → a = if b then -((a.natAbs : Nat) : Int) else ((a.natAbs : Nat) : Int) := by
      intro b a hh
      have : (if b then -((a.natAbs : Nat) : Int) else ((a.natAbs : Nat) : Int)) * (one_ : Nat) = a * (one_ : Nat) := by
        rw [← hh]
        cases b
        · simp
        · simp [Int.neg_mul]
      exact (Int.eq_of_mul_eq_mul_right (by omega) this).symm
    have km := key s m vx
    have kn := key t n vy
    have : m * n = if (s ^^ t) then -(((m * n).natAbs : Nat) : Int) else (((m * n).natAbs : Nat) : Int) := by
      rw [Int.natAbs_mul, Int.natCast_mul]
      conv => lhs; rw [km, kn]
      cases s <;> cases t <;> simp [Int.mul_neg, Int.neg_mul]
    conv => rhs; rw [this]
    cases hst : (s ^^ t)
    · simp
    · simp [Int.neg_mul]
end Go.Proofs.YtfoenafjaaidmaaDoor
