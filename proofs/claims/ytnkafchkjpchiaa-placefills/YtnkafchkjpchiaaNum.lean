/-
  Numbers and their digits: the pure side. No condition.
-/
namespace Go.Proofs.Ytnkafchkjpchiaa
set_option maxRecDepth 100000
set_option linter.unusedVariables false

/-- The number whose digits to the base B these are, the lowest first. -/
def val (B : Nat) : List Nat → Nat
  | [] => 0
  | d :: r => d + B * val B r
/-- All digits are digits. -/
def Fit (B : Nat) (l : List Nat) : Prop := ∀ d ∈ l, d < B

theorem val_append (B : Nat) (a b : List Nat) : val B (a ++ b) = val B a + B ^ a.length * val B b := by
  induction a with
  | nil => simp [val]
  | cons d r ih => simp only [List.cons_append, val, ih, List.length_cons, Nat.pow_succ]; rw [Nat.mul_add, Nat.add_assoc, Nat.mul_comm (B ^ r.length) B, Nat.mul_assoc]
theorem val_snoc (B : Nat) (a : List Nat) (d : Nat) : val B (a ++ [d]) = val B a + B ^ a.length * d := by
  rw [val_append]; simp [val]
theorem Fit.cons {B d : Nat} {r : List Nat} (h : Fit B (d :: r)) : d < B ∧ Fit B r := ⟨h d (by simp), fun x hx => h x (by simp [hx])⟩
theorem Fit.append {B : Nat} {a b : List Nat} (ha : Fit B a) (hb : Fit B b) : Fit B (a ++ b) := fun x hx => (List.mem_append.1 hx).elim (ha x) (hb x)
theorem Fit.left {B : Nat} {a b : List Nat} (h : Fit B (a ++ b)) : Fit B a := fun x hx => h x (by simp [hx])
theorem Fit.right {B : Nat} {a b : List Nat} (h : Fit B (a ++ b)) : Fit B b := fun x hx => h x (by simp [hx])
theorem Fit.nil (B : Nat) : Fit B [] := fun x hx => by cases hx
theorem Fit.take {B : Nat} {a : List Nat} (h : Fit B a) (n : Nat) : Fit B (a.take n) := fun x hx => h x (List.mem_of_mem_take hx)
theorem Fit.one {B d : Nat} (h : d < B) : Fit B [d] := fun x hx => by rw [List.mem_singleton.1 hx]; exact h
theorem Fit.get {B : Nat} {a : List Nat} (h : Fit B a) {i d : Nat} (hi : a[i]? = some d) : d < B := h d (List.mem_of_getElem? hi)
theorem Fit.set {B : Nat} {a : List Nat} (h : Fit B a) (i d : Nat) (hd : d < B) : Fit B (a.set i d) := fun x hx => by
  rcases List.mem_or_eq_of_mem_set hx with h1 | h1
  · exact h x h1
  · rw [h1]; exact hd
theorem Fit.replicate (B n d : Nat) (hd : d < B) : Fit B (List.replicate n d) := fun x hx => by rw [List.eq_of_mem_replicate hx]; exact hd
theorem Fit.reverse {B : Nat} {a : List Nat} (h : Fit B a) : Fit B a.reverse := fun x hx => h x (List.mem_reverse.1 hx)
theorem val_replicate (B n : Nat) : val B (List.replicate n 0) = 0 := by
  induction n with
  | zero => rfl
  | succ n ih => rw [List.replicate_succ, val, ih]; simp
theorem val_lt {B : Nat} : ∀ {l : List Nat}, Fit B l → val B l < B ^ l.length
  | [], _ => by simp [val]
  | d :: r, h => by
    have h1 := val_lt h.cons.2
    have h2 := h.cons.1
    rw [val, List.length_cons, Nat.pow_succ]
    have : B * val B r + B ≤ B ^ r.length * B := by
      have : (val B r + 1) * B ≤ B ^ r.length * B := Nat.mul_le_mul_right B h1
      rw [Nat.add_mul, Nat.mul_comm (val B r)] at this
      omega
    omega
/-- As many digits, one number: the same digits. -/
theorem val_inj {B : Nat} : ∀ {a b : List Nat}, Fit B a → Fit B b → a.length = b.length → val B a = val B b → a = b
  | [], [], _, _, _, _ => rfl
  | [], _ :: _, _, _, h, _ => by cases h
  | _ :: _, [], _, _, h, _ => by cases h
  | d :: r, e :: s, ha, hb, hl, hv => by
    have h1 := ha.cons.1
    have h2 := hb.cons.1
    simp only [val] at hv
    have e1 : (d + B * val B r) % B = d := by rw [Nat.add_mul_mod_self_left, Nat.mod_eq_of_lt h1]
    have e2 : (e + B * val B s) % B = e := by rw [Nat.add_mul_mod_self_left, Nat.mod_eq_of_lt h2]
    have hd : d = e := by rw [← e1, ← e2, hv]
    subst hd
    have hm : val B r = val B s := Nat.eq_of_mul_eq_mul_left (by omega : 0 < B) (by omega)
    rw [val_inj ha.cons.2 hb.cons.2 (by simpa using hl) hm]
/-- Without noughts at its upper end. -/
def trim : List Nat → List Nat
  | [] => []
  | d :: r => match trim r with
    | [] => if d = 0 then [] else [d]
    | e :: s => d :: e :: s
/-- The digits of a number, just as many as it has. -/
def Tight (l : List Nat) : Prop := l = [] ∨ ∃ r d, l = r ++ [d] ∧ d ≠ 0
theorem trim_val (B : Nat) : ∀ l : List Nat, val B (trim l) = val B l
  | [] => rfl
  | d :: r => by
    have h := trim_val B r
    rw [trim]
    split
    · next h0 =>
      rw [h0] at h
      have h' : val B r = 0 := h.symm
      split
      · next hd => rw [val, val, h', hd, Nat.mul_zero]
      · rw [val, val, val, h']
    · next e s h0 => rw [h0] at h; rw [val, h, val]
theorem trim_fit {B : Nat} : ∀ {l : List Nat}, Fit B l → Fit B (trim l)
  | [], h => h
  | d :: r, h => by
    have h1 := trim_fit h.cons.2
    rw [trim]
    split
    · split
      · exact Fit.nil _
      · exact Fit.one h.cons.1
    · next e s h0 =>
      rw [h0] at h1
      intro x hx
      rcases List.mem_cons.1 hx with rfl | hx
      · exact h.cons.1
      · exact h1 x hx
theorem trim_tight : ∀ l : List Nat, Tight (trim l)
  | [] => .inl rfl
  | d :: r => by
    have h := trim_tight r
    rw [trim]
    split
    · split
      · exact .inl rfl
      · next h0 => exact .inr ⟨[], d, rfl, h0⟩
    · next e s h0 =>
      rw [h0] at h
      rcases h with h | ⟨r', d', h, h'⟩
      · cases h
      · exact .inr ⟨d :: r', d', by rw [h]; rfl, h'⟩
theorem trim_zero (l : List Nat) : trim (l ++ [0]) = trim l := by
  induction l with
  | nil => rfl
  | cons d r ih => rw [List.cons_append, trim, ih, trim]
theorem trim_of_tight {l : List Nat} (h : Tight l) : trim l = l := by
  rcases h with rfl | ⟨r, d, rfl, hd⟩
  · rfl
  · induction r with
    | nil => simp [trim, hd]
    | cons e r ih =>
      rw [List.cons_append, trim, ih]
      cases r <;> rfl
theorem tight_len {B : Nat} {l : List Nat} (hf : Fit B l) (ht : Tight l) (k : Nat) (hB : 2 ≤ B) : l.length ≤ k ↔ val B l < B ^ k := by
  constructor
  · intro h
    exact Nat.lt_of_lt_of_le (val_lt hf) (Nat.pow_le_pow_right (by omega) h)
  · intro h
    rcases ht with rfl | ⟨r, d, rfl, hd⟩
    · simp
    · rw [val_snoc] at h
      have h1 : B ^ r.length * 1 ≤ B ^ r.length * d := Nat.mul_le_mul_left _ (by omega)
      have h2 : B ^ r.length < B ^ k := by omega
      have := (Nat.pow_lt_pow_iff_right (by omega : 1 < B)).1 h2
      simp; omega
theorem tight_inj {B : Nat} {a b : List Nat} (hB : 2 ≤ B) (ha : Fit B a) (hb : Fit B b) (ta : Tight a) (tb : Tight b) (h : val B a = val B b) : a = b := by
  refine val_inj ha hb ?_ h
  have h1 := (tight_len ha ta b.length hB).2 (by rw [h]; exact val_lt hb)
  have h2 := (tight_len hb tb a.length hB).2 (by rw [← h]; exact val_lt ha)
  omega

/-- The base B digits of a number below B ^ n, n of them. -/
def nums (B : Nat) : Nat → Nat → List Nat
  | 0, _ => []
  | n + 1, x => x % B :: nums B n (x / B)
theorem nums_length (B : Nat) : ∀ n x, (nums B n x).length = n
  | 0, _ => rfl
  | n + 1, x => by rw [nums, List.length_cons, nums_length B n]
theorem nums_fit {B : Nat} (hB : 0 < B) : ∀ n x, Fit B (nums B n x)
  | 0, _ => Fit.nil _
  | n + 1, x => by
    intro d hd
    rw [nums] at hd
    rcases List.mem_cons.1 hd with rfl | hd
    · exact Nat.mod_lt _ hB
    · exact nums_fit hB n _ d hd
theorem nums_val (B : Nat) : ∀ n x, val B (nums B n x) = x % B ^ n
  | 0, x => by simp [nums, val, Nat.mod_one]
  | n + 1, x => by rw [nums, val, nums_val B n, Nat.pow_succ, Nat.mul_comm (B ^ n) B, Nat.mod_mul]
theorem nums_get (B : Nat) : ∀ n x i, i < n → (nums B n x)[i]? = some (x / B ^ i % B)
  | 0, _, i, h => by omega
  | n + 1, x, 0, _ => by simp [nums]
  | n + 1, x, i + 1, h => by
    rw [nums, List.getElem?_cons_succ, nums_get B n _ i (by omega), Nat.div_div_eq_div_mul, Nat.pow_succ, Nat.mul_comm]
theorem nums_of {B : Nat} {l : List Nat} (hB : 0 < B) (h : Fit B l) : l = nums B l.length (val B l) :=
  val_inj h (nums_fit hB _ _) (nums_length _ _ _).symm (by rw [nums_val, Nat.mod_eq_of_lt (val_lt h)])

/-- The digits of a number to the base 256: fuel enough is the number. -/
def digs (x : Nat) : List Nat := trim (nums 256 x x)
theorem lt_pow256 (x : Nat) : x < 256 ^ x := Nat.lt_of_lt_of_le Nat.lt_two_pow_self (Nat.pow_le_pow_left (by omega) x)
theorem digs_val (x : Nat) : val 256 (digs x) = x := by rw [digs, trim_val, nums_val, Nat.mod_eq_of_lt (lt_pow256 x)]
theorem digs_fit (x : Nat) : Fit 256 (digs x) := trim_fit (nums_fit (by omega) _ _)
theorem digs_tight (x : Nat) : Tight (digs x) := trim_tight _
theorem trim_digs {l : List Nat} (h : Fit 256 l) : trim l = digs (val 256 l) :=
  tight_inj (B := 256) (by omega) (trim_fit h) (digs_fit _) (trim_tight _) (digs_tight _) (by rw [trim_val, digs_val])
theorem tight_digs {l : List Nat} (h : Fit 256 l) (ht : Tight l) : l = digs (val 256 l) := (trim_of_tight ht).symm.trans (trim_digs h)
theorem digs_len (x k : Nat) : (digs x).length ≤ k ↔ x < 256 ^ k := by
  have := tight_len (digs_fit x) (digs_tight x) k (by omega)
  rwa [digs_val] at this

/-- The four bytes of a limb, the lowest first. -/
def four (x : Nat) : List Nat := [x % 256, x / 256 % 256, x / 256 / 256 % 256, x / 256 / 256 / 256 % 256]
theorem four_get (x : Nat) {k : Nat} (hk : k < 4) : (four x)[k]? = some (x / 256 ^ k % 256) := nums_get 256 4 x k hk
theorem four_fit (x : Nat) : Fit 256 (four x) := by
  intro d hd
  simp only [four, List.mem_cons, List.mem_nil_iff, or_false] at hd
  omega
theorem four_val {x : Nat} (h : x < 4294967296) : val 256 (four x) = x := by
  simp only [four, val]; omega
theorem fours_val : ∀ {l : List Nat}, Fit 4294967296 l → val 256 (l.flatMap four) = val 4294967296 l
  | [], _ => rfl
  | d :: r, h => by
    rw [List.flatMap_cons, val_append, four_val h.cons.1, fours_val h.cons.2, val]
    have : (four d).length = 4 := rfl
    rw [this]
theorem fours_fit (l : List Nat) : Fit 256 (l.flatMap four) := by
  intro d hd
  obtain ⟨x, _, hx⟩ := List.mem_flatMap.1 hd
  exact four_fit x d hx

/-- How many bits a number has. -/
def bitlen (x : Nat) : Nat := if x = 0 then 0 else x.log2 + 1
theorem bitlen_le (x k : Nat) : bitlen x ≤ k ↔ x < 2 ^ k := by
  unfold bitlen
  split
  · next h => subst h; simp [Nat.two_pow_pos]
  · next h => rw [Nat.add_one_le_iff, Nat.log2_lt h]
theorem bitlen_eq {x k : Nat} (h1 : x < 2 ^ k) (h2 : k = 0 ∨ 2 ^ (k - 1) ≤ x) : bitlen x = k := by
  have h3 := (bitlen_le x k).2 h1
  rcases h2 with rfl | h2
  · omega
  · rcases Nat.eq_zero_or_pos k with rfl | hk
    · omega
    · have h4 : ¬ bitlen x ≤ k - 1 := fun h => by have := (bitlen_le x (k - 1)).1 h; omega
      omega
theorem bitlen_zero : bitlen 0 = 0 := rfl
theorem bitlen_half {x : Nat} (h : 0 < x) : bitlen x = bitlen (x / 2) + 1 := by
  have h1 := (bitlen_le (x / 2) (bitlen (x / 2))).1 (Nat.le_refl _)
  refine bitlen_eq ?_ (.inr ?_)
  · rw [Nat.pow_succ]; omega
  · rw [Nat.add_sub_cancel]
    rcases Nat.eq_zero_or_pos (bitlen (x / 2)) with h2 | h2
    · rw [h2]; omega
    · have h4 : ¬ x / 2 < 2 ^ (bitlen (x / 2) - 1) := fun h => by have := (bitlen_le (x / 2) (bitlen (x / 2) - 1)).2 h; omega
      have h5 : 2 ^ bitlen (x / 2) = 2 ^ (bitlen (x / 2) - 1) * 2 := by rw [← Nat.pow_succ]; congr 1; omega
      omega
/-- The bits of a number with a highest digit that isn't 0. -/
theorem bitlen_top (s : Nat) {a : List Nat} {d : Nat} (ha : Fit (2 ^ s) a) (hd : d ≠ 0) : bitlen (val (2 ^ s) (a ++ [d])) = s * a.length + bitlen d := by
  have h1 := val_lt ha
  have h2 := (bitlen_le d (bitlen d)).1 (Nat.le_refl _)
  have h3 : 2 ^ (bitlen d - 1) ≤ d := Nat.not_lt.1 fun h => by
    have := (bitlen_le d (bitlen d - 1)).2 h
    have : 0 < bitlen d := by unfold bitlen; rw [if_neg hd]; omega
    omega
  have h0 : 0 < bitlen d := by unfold bitlen; rw [if_neg hd]; omega
  rw [val_snoc]
  rw [← Nat.pow_mul] at h1 ⊢
  refine bitlen_eq ?_ (.inr ?_)
  · rw [Nat.pow_add]
    have : 2 ^ (s * a.length) * (d + 1) ≤ 2 ^ (s * a.length) * 2 ^ bitlen d := Nat.mul_le_mul_left _ h2
    rw [Nat.mul_add, Nat.mul_one] at this
    omega
  · rw [show s * a.length + bitlen d - 1 = s * a.length + (bitlen d - 1) by omega, Nat.pow_add]
    have : 2 ^ (s * a.length) * 2 ^ (bitlen d - 1) ≤ 2 ^ (s * a.length) * d := Nat.mul_le_mul_left _ h3
    omega
/-- Which is the greater. -/
def ord (x y : Nat) : Int := if x < y then -1 else if y < x then 1 else 0
theorem ord_self (x : Nat) : ord x x = 0 := by simp [ord]
theorem ord_swap (x y : Nat) : ord y x = -ord x y := by unfold ord; split <;> split <;> omega
theorem ord_zero (x y : Nat) : ord x y = 0 ↔ x = y := by unfold ord; split <;> (try split) <;> omega
theorem ord_lt (x y : Nat) : ord x y < 0 ↔ x < y := by unfold ord; split <;> (try split) <;> omega
theorem ord_ge (x y : Nat) : 0 ≤ ord x y ↔ y ≤ x := by unfold ord; split <;> (try split) <;> omega
/-- Two numbers whose upper digits are the same and whose next ones are not. -/
theorem ord_at {B : Nat} {a b c : List Nat} {d e : Nat} (ha : Fit B a) (hb : Fit B b) (hl : a.length = b.length) (hne : d ≠ e) : ord (val B (a ++ d :: c)) (val B (b ++ e :: c)) = ord d e := by
  have h1 := val_lt ha
  have h2 := val_lt hb
  rw [val_append, val_append, val, val, ← hl]
  rw [← hl] at h2
  generalize B ^ a.length = P at *
  have key : ∀ x y u v t : Nat, x < P → y < P → u < v → x + P * (u + t) < y + P * (v + t) := by
    intro x y u v t hx hy huv
    have : P * (u + t + 1) ≤ P * (v + t) := Nat.mul_le_mul_left _ (by omega)
    rw [Nat.mul_add, Nat.mul_one] at this
    omega
  unfold ord
  rcases Nat.lt_or_gt_of_ne hne with h | h
  · have := key _ _ _ _ (B * val B c) h1 h2 h
    rw [if_pos this, if_pos h]
  · have := key _ _ _ _ (B * val B c) h2 h1 h
    rw [if_neg (by omega), if_pos this, if_neg (by omega), if_pos h]
theorem ord_len {a b : List Nat} (ha : Fit 256 a) (hb : Fit 256 b) (ta : Tight a) (tb : Tight b) (h : a.length < b.length) : val 256 a < val 256 b := by
  have h1 := val_lt ha
  have h2 : ¬ val 256 b < 256 ^ a.length := fun hx => by have := (tight_len hb tb a.length (by omega)).2 hx; omega
  omega
end Go.Proofs.Ytnkafchkjpchiaa
