/-
  Levels of a tree of blocks: how many blocks each has, where they stand, which stands above which. No condition.
-/
import Derived.WalkKit
namespace Go.Proofs.YtfoenafjaaidmaaDoor
set_option linter.unusedVariables false
set_option linter.unusedSimpArgs false

/-- A number through another one, rounded up. -/
def up (a b : Nat) : Nat := if a % b = 0 then a / b else a / b + 1
theorem up_spec {a b : Nat} (hb : 0 < b) : a ≤ up a b * b ∧ up a b * b < a + b := by
  have h1 := Nat.div_add_mod a b
  have h2 := Nat.mod_lt a hb
  unfold up
  split
  · next h => rw [Nat.mul_comm]; omega
  · next h => rw [Nat.add_mul, Nat.one_mul, Nat.mul_comm]; omega
theorem up_unique {a b u : Nat} (hb : 0 < b) (h1 : a ≤ u * b) (h2 : u * b < a + b) : up a b = u := by
  obtain ⟨k1, k2⟩ := up_spec (a := a) hb
  rcases Nat.lt_trichotomy (up a b) u with h | h | h
  · have : (up a b + 1) * b ≤ u * b := Nat.mul_le_mul_right _ h
    rw [Nat.add_mul, Nat.one_mul] at this
    omega
  · exact h
  · have : (u + 1) * b ≤ up a b * b := Nat.mul_le_mul_right _ h
    rw [Nat.add_mul, Nat.one_mul] at this
    omega
theorem up_mono {a a' b : Nat} (hb : 0 < b) (h : a ≤ a') : up a b ≤ up a' b := by
  obtain ⟨k1, k2⟩ := up_spec (a := a) hb
  obtain ⟨k3, k4⟩ := up_spec (a := a') hb
  rcases Nat.lt_or_ge (up a' b) (up a b) with hlt | hge
  · have : (up a' b + 1) * b ≤ up a b * b := Nat.mul_le_mul_right _ hlt
    rw [Nat.add_mul, Nat.one_mul] at this
    omega
  · exact hge
theorem up_pos {a b : Nat} (hb : 0 < b) (h : 0 < a) : 0 < up a b := by
  obtain ⟨k1, k2⟩ := up_spec (a := a) hb
  rcases Nat.eq_zero_or_pos (up a b) with h0 | h0
  · rw [h0, Nat.zero_mul] at k1; omega
  · exact h0
theorem up_lt {a b : Nat} (hb : 2 ≤ b) (h : 2 ≤ a) : up a b < a := by
  obtain ⟨k1, k2⟩ := up_spec (a := a) (b := b) (by omega)
  rcases Nat.lt_or_ge (up a b) a with hlt | hge
  · exact hlt
  · have h1 : a * b ≤ up a b * b := Nat.mul_le_mul_right _ hge
    have h2 : a * b < a + b := by omega
    obtain ⟨c, rfl⟩ : ∃ c, a = c + 2 := ⟨a - 2, by omega⟩
    obtain ⟨d, rfl⟩ : ∃ d, b = d + 2 := ⟨b - 2, by omega⟩
    have : (c + 2) * (d + 2) = c * d + 2 * c + 2 * d + 4 := by
      rw [Nat.add_mul, Nat.mul_add, Nat.mul_add]; omega
    omega
theorem up_half {a b f : Nat} (hb : 2 ≤ b) (h : a ≤ 2 ^ (f + 1)) : up a b ≤ 2 ^ f := by
  obtain ⟨k1, k2⟩ := up_spec (a := a) (b := b) (by omega)
  rcases Nat.lt_or_ge (2 ^ f) (up a b) with hlt | hge
  · have h1 : (2 ^ f + 1) * b ≤ up a b * b := Nat.mul_le_mul_right _ hlt
    have h2 : 2 ^ f * 2 ≤ 2 ^ f * b := Nat.mul_le_mul_left _ hb
    rw [Nat.add_mul, Nat.one_mul] at h1
    rw [Nat.pow_succ] at h
    omega
  · exact hge
theorem div_lt_up {i a b : Nat} (hb : 0 < b) (h : i < a) : i / b < up a b := by
  obtain ⟨k1, k2⟩ := up_spec (a := a) hb
  exact (Nat.div_lt_iff_lt_mul hb).2 (by omega)
theorem up_le_one {a b : Nat} (hb : 0 < b) (h0 : 0 < a) : up a b = 1 ↔ a ≤ b := by
  obtain ⟨k1, k2⟩ := up_spec (a := a) hb
  constructor
  · intro h; rw [h] at k1; omega
  · intro h
    exact up_unique hb (by omega) (by omega)
/-- One more is one block more just behind a full one. -/
theorem up_succ {a b : Nat} (hb : 0 < b) : up (a + 1) b = up a b + 1 ↔ a % b = 0 := by
  obtain ⟨k1, k2⟩ := up_spec (a := a) hb
  have h1 := Nat.div_add_mod a b
  constructor
  · intro h
    obtain ⟨k3, k4⟩ := up_spec (a := a + 1) hb
    rw [h, Nat.add_mul, Nat.one_mul] at k4
    have e : up a b * b = a := by omega
    rw [← e, Nat.mul_mod_left]
  · intro h
    have e : up a b = a / b := by unfold up; rw [if_pos h]
    have e2 : a / b * b = a := by rw [Nat.mul_comm]; omega
    apply up_unique hb
    · rw [Nat.add_mul, Nat.one_mul, e, e2]; omega
    · rw [Nat.add_mul, Nat.one_mul, e, e2]; omega
/-- How many blocks a level has. -/
def lev (b n : Nat) : Nat → Nat
  | 0 => n
  | l + 1 => up (lev b n l) b
theorem lev_front (b n : Nat) : ∀ l, lev b (up n b) l = lev b n (l + 1)
  | 0 => rfl
  | l + 1 => by show up (lev b (up n b) l) b = up (lev b n (l + 1)) b; rw [lev_front b n l]
theorem lev_pos {b n : Nat} (hb : 0 < b) (hn : 0 < n) : ∀ l, 0 < lev b n l
  | 0 => hn
  | l + 1 => up_pos hb (lev_pos hb hn l)
theorem lev_mono {b n n' : Nat} (hb : 0 < b) (h : n ≤ n') : ∀ l, lev b n l ≤ lev b n' l
  | 0 => h
  | l + 1 => up_mono hb (lev_mono hb h l)
/-- All levels' blocks, from the lowest on, up to the first that has one. -/
def cnts (b : Nat) : Nat → Nat → List Nat
  | 0, n => [n]
  | f + 1, n => if n ≤ 1 then [n] else n :: cnts b f (up n b)
theorem cnts_ne (b f n : Nat) : cnts b f n ≠ [] := by
  cases f with
  | zero => simp [cnts]
  | succ f => unfold cnts; split <;> simp
theorem cnts_get (b : Nat) : ∀ (f n l x : Nat), (cnts b f n)[l]? = some x → x = lev b n l
  | 0, n, l, x, h => by
    match l, h with
    | 0, h => simp [cnts] at h; rw [← h]; rfl
  | f + 1, n, l, x, h => by
    unfold cnts at h
    split at h
    · match l, h with
      | 0, h => simp at h; rw [← h]; rfl
    · match l, h with
      | 0, h => simp at h; rw [← h]; rfl
      | l + 1, h =>
        rw [List.getElem?_cons_succ] at h
        rw [cnts_get b f (up n b) l x h, lev_front]
/-- With room enough: the last level has one block, all below have more. -/
theorem cnts_top (b : Nat) (hb : 2 ≤ b) : ∀ (f n : Nat), 0 < n → n ≤ 2 ^ f → lev b n ((cnts b f n).length - 1) = 1 ∧ ∀ l, l + 1 < (cnts b f n).length → 2 ≤ lev b n l
  | 0, n, h0, h => by
    have : n = 1 := by simp at h; omega
    subst this
    exact ⟨rfl, fun l hl => by simp [cnts] at hl⟩
  | f + 1, n, h0, h => by
    unfold cnts
    split
    · next h1 =>
      have : n = 1 := by omega
      subst this
      exact ⟨rfl, fun l hl => by simp at hl⟩
    · next h1 =>
      obtain ⟨i1, i2⟩ := cnts_top b hb f (up n b) (up_pos (by omega) h0) (up_half hb h)
      have hne : 0 < (cnts b f (up n b)).length := List.length_pos_iff.2 (cnts_ne _ _ _)
      constructor
      · rw [List.length_cons, Nat.add_sub_cancel]
        obtain ⟨k, hk⟩ : ∃ k, (cnts b f (up n b)).length = k + 1 := ⟨_, (Nat.succ_pred_eq_of_pos hne).symm⟩
        rw [hk, Nat.add_sub_cancel, lev_front] at i1
        rw [hk]
        exact i1
      · intro l hl
        rw [List.length_cons] at hl
        match l with
        | 0 => show 2 ≤ n; omega
        | l + 1 =>
          rw [← lev_front]
          exact i2 l (by omega)
theorem lev_one {b n l : Nat} (hb : 2 ≤ b) (h : lev b n l = 1) : ∀ j, lev b n (l + j) = 1
  | 0 => h
  | j + 1 => by
    show up (lev b n (l + j)) b = 1
    rw [lev_one hb h j]
    exact (up_le_one (by omega) (by omega)).2 (by omega)
/-- A greater size has no lower top. -/
theorem cnts_grow {b f n n' : Nat} (hb : 2 ≤ b) (h0 : 0 < n) (hn : n ≤ n') (hf : n' ≤ 2 ^ f) : (cnts b f n).length ≤ (cnts b f n').length := by
  obtain ⟨i1, i2⟩ := cnts_top b hb f n h0 (by omega)
  obtain ⟨j1, j2⟩ := cnts_top b hb f n' (by omega) hf
  have hne : 0 < (cnts b f n').length := List.length_pos_iff.2 (cnts_ne _ _ _)
  rcases Nat.lt_or_ge (cnts b f n').length (cnts b f n).length with h | h
  · have h1 := i2 ((cnts b f n').length - 1) (by omega)
    have h2 := lev_mono (b := b) (by omega) hn ((cnts b f n').length - 1)
    omega
  · exact h
/-- The block above, level by level. -/
theorem above_lt {b n i : Nat} (hb : 0 < b) (hi : i < n) : ∀ l, i / b ^ l < lev b n l
  | 0 => by simpa [lev] using hi
  | l + 1 => by
    rw [Nat.pow_succ, ← Nat.div_div_eq_div_mul]
    exact div_lt_up hb (above_lt hb hi l)
/-- The levels' blocks, one by one, up to the first that has one. -/
theorem cnts_eq (b : Nat) : ∀ (l f n : Nat), l ≤ f → (∀ j, j < l → 2 ≤ lev b n j) → lev b n l ≤ 1 → cnts b f n = (List.range (l + 1)).map (lev b n)
  | 0, 0, n, _, _, h => rfl
  | 0, f + 1, n, _, _, h => by
    have : n ≤ 1 := h
    unfold cnts
    rw [if_pos this]; rfl
  | l + 1, f + 1, n, hf, h1, h2 => by
    have h0 : 2 ≤ n := h1 0 (by omega)
    unfold cnts
    rw [if_neg (by omega), List.range_succ_eq_map, List.map_cons, List.map_map]
    have ih := cnts_eq b l f (up n b) (by omega) (fun j hj => by rw [lev_front]; exact h1 (j + 1) (by omega)) (by rw [lev_front]; exact h2)
    rw [ih]
    show n :: _ = n :: _
    congr 1
    apply List.map_congr_left
    intro j _
    exact lev_front b n j
theorem lev_le {b n : Nat} (hb : 2 ≤ b) : ∀ l, (∀ j, j < l → 2 ≤ lev b n j) → lev b n l + l ≤ n
  | 0, _ => Nat.le_refl _
  | l + 1, h => by
    have h1 := lev_le hb l (fun j hj => h j (by omega))
    have h2 := up_lt hb (h l (by omega))
    show up (lev b n l) b + (l + 1) ≤ n
    omega
theorem lev_pow {b n f : Nat} (hb : 2 ≤ b) (hn : n ≤ 2 ^ f) : ∀ l, l ≤ f → lev b n l ≤ 2 ^ (f - l)
  | 0, _ => hn
  | l + 1, h => by
    have h1 := lev_pow hb hn l (by omega)
    rw [show f - l = (f - (l + 1)) + 1 by omega] at h1
    exact up_half hb h1
end Go.Proofs.YtfoenafjaaidmaaDoor
