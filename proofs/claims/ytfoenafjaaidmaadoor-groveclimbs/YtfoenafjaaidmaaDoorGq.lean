/-
  The levels of a tree, one made of the other: the data with noughts behind them, the digests of all blocks with noughts behind them; the tree from below. No condition.
-/
import Derived.Test.YtfoenafjaaidmaaDoorGd
namespace Go.Proofs.YtfoenafjaaidmaaDoor
set_option linter.unusedVariables false
set_option linter.unusedSimpArgs false

section
variable {H : List Nat → List Nat} {D B a n : Nat} {data : List Nat}
/-- c digests, parted in rows of a: the whole rows. -/
theorem rows_full (hH : ∀ t, (H t).length = D) (hB : a * D = B) (f : Nat → List Nat) (c : Nat) : ∀ q, q * a ≤ c → (List.range q).flatMap (fun i => pad B (kids H (fun k => f (i * a + k)) (min a (c - i * a)))) = kids H f (q * a)
  | 0, _ => by simp [kids]
  | q + 1, h => by
    rw [Nat.add_mul, Nat.one_mul] at h
    rw [List.range_succ, List.flatMap_append, rows_full hH hB f c q (by omega)]
    simp only [List.flatMap_cons, List.flatMap_nil, List.append_nil]
    rw [Nat.min_eq_left (by omega), pad_full (by rw [kids_length hH, hB]), Nat.add_mul, Nat.one_mul]
    exact (kids_app f (q * a) a).symm
where
  kids_app (f : Nat → List Nat) (s : Nat) : ∀ t, kids H f (s + t) = kids H f s ++ kids H (fun k => f (s + k)) t
    | 0 => by simp [kids]
    | t + 1 => by rw [← Nat.add_assoc, kids, kids_app f s t, kids, List.append_assoc]
theorem kids_app (f : Nat → List Nat) (s : Nat) : ∀ t, kids H f (s + t) = kids H f s ++ kids H (fun k => f (s + k)) t
  | 0 => by simp [kids]
  | t + 1 => by rw [← Nat.add_assoc, kids, kids_app f s t, kids, List.append_assoc]
/-- How much n lacks to a multiple. -/
def gapn (n to : Nat) : Nat := (to - n % to) % to
theorem gapn_lt {n to : Nat} (h : 1 ≤ to) : gapn n to < to := Nat.mod_lt _ h
theorem gapn_up {n to : Nat} (h : 1 ≤ to) : n + gapn n to = up n to * to := by
  have h1 := Nat.div_add_mod n to
  have h2 := Nat.mod_lt n h
  unfold gapn up
  split
  · next h0 => rw [h0, Nat.sub_zero, Nat.mod_self, Nat.mul_comm]; omega
  · next h0 => rw [Nat.mod_eq_of_lt (by omega), Nat.add_mul, Nat.one_mul, Nat.mul_comm (n / to)]; omega
theorem up_of_mul (c a D : Nat) (ha : 0 < a) (hD : 0 < D) : up (c * D) (a * D) = up c a := by
  obtain ⟨h1, h2⟩ := up_spec (a := c) ha
  refine up_unique (Nat.mul_pos ha hD) ?_ ?_
  · rw [← Nat.mul_assoc]; exact Nat.mul_le_mul_right _ h1
  · rw [← Nat.mul_assoc, ← Nat.add_mul]; exact Nat.mul_lt_mul_of_pos_right h2 hD
/-- The level above: the digests of all blocks, and noughts behind them. -/
theorem lvl_up (hH : ∀ t, (H t).length = D) (hB : a * D = B) (ha : 0 < a) (hD : 0 < D) (l : Nat) : lvl H B a n data (l + 1) = kids H (fun k => blk H B a n data l k) (lev a n l) ++ List.replicate (gapn (lev a n l * D) B) 0 := by
  have hg : lev a n l * D + gapn (lev a n l * D) B = up (lev a n l) a * B := by
    rw [gapn_up (by rw [← hB]; exact Nat.mul_pos ha hD), ← hB, up_of_mul _ _ _ ha hD]
  rw [lvl]
  show (List.range (up (lev a n l) a)).flatMap (fun i => pad B (kids H (fun k => blk H B a n data l (i * a + k)) (min a (lev a n l - i * a)))) = _
  generalize gapn (lev a n l * D) B = g at *
  generalize lev a n l = c at *
  show _ = kids H (blk H B a n data l) c ++ _
  generalize blk H B a n data l = f at *
  have h1 := Nat.div_add_mod c a
  have h2 := Nat.mod_lt c ha
  have e : c / a * a = a * (c / a) := Nat.mul_comm _ _
  unfold up at hg ⊢
  split at hg
  · next h0 =>
    rw [if_pos h0, rows_full hH hB f c (c / a) (by omega)]
    have ec : c / a * a = c := by omega
    have eg : g = 0 := by
      have : c / a * B = c * D := by rw [← hB, ← Nat.mul_assoc, ec]
      omega
    rw [ec, eg]; simp
  · next h0 =>
    rw [if_neg h0, List.range_succ, List.flatMap_append, rows_full hH hB f c (c / a) (by omega)]
    simp only [List.flatMap_cons, List.flatMap_nil, List.append_nil]
    have er : min a (c - c / a * a) = c % a := by omega
    have ec : c = c / a * a + c % a := by omega
    rw [er, pad, kids_length hH]
    have eg : B - c % a * D = g := by
      have e1 : c * D = c / a * B + c % a * D := by
        rw [← hB, ← Nat.mul_assoc, ← Nat.add_mul, ← ec]
      rw [Nat.add_mul, Nat.one_mul] at hg
      omega
    rw [eg, ← List.append_assoc, ← kids_app f, ← ec]
/-- The lowest level: the data, and noughts behind them. -/
theorem lvl_low (hB : 0 < B) (hn : up data.length B = n) : lvl H B a n data 0 = data ++ List.replicate (gapn data.length B) 0 := by
  have hg := gapn_up (n := data.length) (to := B) hB
  rw [hn] at hg
  have key : ∀ q, q * B ≤ data.length → (List.range q).flatMap (fun i => pad B ((data.drop (i * B)).take B)) = data.take (q * B) := by
    intro q
    induction q with
    | zero => intro _; simp
    | succ q ih =>
      intro h
      rw [Nat.add_mul, Nat.one_mul] at h
      rw [List.range_succ, List.flatMap_append, ih (by omega)]
      simp only [List.flatMap_cons, List.flatMap_nil, List.append_nil]
      rw [pad_full (by rw [List.length_take, List.length_drop]; omega), Nat.add_mul, Nat.one_mul, List.take_add]
  rw [lvl]
  show (List.range n).flatMap (fun i => pad B ((data.drop (i * B)).take B)) = _
  obtain ⟨k1, k2⟩ := up_spec (a := data.length) (b := B) hB
  rw [hn] at k1 k2
  by_cases h0 : n * B ≤ data.length
  · rw [key n h0, List.take_of_length_le (by omega), show gapn data.length B = 0 by omega]; simp
  · obtain ⟨q, rfl⟩ : ∃ q, n = q + 1 := ⟨n - 1, by
      have : n ≠ 0 := by rintro rfl; omega
      omega⟩
    rw [Nat.add_mul, Nat.one_mul] at k1 k2 hg h0
    rw [List.range_succ, List.flatMap_append, key q (by omega)]
    simp only [List.flatMap_cons, List.flatMap_nil, List.append_nil]
    rw [pad, List.length_take, List.length_drop, List.take_of_length_le (show (data.drop (q * B)).length ≤ B by rw [List.length_drop]; omega), ← List.append_assoc, List.take_append_drop, Nat.min_eq_right (by omega)]
    congr 2
    omega
/-- The levels from 1 on up to j, the highest first. -/
def ups (H : List Nat → List Nat) (B a n : Nat) (data : List Nat) (j : Nat) : List Nat := (List.range j).flatMap fun i => lvl H B a n data (j - i)
theorem ups_succ (j : Nat) : ups H B a n data (j + 1) = lvl H B a n data (j + 1) ++ ups H B a n data j := by
  have e : (fun i => lvl H B a n data (j + 1 - (i + 1))) = fun i => lvl H B a n data (j - i) := funext fun i => by rw [Nat.add_sub_add_right]
  rw [ups, ups, List.range_succ_eq_map, List.flatMap_cons, List.flatMap_map]
  show lvl H B a n data (j + 1) ++ (List.range j).flatMap (fun i => lvl H B a n data (j + 1 - (i + 1))) = _
  rw [e]
theorem ups_tree (m : Nat) : ups H B a n data (m - 1) = tree H B a n data m := rfl
theorem lvl_length (hH : ∀ t, (H t).length = D) (hB : a * D = B) (l : Nat) : (lvl H B a n data l).length = lev a n l * B := lvl_len hH hB l _
/-- A block of a level, where it stands. -/
theorem lvl_at (hH : ∀ t, (H t).length = D) (hB : a * D = B) (l : Nat) : ∀ c i, i < c → (((List.range c).flatMap (fun j => blk H B a n data l j)).drop (i * B)).take B = blk H B a n data l i
  | 0, i, h => absurd h (Nat.not_lt_zero _)
  | c + 1, i, h => by
    have hl := lvl_len (data := data) (n := n) hH hB l c
    rw [lvl_succ]
    by_cases hi : i = c
    · subst hi
      rw [← hl, List.drop_left, List.take_of_length_le (by rw [blk_length hH hB]; exact Nat.le_refl _)]
    · have h2 : (i + 1) * B ≤ c * B := Nat.mul_le_mul_right _ (by omega)
      rw [Nat.add_mul, Nat.one_mul] at h2
      rw [List.drop_append_of_le_length (by omega), List.take_append_of_le_length (by rw [List.length_drop]; omega)]
      exact lvl_at hH hB l c i (by omega)
end
end Go.Proofs.YtfoenafjaaidmaaDoor
