/-
  The document's Add and Sub: what they answer of numbers in memory.
-/
import Derived.Test.YtojpbfkdkkdpcaaDoorRef2
namespace Go.Proofs.YtojpbfkdkkdpcaaDoor
set_option maxRecDepth 100000
open Go.RowKit
set_option linter.unusedVariables false
set_option linter.unusedSimpArgs false

/-- A digit, or 0 where there is none. -/
def dig (l : List Nat) (i : Nat) : Nat := l[i]?.getD 0
theorem dig_some {l : List Nat} {i x : Nat} (h : l[i]? = some x) : dig l i = x := by simp [dig, h]
theorem dig_none {l : List Nat} {i : Nat} (h : l.length ≤ i) : dig l i = 0 := by simp [dig, List.getElem?_eq_none h]
theorem dig_lt {B : Nat} {l : List Nat} (h : Fit B l) (hB : 0 < B) (i : Nat) : dig l i < B := by
  rcases Nat.lt_or_ge i l.length with hi | hi
  · obtain ⟨x, hx⟩ := get_some hi
    rw [dig_some hx]; exact h.get hx
  · rw [dig_none hi]; exact hB
theorem val_take_succ (B : Nat) (l : List Nat) (i : Nat) : val B (l.take (i + 1)) = val B (l.take i) + B ^ i * dig l i := by
  rcases Nat.lt_or_ge i l.length with hi | hi
  · obtain ⟨x, hx⟩ := get_some hi
    rw [take_trim hx, val_snoc, dig_some hx, List.length_take, Nat.min_eq_left (by omega)]
  · rw [dig_none hi, List.take_of_length_le (by omega), List.take_of_length_le hi]; simp

/-- One digit of a sum. -/
theorem add_step {B : Nat} {la lb out : List Nat} {i c : Nat} (hl : out.length = i) (h : val B out + B ^ i * c = val B (la.take i) + val B (lb.take i)) (s : Nat) (hs : s = c + dig la i + dig lb i) :
    val B (out ++ [s % B]) + B ^ (i + 1) * (s / B) = val B (la.take (i + 1)) + val B (lb.take (i + 1)) := by
  rw [val_snoc, hl, val_take_succ, val_take_succ, Nat.pow_succ, Nat.mul_assoc, Nat.add_assoc, ← Nat.mul_add, Nat.mod_add_div, hs, Nat.mul_add, Nat.mul_add]
  omega
/-- One digit of a difference. -/
theorem sub_step {B : Nat} {la lb out : List Nat} {i c : Nat} (hl : out.length = i) (h : val B out + val B (lb.take i) = val B (la.take i) + B ^ i * c) (d c' : Nat) (hs : d + dig lb i + c = dig la i + B * c') :
    val B (out ++ [d]) + val B (lb.take (i + 1)) = val B (la.take (i + 1)) + B ^ (i + 1) * c' := by
  rw [val_snoc, hl, val_take_succ, val_take_succ, Nat.pow_succ, Nat.mul_assoc]
  have h1 : B ^ i * (d + dig lb i + c) = B ^ i * (dig la i + B * c') := by rw [hs]
  rw [Nat.mul_add, Nat.mul_add, Nat.mul_add] at h1
  omega

theorem set_end (ys : List Nat) (m d : Nat) : (ys ++ List.replicate (m + 1) 0).set ys.length d = (ys ++ [d]) ++ List.replicate m 0 := by
  rw [List.set_append, if_neg (by omega), Nat.sub_self, List.replicate_succ, List.set_cons_zero, List.append_assoc]; rfl
theorem get_end (ys : List Nat) (m : Nat) : (ys ++ List.replicate (m + 1) 0)[ys.length]? = some 0 := by
  rw [List.getElem?_append_right (Nat.le_refl _), Nat.sub_self, List.replicate_succ]; rfl

end Go.Proofs.YtojpbfkdkkdpcaaDoor
