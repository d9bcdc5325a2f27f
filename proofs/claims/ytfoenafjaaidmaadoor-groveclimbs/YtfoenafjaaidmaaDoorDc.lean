/-
  The document's Total, In and Above.
-/
import Derived.Test.YtfoenafjaaidmaaDoorDb
import Derived.Laws.ResultCell
namespace Go.Proofs.YtfoenafjaaidmaaDoor
open Go.RowKit
set_option linter.unusedVariables false
set_option linter.unusedSimpArgs false
set_option maxRecDepth 100000

theorem cnts_sum (b : Nat) (hb : 2 ≤ b) : ∀ (f n : Nat), 0 < n → ((cnts b f n).drop 1).sum ≤ 2 * n
  | 0, n, _ => by simp [cnts]
  | f + 1, n, h => by
    unfold cnts
    split
    · simp
    · next h1 =>
      rw [List.drop_one, List.tail_cons]
      have ih := cnts_sum b hb f (up n b) (up_pos (by omega) h)
      have hu : 2 * up n b ≤ n + 1 := by
        obtain ⟨k1, k2⟩ := up_spec (a := n) (b := b) (by omega)
        rcases Nat.lt_or_ge (n + 1) (2 * up n b) with hlt | hge
        · exfalso
          obtain ⟨u, hu⟩ : ∃ u, up n b = u + 1 := ⟨up n b - 1, by omega⟩
          rw [hu, Nat.add_mul, Nat.one_mul] at k2
          have : u * 2 ≤ u * b := Nat.mul_le_mul_left _ hb
          omega
        · exact hge
      have e : (cnts b f (up n b)).sum = up n b + ((cnts b f (up n b)).drop 1).sum := by
        cases f with
        | zero => simp [cnts]
        | succ f => unfold cnts; split <;> simp
      rw [e]
      omega
theorem cnts_len (b : Nat) : ∀ (f n : Nat), (cnts b f n).length ≤ f + 1
  | 0, n => by simp [cnts]
  | f + 1, n => by
    unfold cnts
    split
    · simp
    · have := cnts_len b f (up n b)
      rw [List.length_cons]; omega
/-- How many blocks stand above the lowest level. -/
def above (a n : Nat) : Nat := ((cs a n).drop 1).sum
theorem take_sum_le (l : List Nat) (k : Nat) : (l.take k).sum ≤ l.sum := by
  have : l.sum = (l.take k).sum + (l.drop k).sum := by rw [← List.sum_append, List.take_append_drop]
  omega
theorem take_sum_succ {l : List Nat} {k x : Nat} (h : l[k]? = some x) : (l.take (k + 1)).sum = (l.take k).sum + x := by
  obtain ⟨hk, rfl⟩ := List.getElem?_eq_some_iff.1 h
  rw [List.take_succ_eq_append_getElem hk, List.sum_append]
  simp
theorem Shp.total {S B D a n : Nat} (h : Shp S B D a n) : above a n * B ≤ 4398046511104 := by
  have h1 := cnts_sum a h.a2.1 40 n h.n1.1
  have hb := h.b
  obtain ⟨k1, k2⟩ := up_spec (a := S) (b := B) (by omega)
  rw [h.low] at k1 k2
  have h2 : above a n * B ≤ 2 * n * B := Nat.mul_le_mul_right _ h1
  rw [Nat.mul_assoc] at h2
  omega
end Go.Proofs.YtfoenafjaaidmaaDoor
