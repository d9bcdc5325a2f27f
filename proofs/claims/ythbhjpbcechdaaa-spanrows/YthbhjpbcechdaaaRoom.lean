/-
  When Put has room, and what it answers then and else; the bytes of numbers one behind the other.
-/
import Derived.Test.YthbhjpbcechdaaaLie
namespace Go.Proofs.Ythbhjpbcechdaaa
open Go.RowKit
set_option linter.unusedVariables false

/-- Put has room for n in size bytes. -/
def Room (size n : Int) : Prop := 1 ≤ size ∧ size ≤ 8 ∧ 0 ≤ n ∧ n / 2 ^ (8 * size).toNat = 0
theorem Room.num {size n : Int} (h : Room size n) : num (be size.toNat n) = n :=
  num_be_all _ _ h.2.2.1 (by have := h.2.2.2; rwa [show (8 * size).toNat = 8 * size.toNat by have := h.1; omega] at this)
theorem Put_not (size n : Int) (hn : n ≤ 9223372036854775807) (h : ¬ Room size n) :
    ∃ x : Int, (x != 0) = true ∧ ∀ (A : Option Addr) (k cap : Nat) (w : World), Calls Try.prog 14 #[.slice A k cap, .int .i64 size, .int .i64 n] w fun e w' => e = .returned (.tuple #[.slice none 0 0, .int .i64 x]) ∧ w = w' := by
  by_cases h1 : size < 1 ∨ 8 < size
  · exact ⟨12, rfl, fun A k cap w => Put_form A k cap size n w h1⟩
  · by_cases h2 : n < 0
    · exact ⟨11, rfl, fun A k cap w => Put_neg A k cap size n w (by omega) (by omega) h2⟩
    · have h3 : ¬ n / 2 ^ (8 * size).toNat = 0 := fun h4 => h ⟨by omega, by omega, by omega, h4⟩
      exact ⟨11, rfl, fun A k cap w => Put_big A k cap size n w (by omega) (by omega) (by omega) hn (by simpa using h3)⟩
def bytesUpto (P : Nat → Int × Int) (j : Nat) : List Int := (List.range j).flatMap fun i => be (P i).1.toNat (P i).2
theorem bytesUpto_succ (P : Nat → Int × Int) (j : Nat) : bytesUpto P (j + 1) = bytesUpto P j ++ be (P j).1.toNat (P j).2 := by
  simp [bytesUpto, List.range_succ]
theorem bytesUpto_pre (P : Nat → Int × Int) (j n : Nat) (h : j ≤ n) : ∃ r, bytesUpto P n = bytesUpto P j ++ r := by
  induction n with
  | zero => exact ⟨[], by rw [show j = 0 by omega]; simp⟩
  | succ n ih =>
    rcases Nat.lt_or_ge j (n + 1) with h1 | h1
    · obtain ⟨r, hr⟩ := ih (by omega)
      exact ⟨r ++ be (P n).1.toNat (P n).2, by rw [bytesUpto_succ, hr, List.append_assoc]⟩
    · exact ⟨[], by rw [show j = n + 1 by omega]; simp⟩
end Go.Proofs.Ythbhjpbcechdaaa
