/-
  What the small functions of package span and of the statements answer, as plain numbers: no condition but that numbers fit int.
-/
import Derived.Test.YthbhjpbcechdaaaRows
import Derived.WalkKit
import Derived.WalkSpells
import Derived.WalkLawsBesides
import Derived.Lib.Hide
namespace Go.Proofs.Ythbhjpbcechdaaa
open Go.RowKit
set_option linter.unusedVariables false

def gapOf (n to : Int) : Int := if n % to = 0 then 0 else to - n % to
theorem gapOf_bd (n to : Int) (h : 1 ≤ to) : 0 ≤ gapOf n to ∧ gapOf n to < to := by
  unfold gapOf
  have h1 := Int.emod_nonneg n (show to ≠ 0 by omega)
  have h2 := Int.emod_lt_of_pos n (show 0 < to by omega)
  split <;> omega
theorem gapOf_mod (n to : Int) (h : 1 ≤ to) : (n + gapOf n to) % to = 0 := by
  unfold gapOf
  split
  · simpa using ‹_›
  · have : n + (to - n % to) = to * (n / to + 1) := by
      have := Int.mul_ediv_add_emod n to
      rw [Int.mul_add]; omega
    rw [this]; exact Int.mul_emod_right _ _

theorem sizeRight_yes (n : Int) (w : World) (h1 : 1 ≤ n) (h2 : n ≤ 8) :
    Calls Try.prog 20 #[.int .i64 n] w fun e w' => e = .returned (.bool true) ∧ w = w' := by
  go_enter Try.func20, Try.ntmps20
  go_wp2
  go_ret
  exact ⟨rfl, rfl⟩
theorem sizeRight_no (n : Int) (w : World) (h : n < 1 ∨ 8 < n) :
    Calls Try.prog 20 #[.int .i64 n] w fun e w' => e = .returned (.bool false) ∧ w = w' := by
  rcases h with h | h
  · have h' : ¬ 1 ≤ n := by omega
    go_enter Try.func20, Try.ntmps20
    go_wp2
    go_ret
    exact ⟨rfl, rfl⟩
  · have h1 : 1 ≤ n := by omega
    have h' : ¬ n ≤ 8 := by omega
    go_enter Try.func20, Try.ntmps20
    go_wp2
    go_ret
    exact ⟨rfl, rfl⟩
theorem toRight_yes (n : Int) (w : World) (h1 : 1 ≤ n) (h2 : n ≤ 65536) :
    Calls Try.prog 22 #[.int .i64 n] w fun e w' => e = .returned (.bool true) ∧ w = w' := by
  go_enter Try.func22, Try.ntmps22
  go_wp2
  go_ret
  exact ⟨rfl, rfl⟩
theorem toRight_no (n : Int) (w : World) (h : n < 1 ∨ 65536 < n) :
    Calls Try.prog 22 #[.int .i64 n] w fun e w' => e = .returned (.bool false) ∧ w = w' := by
  rcases h with h | h
  · have h' : ¬ 1 ≤ n := by omega
    go_enter Try.func22, Try.ntmps22
    go_wp2
    go_ret
    exact ⟨rfl, rfl⟩
  · have h1 : 1 ≤ n := by omega
    have h' : ¬ n ≤ 65536 := by omega
    go_enter Try.func22, Try.ntmps22
    go_wp2
    go_ret
    exact ⟨rfl, rfl⟩
theorem gap_any (n to : Int) (w : World) (h0 : 0 ≤ n) (h1 : n ≤ 4611686018427387904) (h2 : 1 ≤ to) (h3 : to ≤ 65536) :
    Calls Try.prog 23 #[.int .i64 n, .int .i64 to] w fun e w' => e = .returned (.int .i64 (gapOf n to)) ∧ w = w' := by
  have b1 := Int.emod_nonneg n (show to ≠ 0 by omega)
  have b2 := Int.emod_lt_of_pos n (show 0 < to by omega)
  by_cases hz : n % to = 0
  · have e : gapOf n to = 0 := by simp [gapOf, hz]
    rw [e]; clear e
    go_enter Try.func23, Try.ntmps23
    go_wp2
    go_ret
    exact ⟨rfl, rfl⟩
  · have e : gapOf n to = to - n % to := by simp [gapOf, hz]
    rw [e]; clear e
    go_enter Try.func23, Try.ntmps23
    go_wp2
    go_ret
    exact ⟨rfl, rfl⟩

/-- A stretch lies within so many bytes. -/
def Lies (off len total : Int) : Prop := 0 ≤ off ∧ 0 ≤ len ∧ 0 ≤ total ∧ off + len ≤ total
theorem Within_yes (off len total : Int) (w : World) (h : Lies off len total) (ht : total ≤ 9223372036854775807) :
    Calls Try.prog 15 #[.int .i64 off, .int .i64 len, .int .i64 total] w fun e w' => e = .returned (.bool true) ∧ w = w' := by
  obtain ⟨h1, h2, h3, h4⟩ := h
  have h5 : off ≤ total - len := by omega
  go_enter Try.func15, Try.ntmps15
  go_wp2
  go_ret
  exact ⟨rfl, rfl⟩
theorem within_yes (off len total : Int) (w : World) (h : Lies off len total) (ht : total ≤ 9223372036854775807) :
    Calls Try.prog 13 #[.int .i64 off, .int .i64 len, .int .i64 total] w fun e w' => e = .returned (.bool true) ∧ w = w' := by
  obtain ⟨h1, h2, h3, h4⟩ := h
  have h5 : len ≤ total - off := by omega
  go_enter Try.func13, Try.ntmps13
  go_wp2
  go_ret
  exact ⟨rfl, rfl⟩
end Go.Proofs.Ythbhjpbcechdaaa
