/-
  What the small functions of package span and of the statements answer, as plain numbers: no condition but that numbers fit int.
-/
import Derived.Test.YtojpbfkdkkdpcaaDoorProg
import Derived.KernelRfl
import Derived.WalkKit
import Derived.WalkSpells
import Derived.WalkLawsBesides
import Derived.Lib.Hide
namespace Go.Proofs.YtojpbfkdkkdpcaaDoorSp
set_option maxRecDepth 100000
open Go.RowKit
set_option linter.unusedVariables false

def gapOf (n to : Int) : Int := if n % to = 0 then 0 else to - n % to
theorem gapOf_bd (n to : Int) (h : 1 ≤ to) : 0 ≤ gapOf n to ∧ gapOf n to < to := by
  unfold gapOf
  have h1 := Int.emod_nonneg n (show to ≠ 0 by omega)
  have h2 := Int.emod_lt_of_pos n (show 0 < to by omega)
  split <;> omega
theorem gapOf_mod (n to : Int) (h : 1 ≤ to) : (n + gapOf n to) % to = 0 := by
  unfold gapOf
  split
  · simpa using ‹_›
  · have : n + (to - n % to) = to * (n / to + 1) := by
      have := Int.mul_ediv_add_emod n to
      rw [Int.mul_add]; omega
    rw [this]; exact Int.mul_emod_right _ _

theorem sizeRight_yes (n : Int) (w : World) (h1 : 1 ≤ n) (h2 : n ≤ 8) :
    Calls Tryd.prog 61 #[.int .i64 n] w fun e w' => e = .returned (.bool true) ∧ w = w' := by
  go_enter Tryd.func61, Tryd.ntmps61
  go_wp2
  go_ret
  exact ⟨rfl, rfl⟩
theorem sizeRight_no (n : Int) (w : World) (h : n < 1 ∨ 8 < n) :
    Calls Tryd.prog 61 #[.int .i64 n] w fun e w' => e = .returned (.bool false) ∧ w = w' := by
  rcases h with h | h
  · have h' : ¬ 1 ≤ n := by omega
    go_enter Tryd.func61, Tryd.ntmps61
    go_wp2
    go_ret
    exact ⟨rfl, rfl⟩
  · have h1 : 1 ≤ n := by omega
    have h' : ¬ n ≤ 8 := by omega
    go_enter Tryd.func61, Tryd.ntmps61
    go_wp2
    go_ret
    exact ⟨rfl, rfl⟩
/-- A stretch lies within so many bytes. -/
def Lies (off len total : Int) : Prop := 0 ≤ off ∧ 0 ≤ len ∧ 0 ≤ total ∧ off + len ≤ total
theorem Within_yes (off len total : Int) (w : World) (h : Lies off len total) (ht : total ≤ 9223372036854775807) :
    Calls Tryd.prog 72 #[.int .i64 off, .int .i64 len, .int .i64 total] w fun e w' => e = .returned (.bool true) ∧ w = w' := by
  obtain ⟨h1, h2, h3, h4⟩ := h
  have h5 : off ≤ total - len := by omega
  go_enter Tryd.func72, Tryd.ntmps72
  go_wp2
  go_ret
  exact ⟨rfl, rfl⟩
end Go.Proofs.YtojpbfkdkkdpcaaDoorSp
