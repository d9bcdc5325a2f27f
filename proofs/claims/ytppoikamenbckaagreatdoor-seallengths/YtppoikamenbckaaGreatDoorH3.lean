/-
  Each of the fixed keys 0 to 2: what is closed is opened as it was. No condition.
-/
import Derived.Test.YtppoikamenbckaaGreatDoorHA
import Derived.Test.YtppoikamenbckaaGreatDoorKeys2
namespace Go.Proofs.YtppoikamenbckaaGreatDoor
set_option linter.unusedVariables false

/-- What is closed is opened as it was, and no two are closed alike. -/
theorem keyz_ok {z : Nat} (hz : z ≤ 2) : KeyOk (keyN z) keyE (keyD z) := by
  rcases (by omega : z = 0 ∨ z = 1 ∨ z = 2) with rfl | rfl | rfl
  · exact key0_ok
  · exact key1_ok
  · exact key2_ok
end Go.Proofs.YtppoikamenbckaaGreatDoor
