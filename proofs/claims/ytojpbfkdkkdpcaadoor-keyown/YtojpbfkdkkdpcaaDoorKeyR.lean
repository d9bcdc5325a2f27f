/-
  The document's Right: what it answers of a modulus' bytes.
-/
import Derived.Test.YtojpbfkdkkdpcaaDoorRef2
namespace Go.Proofs.YtojpbfkdkkdpcaaDoor
open Go.RowKit
set_option linter.unusedVariables false
set_option linter.unusedSimpArgs false
set_option maxRecDepth 100000

set_option maxHeartbeats 400000 in
theorem Right_size (A : Option Addr) (n cap : Nat) (w : World) (hn : n ≤ maxLen) (hs : n < 64 ∨ 512 < n ∨ n % 64 ≠ 0) :
    Calls Tryd.prog 12 #[.slice A n cap] w fun e w' => e = .returned (.int .i64 21) ∧ w = w' := by
  unfold maxLen at hn
  by_cases h1 : n < 64
  · go_enter Tryd.func12, Tryd.ntmps12
    go_wp2
    go_ret
    exact ⟨rfl, rfl⟩
  · by_cases h2 : 512 < n
    · go_enter Tryd.func12, Tryd.ntmps12
      go_wp2
      go_ret
      exact ⟨rfl, rfl⟩
    · have h3 : n % 64 ≠ 0 := by omega
      have hd : ((n : Int) % 64 != 0) = true := by simp; omega
      go_enter Tryd.func12, Tryd.ntmps12
      go_wp2
      go_ret
      exact ⟨rfl, rfl⟩

set_option maxHeartbeats 400000 in
theorem Right_form (A : Option Addr) (n cap : Nat) (l : List Nat) (w : World) (h : Rd .u8 w A n l) (hs : 64 ≤ n ∧ n ≤ 512 ∧ n % 64 = 0) (a z : Nat) (ha : l[0]? = some a) (hz : l[n - 1]? = some z) (hb : a < 128 ∨ z % 2 = 0) :
    Calls Tryd.prog 12 #[.slice A n cap] w fun e w' => e = .returned (.int .i64 22) ∧ w = w' := by
  obtain ⟨k1, k2, k3⟩ := hs
  have HR := Lib.hid h
  have hd : ((n : Int) % 64 != 0) = false := by simp; omega
  obtain ⟨ad, x, rfl, hx, hc⟩ := HR.out.get (j := 0) (by omega)
  obtain ⟨ad2, y, e2, hy, hc2⟩ := HR.out.get (j := n - 1) (by omega)
  cases e2
  rw [add_zero_] at hc
  rw [ha] at hx; cases hx
  rw [hz] at hy; cases hy
  have hcast : ((n - 1 : Nat) : Int) = (n : Int) - 1 := by omega
  clear h
  by_cases h1 : a < 128
  · go_enter Tryd.func12, Tryd.ntmps12
    go_wp2
    go_ret
    exact ⟨rfl, rfl⟩
  · have h2 : z % 2 = 0 := by omega
    have hd2 : ((z : Int) % 2 == 0) = true := by simp; omega
    go_enter Tryd.func12, Tryd.ntmps12
    go_wp2
    go_ret
    exact ⟨rfl, rfl⟩

set_option maxHeartbeats 400000 in
theorem Right_ok (A : Option Addr) (n cap : Nat) (l : List Nat) (w : World) (h : Rd .u8 w A n l) (hs : 64 ≤ n ∧ n ≤ 512 ∧ n % 64 = 0) (a z : Nat) (ha : l[0]? = some a) (hz : l[n - 1]? = some z) (hb : 128 ≤ a ∧ z % 2 = 1) :
    Calls Tryd.prog 12 #[.slice A n cap] w fun e w' => e = .returned (.int .i64 0) ∧ w = w' := by
  obtain ⟨k1, k2, k3⟩ := hs
  have HR := Lib.hid h
  have hd : ((n : Int) % 64 != 0) = false := by simp; omega
  obtain ⟨ad, x, rfl, hx, hc⟩ := HR.out.get (j := 0) (by omega)
  obtain ⟨ad2, y, e2, hy, hc2⟩ := HR.out.get (j := n - 1) (by omega)
  cases e2
  rw [add_zero_] at hc
  rw [ha] at hx; cases hx
  rw [hz] at hy; cases hy
  clear h
  have hd2 : ((z : Int) % 2 == 0) = false := by simp; omega
  go_enter Tryd.func12, Tryd.ntmps12
  go_wp2
  go_ret
  exact ⟨rfl, rfl⟩

end Go.Proofs.YtojpbfkdkkdpcaaDoor
