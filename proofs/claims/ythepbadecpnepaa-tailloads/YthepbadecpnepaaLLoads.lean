/-
  TailLoads: what is loaded of a partition with any bytes is the document's, or the first error. No condition but what the statement says.
-/
import Derived.Test.YthepbadecpnepaaLLoadsA
import Derived.Test.YthepbadecpnepaaLLoadsB
namespace Go.Proofs.Ythepbadecpnepaa
open Go.RowKit Go.MapKept
set_option linter.unusedVariables false
set_option linter.unusedSimpArgs false
set_option maxRecDepth 100000

theorem loads_walk (z : Int) (A1 : Option Addr) (n1 c1 : Nat) (l1 : List Nat) (A2 : Option Addr) (n2 c2 : Nat) (l2 : List Nat) (k : Int) (W : World) (hz : I64 z) (g1 : Bs W A1 n1 c1 l1) (g2 : Bs W A2 n2 c2 l2) (hk : I64 k) : LoadsWalk z A1 n1 c1 A2 n2 c2 k W := by
  unfold I64 at hz hk
  by_cases hb : 2000 < z ∨ 2000 < n1 ∨ 64 < n2
  · exact loads_big z A1 n1 c1 A2 n2 c2 k W hb
  cases hs : sizeOk z with
  | false => exact loads_nil z A1 n1 c1 A2 n2 c2 k W (by omega) (by omega) (by omega) hs
  | true =>
    have h64 : 64 ≤ z ∧ z % 64 = 0 := by unfold sizeOk at hs; simp at hs; omega
    obtain ⟨n, rfl⟩ : ∃ n : Nat, z = n := ⟨z.toNat, by omega⟩
    obtain ⟨r, hr⟩ : ∃ r, n - 64 = r := ⟨_, rfl⟩
    by_cases hk : n < n1
    · exact loads_some_b n r (by omega) (by omega) A1 n1 c1 l1 A2 n2 c2 l2 k W hs (by omega) g1 (by omega) g2 (by omega) hk
    · exact loads_some_a n r (by omega) (by omega) A1 n1 c1 l1 A2 n2 c2 l2 k W hs (by omega) g1 (by omega) g2 (by omega) hk
end Go.Proofs.Ythepbadecpnepaa
