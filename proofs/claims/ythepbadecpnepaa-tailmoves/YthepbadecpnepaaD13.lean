/-
  The statements' own anchor: the document's example holds. No condition.
-/
import Derived.Test.YthepbadecpnepaaD12
namespace Go.Proofs.Ythepbadecpnepaa
open Go.RowKit Go.MapKept
set_option linter.unusedVariables false
set_option linter.unusedSimpArgs false
set_option maxRecDepth 100000

theorem below_touch {B : Nat} {a w w' : World} {O : List Nat} (h : Below B a w) (t : Touch O w w') (hO : ∀ b ∈ O, B ≤ b) (hB : B ≤ w.heap.size) : Below B a w' := h.trans (t.below hO hB)
/-- A new drive of one partition. -/
theorem New_one (A : Option Addr) (l : List UInt8) (z : Int) (w : World) (h : Ss w A 1 1 2 (pcells [(⟨l.toArray⟩, z)])) (h1 : 1 ≤ l.length) (h2 : l.length ≤ 24) (h3 : l.all (fun c => letter (c.toNat : Int)) = true) (hz : sizeOk z = true) :
    Calls Try.prog 22 #[.slice A 1 1] w fun e w' => ∃ g O, e = .returned (.tuple #[.pointer (some ⟨g, 0, none⟩), .int .i64 0]) ∧ OneD w' g O w'.heap.size ⟨l.toArray⟩ (List.replicate z.toNat 0) (fun _ => false) false (-1) [] 0 0 ∧ (∀ b ∈ O, w.heap.size ≤ b) ∧ Below w.heap.size w w' := by
  refine (New_ok A 1 1 _ w h (fun p hp => by rw [List.mem_singleton.1 hp]; simp [ByteArray.size]; omega) (fault_one h1 h2 h3 hz)).mono ?_
  rintro e w' ⟨D, rfl, hD, hF, hb⟩
  exact ⟨D.g, D.own, rfl, OneD.of_new hD hF, hF.above, hb⟩
end Go.Proofs.Ythepbadecpnepaa
