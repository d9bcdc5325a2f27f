/-
  The program's addRow and Mul: what they answer of limbs in memory.
-/
import Derived.Test.YtojpbfkdkkdpcaaDoorProg3
import Derived.Test.YtojpbfkdkkdpcaaDoorRef4
namespace Go.Proofs.YtojpbfkdkkdpcaaDoor
set_option maxRecDepth 100000
open Go.RowKit
set_option linter.unusedVariables false
set_option linter.unusedSimpArgs false

theorem run_cut (A : Option Addr) (k cap : Nat) (lo hi : Nat) (h1 : lo ≤ hi) (h2 : hi ≤ cap) (L H : Int) (hL : L = (lo : Int)) (hH : H = (hi : Int)) (w : World) :
    (Instr.slice 45 (.slice A k cap) (some (.int .i64 L)) (some (.int .i64 H)) none).run Tryd.prog w = .ok (.slice (if cap = lo then A else A.map (·.add lo)) (hi - lo) (cap - lo)) w := by
  subst hL hH
  obtain ⟨i0, hi0, hz0, hz1, hz2⟩ := info_parts wordInfo
  simp [Instr.slice, run_underlying Tryd.underlying45, Instr.sliceBounds, run_sliceBound, sizeOf, typeInfo, hi0, hz1, h1, h2]
theorem run_mid (g T lo n : Nat) (h1 : lo + n ≤ T) (h2 : lo < T) (H : Int) (hH : H = (lo : Int) + n) (w : World) :
    (Instr.slice 45 (.slice (some ⟨g, 0, none⟩) T T) (some (.int .i64 (lo : Int))) (some (.int .i64 H)) none).run Tryd.prog w = .ok (.slice (some ⟨g, lo, none⟩) n (T - lo)) w := by
  rw [run_cut (some ⟨g, 0, none⟩) T T lo (lo + n) (by omega) h1 lo H rfl (by omega) w, if_neg (by omega), Nat.add_sub_cancel_left]
  simp [addr_add]
theorem high_zero {B : Nat} {l : List Nat} {j o : Nat} (h : l[j]? = some o) (hv : val B l < B ^ j) : o = 0 := by
  have e := split_at h
  have hi := (List.getElem?_eq_some_iff.1 h).1
  have hl : (l.take j).length = j := by simp; omega
  rw [e, val_append, val, hl, Nat.mul_add] at hv
  rcases Nat.eq_zero_or_pos o with h0 | h0
  · exact h0
  · have : B ^ j * 1 ≤ B ^ j * o := Nat.mul_le_mul_left _ h0
    omega

end Go.Proofs.YtojpbfkdkkdpcaaDoor
