/-
  A slice of bytes compared with nil, as one operation. No condition.
-/
import Derived.Test.YthepbadecpnepaaM1
import Derived.Lib.SliceRun
namespace Go.Proofs.Ythepbadecpnepaa
open Go.RowKit Go.MapKept
set_option linter.unusedVariables false
set_option linter.unusedSimpArgs false
set_option maxRecDepth 100000

section
variable {ops : Array Oper} {rest : List Oper} {op : Oper} {a : Act} {w : World} {Q : Exit → Act → World → Prop}
theorem run_eqNil (ρ : Operand → Value) (op : Oper) (x : Operand) (ho : op.op = .binOp .eql 25 x (.const (.slice none 0 0)) 25) (A : Option Addr) (n c : Nat) (hx : ρ x = .slice A n c) (hy : ρ (.const (.slice none 0 0)) = .slice none 0 0) (w : World) :
    (execOp ρ op).run Try.prog w = .ok (.value (.bool A.isNone)) w := by
  unfold execOp
  have e := Lib.run_eql_slice_nil (P := Try.prog) w 25 5 A n c 0 0 Try.underlying25
  simp only [ho, hx, hy, Sem.run_bind]
  simp [eqGuard, Result.andThen, e]
theorem run_neNil (ρ : Operand → Value) (op : Oper) (x : Operand) (ho : op.op = .binOp .neq 25 x (.const (.slice none 0 0)) 25) (A : Option Addr) (n c : Nat) (hx : ρ x = .slice A n c) (hy : ρ (.const (.slice none 0 0)) = .slice none 0 0) (w : World) :
    (execOp ρ op).run Try.prog w = .ok (.value (.bool A.isSome)) w := by
  unfold execOp
  have e1 := Lib.run_equalIn_slice_nil (P := Try.prog) w 9999 25 5 A n c 0 0 Try.underlying25
  have e2 : (Op.equal 25 (.slice A n c) (.slice none 0 0)).run Try.prog w = .ok A.isNone w := e1
  have e : (binOp .neq 25 (.slice A n c) (.slice none 0 0)).run Try.prog w = .ok (.bool A.isSome) w := by
    have e3 : binOp .neq 25 (.slice A n c) (.slice none 0 0) = (do pure (.bool (!(← Op.equal 25 (.slice A n c) (.slice none 0 0))))) := rfl
    rw [e3]
    simp [Sem.run_bind, e2, Result.andThen]
  simp only [ho, hx, hy, Sem.run_bind]
  simp [eqGuard, Result.andThen, e]
theorem wpList_eqNil (hgd : op.guard = none) (x : Operand) (ho : op.op = .binOp .eql 25 x (.const (.slice none 0 0)) 25) (A : Option Addr) (n c : Nat) (b : Bool) (hb : A.isNone = b) (hx : a.eval x = .slice A n c)
    (h : wpList Try.prog ops Q rest (a.put op.dst (.bool b)) w) : wpList Try.prog ops Q (op :: rest) a w :=
  wpList_run hgd _ (run_eqNil a.eval op x ho A n c hx rfl w) (by rw [hb]; exact h)
theorem wpList_neNil (hw : Region.wanted op (yielded ops a.tmps) = true) (x : Operand) (ho : op.op = .binOp .neq 25 x (.const (.slice none 0 0)) 25) (A : Option Addr) (n c : Nat) (b : Bool) (hb : A.isSome = b) (hx : a.eval x = .slice A n c)
    (h : wpList Try.prog ops Q rest (a.put op.dst (.bool b)) w) : wpList Try.prog ops Q (op :: rest) a w :=
  BigFrame.wpList_want hw fun _ hK => by
    unfold Oper.wp
    rw [run_neNil a.eval op x ho A n c hx rfl w, hb]
    exact hK _ _ h
end
end Go.Proofs.Ythepbadecpnepaa
