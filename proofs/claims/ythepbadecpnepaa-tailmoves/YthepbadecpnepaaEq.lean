/-
  Tails that are equal, and that aren't. No condition.
-/
import Derived.Test.YthepbadecpnepaaH10
import Derived.Laws.StructEq
namespace Go.Proofs.Ythepbadecpnepaa
open Go.RowKit Go.MapKept
set_option linter.unusedVariables false
set_option linter.unusedSimpArgs false
set_option maxRecDepth 100000

theorem run_plainPart {xs : Array Value} {off : Nat} {v : Value} {w : World} (hx : xs[off]? = some v) : (Go.part 3 xs off).run Try.prog w = .ok v w := by
  simp [Go.part, isAgg, run_underlying Try.underlying3, hx]
theorem eqlT (a b c x y z : Int) (w : World) : (Op.equalIn 10000 23 (.agg #[.int .i64 a, .int .i64 b, .int .i64 c]) (.agg #[.int .i64 x, .int .i64 y, .int .i64 z])).run Try.prog w = .ok (decide (a = x ∧ b = y ∧ c = z)) w := by
  rw [show (10000 : Nat) = 9999 + 1 from rfl, run_equalIn_struct w 9999 23 _ _ (by kernel_rfl) (by kernel_rfl)]
  have he : ∀ (x y : Int) (w : World), (Op.equalIn 9999 3 (.int .i64 x) (.int .i64 y)).run Try.prog w = .ok (x == y) w := fun x y w => run_equalIn_int (P := Try.prog) w 9998 3 .i64 .i64 x y Try.underlying3
  have hp : ∀ (a b c : Int) (off : Nat) (v : Value) (w : World), (#[Value.int .i64 a, .int .i64 b, .int .i64 c] : Array Value)[off]? = some v → (Go.part 3 #[.int .i64 a, .int .i64 b, .int .i64 c] off).run Try.prog w = .ok v w := fun a b c off v w h => run_plainPart h
  by_cases h1 : a = x
  · by_cases h2 : b = y
    · by_cases h3 : c = z
      · simp [Program.fieldsOf, Try.underlying23, Op.eqFields, hp _ _ _ 0 _ _ rfl, hp _ _ _ 1 _ _ rfl, hp _ _ _ 2 _ _ rfl, he, h1, h2, h3]
      · simp [Program.fieldsOf, Try.underlying23, Op.eqFields, hp _ _ _ 0 _ _ rfl, hp _ _ _ 1 _ _ rfl, hp _ _ _ 2 _ _ rfl, he, h1, h2, h3]
    · simp [Program.fieldsOf, Try.underlying23, Op.eqFields, hp _ _ _ 0 _ _ rfl, hp _ _ _ 1 _ _ rfl, hp _ _ _ 2 _ _ rfl, he, h1, h2]
  · simp [Program.fieldsOf, Try.underlying23, Op.eqFields, hp _ _ _ 0 _ _ rfl, hp _ _ _ 1 _ _ rfl, hp _ _ _ 2 _ _ rfl, he, h1]
theorem eqlTT (a b c : Int) (w : World) : (Op.equalIn 10000 23 (.agg #[.int .i64 a, .int .i64 b, .int .i64 c]) (.agg #[.int .i64 a, .int .i64 b, .int .i64 c])).run Try.prog w = .ok true w := by
  rw [eqlT, decide_eq_true ⟨rfl, rfl, rfl⟩]
section
variable {o : Oper} {a : Act} {w : World} {K : Act → World → Prop} {Q : Exit → Act → World → Prop} {E : Prop} {b : Bool}
theorem st_conv (x : Operand) (ho : o.op = .convert 25 9 x) (hw : b = true) (A : Option Addr) (n cap : Nat) (l : List Nat) (hx : a.eval x = .slice A n cap) (hs : Rd .u8 w A n l) (h : K (a.put o.dst (.string (str l))) w) : if b = true then o.wp Try.prog a w K Q else E := by
  rw [if_pos hw]; unfold Oper.wp execOp
  simp only [ho, hx, Sem.run_bind, Sem.run_pure, Result.andThen_ok, rd_str hs cap]
  exact h
theorem st_eqlStrB (x y : Operand) (ho : o.op = .binOp .eql 9 x y 9) (hw : b = true) (l l' : List Nat) (hf : Fit 256 l) (hf' : Fit 256 l') (hx : a.eval x = .string (str l)) (hy : a.eval y = .string (str l')) (h : K (a.put o.dst (.bool (decide (l = l')))) w) : if b = true then o.wp Try.prog a w K Q else E := by
  rw [if_pos hw]; unfold Oper.wp execOp
  have e := str_same hf hf'
  simp only [ho, hx, hy]
  simp [eqGuard, go_sem, Result.andThen, e]
  exact h
theorem st_neqStrB (x y : Operand) (ho : o.op = .binOp .neq 9 x y 9) (hw : b = true) (l l' : List Nat) (hf : Fit 256 l) (hf' : Fit 256 l') (hx : a.eval x = .string (str l)) (hy : a.eval y = .string (str l')) (h : K (a.put o.dst (.bool (!decide (l = l')))) w) : if b = true then o.wp Try.prog a w K Q else E := by
  rw [if_pos hw]; unfold Oper.wp execOp
  have e := str_same hf hf'
  simp only [ho, hx, hy]
  simp [eqGuard, go_sem, Result.andThen, bne, e]
  exact h
end
theorem Row.mono {w : World} {B C : Nat} {e : TypeId} {A : Option Addr} {n cap : Nat} {xs : List Value} (h : Row w B e A n cap xs) (hC : C ≤ B) : Row w C e A n cap xs := by
  refine ⟨h.1, h.2.elim .inl fun k => ?_⟩
  obtain ⟨g, c, cur, h1, h2, h3⟩ := k
  exact .inr ⟨g, c, cur, h1, Nat.le_trans hC h2, h3⟩
end Go.Proofs.Ythepbadecpnepaa
