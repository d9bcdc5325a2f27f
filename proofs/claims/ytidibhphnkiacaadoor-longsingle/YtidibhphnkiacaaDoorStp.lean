/-
  One operation of a region that draws its order, kind by kind, on words: what it yields where its operands are known.
-/
import Derived.Test.YtidibhphnkiacaaDoorMix
namespace Go.Proofs.YtidibhphnkiacaaDoor
open Go.RowKit
set_option linter.unusedVariables false
set_option linter.unusedSimpArgs false

theorem want_none {o : Oper} {y : Nat → Option Bool} (h : o.guard = none) : Region.wanted o y = true := by simp [Region.wanted, h]
theorem cf20 (v u : Value) (w : World) : (callFunc 20 #[v, u]).run Tryd.prog w = .ok (.enter 20 #[v, u]) w := by kernel_rfl
section
variable {o : Oper} {a : Act} {w : World} {K : Act → World → Prop} {Q : Exit → Act → World → Prop} {E : Prop} {b : Bool}
theorem st_move (x : Operand) (ho : o.op = .move x) (hw : b = true) (v : Value) (hx : a.eval x = v) (h : K (a.put o.dst v) w) : if b = true then o.wp Tryd.prog a w K Q else E := by
  rw [if_pos hw]; unfold Oper.wp execOp; simp only [ho, hx, Sem.run_pure]; exact h
theorem st_assign (x : Operand) (ho : o.op = .assign x) (hw : b = true) (v : Value) (hx : a.eval x = v) (h : K (a.put o.dst v) w) : if b = true then o.wp Tryd.prog a w K Q else E := by
  rw [if_pos hw]; unfold Oper.wp execOp; simp only [ho, hx, Sem.run_pure]; exact h
theorem st_add (x y : Operand) (ho : o.op = .binOp .add 34 x y 34) (hw : b = true) (m n : W64) (hx : a.eval x = .int .u64 (ui m)) (hy : a.eval y = .int .u64 (ui n)) (h : K (a.put o.dst (.int .u64 (ui (m + n)))) w) : if b = true then o.wp Tryd.prog a w K Q else E := by
  rw [if_pos hw]; unfold Oper.wp execOp
  simp only [ho, hx, hy]
  simp [eqGuard, go_sem, Result.andThen, ui_addw]
  exact h
theorem st_and (x y : Operand) (ho : o.op = .binOp .and 34 x y 34) (hw : b = true) (m n : W64) (hx : a.eval x = .int .u64 (ui m)) (hy : a.eval y = .int .u64 (ui n)) (h : K (a.put o.dst (.int .u64 (ui (m &&& n)))) w) : if b = true then o.wp Tryd.prog a w K Q else E := by
  rw [if_pos hw]; unfold Oper.wp execOp
  simp only [ho, hx, hy]
  simp [eqGuard, go_sem, Result.andThen, ui_and]
  exact h
theorem st_xor (x y : Operand) (ho : o.op = .binOp .xor 34 x y 34) (hw : b = true) (m n : W64) (hx : a.eval x = .int .u64 (ui m)) (hy : a.eval y = .int .u64 (ui n)) (h : K (a.put o.dst (.int .u64 (ui (m ^^^ n)))) w) : if b = true then o.wp Tryd.prog a w K Q else E := by
  rw [if_pos hw]; unfold Oper.wp execOp
  simp only [ho, hx, hy]
  simp [eqGuard, go_sem, Result.andThen, ui_xor]
  exact h
theorem ui_not_if (x : W64) : bits .xor .u64 (if IntKind.u64.signed = true then -1 else IntKind.u64.max) (ui x) = ui (~~~x) := ui_not x
theorem st_not (x : Operand) (ho : o.op = .unOp .xor 34 x) (hw : b = true) (m : W64) (hx : a.eval x = .int .u64 (ui m)) (h : K (a.put o.dst (.int .u64 (ui (~~~m)))) w) : if b = true then o.wp Tryd.prog a w K Q else E := by
  rw [if_pos hw]; unfold Oper.wp execOp
  simp only [ho, hx]
  simp [eqGuard, go_sem, Result.andThen, ui_not_if]
  exact h
theorem st_shr (x : Operand) (n : Nat) (hn : n < 64) (z : Int) (hz : z = n) (ho : o.op = .binOp .shr 34 x (.const (.int .u64 z)) 49) (hw : b = true) (m : W64) (hx : a.eval x = .int .u64 (ui m)) (h : K (a.put o.dst (.int .u64 (ui (m >>> n)))) w) : if b = true then o.wp Tryd.prog a w K Q else E := by
  rw [if_pos hw]; unfold Oper.wp execOp
  subst hz
  have hy : a.eval (.const (.int .u64 (n : Int))) = .int .u64 (n : Int) := rfl
  have u0 := ui_lo m
  have u1 := ui_hi m
  have e := ui_shr m n
  simp only [ho, hx, hy]
  simp [eqGuard, go_sem, Result.andThen, e]
  exact h
theorem st_subInt (x : Operand) (c m : Int) (ho : o.op = .binOp .sub 3 x (.const (.int .i64 c)) 3) (hw : b = true) (k : Int) (hx : a.eval x = .int .i64 k) (hm : IntKind.i64.wrap (k - c) = m) (h : K (a.put o.dst (.int .i64 m)) w) : if b = true then o.wp Tryd.prog a w K Q else E := by
  rw [if_pos hw]; unfold Oper.wp execOp
  have hy : a.eval (.const (.int .i64 c)) = .int .i64 c := rfl
  simp only [ho, hx, hy]
  simp [eqGuard, go_sem, Result.andThen, hm]
  exact h
theorem st_index (x y : Operand) (ho : o.op = .indexAddr 43 x y) (hw : b = true) (g k : Nat) (hx : a.eval x = .pointer (some ⟨g, 0, none⟩)) (hy : a.eval y = .int .i64 (k : Int)) (hk : k < 80) (h : K (a.put o.dst (.pointer (some ⟨g, k, none⟩))) w) : if b = true then o.wp Tryd.prog a w K Q else E := by
  rw [if_pos hw]; unfold Oper.wp execOp
  have h1 : (0 : Int) ≤ (k : Int) ∧ (k : Int) < 80 := ⟨by omega, by omega⟩
  obtain ⟨i0, hi, hz0, hz1, hz2⟩ := info_parts wordInfo
  have e : (Instr.indexAt 43 (.pointer (some ⟨g, 0, none⟩)) (.int .i64 (k : Int))).run Tryd.prog w = .ok (.pointer (some ⟨g, k, none⟩)) w := by
    simp [Instr.indexAt, run_underlying Tryd.underlying43, Instr.sureAddr, asIntOf, sizeOf, typeInfo, hi, hz1, h1, Addr.add]
    split <;> simp_all
  simp only [ho, hx, hy, Sem.run_bind, e, Result.andThen_ok, Sem.run_pure]
  exact h
theorem st_load (x : Operand) (ho : o.op = .load 34 x) (hw : b = true) (g k : Nat) (v : Value) (hx : a.eval x = .pointer (some ⟨g, k, none⟩)) (hc : w.cell? ⟨g, k, none⟩ = some v) (h : K (a.put o.dst v) w) : if b = true then o.wp Tryd.prog a w K Q else E := by
  rw [if_pos hw]; unfold Oper.wp execOp
  simp only [ho, hx]
  simp [go_sem, Result.andThen, hc, Instr.loadAt, loadVar, isAgg, run_underlying Tryd.underlying34]
  exact h
theorem st_ints3 (x y z : Int) (ho : o.op = .buildSlice 50 3 #[(0, .const (.int .i64 x)), (1, .const (.int .i64 y)), (2, .const (.int .i64 z))]) (hw : b = true) (h : K (a.put o.dst (.slice (some ⟨w.heap.size, 0, none⟩) 3 3)) (w.alloc (.cells #[.int .i64 x, .int .i64 y, .int .i64 z] 3))) : if b = true then o.wp Tryd.prog a w K Q else E := by
  rw [if_pos hw]; unfold Oper.wp execOp
  have hm : Array.map (fun (i, x) => (i, a.eval x)) #[(0, Operand.const (.int .i64 x)), (1, .const (.int .i64 y)), (2, .const (.int .i64 z))] = #[(0, .int .i64 x), (1, .int .i64 y), (2, .int .i64 z)] := by simp [show ∀ c, a.eval (.const c) = c from fun _ => rfl]
  simp only [ho, hm]
  have hrun : (Instr.buildSlice 50 3 #[(0, .int .i64 x), (1, .int .i64 y), (2, .int .i64 z)]).run Tryd.prog w = .ok (.slice (some ⟨w.heap.size, 0, none⟩) 3 3) (w.alloc (.cells #[.int .i64 x, .int .i64 y, .int .i64 z] 3)) := by kernel_rfl
  simp only [Sem.run_bind, hrun, Result.andThen_ok, Sem.run_pure]
  exact h
theorem st_ints2 (x y : Int) (ho : o.op = .buildSlice 50 2 #[(0, .const (.int .i64 x)), (1, .const (.int .i64 y))]) (hw : b = true) (h : K (a.put o.dst (.slice (some ⟨w.heap.size, 0, none⟩) 2 2)) (w.alloc (.cells #[.int .i64 x, .int .i64 y] 3))) : if b = true then o.wp Tryd.prog a w K Q else E := by
  rw [if_pos hw]; unfold Oper.wp execOp
  have hm : Array.map (fun (i, x) => (i, a.eval x)) #[(0, Operand.const (.int .i64 x)), (1, .const (.int .i64 y))] = #[(0, .int .i64 x), (1, .int .i64 y)] := by simp [show ∀ c, a.eval (.const c) = c from fun _ => rfl]
  simp only [ho, hm]
  have hrun : (Instr.buildSlice 50 2 #[(0, .int .i64 x), (1, .int .i64 y)]).run Tryd.prog w = .ok (.slice (some ⟨w.heap.size, 0, none⟩) 2 2) (w.alloc (.cells #[.int .i64 x, .int .i64 y] 3)) := by kernel_rfl
  simp only [Sem.run_bind, hrun, Result.andThen_ok, Sem.run_pure]
  exact h
theorem st_call2 (f : Nat) (x y : Operand) (t u : TypeId) (ho : o.op = .call { callee := .value (.func f), args := #[x, y], argTypes := #[t, u] }) (hw : b = true) (v z : Value) (hx : a.eval x = v) (hy : a.eval y = z) (hcf : (callFunc f #[v, z]).run Tryd.prog w = .ok (.enter f #[v, z]) w) (post : Ending → World → Prop) (hc : Calls Tryd.prog f #[v, z] w post) (hp : ∀ e w', post e w' → ∃ u, e = .returned u ∧ K (a.put o.dst u) w') : if b = true then o.wp Tryd.prog a w K Q else E := by
  rw [if_pos hw]; unfold Oper.wp execOp
  have hf : a.eval (.func f) = .func (.func f) #[] #[] := rfl
  have hx' : Array.map a.eval #[x, y] = #[v, z] := by simp [hx, hy]
  simp only [ho]
  simp only [resolve, hf, hx']
  simp [invoke, go_sem, Result.andThen]
  rw [hcf]
  refine hc.mono fun e w' h => ?_
  obtain ⟨u, rfl, hk⟩ := hp e w' h
  exact hk
end
/-- A slice of numbers that the walk has just built, turned. -/
def Ints (w : World) (g : Nat) (ns : List Nat) : Prop := Blk w g 3 (ns.map fun (k : Nat) => Value.int .i64 (k : Int))
theorem Ints.cells {w : World} {g : Nat} {ns : List Nat} (h : Ints w g ns) : ∀ (j k : Nat), ns[j]? = some k → w.cell? ⟨g, j, none⟩ = some (.int .i64 (k : Int)) := by
  intro j k hk
  rw [Blk.cell h, List.getElem?_map, hk]
  rfl
end Go.Proofs.YtidibhphnkiacaaDoor
