/-
  One operation of a region that draws its order, kind by kind: what it yields where its operands are known.
-/
import Derived.Test.YtidibhphnkiacaaDoorStp
import Derived.Test.YtidibhphnkiacaaDoorLaw
namespace Go.Proofs.YtidibhphnkiacaaDoor
open Go.RowKit
set_option linter.unusedVariables false
set_option linter.unusedSimpArgs false

theorem want_some {l : List Oper} {o oj : Oper} {a : Act} {j d : Nat} {b : Bool} (h : o.guard = some (j, b)) (hj : l[j]? = some oj) (hd : oj.dst = some d) (hv : a.tmps.getD d undef = .bool b) : Region.wanted o (yielded l.toArray a.tmps) = true := by
  have ht : a.tmps[d]? = some (.bool b) := by
    rw [Array.getD_eq_getD_getElem?] at hv
    cases hq : a.tmps[d]? with
    | none => rw [hq] at hv; cases hv
    | some x => rw [hq] at hv; simp at hv; rw [hv]
  simp [Region.wanted, h, yielded, hj, hd, ht]

theorem cf11 (v : Value) (w : World) : (callFunc 11 #[v]).run Tryd.prog w = .ok (.enter 11 #[v]) w := by kernel_rfl
theorem cf12 (v : Value) (w : World) : (callFunc 12 #[v]).run Tryd.prog w = .ok (.enter 12 #[v]) w := by kernel_rfl
theorem cf13 (v : Value) (w : World) : (callFunc 13 #[v]).run Tryd.prog w = .ok (.enter 13 #[v]) w := by kernel_rfl
section
variable {o : Oper} {a : Act} {w : World} {K : Act → World → Prop} {Q : Exit → Act → World → Prop} {E : Prop} {b : Bool}
theorem st_pick (c x y : Operand) (ho : o.op = .pick c x y) (hw : b = true) (cb : Bool) (hc : a.eval c = .bool cb) (v : Value) (hv : (if cb = true then a.eval x else a.eval y) = v) (h : K (a.put o.dst v) w) : if b = true then o.wp Tryd.prog a w K Q else E := by
  rw [if_pos hw]; unfold Oper.wp execOp
  subst hv
  simp only [ho, hc, asBool, Sem.run_bind, Sem.run_pure, Result.andThen_ok]
  exact h
theorem st_len (x : Operand) (ho : o.op = .call { callee := .builtin .len, args := #[x], argTypes := #[24] }) (hw : b = true) (A : Option Addr) (n cap : Nat) (hx : a.eval x = .slice A n cap) (h : K (a.put o.dst (.int .i64 (n : Int))) w) : if b = true then o.wp Tryd.prog a w K Q else E := by
  rw [if_pos hw]; unfold Oper.wp execOp
  simp [ho, resolve, invoke, builtin, hx, Builtin.len_, run_underlying Tryd.underlying24, Builtin.lenOf, Result.andThen, goInt]
  exact h
theorem st_eqlInt (x y : Operand) (ho : o.op = .binOp .eql 3 x y 3) (hw : b = true) (m n : Int) (hx : a.eval x = .int .i64 m) (hy : a.eval y = .int .i64 n) (h : K (a.put o.dst (.bool (m == n))) w) : if b = true then o.wp Tryd.prog a w K Q else E := by
  rw [if_pos hw]; unfold Oper.wp execOp
  simp only [ho, hx, hy]
  simp [eqGuard, go_sem, Result.andThen]
  exact h
theorem st_eqlStr (x y : Operand) (ho : o.op = .binOp .eql 9 x y 9) (hw : b = true) (s : ByteArray) (hx : a.eval x = .string s) (hy : a.eval y = .string s) (h : K (a.put o.dst (.bool true)) w) : if b = true then o.wp Tryd.prog a w K Q else E := by
  rw [if_pos hw]; unfold Oper.wp execOp
  simp only [ho, hx, hy]
  simp [eqGuard, go_sem, Result.andThen]
  exact h
theorem st_neqStr (x y : Operand) (ho : o.op = .binOp .neq 9 x y 9) (hw : b = true) (s : ByteArray) (hx : a.eval x = .string s) (hy : a.eval y = .string s) (h : K (a.put o.dst (.bool false)) w) : if b = true then o.wp Tryd.prog a w K Q else E := by
  rw [if_pos hw]; unfold Oper.wp execOp
  simp only [ho, hx, hy]
  simp [eqGuard, go_sem, Result.andThen]
  exact h
theorem st_conv (x : Operand) (ho : o.op = .convert 24 9 x) (hw : b = true) (A : Option Addr) (n cap : Nat) (l : List UInt8) (hx : a.eval x = .slice A n cap) (hs : Seg w A n l) (h : K (a.put o.dst (.string (str l))) w) : if b = true then o.wp Tryd.prog a w K Q else E := by
  rw [if_pos hw]; unfold Oper.wp execOp
  simp only [ho, hx, Sem.run_bind, Sem.run_pure, Result.andThen_ok, hs.str cap]
  exact h
theorem st_call1 (f : Nat) (x : Operand) (t : TypeId) (ho : o.op = .call { callee := .value (.func f), args := #[x], argTypes := #[t] }) (hw : b = true) (v : Value) (hx : a.eval x = v) (hcf : (callFunc f #[v]).run Tryd.prog w = .ok (.enter f #[v]) w) (post : Ending → World → Prop) (hc : Calls Tryd.prog f #[v] w post) (hp : ∀ e w', post e w' → ∃ u, e = .returned u ∧ K (a.put o.dst u) w') : if b = true then o.wp Tryd.prog a w K Q else E := by
  rw [if_pos hw]; unfold Oper.wp execOp
  have hf : a.eval (.func f) = .func (.func f) #[] #[] := rfl
  have hx' : Array.map a.eval #[x] = #[v] := by simp [hx]
  simp only [ho]
  simp only [resolve, hf, hx']
  simp [invoke, go_sem, Result.andThen]
  rw [hcf]
  refine hc.mono fun e w' h => ?_
  obtain ⟨u, rfl, hk⟩ := hp e w' h
  exact hk
theorem st_build1 (x : Operand) (ho : o.op = .buildSlice 22 1 #[(0, x)]) (hw : b = true) (v : Value) (hx : a.eval x = v) {A : Option Addr} {n cap : Nat} (hv : v = .slice A n cap) (h : K (a.put o.dst (.slice (some ⟨w.heap.size, 0, none⟩) 1 1)) (w.alloc (.cells #[v] 24))) : if b = true then o.wp Tryd.prog a w K Q else E := by
  rw [if_pos hw]; unfold Oper.wp execOp
  have hm : Array.map (fun (i, x) => (i, a.eval x)) #[(0, x)] = #[(0, v)] := by simp [hx]
  subst hv
  simp only [ho, hm]
  have hrun : (Instr.buildSlice 22 1 #[(0, .slice A n cap)]).run Tryd.prog w = .ok (.slice (some ⟨w.heap.size, 0, none⟩) 1 1) (w.alloc (.cells #[.slice A n cap] 24)) := by kernel_rfl
  simp only [Sem.run_bind, hrun, Result.andThen_ok, Sem.run_pure]
  exact h
theorem st_build2 (x y : Operand) (ho : o.op = .buildSlice 22 2 #[(0, x), (1, y)]) (hw : b = true) (v u : Value) (hx : a.eval x = v) (hy : a.eval y = u) {A A' : Option Addr} {n cap n' cap' : Nat} (hv : v = .slice A n cap) (hu : u = .slice A' n' cap') (h : K (a.put o.dst (.slice (some ⟨w.heap.size, 0, none⟩) 2 2)) (w.alloc (.cells #[v, u] 24))) : if b = true then o.wp Tryd.prog a w K Q else E := by
  rw [if_pos hw]; unfold Oper.wp execOp
  have hm : Array.map (fun (i, x) => (i, a.eval x)) #[(0, x), (1, y)] = #[(0, v), (1, u)] := by simp [hx, hy]
  subst hv hu
  simp only [ho, hm]
  have hrun : (Instr.buildSlice 22 2 #[(0, .slice A n cap), (1, .slice A' n' cap')]).run Tryd.prog w = .ok (.slice (some ⟨w.heap.size, 0, none⟩) 2 2) (w.alloc (.cells #[.slice A n cap, .slice A' n' cap'] 24)) := by kernel_rfl
  simp only [Sem.run_bind, hrun, Result.andThen_ok, Sem.run_pure]
  exact h
theorem st_build3 (x y z : Operand) (ho : o.op = .buildSlice 22 3 #[(0, x), (1, y), (2, z)]) (hw : b = true) (v u t : Value) (hx : a.eval x = v) (hy : a.eval y = u) (hz : a.eval z = t) {A A' A'' : Option Addr} {n cap n' cap' n'' cap'' : Nat} (hv : v = .slice A n cap) (hu : u = .slice A' n' cap') (ht : t = .slice A'' n'' cap'') (h : K (a.put o.dst (.slice (some ⟨w.heap.size, 0, none⟩) 3 3)) (w.alloc (.cells #[v, u, t] 24))) : if b = true then o.wp Tryd.prog a w K Q else E := by
  rw [if_pos hw]; unfold Oper.wp execOp
  have hm : Array.map (fun (i, x) => (i, a.eval x)) #[(0, x), (1, y), (2, z)] = #[(0, v), (1, u), (2, t)] := by simp [hx, hy, hz]
  subst hv hu ht
  simp only [ho, hm]
  have hrun : (Instr.buildSlice 22 3 #[(0, .slice A n cap), (1, .slice A' n' cap'), (2, .slice A'' n'' cap'')]).run Tryd.prog w = .ok (.slice (some ⟨w.heap.size, 0, none⟩) 3 3) (w.alloc (.cells #[.slice A n cap, .slice A' n' cap', .slice A'' n'' cap''] 24)) := by kernel_rfl
  simp only [Sem.run_bind, hrun, Result.andThen_ok, Sem.run_pure]
  exact h
end
end Go.Proofs.YtidibhphnkiacaaDoor
