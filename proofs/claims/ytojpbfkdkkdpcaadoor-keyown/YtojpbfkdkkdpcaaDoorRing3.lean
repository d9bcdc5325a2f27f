/-
  The program's short: a product less one factor of 2 to the width.
-/
import Derived.Test.YtojpbfkdkkdpcaaDoorRing2
import Derived.Deep.RegionHeld3
namespace Go.Proofs.YtojpbfkdkkdpcaaDoor
set_option maxRecDepth 100000
open Go.RowKit
set_option linter.unusedVariables false
set_option linter.unusedSimpArgs false

theorem row_bound {B N t x a k m : Nat} (hB : 2 ≤ B) (hN : N < B ^ k) (ht : t < 2 * N) (hx : x < B) (ha : a < N) (hm : m < B) : t + x * a + m * N < B ^ (k + 2) := by
  have h1 : x * a ≤ (B - 1) * N := Nat.mul_le_mul (by omega) (by omega)
  have h2 : m * N ≤ (B - 1) * N := Nat.mul_le_mul_right _ (by omega)
  have h3 : (B - 1) * N + N = B * N := by
    conv => lhs; rhs; rw [← Nat.one_mul N]
    rw [← Nat.add_mul, show B - 1 + 1 = B by omega]
  have h4 : B * N < B * B ^ k := Nat.mul_lt_mul_of_pos_left hN (by omega)
  have h5 : 2 * (B * N) ≤ B * (B * N) := Nat.mul_le_mul_right _ hB
  have h6 : B * (B * N) < B * (B * B ^ k) := Nat.mul_lt_mul_of_pos_left h4 (by omega)
  have h7 : B ^ (k + 2) = B * (B * B ^ k) := by rw [Nat.pow_succ, Nat.pow_succ, Nat.mul_comm, Nat.mul_comm (B ^ k)]
  omega

theorem wordSize : (Tryd.prog.info? 73).map (·.size) = some 1 := by kernel_rfl
/-- copy(sum, sum[1:]): all cells moved down by one; the last one stays. -/
theorem wpList_down {w : World} {ops : Array Oper} {rest : List Oper} {o : Oper} {a : Act} {Q : Exit → Act → World → Prop} (hgd : o.guard = none) (d x : Operand)
    (ho : o.op = .call { callee := .builtin .copy, args := #[d, x], argTypes := #[45, 45] }) (s T T1 c c' : Nat) (hd : a.eval d = .slice (some ⟨s, 0, none⟩) T c) (hx : a.eval x = .slice (some ⟨s, 1, none⟩) T1 c')
    (O : List Nat) (hO : O.length = T) (hT : T = T1 + 1) (hg : Blk w s 73 (cn .u32 O))
    (h : ∀ w', Hid (Blk w' s 73 (cn .u32 (O.drop 1 ++ O.drop T1))) → w.grownBy w' (some s) → wpList Tryd.prog ops Q rest (a.put o.dst (goInt T1)) w') :
    wpList Tryd.prog ops Q (o :: rest) a w := by
  have hlen : (cn .u32 (O.drop 1)).length = T1 := by rw [cn_length, List.length_drop]; omega
  by_cases h0 : T1 = 0
  · subst h0
    have hnil : cn .u32 (O.drop 1) = [] := List.eq_nil_of_length_eq_zero hlen
    refine wpList_copy_nothing hgd d x 45 45 ho 73 Tryd.underlying45 wordSize _ _ _ _ _ _ hd hx (by simp) ?_
    have h1 : O.drop 1 = [] := List.eq_nil_of_length_eq_zero (by rw [List.length_drop]; omega)
    refine h w ?_ (World.grownBy.refl w _)
    show Blk _ _ _ _
    rw [h1, List.nil_append, List.drop_zero]
    exact hg
  · have hsrc : ∀ j v, (cn .u32 (O.drop 1))[j]? = some v → w.cell? ((⟨s, 1, none⟩ : Addr).add j) = some v := by
      intro j v hv
      rw [addr_add, hg.cell, ← hv]
      simp only [cn, List.getElem?_map, List.getElem?_drop]
    have hmin : (cn .u32 (O.drop 1)).length = Nat.min T1 T := by rw [hlen]; show _ = min T1 T; omega
    refine wpList_copy_own hgd d x 45 45 ho 73 Tryd.underlying45 wordSize s 0 T c _ T1 c' hd hx (cn .u32 O).toArray 73 hg (cn .u32 (O.drop 1)) hmin hsrc (by simp [cn_length]) (cn_one _ _) ?_
    rw [hlen]
    refine h _ ?_ ⟨rfl, rfl, rfl, by simp [World.setRow], fun i hi hne => setRow_other w s i _ (fun e => hne (by rw [e]))⟩
    show Blk _ _ _ _
    have := setRow_heap w s _ ((cn .u32 O).toArray.toList.take 0 ++ (cn .u32 (O.drop 1) ++ (cn .u32 O).toArray.toList.drop (0 + T1))).toArray 73 _ hg
    unfold Blk
    rw [cn_append]
    simpa [cn, List.map_drop] using this
theorem run_from1 (s T T1 : Nat) (hT : T = T1 + 1) (h1 : 1 ≤ T1) (w : World) :
    (Instr.slice 45 (.slice (some ⟨s, 0, none⟩) T T) (some (.int .i64 1)) none none).run Tryd.prog w = .ok (.slice (some ⟨s, 1, none⟩) T1 T1) w := by
  subst hT
  obtain ⟨i0, hi0, hz0, hz1, hz2⟩ := info_parts wordInfo
  have h2 : ¬ T1 = 0 := by omega
  have hb : ∀ (w : World), (Instr.sliceBound (.int .i64 1) (T1 + 1) BoundsCode.sliceB).run Tryd.prog w = .ok 1 w := fun w => run_sliceBound w .i64 1 (T1 + 1) BoundsCode.sliceB (by omega) (by omega)
  simp [Instr.slice, run_underlying Tryd.underlying45, Instr.sliceBounds, hb, sizeOf, typeInfo, hi0, hz1, h2, addr_add]
theorem run_upto23 (A : Option Addr) (k cap : Nat) (hi : Nat) (h2 : hi ≤ cap) (w : World) :
    (Instr.slice 45 (.slice A k cap) none (some (.int .i64 (hi : Int))) none).run Tryd.prog w = .ok (.slice A hi cap) w := by
  obtain ⟨i0, hi0, hz0, hz1, hz2⟩ := info_parts wordInfo
  simp [Instr.slice, run_underlying Tryd.underlying45, Instr.sliceBounds, run_sliceBound, sizeOf, typeInfo, hi0, hz1, h2, add_zero_]

/-- An answer: the short product of a and b. -/
def Shorted (w : World) (k N a b : Nat) (e : Ending) (w' : World) : Prop :=
  ∃ A c l, e = .returned (.slice A k c) ∧ Rd .u32 w' A k l ∧ Fit 4294967296 l ∧ val 4294967296 l < N ∧ val 4294967296 l * 4294967296 ^ k % N = a * b % N ∧ Below w.heap.size w w'

/-- The sum behind i rows. -/
structure Rows_ (N a : Nat) (lb : List Nat) (k i : Nat) (O : List Nat) : Prop where
  len : O.length = k + 2
  fit : Fit 4294967296 O
  lt : val 4294967296 O < 2 * N
  eq : val 4294967296 O * 4294967296 ^ i % N = val 4294967296 (lb.take i) * a % N
theorem Rows_.next {N n0 a k i x m : Nat} {lb O O1 O2 : List Nat} (h : Rows_ N a lb k i O) (hinv : n0 * N % 4294967296 = 4294967296 - 1) (ha : a < N) (hx : lb[i]? = some x) (hxb : x < 4294967296) (hv1 : val 4294967296 O1 = val 4294967296 O + x * a)
    (hm : m = val 4294967296 O1 % 4294967296 * n0 % 4294967296) (hl2 : O2.length = k + 2) (hf2 : Fit 4294967296 O2) (hv2 : val 4294967296 O2 = val 4294967296 O1 + m * N) : Rows_ N a lb k (i + 1) (O2.drop 1 ++ [0]) := by
  have hz := mont_exact (B := 4294967296) (n := N) (n0 := n0) (u := val 4294967296 O1) (by omega) hinv
  rw [← hm, ← hv2] at hz
  obtain ⟨o, ho⟩ := get_some (l := O2) (i := 0) (by omega)
  have hd := down_val (by omega) ho hf2 hz
  have hr := mont_row (B := 4294967296) (n := N) (n0 := n0) (t := val 4294967296 O) (x := x) (b := a) (t' := val 4294967296 (O2.drop 1 ++ [0])) (by omega) hinv h.lt hxb ha (by rw [hd, hv2, hm, hv1])
  refine ⟨by simp; omega, ?_, hr.1, ?_⟩
  · refine Fit.append (fun d hd => hf2 d (List.mem_of_mem_drop hd)) (Fit.one (by omega))
  · have := mont_rows h.eq hr.2
    rw [this, val_take_succ, dig_some hx, Nat.mul_comm x]
theorem set_last {O : List Nat} {T T1 : Nat} (hO : O.length = T) (hT : T = T1 + 1) : (O.drop 1 ++ O.drop T1).set T1 0 = O.drop 1 ++ [0] := by
  have hl : (O.drop 1).length = T1 := by rw [List.length_drop]; omega
  rw [List.set_append, if_neg (by omega), hl, Nat.sub_self]
  congr 1
  have h1 : (O.drop T1).length = 1 := by rw [List.length_drop]; omega
  match hq : O.drop T1, h1 with
  | [z], _ => rfl
theorem get_last {O : List Nat} {T T1 : Nat} (hO : O.length = T) (hT : T = T1 + 1) : ∃ z, (O.drop 1 ++ O.drop T1)[T1]? = some z := get_some (by simp; omega)
end Go.Proofs.YtojpbfkdkkdpcaaDoor
