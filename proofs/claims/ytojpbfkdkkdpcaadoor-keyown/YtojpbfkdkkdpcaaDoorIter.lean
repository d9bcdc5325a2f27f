/-
  The program's down: what its function yields, limb by limb, the highest first; for every loop body that keeps what lay below n0.
-/
import Derived.Test.YtojpbfkdkkdpcaaDoorProg2
import Derived.RangeFuncNested
import Derived.RangeFuncBound
import Derived.RangeFuncCalls
import Derived.RangeFuncLeaves
import Derived.RangeFuncBox
import Derived.Shelf.Abstract
import Derived.OwnWalkIn
import Derived.TacticsInMore
import Derived.LoopNIn
import Derived.LoopIn
namespace Go.Proofs.YtojpbfkdkkdpcaaDoor
set_option maxRecDepth 100000
open Go.RowKit Go.Shelf
set_option linter.unusedVariables false
set_option linter.unusedSimpArgs false
attribute [local go_sem] Oper.semAt_some

/-- A limb and its place. -/
abbrev Item := { p : Nat × Nat // p.1 < 256 ∧ p.2 < 4294967296 }
/-- The k-th that comes. -/
def itemAt (l : List Nat) (k : Nat) : Item := ⟨((l.length - 1 - k) % 256, dig l (l.length - 1 - k) % 4294967296), Nat.mod_lt _ (by omega), Nat.mod_lt _ (by omega)⟩
theorem itemAt_eq {l : List Nat} {k j x : Nat} (hx : l[j]? = some x) (hj : l.length = k + j + 1) (h1 : j < 256) (h2 : x < 4294967296) : itemAt l k = ⟨(j, x), h1, h2⟩ := by
  apply Subtype.ext
  show ((l.length - 1 - k) % 256, dig l (l.length - 1 - k) % 4294967296) = (j, x)
  rw [show l.length - 1 - k = j by omega, dig_some hx, Nat.mod_eq_of_lt h1, Nat.mod_eq_of_lt h2]
def upto (l : List Nat) (k : Nat) : List Item := (List.range k).map (itemAt l)
theorem upto_succ (l : List Nat) (k : Nat) : upto l (k + 1) = upto l k ++ [itemAt l k] := by simp [upto, List.range_succ]
theorem upto_length (l : List Nat) (k : Nat) : (upto l k).length = k := by simp [upto]
def encs (x : Item) : Array Value := #[.int .i64 (x.1.1 : Int), .int .u32 (x.1.2 : Int)]

set_option maxRecDepth 100000 in
set_option maxHeartbeats 2000000 in
theorem down1_in (n : Nat) (hn : 1 ≤ n) (L Bs n0 len cap : Nat) (A : Option Addr) (l : List Nat) (hlen : len ≤ 256) (hf : Fit 4294967296 l) (J Jx : List Item → World → Prop)
    (hY : ∀ pre x W, J pre W → pre.length < len → YieldAt Fence.wide (n - 1) Tryd.prog L (encs x) W fun e W' =>
      (e = .returned (.bool true) ∧ J (pre ++ [x]) W' ∧ Below n0 W W') ∨ (e = .returned (.bool false) ∧ Jx (pre ++ [x]) W'))
    (W : World) (hBs : W.cell? ⟨Bs, 0, none⟩ = some (.slice A len cap)) (hBn : Bs < n0) (hR : Rd .u32 W A len l) (hlt : ∀ ad, A = some ad → ad.block < n0) (h0 : J [] W) :
    CallsIn Fence.wide n Tryd.prog 93 #[.func (.yield L) #[] #[], .pointer (some ⟨Bs, 0, none⟩)] W fun e W' => (∃ v, e = .returned v) ∧
      ((∃ ys, ys = upto l len ∧ J ys W') ∨ (∃ pre, (∃ k, k ≤ len ∧ pre = upto l k) ∧ Jx pre W')) := by
  have HR := Lib.hid hR
  have HY := Lib.hid hY
  have HLT := Lib.hid hlt
  clear hR hY hlt
  refine callsIn_of_wp Tryd.func93 rfl trivial ?_ rfl
  simp only [Tryd.ntmps93, List.size_toArray, List.length_cons, List.length_nil, Nat.reduceAdd, Nat.reduceSub, Array.replicate_succ, Array.replicate_zero, List.push_toArray, List.append_toArray, List.nil_append, List.cons_append]
  gi_wp2
  gi_loopw [3] (fun i wr => ∃ k j : Nat, len = k + j ∧ i = .int .i64 ((j : Int) - 1) ∧ J (upto l k) wr ∧ Below n0 W wr)
    (fun i _ => (intOf i + 1).toNat)
  case atStart => exact ⟨0, len, by omega, rfl, h0, Below.refl _ _⟩
  case round =>
    obtain ⟨k, j, hkj, rfl, hJs, hnx⟩ := hrel
    have HKJ := Lib.hid hkj
    have hjl : j ≤ len := by omega
    clear hkj
    rcases j with _ | j
    · gi_wp2
      go_end0
      have : k = len := by have := HKJ.out; omega
      exact ⟨⟨_, rfl⟩, .inl ⟨_, by rw [this], hJs⟩⟩
    · obtain ⟨ad, x, rfl, hx, hcell⟩ := (HR.out.belowAt hnx HLT.out).get (j := j) (by omega)
      have hx1 := hf.get hx
      have hbs := (hnx.cell (p := ⟨Bs, 0, none⟩) hBn).trans hBs
      have hit := itemAt_eq hx (k := k) (by rw [HR.out.1, HKJ.out]; omega) (by omega) hx1
      have HIT := Lib.hid hit
      obtain ⟨fn, tmps, assign, body, hy, hRR⟩ := HY.out _ ⟨(j, x), by omega, hx1⟩ wr hJs (by rw [upto_length]; have := HKJ.out; omega)
      dsimp only [encs] at hy
      clear hx hit
      gi_wp2
      refine hRR.mono ?_
      rintro e W3 (⟨rfl, hJ3, hk3⟩ | ⟨rfl, hJx3⟩)
      · gi_wp2
        go_roundw
        case rel => exact ⟨k + 1, j, by have := HKJ.out; omega, by go_num, by rw [upto_succ, HIT.out]; exact hJ3, hnx.trans hk3⟩
        case measure => simp [intOf]
      · gi_wp2
        refine bodyPost_ret (results_none rfl _ _ _) rfl ?_
        exact ⟨⟨_, rfl⟩, .inr ⟨_, ⟨k + 1, by have := HKJ.out; omega, by rw [upto_succ, HIT.out]⟩, hJx3⟩⟩

theorem down_any (A : Option Addr) (len cap : Nat) (w : World) :
    Calls Tryd.prog 78 #[.slice A len cap] w fun e w' => e = .returned (.func (.func 93) #[] #[.pointer (some ⟨w.heap.size, 0, none⟩)]) ∧ w' = w.alloc (.cells #[.slice A len cap] 45) := by
  go_enter Tryd.func78, Tryd.ntmps78
  go_wp2
  go_ret
  exact ⟨rfl, rfl⟩

theorem down_stops (n : Nat) (hn : 1 ≤ n) (Bs n0 len cap : Nat) (A : Option Addr) (l : List Nat) (hlen : len ≤ 256) (hf : Fit 4294967296 l) (w : World) (hBs : Bs < w.heap.size) (hBn : Bs < n0) (hn0 : n0 ≤ w.heap.size)
    (hc : w.cell? ⟨Bs, 0, none⟩ = some (.slice A len cap)) (hR : Rd .u32 w A len l) (hlt : ∀ ad, A = some ad → ad.block < n0) :
    SeqStopsK Fence.wide n Tryd.prog 93 #[.pointer (some ⟨Bs, 0, none⟩)] encs (Below n0) (fun ys => ys = upto l len) (fun pre => ∃ k, k ≤ len ∧ pre = upto l k) len w := fun L J Jx W hW _ _ hY h0 => by
  have hc' := (hW.cell (p := ⟨Bs, 0, none⟩) hBs).trans hc
  exact down1_in n hn L Bs n0 len cap A l hlen hf J Jx hY W hc' hBn (hR.below hW) hlt h0
end Go.Proofs.YtojpbfkdkkdpcaaDoor
