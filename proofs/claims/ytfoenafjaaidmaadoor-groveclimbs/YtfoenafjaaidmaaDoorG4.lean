/-
  What blocksOf of package grove yields: block after block of a level.
-/
import Derived.Test.YtfoenafjaaidmaaDoorG1
import Derived.RangeFuncNested
import Derived.RangeFuncBound
import Derived.RangeFuncCalls
import Derived.RangeFuncLeaves
import Derived.RangeFuncBox
import Derived.Shelf.Abstract
import Derived.Shelf.RegionOpen
import Derived.OwnWalkIn
import Derived.TacticsInMore
import Derived.LoopNIn
import Derived.LoopIn
namespace Go.Proofs.YtfoenafjaaidmaaDoor
open Go.RowKit Go.Shelf
set_option linter.unusedVariables false
set_option linter.unusedSimpArgs false
attribute [local go_sem] Oper.semAt_some

/-- A block's number. -/
abbrev Num (c : Nat) := { k : Nat // k < c }
def numAt (c : Nat) (hc : 0 < c) (k : Nat) : Num c := ⟨k % c, Nat.mod_lt _ hc⟩
def uptoN (c : Nat) (hc : 0 < c) (k : Nat) : List (Num c) := (List.range k).map (numAt c hc)
theorem uptoN_succ (c : Nat) (hc : 0 < c) (k : Nat) : uptoN c hc (k + 1) = uptoN c hc k ++ [numAt c hc k] := by simp [uptoN, List.range_succ]
theorem uptoN_length (c : Nat) (hc : 0 < c) (k : Nat) : (uptoN c hc k).length = k := by simp [uptoN]
/-- A block of a level, as it is handed on. -/
def encB (c : Nat) (A : Option Addr) (B cap : Nat) (x : Num c) : Array Value := #[.slice (A.map (·.add (x.1 * B))) B (cap - x.1 * B)]
theorem encB_at {c k t : Nat} (hc : 0 < c) (hk : k < c) (A : Option Addr) (B cap : Nat) (ht : k * B = t) : encB c A B cap (numAt c hc k) = #[.slice (A.map (·.add t)) B (cap - t)] := by
  show #[Value.slice (A.map (·.add (k % c * B))) B (cap - k % c * B)] = _
  rw [Nat.mod_eq_of_lt hk, ht]

/-- What two boxes hold is kept. -/
def Kc (x y : Nat) (W W' : World) : Prop := (∀ v, W.cell? ⟨x, 0, none⟩ = some v → W'.cell? ⟨x, 0, none⟩ = some v) ∧ ∀ v, W.cell? ⟨y, 0, none⟩ = some v → W'.cell? ⟨y, 0, none⟩ = some v
theorem Kc.refl (x y : Nat) (W : World) : Kc x y W W := ⟨fun _ h => h, fun _ h => h⟩
theorem Kc.trans {x y : Nat} {X Y Z : World} (h : Kc x y X Y) (k : Kc x y Y Z) : Kc x y X Z := ⟨fun v e => k.1 v (h.1 v e), fun v e => k.2 v (h.2 v e)⟩
theorem Kc.put {x y : Nat} (W : World) (l : Nat) (o o' : Obj) (hl : W.heap[l]? = some o) (ho : o.isCells = false) : Kc x y W (W.putObj l o') :=
  ⟨fun v e => cell_kept e (grownBy_putObj' W l o') (fun r er => by cases er; exact ⟨_, hl, ho⟩), fun v e => cell_kept e (grownBy_putObj' W l o') (fun r er => by cases er; exact ⟨_, hl, ho⟩)⟩
set_option maxRecDepth 100000 in
set_option maxHeartbeats 2000000 in
theorem blocks1_in (n : Nat) (hn : 1 ≤ n) (L Bl Bb len cap B c : Nat) (A : Option Addr) (hc : 0 < c) (hB : 1 ≤ B) (hlen : c * B = len) (hl2 : len ≤ 1000000) (hcap : len ≤ cap) (hcm : cap ≤ maxLen) (J Jx : List (Num c) → World → Prop)
    (hY : ∀ pre x W, J pre W → pre.length < c → YieldAt Fence.wide (n - 1) Tryd.prog L (encB c A B cap x) W fun e W' =>
      (e = .returned (.bool true) ∧ J (pre ++ [x]) W' ∧ Kc Bl Bb W W') ∨ (e = .returned (.bool false) ∧ Jx (pre ++ [x]) W'))
    (W : World) (hBl : W.cell? ⟨Bl, 0, none⟩ = some (.slice A len cap)) (hBb : W.cell? ⟨Bb, 0, none⟩ = some (.int .i64 (B : Int))) (h0 : J [] W) :
    CallsIn Fence.wide n Tryd.prog 70 #[.func (.yield L) #[] #[], .pointer (some ⟨Bl, 0, none⟩), .pointer (some ⟨Bb, 0, none⟩)] W fun e W' => (∃ v, e = .returned v) ∧
      ((∃ ys, ys = uptoN c hc c ∧ J ys W') ∨ (∃ pre, (∃ k, k ≤ c ∧ pre = uptoN c hc k) ∧ Jx pre W')) := by
  unfold maxLen at hcm
  have HY := Lib.hid hY
  have HLEN := Lib.hid hlen
  clear hY hlen
  refine callsIn_of_wp Tryd.func70 rfl trivial ?_ rfl
  simp only [Tryd.ntmps70, List.size_toArray, List.length_cons, List.length_nil, Nat.reduceAdd, Nat.reduceSub, Array.replicate_succ, Array.replicate_zero, List.push_toArray, List.append_toArray, List.nil_append, List.cons_append]
  gi_wp2
  gi_loopw [4] (fun i wr => ∃ k t : Nat, k ≤ c ∧ k * B = t ∧ i = .int .i64 (t : Int) ∧ J (uptoN c hc k) wr ∧ Kc Bl Bb W wr)
    (fun i _ => len - (intOf i).toNat)
  case atStart => exact ⟨0, 0, Nat.zero_le _, Nat.zero_mul _, rfl, h0, Kc.refl _ _ _⟩
  case round =>
    obtain ⟨k, t, hk, hkt, rfl, hJs, hnx⟩ := hrel
    have HKT := Lib.hid hkt
    have hbl := hnx.1 _ hBl
    have hbb := hnx.2 _ hBb
    by_cases hkc : k < c
    · have htl : t + B ≤ len := by
        have : (k + 1) * B ≤ c * B := Nat.mul_le_mul_right _ hkc
        rw [Nat.add_mul, Nat.one_mul, hkt, HLEN.out] at this
        exact this
      have hlt : (t : Int) < (len : Int) := by omega
      have hsl : ∀ w : World, (Instr.slice 22 (.slice A len cap) (some (.int .i64 (t : Int))) (some (.int .i64 ((t : Int) + (B : Int)))) none).run Tryd.prog w = .ok (.slice (A.map (·.add t)) B (cap - t)) w := by
        intro w
        have := run_mid8 A len cap t (t + B) (by omega) (by omega) (t : Int) ((t : Int) + (B : Int)) rfl (by omega) w
        rw [if_neg (by omega), Nat.add_sub_cancel_left] at this
        exact this
      obtain ⟨fn, tmps, assign, body, hy, hRR⟩ := HY.out _ (numAt c hc k) wr hJs (by rw [uptoN_length]; exact hkc)
      rw [encB_at hc hkc A B cap hkt] at hy
      clear hkt
      gi_wp2
      refine hRR.mono ?_
      rintro e W3 (⟨rfl, hJ3, hk3⟩ | ⟨rfl, hJx3⟩)
      · have hbb3 := hk3.2 _ hbb
        gi_wp2
        go_roundw
        case rel => exact ⟨k + 1, t + B, by omega, by rw [Nat.add_mul, Nat.one_mul, HKT.out], by go_num, by rw [uptoN_succ]; exact hJ3, hnx.trans hk3⟩
        case measure => simp [intOf]; omega
      · gi_wp2
        refine bodyPost_ret (results_none rfl _ _ _) rfl ?_
        exact ⟨⟨_, rfl⟩, .inr ⟨_, ⟨k + 1, by omega, by rw [uptoN_succ]⟩, hJx3⟩⟩
    · obtain rfl : k = c := by omega
      have htl : t = len := by rw [← HKT.out]; exact HLEN.out
      have hlt : ¬ (t : Int) < (len : Int) := by omega
      clear hkt
      gi_wp2
      go_end0
      exact ⟨⟨_, rfl⟩, .inl hJs⟩

theorem blocksOf_any (A : Option Addr) (len cap : Nat) (B : Int) (w : World) :
    Calls Tryd.prog 59 #[.slice A len cap, .int .i64 B] w fun e w' => e = .returned (.func (.func 70) #[] #[.pointer (some ⟨w.heap.size, 0, none⟩), .pointer (some ⟨w.heap.size + 1, 0, none⟩)]) ∧ w' = (w.alloc (.cells #[.slice A len cap] 22)).alloc (.cells #[.int .i64 B] 3) := by
  go_enter Tryd.func59, Tryd.ntmps59
  go_wp2
  go_ret
  exact ⟨rfl, rfl⟩

theorem blocks_stops (n : Nat) (hn : 1 ≤ n) (Bl Bb len cap B c : Nat) (A : Option Addr) (hc : 0 < c) (hB : 1 ≤ B) (hlen : c * B = len) (hl2 : len ≤ 1000000) (hcap : len ≤ cap) (hcm : cap ≤ maxLen) (w : World) (hl : Bl < w.heap.size) (hb : Bb < w.heap.size)
    (hBl : w.cell? ⟨Bl, 0, none⟩ = some (.slice A len cap)) (hBb : w.cell? ⟨Bb, 0, none⟩ = some (.int .i64 (B : Int))) :
    SeqStopsK Fence.wide n Tryd.prog 70 #[.pointer (some ⟨Bl, 0, none⟩), .pointer (some ⟨Bb, 0, none⟩)] (encB c A B cap) (Kc Bl Bb) (fun ys => ys = uptoN c hc c) (fun pre => ∃ k, k ≤ c ∧ pre = uptoN c hc k) c w := fun L J Jx W hW _ _ hY h0 => by
  have hc1 := (hW.cell (p := ⟨Bl, 0, none⟩) hl).trans hBl
  have hc2 := (hW.cell (p := ⟨Bb, 0, none⟩) hb).trans hBb
  exact blocks1_in n hn L Bl Bb len cap B c A hc hB hlen hl2 hcap hcm J Jx hY W hc1 hc2 h0
end Go.Proofs.YtfoenafjaaidmaaDoor
