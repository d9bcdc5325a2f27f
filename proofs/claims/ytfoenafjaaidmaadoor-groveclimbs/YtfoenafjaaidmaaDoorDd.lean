/-
  The document's In and Above, of places.
-/
import Derived.Test.YtfoenafjaaidmaaDoorDc
import Derived.Deep.RegionHeld3
namespace Go.Proofs.YtfoenafjaaidmaaDoor
open Go.RowKit
set_option linter.unusedVariables false
set_option linter.unusedSimpArgs false
set_option maxRecDepth 100000

theorem cs_get {a n l : Nat} (h : l < (cs a n).length) : (cs a n)[l]? = some (lev a n l) := by
  obtain ⟨x, hx⟩ := get_some h
  rw [hx, cnts_get a 40 n l x hx]
theorem below_drew1 {B : Nat} {a w : World} (h : Below B a w) : Below B a w.drew := ⟨h.os, h.tape, h.output, h.size, h.block⟩
set_option maxHeartbeats 2000000 in
theorem RefAbove_any (S B D a n i l : Nat) (w : World) (h : Shp S B D a n) (hi : i ≤ 1099511627776) (hl : l ≤ 100) : Calls Tryd.prog 21 #[.agg #[.int .i64 (S : Int), .int .i64 (B : Int), .int .i64 (D : Int)], .agg #[.int .i64 (i : Int), .int .i64 (l : Int)]] w fun e w' => e = .returned (.tuple #[.agg #[.int .i64 ((i / a : Nat) : Int), .int .i64 ((l + 1 : Nat) : Int)], .int .i64 ((i % a * D : Nat) : Int)]) ∧ Below w.heap.size w w' := by
  have hb := h.b
  have ha := h.a2
  have r1 := h.ar_int.1
  have r2 := h.ar_int.2
  have dz : ¬ (D : Int) = 0 := by omega
  have dz2 : ¬ D = 0 := by omega
  have az : ¬ (a : Int) = 0 := by omega
  have az2 : ¬ a = 0 := by omega
  obtain ⟨q, hq⟩ : ∃ q, i / a = q := ⟨_, rfl⟩
  obtain ⟨r, hr⟩ : ∃ r, i % a = r := ⟨_, rfl⟩
  have q1 : (i : Int).tdiv (a : Int) = (q : Int) := by rw [Int.tdiv_eq_ediv_of_nonneg (by omega), ← hq, Int.natCast_ediv]
  have q2 : (i : Int).tmod (a : Int) = (r : Int) := by rw [Int.tmod_eq_emod_of_nonneg (by omega), ← hr, Int.natCast_emod]
  have hql : q ≤ i := by rw [← hq]; exact Nat.div_le_self _ _
  have hrl : r < a := by rw [← hr]; exact Nat.mod_lt _ (by omega)
  have wq : IntKind.i64.wrap (q : Int) = (q : Int) := by rw [IntKind.wrap_i64]; omega
  have wa : IntKind.i64.wrap (a : Int) = (a : Int) := by rw [IntKind.wrap_i64]; omega
  obtain ⟨t, ht⟩ : ∃ t, r * D = t := ⟨_, rfl⟩
  have htl : t ≤ 8192 := by
    rw [← ht]
    have : r * D ≤ 128 * 64 := Nat.mul_le_mul (by omega) (by omega)
    omega
  have t1 : (r : Int) * (D : Int) = (t : Int) := by rw [← ht, Int.natCast_mul]
  have wt : IntKind.i64.wrap (t : Int) = (t : Int) := by rw [IntKind.wrap_i64]; omega
  have wl : IntKind.i64.wrap ((l : Int) + 1) = (l : Int) + 1 := by rw [IntKind.wrap_i64]; omega
  rw [hq, hr, ht]
  clear hq hr ht h
  go_enter Tryd.func21, Tryd.ntmps21
  go_wp2
  go_region_held3 (fun w' => w'.cell? ⟨w.heap.size + 1, 0, none⟩ = some (.int .i64 (i : Int)) ∧ w'.cell? ⟨w.heap.size + 1, 1, none⟩ = some (.int .i64 (l : Int)) ∧ w'.cell? ⟨w.heap.size, 2, none⟩ = some (.int .i64 (D : Int))) (first | (refine ⟨?_, ?_, ?_⟩ <;> go_keep) | assumption) (first | fail)
  go_wp2
  (try simp only [Exit.inBlock, Exit.then])
  refine bodyPost_ret (v := .tuple #[.agg #[.int .i64 (q : Int), .int .i64 ((l : Int) + 1)], .int .i64 (t : Int)]) ?_ rfl ⟨?_, ?_⟩
  · rw [results_cell_tmp rfl]
    go_simp
  · rw [show ((l + 1 : Nat) : Int) = (l : Int) + 1 by omega]
  · repeat' (first | exact Below.refl _ _ | refine Below.setCell ?_ (by simp <;> omega) _ | refine below_drew1 ?_ | refine Below.alloc ?_ (by simp <;> omega) _)
end Go.Proofs.YtfoenafjaaidmaaDoor
