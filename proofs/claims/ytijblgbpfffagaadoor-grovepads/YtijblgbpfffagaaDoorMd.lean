/-
  append of make: the answer of an append of a string of noughts. No condition.
-/
import Derived.Test.YtijblgbpfffagaaDoorE7
import Derived.Test.YtijblgbpfffagaaDoorS1
namespace Go.Proofs.YtijblgbpfffagaaDoor
open Go.RowKit
set_option linter.unusedVariables false
set_option linter.unusedSimpArgs false

theorem zeros_cells (k : Nat) : Builtin.zeroCells #[Value.int .u8 0] k = (cn .u8 (List.replicate k 0)).toArray := by
  apply Array.ext'
  simp only [Builtin.zeroCells, cn]
  simp
  apply List.ext_getElem
  · simp
  · intro i h1 h2
    simp [Nat.mod_one]
theorem run_make (w : World) (A : Option Addr) (n cap k : Nat) (hk : n + k ≤ 1000000) (S : ByteArray) (hS : S = str (List.replicate k 0)) :
    (Builtin.append_ #[22, 3] 22 #[.slice A n cap, .int .i64 (k : Int)]).run Tryd.prog w = (Builtin.append_ #[22, 9] 22 #[.slice A n cap, .string S]).run Tryd.prog w := by
  have hfit : Fit 256 (List.replicate k 0) := fun x hx => by rw [List.eq_of_mem_replicate hx]; omega
  have hcs : Lib.strCells S = cn .u8 (List.replicate k 0) := by rw [hS, strCells_str hfit]
  have hsz : S.size = k := by rw [← Lib.strCells_length, hcs, cn_length, List.length_replicate]
  obtain ⟨i0, hi, hz0, hz1, hz2⟩ := info_parts byteInfo
  have hf : ∀ u : World, (Builtin.firstCells 1 k (.string S)).run Tryd.prog u = .ok (Builtin.zeroCells #[Value.int .u8 0] k) u := fun u => by
    have := Lib.run_firstCells_string (P := Tryd.prog) u 1 S
    rw [hsz, hcs, ← zeros_cells] at this
    exact this
  have hw : IntKind.i64.wrap (k : Int) = k := by rw [IntKind.wrap_i64]; omega
  have h1 : ¬ ((k : Int) < 0) := by omega
  have h2 : ¬ ((281474976710656 : Int) < k) := by omega
  have h3 : ¬ ((9223372036854775807 : Int) < (n : Int) + k) := by omega
  have e0 : k = 0 → Builtin.zeroCells #[Value.int .u8 0] k = #[] := by rintro rfl; rw [zeros_cells]; rfl
  by_cases hr : n + k ≤ cap
  · by_cases h0 : k = 0
    · subst h0
      have hff := hf w
      rw [e0 rfl] at hff
      have hw0 : IntKind.i64.wrap 0 = 0 := rfl
      have hr' : n ≤ cap := by omega
      simp [hw0, hr', Builtin.append_, run_underlying Tryd.underlying22, run_underlying Tryd.underlying9, run_underlying Tryd.underlying3, sizeOf, typeInfo, hi, hz1, hz2, hz0, Builtin.lenOf, asInt, asIntOf, hw, hsz, hr, hff]
    · simp [Builtin.append_, run_underlying Tryd.underlying22, run_underlying Tryd.underlying9, run_underlying Tryd.underlying3, sizeOf, typeInfo, hi, hz1, hz2, hz0, Builtin.lenOf, asInt, asIntOf, hw, hsz, hr, hf, h1, h2, h0, zeroValue, Value.cells]
  · have h4 : ¬ (281474976710656 < Builtin.nextslicecap (n + k) cap) := by
      have := growslice_fits (need := n + k) (old := cap) (bytes := 1) (by omega) (by omega)
      omega
    by_cases h0 : k = 0
    · subst h0
      have hff := fun u => hf u
      simp only [e0 rfl] at hff
      have hw0 : IntKind.i64.wrap 0 = 0 := rfl
      have hr' : ¬ n ≤ cap := by omega
      have h4' : ¬ (281474976710656 < Builtin.nextslicecap n cap) := h4
      have h3' : ¬ ((9223372036854775807 : Int) < (n : Int)) := by omega
      simp [hw0, hr', h4', h3', Builtin.append_, run_underlying Tryd.underlying22, run_underlying Tryd.underlying9, run_underlying Tryd.underlying3, sizeOf, typeInfo, hi, hz1, hz2, hz0, Builtin.lenOf, asInt, asIntOf, hw, hsz, hr, hff, h3, h4]
    · simp [Builtin.append_, run_underlying Tryd.underlying22, run_underlying Tryd.underlying9, run_underlying Tryd.underlying3, sizeOf, typeInfo, hi, hz1, hz2, hz0, Builtin.lenOf, asInt, asIntOf, hw, hsz, hr, hf, h1, h2, h0, h3, h4, zeroValue, Value.cells]
/-- Noughts behind a row. -/
theorem app_make (W : World) (h q cd k N : Nat) (Ad : Option Addr) (l : List Nat) (hrow : Row W h 5 Ad q cd (cn .u8 l)) (hN : q + k = N) (hN2 : N ≤ 1000000) (hh : h ≤ W.heap.size) :
    ∃ A4 c4 w4, (Builtin.append_ #[22, 3] 22 #[.slice Ad q cd, .int .i64 (k : Int)]).run Tryd.prog W = .ok (.slice A4 N c4) w4 ∧ Row w4 h 5 A4 N c4 (cn .u8 (l ++ List.replicate k 0)) ∧ Below h W w4 := by
  subst hN
  have hfit : Fit 256 (List.replicate k 0) := fun x hx => by rw [List.eq_of_mem_replicate hx]; omega
  have hcs : Lib.strCells (str (List.replicate k 0)) = cn .u8 (List.replicate k 0) := strCells_str hfit
  have hsz : (str (List.replicate k 0)).size = k := by rw [← Lib.strCells_length, hcs, cn_length, List.length_replicate]
  obtain ⟨i0, hi, hz0, hz1, hz2⟩ := info_parts byteInfo
  obtain ⟨v', w', hrun, hown, hg, _⟩ := Lib.run_append_own_string (P := Tryd.prog) W h 22 9 22 5 i0 Tryd.underlying22 Tryd.underlying9 hi hz0 hz1 hz2 _ q _ hrow (str (List.replicate k 0)) (by unfold maxLen; omega) (by omega) hh
  rw [hcs, hsz] at hown
  have hform : ∃ A' cap', v' = .slice A' (q + k) cap' := by
    rcases hown.2 with ⟨rfl, h0⟩ | ⟨g, cap', cur, rfl, _⟩
    · exact ⟨none, 0, by rw [h0]⟩
    · exact ⟨_, _, rfl⟩
  obtain ⟨A', cap', rfl⟩ := hform
  refine ⟨A', cap', w', (run_make W Ad q cd k hN2 _ rfl).trans hrun, ?_, below_only (Below.refl _ _) hg hh (fun j hj => (World.ownsRow.lt hrow j hj).1)⟩
  show World.ownsRow _ _ _ _ _ _ _
  rw [cn_append]
  exact hown
/-- Bytes behind a row. -/
theorem app_rd (W : World) (h q cd D N : Nat) (Ad : Option Addr) (l d : List Nat) (Ax : Option Addr) (cx : Nat) (hrow : Row W h 5 Ad q cd (cn .u8 l)) (hd : Rd .u8 W Ax D d) (h1 : 1 ≤ D) (hN : q + D = N) (hN2 : N ≤ 1000000) (hh : h ≤ W.heap.size) :
    ∃ A4 c4 w4, (Builtin.append_ #[22, 22] 22 #[.slice Ad q cd, .slice Ax D cx]).run Tryd.prog W = .ok (.slice A4 N c4) w4 ∧ Row w4 h 5 A4 N c4 (cn .u8 (l ++ d)) ∧ Below h W w4 := by
  subst hN
  obtain ⟨i0, hi, hz0, hz1, hz2⟩ := info_parts byteInfo
  obtain ⟨gx, rfl, hc⟩ := hd.src h1
  obtain ⟨v', w4, hrun, hown, hg, hnil, hat⟩ := run_append_own_at (P := Tryd.prog) W h 22 22 5 i0 _ 1 1 Tryd.underlying22 hi hz0 hz1 hz2 rfl (by omega) _ q _ hrow gx D cx (cn .u8 d) (by rw [cn_length, hd.1]; omega) hc (cn_one _ _) (by unfold maxLen; omega) (by omega) hh
  have hform : ∃ A' cap', v' = .slice A' (q + D) cap' := by
    rcases hown.2 with ⟨rfl, h0⟩ | ⟨g, cap', cur, rfl, _⟩
    · exact ⟨none, 0, by rw [h0]⟩
    · exact ⟨_, _, rfl⟩
  obtain ⟨A4, c4, rfl⟩ := hform
  refine ⟨A4, c4, w4, hrun, ?_, below_only (Below.refl _ _) hg hh (fun j hj => (World.ownsRow.lt hrow j hj).1)⟩
  show World.ownsRow _ _ _ _ _ _ _
  rw [cn_append]
  exact hown
end Go.Proofs.YtijblgbpfffagaaDoor
