/-
  The statements' arguments, as they are read. No condition.
-/
import Derived.Test.YtfeihdmjcppbaaaDoorMx
import Derived.Test.YtfeihdmjcppbaaaDoorRows
namespace Go.Proofs.YtfeihdmjcppbaaaDoor
open Go.RowKit Go.ChangeShapes Go.WideShapes Go.ChangeAt
set_option linter.unusedVariables false
set_option linter.unusedSimpArgs false
set_option maxRecDepth 100000

theorem cells5 : Tryd.prog.cellsOf 5 = 1 := by kernel_rfl
theorem cells3 : Tryd.prog.cellsOf 3 = 1 := by kernel_rfl
theorem cells9 : Tryd.prog.cellsOf 9 = 1 := by kernel_rfl
theorem cellsB : Tryd.prog.cellsOf 25 = 1 := by kernel_rfl
theorem cellsDe : Tryd.prog.cellsOf 27 = 11 := by kernel_rfl
theorem own : ownKnob Tryd.prog.godebug = none := by kernel_rfl
theorem laidOut : laidOutB Tryd.prog = true := by kernel_rfl
/-- The list that all rows bear. -/
def listed : List (String × DataW Unit) := Rows.descrSizesRow.laid
/-- Descriptors that came in. -/
structure Dsc (w : World) (A : Option Addr) (n cap : Nat) (xs : List Dx) : Prop where
  dl : DL w A n xs
  le : n ≤ cap
  max : cap ≤ 9223372036854775807
section
variable {H : Type} {enc : TypeId × Value → H} {W : World} {base : Nat} {sp : Nat → Bool} {held : Bool}
/-- An argument of bytes. -/
theorem bytes_of_trod {fuel : Nat} {cs : List Value} {x : DataW H × List MemPlace} (h : DataW.trod enc Tryd.prog W base sp held fuel 25 cs = some x) :
    ∃ (A : Option Addr) (n cap : Nat) (l : List Nat), cs = [.slice A n cap] ∧ Bs W A n cap l := by
  rcases Deep.open_slice1 Tryd.underlying25 cells5 h with ⟨rfl, _⟩ | ⟨a, len, cap, m, k, V, D, Pl, rfl, _, hl, hm, hmm, hxx, hx⟩
  · exact ⟨none, 0, 0, [], rfl, ⟨Rd.nil _ _ _, fun x hx => (by cases hx), Nat.le_refl _, by simp, fun _ => rfl⟩⟩
  · have each : ∀ i, i < len → ∃ b : Nat, b < 256 ∧ W.cell? (a.add i) = some (.int .u8 (b : Int)) := by
      intro i hi
      obtain ⟨hc, ht⟩ := hx i (by rw [hmm]; split <;> omega)
      obtain ⟨z, e, _, hz⟩ := DataW.trod_int Tryd.underlying5 ht
      injection e with e
      rw [e] at hc
      have hb : 0 ≤ z ∧ z ≤ 255 := by
        simp [Lit.wf, IntKind.min, IntKind.max, IntKind.bits, IntKind.signed] at hz
        omega
      refine ⟨z.toNat, by omega, ?_⟩
      rw [hc, Int.toNat_of_nonneg hb.1]
    obtain ⟨b, hb⟩ := Deep.choose_lt each
    refine ⟨some a, len, cap, (List.range len).map b, rfl, ⟨⟨by simp, fun hn => ⟨a, rfl, ?_, fun j v hv => ?_⟩⟩, fun d hd => ?_, hl, by unfold maxLen at hm; omega, fun e => by cases e⟩⟩
    · have := World.block_lt_of_cell? W _ (hb 0 hn).2
      rwa [block_add] at this
    · have hj : j < len := by
        have := (List.getElem?_eq_some_iff.1 hv).1
        simpa using this
      have e : ((List.range len).map b)[j]? = some (b j) := by simp [hj]
      rw [e] at hv
      injection hv with hv
      rw [← hv]
      exact (hb j hj).2
    · obtain ⟨i, hi, rfl⟩ := List.mem_map.1 hd
      exact (hb i (List.mem_range.1 hi)).1

theorem descrs_of_trod {fuel : Nat} {cs : List Value} {x : DataW H × List MemPlace} (h : DataW.trod enc Tryd.prog W base sp held fuel 22 cs = some x) :
    ∃ (A : Option Addr) (n cap : Nat) (xs : List Dx), cs = [.slice A n cap] ∧ Dsc W A n cap xs := by
  rcases Deep.open_slice Tryd.underlying22 h with ⟨rfl, _⟩ | ⟨a, len, cap, m, n, D, Pl, rfl, _, hl, hm, hmm, _, hx⟩
  · exact ⟨none, 0, 0, [], rfl, DL.nil _ _, Nat.le_refl _, by simp⟩
  · have each : ∀ i, i < len → ∃ q : Dx, At W (a.add (i * 11)) q.cells ∧ DxOk W q := by
      intro i hi
      obtain ⟨cs', g1, g2⟩ := hx i (by rw [hmm]; split <;> omega)
      rw [cellsDe] at g1
      obtain ⟨_, hlen, hcell⟩ := World.cells?_some g1
      obtain ⟨xs, k, hk, hxy, _, hxl, hfe⟩ := DataW.trod_struct Tryd.underlying27 g2
      match xs, hxl, cs', hlen with
      | [y0, y1, y2, y3, y4, y5, y6, y7, y8, y9, y10], _, [v0, v1, v2, v3, v4, v5, v6, v7, v8, v9, v10], _ =>
        have f0 := hfe 0 _ rfl
        have f1 := hfe 1 _ rfl
        have f2 := hfe 2 _ rfl
        have f3 := hfe 3 _ rfl
        have f4 := hfe 4 _ rfl
        have f5 := hfe 5 _ rfl
        have f6 := hfe 6 _ rfl
        have f7 := hfe 7 _ rfl
        have f8 := hfe 8 _ rfl
        have f9 := hfe 9 _ rfl
        have f10 := hfe 10 _ rfl
        simp [cells3, cells9, cellsB] at f0 f1 f2 f3 f4 f5 f6 f7 f8 f9 f10
        obtain ⟨n0, e0, _, z0⟩ := DataW.trod_int Tryd.underlying3 f0
        obtain ⟨n1, e1, _, z1⟩ := DataW.trod_int Tryd.underlying3 f1
        obtain ⟨n2, e2, _, z2⟩ := DataW.trod_int Tryd.underlying3 f2
        obtain ⟨n3, e3, _, z3⟩ := DataW.trod_int Tryd.underlying3 f3
        obtain ⟨n4, e4, _, z4⟩ := DataW.trod_int Tryd.underlying3 f4
        obtain ⟨n5, e5, _, z5⟩ := DataW.trod_int Tryd.underlying3 f5
        obtain ⟨s6, e6, _⟩ := DataW.trod_string Tryd.underlying9 f6
        obtain ⟨A7, m7, c7, l7, e7, b7⟩ := bytes_of_trod f7
        obtain ⟨A8, m8, c8, l8, e8, b8⟩ := bytes_of_trod f8
        obtain ⟨A9, m9, c9, l9, e9, b9⟩ := bytes_of_trod f9
        obtain ⟨A10, m10, c10, l10, e10, b10⟩ := bytes_of_trod f10
        simp at e0 e1 e2 e3 e4 e5 e6 e7 e8 e9 e10
        subst e0 e1 e2 e3 e4 e5 e6 e7 e8 e9 e10
        obtain ⟨l6, hf6, rfl⟩ := str_of s6
        refine ⟨⟨⟨n0, n1, n2, n3, n4, n5, l6, l7, l8, l9, l10⟩, ⟨A7, m7, c7⟩, ⟨A8, m8, c8⟩, ⟨A9, m9, c9⟩, ⟨A10, m10, c10⟩⟩, fun j v hj => ?_, i64_wf z0, i64_wf z1, i64_wf z2, i64_wf z3, i64_wf z4, i64_wf z5, hf6, b7, b8, b9, b10⟩
        have hj11 : j < 11 := (List.getElem?_eq_some_iff.1 hj).1
        have t := hcell j hj11
        rw [t, ← hj]
        rcases (by omega : j = 0 ∨ j = 1 ∨ j = 2 ∨ j = 3 ∨ j = 4 ∨ j = 5 ∨ j = 6 ∨ j = 7 ∨ j = 8 ∨ j = 9 ∨ j = 10) with rfl | rfl | rfl | rfl | rfl | rfl | rfl | rfl | rfl | rfl | rfl <;> rfl
    obtain ⟨P, hP⟩ := Deep.choose_lt each
    refine ⟨some a, len, cap, (List.range len).map P, rfl, ⟨by simp, fun hn => ⟨a, rfl, ?_, fun i x hx => ?_⟩, fun x hx => ?_⟩, hl, by unfold maxLen at hm; omega⟩
    · have h0 := (hP 0 hn).1 0 _ rfl
      have := World.block_lt_of_cell? W _ h0
      rwa [block_add, block_add] at this
    · have hi : i < len := by
        have := (List.getElem?_eq_some_iff.1 hx).1
        simpa using this
      have e : ((List.range len).map P)[i]? = some (P i) := by simp [hi]
      rw [e] at hx
      injection hx with hx
      rw [← hx]
      exact (hP i hi).1
    · obtain ⟨i, hi, rfl⟩ := List.mem_map.1 hx
      exact (hP i (List.mem_range.1 hi)).2
end
end Go.Proofs.YtfeihdmjcppbaaaDoor
