/-
  An argument of pairs of numbers, as it is read. No condition.
-/
import Derived.Test.YtonjmbcagdkdiaaD14
namespace Go.Proofs.Ytonjmbcagdkdiaa
open Go.RowKit Go.ChangeShapes Go.WideShapes Go.ChangeAt
set_option linter.unusedVariables false
set_option linter.unusedSimpArgs false
set_option maxRecDepth 100000

def prcells (l : List (Int × Int)) : List Value := l.flatMap fun p => [.int .i64 p.1, .int .i64 p.2]
theorem prcells_get {ps : List (Int × Int)} {k : Nat} {p : Int × Int} (h : ps[k]? = some p) : (prcells ps)[k * 2]? = some (.int .i64 p.1) ∧ (prcells ps)[k * 2 + 1]? = some (.int .i64 p.2) := by
  induction ps generalizing k with
  | nil => simp at h
  | cons x r ih =>
    cases k with
    | zero => simp at h; subst h; exact ⟨rfl, rfl⟩
    | succ k =>
      simp at h
      have e1 : (k + 1) * 2 = k * 2 + 1 + 1 := by omega
      have := ih h
      simpa [prcells, e1] using this
theorem prcells_at (f : Nat → Int × Int) : ∀ (n j : Nat) (u : Value), (prcells ((List.range n).map f))[j]? = some u → ∃ i, i < n ∧ (j = i * 2 ∧ u = .int .i64 (f i).1 ∨ j = i * 2 + 1 ∧ u = .int .i64 (f i).2) := by
  intro n j u h
  have hl : (prcells ((List.range n).map f)).length = n * 2 := by
    have : ∀ l : List (Int × Int), (prcells l).length = l.length * 2 := fun l => by
      induction l with
      | nil => rfl
      | cons x r ih => rw [prcells, List.flatMap_cons, List.length_append, ← prcells, ih]; simp; omega
    rw [this]; simp
  have hj := (List.getElem?_eq_some_iff.1 h).1
  rw [hl] at hj
  have hi : j / 2 < n := by omega
  have hg : ((List.range n).map f)[j / 2]? = some (f (j / 2)) := by simp [hi]
  obtain ⟨g1, g2⟩ := prcells_get hg
  refine ⟨j / 2, hi, ?_⟩
  rcases Nat.mod_two_eq_zero_or_one j with h2 | h2
  · have e : j = j / 2 * 2 := by omega
    rw [← e, h] at g1
    injection g1 with g1
    exact .inl ⟨e, g1⟩
  · have e : j = j / 2 * 2 + 1 := by omega
    rw [← e, h] at g2
    injection g2 with g2
    exact .inr ⟨e, g2⟩
/-- Pairs that came in. -/
structure Prs (w : World) (A : Option Addr) (n cap : Nat) (l : List (Int × Int)) : Prop where
  rs : Rs w A (prcells l)
  len : l.length = n
  i64 : ∀ p ∈ l, I64 p.1 ∧ I64 p.2
  le : n ≤ cap
  max : cap ≤ 9223372036854775807
theorem cellsPair : Try.prog.cellsOf 58 = 2 := by kernel_rfl
section
variable {H : Type} {enc : TypeId × Value → H} {W : World} {base : Nat} {sp : Nat → Bool} {held : Bool}
theorem pairs_of_trod {fuel : Nat} {cs : List Value} {x : DataW H × List MemPlace} (h : DataW.trod enc Try.prog W base sp held fuel 57 cs = some x) :
    ∃ (A : Option Addr) (n cap : Nat) (l : List (Int × Int)), cs = [.slice A n cap] ∧ Prs W A n cap l := by
  rcases Deep.open_slice Try.underlying57 h with ⟨rfl, _⟩ | ⟨a, len, cap, m, n, D, Pl, rfl, _, hl, hm, hmm, _, hx⟩
  · exact ⟨none, 0, 0, [], rfl, ⟨Rs.nil _ _, rfl, fun x hx => (by cases hx), Nat.le_refl _, by simp⟩⟩
  · have each : ∀ i, i < len → ∃ q : Int × Int, W.cell? (a.add (i * 2)) = some (.int .i64 q.1) ∧ W.cell? (a.add (i * 2 + 1)) = some (.int .i64 q.2) ∧ I64 q.1 ∧ I64 q.2 := by
      intro i hi
      obtain ⟨cs', g1, g2⟩ := hx i (by rw [hmm]; split <;> omega)
      rw [cellsPair] at g1
      obtain ⟨_, hlen, hcell⟩ := World.cells?_some g1
      obtain ⟨xs, k, hk, hxy, _, hxl, hfe⟩ := DataW.trod_array Try.underlying58 g2
      match xs, hxl, cs', hlen with
      | [y0, y1], _, [v0, v1], _ =>
        have f0 := hfe 0 (by omega)
        have f1 := hfe 1 (by omega)
        simp [cells3] at f0 f1
        obtain ⟨n0, e0, _, z0⟩ := DataW.trod_int Try.underlying3 f0
        obtain ⟨n1, e1, _, z1⟩ := DataW.trod_int Try.underlying3 f1
        simp at e0 e1
        subst e0 e1
        have t0 := hcell 0 (by omega)
        have t1 := hcell 1 (by omega)
        rw [Deep.add_add] at t0 t1
        exact ⟨(n0, n1), by simpa using t0, by simpa using t1, i64_wf z0, i64_wf z1⟩
    obtain ⟨P, hP⟩ := Deep.choose_lt each
    refine ⟨some a, len, cap, (List.range len).map P, rfl, ⟨fun hn => ⟨a, rfl, ?_, fun j u hu => ?_⟩, by simp, fun p hp => ?_, hl, by unfold maxLen at hm; omega⟩⟩
    · have h0 : 0 < len := by
        rcases Nat.eq_zero_or_pos len with h0 | h0
        · subst h0; simp [prcells] at hn
        · exact h0
      have := World.block_lt_of_cell? W _ (hP 0 h0).1
      rwa [block_add] at this
    · obtain ⟨i, hi, ⟨rfl, rfl⟩ | ⟨rfl, rfl⟩⟩ := prcells_at P len j u hu
      · exact (hP i hi).1
      · exact (hP i hi).2.1
    · obtain ⟨i, hi, rfl⟩ := List.mem_map.1 hp
      exact (hP i (List.mem_range.1 hi)).2.2
end
/-- A pair among those of a slice. -/
theorem Rs.pair {w : World} {A : Option Addr} {ps : List (Int × Int)} (h : Rs w A (prcells ps)) {k : Nat} {p : Int × Int} (hk : ps[k]? = some p) :
    ∃ ad, A = some ad ∧ w.cell? (ad.add (k * 2)) = some (.int .i64 p.1) ∧ w.cell? ⟨(ad.add (k * 2)).block, (ad.add (k * 2)).off + 1, none⟩ = some (.int .i64 p.2) := by
  obtain ⟨h1, h2⟩ := prcells_get hk
  obtain ⟨ad, e, hlt, hc⟩ := h (by have := (List.getElem?_eq_some_iff.1 h1).1; omega)
  exact ⟨ad, e, hc _ _ h1, by rw [← add_one]; exact hc _ _ h2⟩
end Go.Proofs.Ytonjmbcagdkdiaa
