/-
  An argument of partitions, as it is read. No condition.
-/
import Derived.Test.YtonjmbcagdkdiaaD16
namespace Go.Proofs.Ytonjmbcagdkdiaa
open Go.RowKit Go.ChangeShapes Go.WideShapes Go.ChangeAt
set_option linter.unusedVariables false
set_option linter.unusedSimpArgs false
set_option maxRecDepth 100000

theorem pcells_at (f : Nat → ByteArray × Int) : ∀ (n j : Nat) (u : Value), (pcells ((List.range n).map f))[j]? = some u → ∃ i, i < n ∧ (j = i * 2 ∧ u = .string (f i).1 ∨ j = i * 2 + 1 ∧ u = .int .i64 (f i).2) := by
  intro n j u h
  have hl : (pcells ((List.range n).map f)).length = n * 2 := by
    rw [pcells_length]; simp
  have hj := (List.getElem?_eq_some_iff.1 h).1
  rw [hl] at hj
  have hi : j / 2 < n := by omega
  have hg : ((List.range n).map f)[j / 2]? = some (f (j / 2)) := by simp [hi]
  obtain ⟨g1, g2⟩ := pcells_get hg
  refine ⟨j / 2, hi, ?_⟩
  rcases Nat.mod_two_eq_zero_or_one j with h2 | h2
  · have e : j = j / 2 * 2 := by omega
    rw [← e, h] at g1
    injection g1 with g1
    exact .inl ⟨e, g1⟩
  · have e : j = j / 2 * 2 + 1 := by omega
    rw [← e, h] at g2
    injection g2 with g2
    exact .inr ⟨e, g2⟩
/-- Partitions that came in. -/
structure Ptn (w : World) (A : Option Addr) (n cap : Nat) (l : List (ByteArray × Int)) : Prop where
  ss : Ss w A n cap 2 (pcells l)
  len : l.length = n
  each : ∀ p ∈ l, p.1.size ≤ 9223372036854775807 ∧ I64 p.2
theorem cellsPart : Try.prog.cellsOf 36 = 2 := by kernel_rfl
section
variable {H : Type} {enc : TypeId × Value → H} {W : World} {base : Nat} {sp : Nat → Bool} {held : Bool}
theorem parts_of_trod {fuel : Nat} {cs : List Value} {x : DataW H × List MemPlace} (h : DataW.trod enc Try.prog W base sp held fuel 22 cs = some x) :
    ∃ (A : Option Addr) (n cap : Nat) (l : List (ByteArray × Int)), cs = [.slice A n cap] ∧ Ptn W A n cap l := by
  rcases Deep.open_slice Try.underlying22 h with ⟨rfl, _⟩ | ⟨a, len, cap, m, n, D, Pl, rfl, _, hl, hm, hmm, _, hx⟩
  · exact ⟨none, 0, 0, [], rfl, ⟨⟨Rs.nil _ _, rfl, Nat.le_refl _, by simp, fun _ => rfl⟩, rfl, fun x hx => (by cases hx)⟩⟩
  · have each : ∀ i, i < len → ∃ q : ByteArray × Int, W.cell? (a.add (i * 2)) = some (.string q.1) ∧ W.cell? (a.add (i * 2 + 1)) = some (.int .i64 q.2) ∧ q.1.size ≤ 9223372036854775807 ∧ I64 q.2 := by
      intro i hi
      obtain ⟨cs', g1, g2⟩ := hx i (by rw [hmm]; split <;> omega)
      rw [cellsPart] at g1
      obtain ⟨_, hlen, hcell⟩ := World.cells?_some g1
      obtain ⟨xs, k, hk, hxy, _, hxl, hfe⟩ := DataW.trod_struct Try.underlying36 g2
      match xs, hxl, cs', hlen with
      | [y0, y1], _, [v0, v1], _ =>
        have f0 := hfe 0 _ rfl
        have f1 := hfe 1 _ rfl
        simp [cells3, cells9] at f0 f1
        obtain ⟨s0, e0, _, z0⟩ := DataW.trod_string Try.underlying9 f0
        obtain ⟨n1, e1, _, z1⟩ := DataW.trod_int Try.underlying3 f1
        simp at e0 e1
        subst e0 e1
        have t0 := hcell 0 (by omega)
        have t1 := hcell 1 (by omega)
        rw [Deep.add_add] at t0 t1
        exact ⟨(s0, n1), by simpa using t0, by simpa using t1, by unfold maxLen at z0; simp only []; omega, i64_wf z1⟩
    obtain ⟨P, hP⟩ := Deep.choose_lt each
    refine ⟨some a, len, cap, (List.range len).map P, rfl, ⟨⟨fun hn => ⟨a, rfl, ?_, fun j u hu => ?_⟩, by rw [pcells_length]; simp, hl, by unfold maxLen at hm; omega, fun e => by cases e⟩, by simp, fun p hp => ?_⟩⟩
    · have h0 : 0 < len := by
        rcases Nat.eq_zero_or_pos len with h0 | h0
        · subst h0; simp [pcells] at hn
        · exact h0
      have := World.block_lt_of_cell? W _ (hP 0 h0).1
      rwa [block_add] at this
    · obtain ⟨i, hi, ⟨rfl, rfl⟩ | ⟨rfl, rfl⟩⟩ := pcells_at P len j u hu
      · exact (hP i hi).1
      · exact (hP i hi).2.1
    · obtain ⟨i, hi, rfl⟩ := List.mem_map.1 hp
      exact (hP i (List.mem_range.1 hi)).2.2
end
end Go.Proofs.Ytonjmbcagdkdiaa
