/-
  What an argument of bytes gives the walks; the rows' lists of tables.
-/
import Derived.Test.YtojpbfkdkkdpcaaDoorRows
import Derived.Test.YtojpbfkdkkdpcaaDoorAnchor
import Derived.Test.YtojpbfkdkkdpcaaDoorR3
import Derived.Deep.Slices
import Derived.ProofKit
import Derived.LaidMore
import Derived.OpenShut
import Derived.Stop.Joined
import Derived.ChangeOld
import Derived.Below
import Derived.Lay
namespace Go.Proofs.YtojpbfkdkkdpcaaDoor
open Go.ChangeShapes Go.WideShapes Go.ChangeAt Go.RowKit
set_option linter.unusedVariables false
set_option linter.unusedSimpArgs false

theorem own : ownKnob Tryd.prog.godebug = none := by kernel_rfl
theorem laidOut : laidOutB Tryd.prog = true := by kernel_rfl
/-- The list of the rows that no sum is made in. -/
def listed : List (String × DataW Unit) := Rows.keyParsesRow.laid
theorem cells5 : Tryd.prog.cellsOf 5 = 1 := by kernel_rfl

section
variable {H : Type} {enc : TypeId × Value → H} {W : World} {base : Nat} {sp : Nat → Bool} {held : Bool}
/-- An argument of bytes. -/
theorem bytes_of_trod {fuel : Nat} {cs : List Value} {x : DataW H × List MemPlace} (h : DataW.trod enc Tryd.prog W base sp held fuel 22 cs = some x) :
    ∃ (A : Option Addr) (n cap : Nat) (l : List Nat), cs = [.slice A n cap] ∧ (Rd .u8 W A n l ∧ Fit 256 l) ∧ n ≤ cap ∧ cap ≤ maxLen ∧ (A = none → cap = 0) := by
  rcases Deep.open_slice1 Tryd.underlying22 cells5 h with ⟨rfl, _⟩ | ⟨a, len, cap, m, k, V, D, Pl, rfl, _, hl, hm, hmm, _, hx⟩
  · exact ⟨none, 0, 0, [], rfl, ⟨Rd.nil _ _ _, Fit.nil _⟩, Nat.le_refl _, by simp, fun _ => rfl⟩
  · have each : ∀ i, i < len → ∃ b : Nat, b < 256 ∧ W.cell? (a.add i) = some (.int .u8 (b : Int)) := by
      intro i hi
      obtain ⟨hc, ht⟩ := hx i (by rw [hmm]; split <;> omega)
      obtain ⟨z, e, _, hz⟩ := DataW.trod_int Tryd.underlying5 ht
      injection e with e
      rw [e] at hc
      have hb : 0 ≤ z ∧ z ≤ 255 := by
        simp [Lit.wf, IntKind.min, IntKind.max, IntKind.bits, IntKind.signed] at hz
        omega
      refine ⟨z.toNat, by omega, ?_⟩
      rw [hc, Int.toNat_of_nonneg hb.1]
    obtain ⟨b, hb⟩ := Deep.choose_lt each
    refine ⟨some a, len, cap, (List.range len).map b, rfl, ⟨⟨by simp, fun hn => ⟨a, rfl, ?_, fun j v hv => ?_⟩⟩, fun d hd => ?_⟩, hl, hm, fun e => by cases e⟩
    · have := World.block_lt_of_cell? W _ (hb 0 hn).2
      rwa [block_add] at this
    · have hj : j < len := by
        have := (List.getElem?_eq_some_iff.1 hv).1
        simpa using this
      have e : ((List.range len).map b)[j]? = some (b j) := by simp [hj]
      rw [e] at hv
      injection hv with hv
      rw [← hv]
      exact (hb j hj).2
    · obtain ⟨i, hi, rfl⟩ := List.mem_map.1 hd
      exact (hb i (List.mem_range.1 hi)).1
end
/-- That is no modulus: what Make says, and what the document says. -/
theorem not_modul {n : Nat} {l : List Nat} (hl : l.length = n) (h : ¬ Modul n l) : (n < 64 ∨ 512 < n ∨ n % 64 ≠ 0) ∨ ((64 ≤ n ∧ n ≤ 512 ∧ n % 64 = 0) ∧ ∃ a z, l[0]? = some a ∧ l[n - 1]? = some z ∧ (a < 128 ∨ z % 2 = 0)) := by
  by_cases hs : 64 ≤ n ∧ n ≤ 512 ∧ n % 64 = 0
  · refine .inr ⟨hs, ?_⟩
    obtain ⟨a, ha⟩ := get_some (l := l) (i := 0) (by omega)
    obtain ⟨z, hz⟩ := get_some (l := l) (i := n - 1) (by omega)
    refine ⟨a, z, ha, hz, ?_⟩
    by_cases h1 : a < 128
    · exact .inl h1
    · by_cases h2 : z % 2 = 0
      · exact .inr h2
      · exact absurd ⟨hs.1, hs.2.1, hs.2.2, a, z, ha, hz, by omega, by omega⟩ h
  · exact .inl (by omega)
/-- Make of what is no modulus. -/
def NoKeyAny (w : World) (e : Ending) (w' : World) : Prop := ∃ er : Int, (er = 21 ∨ er = 22) ∧ NoKey w er e w'
theorem Make_no (A : Option Addr) (n cap : Nat) (l : List Nat) (w : World) (h : Rd .u8 w A n l) (hf : Fit 256 l) (hn : n ≤ 1000000) (hM : ¬ Modul n l) :
    Calls Tryd.prog 11 #[.slice A n cap] w (NoKeyAny w) := by
  rcases not_modul h.1 hM with h1 | ⟨hs, a, z, ha, hz, hb⟩
  · exact (Make_bits A n cap w hn h1).mono fun e w' he => ⟨21, .inl rfl, he⟩
  · exact (Make_form A n cap l w h hf hs a z ha hz hb).mono fun e w' he => ⟨22, .inr rfl, he⟩
end Go.Proofs.YtojpbfkdkkdpcaaDoor
