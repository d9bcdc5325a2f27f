/-
  Lists of parts, as both sums read them; a signature's number. No condition.
-/
import Derived.Test.YtfoenafjaaidmaaDoorR7
namespace Go.Proofs.YtfoenafjaaidmaaDoor
open Go.RowKit
set_option linter.unusedVariables false
set_option linter.unusedSimpArgs false
set_option maxRecDepth 100000

/-- One of the parts of a text: where it lies, how long it is, how much room it has, and its bytes. -/
structure Bt where
  A : Option Addr
  n : Nat
  cap : Nat
  l : List Nat
/-- All bytes of the parts, one behind the other. -/
def flat (ps : List Bt) : List Nat := ps.flatMap (·.l)
/-- The slice at A reads as these parts. -/
def PartsR (w : World) (A : Option Addr) (n : Nat) (ps : List Bt) : Prop :=
  ps.length = n ∧ (0 < n → ∃ ad, A = some ad ∧ ad.block < w.heap.size ∧ ∀ j p, ps[j]? = some p → w.cell? (ad.add j) = some (.slice p.A p.n p.cap)) ∧ ∀ p ∈ ps, Rd .u8 w p.A p.n p.l ∧ Fit 256 p.l ∧ p.n ≤ p.cap
theorem PartsR.below {w w' : World} {A : Option Addr} {n : Nat} {ps : List Bt} (h : PartsR w A n ps) (hb : Below w.heap.size w w') : PartsR w' A n ps :=
  ⟨h.1, fun hn => by
    obtain ⟨ad, e, hlt, hc⟩ := h.2.1 hn
    exact ⟨ad, e, Nat.lt_of_lt_of_le hlt hb.size, fun j p hp => (hb.cell (p := ad.add j) (by rw [block_add]; exact hlt)).trans (hc j p hp)⟩,
   fun p hp => ⟨(h.2.2 p hp).1.below hb, (h.2.2 p hp).2⟩⟩
theorem PartsR.nil (w : World) (A : Option Addr) : PartsR w A 0 [] := ⟨rfl, fun h => absurd h (Nat.lt_irrefl _), fun p hp => by cases hp⟩
theorem flat_fit {ps : List Bt} (h : ∀ p ∈ ps, Fit 256 p.l) : Fit 256 (flat ps) := by
  intro x hx
  obtain ⟨p, hp, hx⟩ := List.mem_flatMap.1 hx
  exact h p hp x hx
def Bt.sh (p : Bt) : YtfoenafjaaidmaaDoorSh.Part := ⟨p.A, p.n, p.cap, p.l.map UInt8.ofNat⟩
def Bt.ln (p : Bt) : YtfoenafjaaidmaaDoorLn.Part := ⟨p.A, p.n, p.cap, p.l.map UInt8.ofNat⟩
theorem textSh (ps : List Bt) : YtfoenafjaaidmaaDoorSh.textOf (ps.map Bt.sh) = (flat ps).map UInt8.ofNat := by
  simp only [YtfoenafjaaidmaaDoorSh.textOf, flat, List.flatMap_map, List.map_flatMap]
  rfl
theorem textLn (ps : List Bt) : YtfoenafjaaidmaaDoorLn.textOf (ps.map Bt.ln) = (flat ps).map UInt8.ofNat := by
  simp only [YtfoenafjaaidmaaDoorLn.textOf, flat, List.flatMap_map, List.map_flatMap]
  rfl
theorem PartsR.sh {w : World} {A : Option Addr} {n : Nat} {ps : List Bt} (h : PartsR w A n ps) : YtfoenafjaaidmaaDoorSh.Parts w A n (ps.map Bt.sh) := by
  refine ⟨by rw [List.length_map]; exact h.1, fun hn => ?_, fun p hp => ?_⟩
  · obtain ⟨ad, e, hlt, hc⟩ := h.2.1 hn
    refine ⟨ad, e, hlt, fun j p hj => ?_⟩
    rw [List.getElem?_map] at hj
    cases hq : ps[j]? with
    | none => rw [hq] at hj; cases hj
    | some q =>
      rw [hq] at hj
      injection hj with hj
      rw [← hj]
      exact hc j q hq
  · obtain ⟨q, hq, rfl⟩ := List.mem_map.1 hp
    obtain ⟨h1, h2, h3⟩ := h.2.2 q hq
    exact ⟨h1.seg8 h2, h3, Nat.zero_le _⟩
theorem PartsR.ln {w : World} {A : Option Addr} {n : Nat} {ps : List Bt} (h : PartsR w A n ps) : YtfoenafjaaidmaaDoorLn.Parts w A n (ps.map Bt.ln) := by
  refine ⟨by rw [List.length_map]; exact h.1, fun hn => ?_, fun p hp => ?_⟩
  · obtain ⟨ad, e, hlt, hc⟩ := h.2.1 hn
    refine ⟨ad, e, hlt, fun j p hj => ?_⟩
    rw [List.getElem?_map] at hj
    cases hq : ps[j]? with
    | none => rw [hq] at hj; cases hj
    | some q =>
      rw [hq] at hj
      injection hj with hj
      rw [← hj]
      exact hc j q hq
  · obtain ⟨q, hq, rfl⟩ := List.mem_map.1 hp
    obtain ⟨h1, h2, h3⟩ := h.2.2 q hq
    exact ⟨h1.seg8L h2, h3, Nat.zero_le _⟩
theorem sizeAlg {z : Nat} (hz : z = 1 ∨ z = 2) (l : List Nat) : (sumOf z l).length = sizeOfAlg z := by
  rcases hz with rfl | rfl
  · exact sumOf_length1 l
  · exact sumOf_length2 l
theorem sizeAlg_cases {z : Nat} (hz : z = 1 ∨ z = 2) : (sizeOfAlg z = 32 ∧ z = 1) ∨ (sizeOfAlg z = 64 ∧ z = 2) := by
  rcases hz with rfl | rfl
  · exact .inl ⟨rfl, rfl⟩
  · exact .inr ⟨rfl, rfl⟩
/-- Both sums' tables. -/
def Both (w : World) : Prop := YtfoenafjaaidmaaDoorSh.Tabs w ∧ YtfoenafjaaidmaaDoorLn.Tabs w
theorem Both.below {w w' : World} (h : Both w) (hb : Below w.heap.size w w') : Both w' := ⟨h.1.below hb, h.2.below hb⟩
end Go.Proofs.YtfoenafjaaidmaaDoor
