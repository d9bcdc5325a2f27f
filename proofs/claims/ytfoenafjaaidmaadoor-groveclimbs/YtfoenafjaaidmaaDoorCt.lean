/-
  What the laws are walked with: the answers of the program's functions.
-/
import Derived.Test.YtfoenafjaaidmaaDoorDd
import Derived.OpenShut
namespace Go.Proofs.YtfoenafjaaidmaaDoor
open Go.RowKit
set_option linter.unusedVariables false
set_option linter.unusedSimpArgs false
set_option maxRecDepth 100000

/-- A whole number that the program can hold. -/
def I64 (x : Int) : Prop := -9223372036854775808 ≤ x ∧ x ≤ 9223372036854775807
/-- The places of a path, as complex numbers. -/
def Pth (w : World) (A : Option Addr) (m a i : Nat) : Prop := ∀ j, j < m → ∃ ad x y, A = some ad ∧ w.cell? (ad.add j) = some (.complex .f64 x y) ∧ Is x ((i / a ^ j : Nat) : Int) ∧ Is y (j : Int)
def RightC : Prop := ∀ (S B D : Int) (w : World), I64 S → I64 B → I64 D → Calls Tryd.prog 29 #[.agg #[.int .i64 S, .int .i64 B, .int .i64 D]] w fun e w' => e = .returned (.bool (decide (Rgt S B D))) ∧ Below w.heap.size w w'
def CountsOk : Prop := ∀ (S B D a n : Nat) (w : World), Shp S B D a n → Calls Tryd.prog 47 #[.agg #[.int .i64 (S : Int), .int .i64 (B : Int), .int .i64 (D : Int)]] w fun e w' => ∃ A m c, e = .returned (.tuple #[.slice A m c, .int .i64 0]) ∧ Rd .i64 w' A m (cs a n) ∧ m ≤ c ∧ c ≤ maxLen ∧ Below w.heap.size w w'
def CountsBad : Prop := ∀ (S B D : Int) (w : World), I64 S → I64 B → I64 D → ¬ Rgt S B D → Calls Tryd.prog 47 #[.agg #[.int .i64 S, .int .i64 B, .int .i64 D]] w fun e w' => ∃ A c, e = .returned (.tuple #[.slice A 0 c, .int .i64 24]) ∧ c ≤ maxLen ∧ Below w.heap.size w w'
def AboveOk : Prop := ∀ (S B D a n i l x y : Nat) (w : World), Shp S B D a n → l + 1 < (cs a n).length → i < lev a n l → Is x (i : Int) → Is y (l : Int) → Calls Tryd.prog 37 #[.agg #[.int .i64 (S : Int), .int .i64 (B : Int), .int .i64 (D : Int)], .complex .f64 x y] w fun e w' => ∃ x' y', e = .returned (.tuple #[.complex .f64 x' y', .int .i64 ((i % a * D : Nat) : Int), .int .i64 0]) ∧ Is x' ((i / a : Nat) : Int) ∧ Is y' ((l + 1 : Nat) : Int) ∧ Below w.heap.size w w'
def PathOk : Prop := ∀ (S B D a n i : Nat) (w : World), Shp S B D a n → i < n → Calls Tryd.prog 35 #[.agg #[.int .i64 (S : Int), .int .i64 (B : Int), .int .i64 (D : Int)], .int .i64 (i : Int)] w fun e w' => ∃ A m c, e = .returned (.tuple #[.slice A m c, .int .i64 0]) ∧ (cs a n).length = m ∧ Pth w' A m a i ∧ m ≤ c ∧ c ≤ maxLen ∧ Below w.heap.size w w'
def PathRange : Prop := ∀ (S B D a n : Nat) (i : Int) (w : World), Shp S B D a n → I64 i → (i < 0 ∨ (n : Int) ≤ i) → Calls Tryd.prog 35 #[.agg #[.int .i64 (S : Int), .int .i64 (B : Int), .int .i64 (D : Int)], .int .i64 i] w fun e w' => ∃ A c, e = .returned (.tuple #[.slice A 0 c, .int .i64 13]) ∧ c ≤ maxLen ∧ Below w.heap.size w w'
def PathBad : Prop := ∀ (S B D i : Int) (w : World), I64 S → I64 B → I64 D → I64 i → ¬ Rgt S B D → Calls Tryd.prog 35 #[.agg #[.int .i64 S, .int .i64 B, .int .i64 D], .int .i64 i] w fun e w' => ∃ A c, e = .returned (.tuple #[.slice A 0 c, .int .i64 24]) ∧ c ≤ maxLen ∧ Below w.heap.size w w'
theorem cell_lt {w : World} {p : Addr} {v : Value} (h : w.cell? p = some v) : p.block < w.heap.size := by
  rcases Nat.lt_or_ge p.block w.heap.size with hl | hl
  · exact hl
  · simp [World.cell?, Array.getElem?_eq_none hl] at h
theorem Pth.below {w w' : World} {A : Option Addr} {m a i : Nat} (h : Pth w A m a i) (hb : Below w.heap.size w w') : Pth w' A m a i := by
  intro j hj
  obtain ⟨ad, x, y, h1, h2, h3⟩ := h j hj
  exact ⟨ad, x, y, h1, (hb.cell (p := ad.add j) (cell_lt h2)).trans h2, h3⟩
theorem i64_wf {x : Int} (h : (Lit.int .i64 x).wf = true) : I64 x := bounds_i64 h
/-- A right shape, in whole numbers. -/
theorem Rgt.shp {S B D : Int} (h : Rgt S B D) : ∃ s b d a n : Nat, S = s ∧ B = b ∧ D = d ∧ Shp s b d a n := by
  have h' := h
  obtain ⟨h1, h2, h3, h4, h5⟩ := h'
  obtain ⟨s, rfl⟩ : ∃ s : Nat, S = s := ⟨S.toNat, by omega⟩
  obtain ⟨b, rfl⟩ : ∃ b : Nat, B = b := ⟨B.toNat, by omega⟩
  obtain ⟨d, rfl⟩ : ∃ d : Nat, D = d := ⟨D.toNat, by omega⟩
  exact ⟨s, b, d, _, _, rfl, rfl, rfl, h, rfl, rfl⟩
end Go.Proofs.YtfoenafjaaidmaaDoor
