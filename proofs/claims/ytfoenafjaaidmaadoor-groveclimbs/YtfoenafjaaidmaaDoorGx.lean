/-
  What the laws of groves are walked with: the answers of the program's functions.
-/
import Derived.Test.YtfoenafjaaidmaaDoorGe
import Derived.Test.YtfoenafjaaidmaaDoorGf3
namespace Go.Proofs.YtfoenafjaaidmaaDoor
open Go.RowKit
set_option linter.unusedVariables false
set_option linter.unusedSimpArgs false
set_option maxRecDepth 100000

/-- Bytes that a call is handed: where they lie, and what they are. -/
structure Bs (w : World) (A : Option Addr) (n cap : Nat) (l : List Nat) : Prop where
  rd : Rd .u8 w A n l
  fit : Fit 256 l
  le : n ≤ cap
  max : cap ≤ maxLen
  nil : A = none → cap = 0
theorem Bs.below {w w' : World} {A : Option Addr} {n cap : Nat} {l : List Nat} (h : Bs w A n cap l) (hb : Below w.heap.size w w') : Bs w' A n cap l := { h with rd := h.rd.below hb }
/-- An answer of Make: nothing, and an error. -/
def NoTree (w : World) (er : Int) (e : Ending) (w' : World) : Prop := ∃ A1 c1 A2 c2, e = .returned (.tuple #[.slice A1 0 c1, .slice A2 0 c2, .int .i64 er]) ∧ Below w.heap.size w w'
/-- An answer of Root: nothing, and an error. -/
def NoRoot (w : World) (er : Int) (e : Ending) (w' : World) : Prop := ∃ A1 c1, e = .returned (.tuple #[.slice A1 0 c1, .int .i64 er]) ∧ Below w.heap.size w w'
/-- An answer of Make: a tree and its root. -/
def GivesTree (w : World) (D : Nat) (t r : List Nat) (e : Ending) (w' : World) : Prop := ∃ A1 n1 c1 A2 c2, e = .returned (.tuple #[.slice A1 n1 c1, .slice A2 D c2, .int .i64 0]) ∧ Bs w' A1 n1 c1 t ∧ Bs w' A2 D c2 r ∧ Below w.heap.size w w'
/-- An answer of Root. -/
def GivesRoot (w : World) (D : Nat) (r : List Nat) (e : Ending) (w' : World) : Prop := ∃ A2 c2, e = .returned (.tuple #[.slice A2 D c2, .int .i64 0]) ∧ Bs w' A2 D c2 r ∧ Below w.heap.size w w'
/-- Why Make refuses: its first error. -/
def Refused (z b : Int) (nA nd : Nat) (er : Int) : Prop := (sizeOfAlg z = 0 ∧ er = 20) ∨ (sizeOfAlg z ≠ 0 ∧ 64 < nA ∧ er = 11) ∨ (sizeOfAlg z ≠ 0 ∧ nA ≤ 64 ∧ ¬ Rgt nd b (sizeOfAlg z : Nat) ∧ er = 24)
def MakeNo : Prop := ∀ (z b : Int) (A : Option Addr) (nA cA : Nat) (Ad : Option Addr) (nd cd : Nat) (salt data : List Nat) (er : Int) (w : World), I64 z → I64 b → Bs w A nA cA salt → Bs w Ad nd cd data → nd ≤ 10000 → Both w → Refused z b nA nd er → Calls Tryd.prog 13 #[.int .i64 z, .slice A nA cA, .int .i64 b, .slice Ad nd cd] w (NoTree w er)
def RootNo : Prop := ∀ (z b : Int) (A : Option Addr) (nA cA : Nat) (Ad : Option Addr) (nd cd : Nat) (salt data : List Nat) (er : Int) (w : World), I64 z → I64 b → Bs w A nA cA salt → Bs w Ad nd cd data → nd ≤ 10000 → Both w → Refused z b nA nd er → Calls Tryd.prog 14 #[.int .i64 z, .slice A nA cA, .int .i64 b, .slice Ad nd cd] w (NoRoot w er)
def MakeOk : Prop := ∀ (z S B D a n : Nat) (A : Option Addr) (nA cA : Nat) (Ad : Option Addr) (cd : Nat) (salt data : List Nat) (w : World) (m : Nat), Over w z S B D a n A nA cA Ad cd salt data → Bs w A nA cA salt → Bs w Ad S cd data → nA ≤ 64 → S ≤ 10000 → Both w → (cs a n).length = m → Calls Tryd.prog 13 #[.int .i64 (z : Int), .slice A nA cA, .int .i64 (B : Int), .slice Ad S cd] w (GivesTree w D (tree (hsh z salt) B a n data m) (hsh z salt (blk (hsh z salt) B a n data (m - 1) 0)))
def RootOk : Prop := ∀ (z S B D a n : Nat) (A : Option Addr) (nA cA : Nat) (Ad : Option Addr) (cd : Nat) (salt data : List Nat) (w : World) (m : Nat), Over w z S B D a n A nA cA Ad cd salt data → Bs w A nA cA salt → Bs w Ad S cd data → nA ≤ 64 → S ≤ 10000 → Both w → (cs a n).length = m → Calls Tryd.prog 14 #[.int .i64 (z : Int), .slice A nA cA, .int .i64 (B : Int), .slice Ad S cd] w (GivesRoot w D (hsh z salt (blk (hsh z salt) B a n data (m - 1) 0)))
/-- A digest stands at a byte. -/
def Stands (z : Int) (nA : Nat) (salt above : List Nat) (at_ : Int) (below : List Nat) : Prop := ∃ s k : Nat, z = s ∧ at_ = k ∧ (s = 1 ∨ s = 2) ∧ nA ≤ 64 ∧ k + sizeOfAlg z ≤ above.length ∧ (above.drop k).take (sizeOfAlg z) = hsh s salt below
def CheckC : Prop := ∀ (z : Int) (A : Option Addr) (nA cA : Nat) (Au : Option Addr) (nu cu : Nat) (at_ : Int) (Al : Option Addr) (nl cl : Nat) (salt above below : List Nat) (r : Bool) (w : World), I64 z → I64 at_ → Bs w A nA cA salt → Bs w Au nu cu above → Bs w Al nl cl below → nu ≤ 10000 → nl ≤ 10000 → Both w → (r = true ↔ Stands z nA salt above at_ below) → Calls Tryd.prog 26 #[.int .i64 z, .slice A nA cA, .slice Au nu cu, .int .i64 at_, .slice Al nl cl] w fun e w' => e = .returned (.bool r) ∧ Below w.heap.size w w'
/-- A list of texts in memory. -/
def Ls (w : World) (A : Option Addr) (n cap : Nat) (ps : List Bt) : Prop := PartsR w A n ps ∧ n ≤ cap ∧ cap ≤ maxLen ∧ (A = none → cap = 0) ∧ ∀ p ∈ ps, p.cap ≤ maxLen ∧ (p.A = none → p.cap = 0)
/-- What Differ tells. -/
def GivesPair (w : World) (o : Option (List Nat × List Nat)) (e : Ending) (w' : World) : Prop := ∃ A1 n1 c1 A2 n2 c2, e = .returned (.tuple #[.slice A1 n1 c1, .slice A2 n2 c2, .bool o.isSome]) ∧ Below w.heap.size w w' ∧ match o with
  | some (x, y) => Bs w' A1 n1 c1 x ∧ Bs w' A2 n2 c2 y
  | none => n1 = 0 ∧ n2 = 0
def DifferC : Prop := ∀ (A : Option Addr) (n cap : Nat) (ps : List Bt) (A' : Option Addr) (n' cap' : Nat) (qs : List Bt) (w : World), Ls w A n cap ps → Ls w A' n' cap' qs → n ≤ 100 → n' ≤ 100 → (∀ p ∈ ps, p.n ≤ 140737488355328) → (∀ p ∈ qs, p.n ≤ 140737488355328) → Calls Tryd.prog 24 #[.slice A n cap, .slice A' n' cap'] w (GivesPair w (differ (ps.map (·.l)) (qs.map (·.l))))
/-- Climb's answer to what is right but maybe for its digests. -/
def climbEr (H : List Nat → List Nat) (D a i m : Nat) (l : List (List Nat)) (root : List Nat) (er : Int) : Prop := (¬ Linked H D a i l ∧ er = 54) ∨ (Linked H D a i l ∧ (∃ x, l[m - 1]? = some x ∧ H x ≠ root) ∧ er = 51) ∨ (Linked H D a i l ∧ (∀ x, l[m - 1]? = some x → H x = root) ∧ er = 0)
def ClimbOk : Prop := ∀ (z S B D a n : Nat) (A : Option Addr) (nA cA : Nat) (salt : List Nat) (i : Nat) (Al : Option Addr) (nl cl : Nat) (ps : List Bt) (Ar : Option Addr) (nr cr : Nat) (root : List Nat) (er : Int) (w : World), Shp S B D a n → (z = 1 ∨ z = 2) → sizeOfAlg z = D → Bs w A nA cA salt → nA ≤ 64 → Ls w Al nl cl ps → Bs w Ar nr cr root → i < n → nl = (cs a n).length → (∀ p ∈ ps, p.n = B) → Both w → climbEr (hsh z salt) D a i nl (ps.map (·.l)) root er → Calls Tryd.prog 20 #[.int .i64 (z : Int), .slice A nA cA, .agg #[.int .i64 (S : Int), .int .i64 (B : Int), .int .i64 (D : Int)], .int .i64 (i : Int), .slice Al nl cl, .slice Ar nr cr] w fun e w' => e = .returned (.int .i64 er) ∧ Below w.heap.size w w'
/-- Climb's first error of form. -/
def climbNo (z S B D i : Int) (nA nl : Nat) (ps : List Bt) (er : Int) : Prop := (sizeOfAlg z = 0 ∧ er = 20) ∨ (sizeOfAlg z ≠ 0 ∧ 64 < nA ∧ er = 11) ∨ (sizeOfAlg z ≠ 0 ∧ nA ≤ 64 ∧ (¬ Rgt S B D ∨ D ≠ (sizeOfAlg z : Nat)) ∧ er = 24) ∨ (sizeOfAlg z ≠ 0 ∧ nA ≤ 64 ∧ D = (sizeOfAlg z : Nat) ∧ ∃ s b d a n : Nat, S = s ∧ B = b ∧ D = d ∧ Shp s b d a n ∧ (((i < 0 ∨ (n : Int) ≤ i) ∧ er = 13) ∨ (0 ≤ i ∧ i < n ∧ (nl ≠ (cs a n).length ∨ ∃ p ∈ ps, p.n ≠ b) ∧ er = 12)))
def ClimbNo : Prop := ∀ (z S B D i : Int) (A : Option Addr) (nA cA : Nat) (salt : List Nat) (Al : Option Addr) (nl cl : Nat) (ps : List Bt) (Ar : Option Addr) (nr cr : Nat) (root : List Nat) (er : Int) (w : World), I64 z → I64 S → I64 B → I64 D → I64 i → Bs w A nA cA salt → Ls w Al nl cl ps → Bs w Ar nr cr root → nl ≤ 100 → Both w → climbNo z S B D i nA nl ps er → Calls Tryd.prog 20 #[.int .i64 z, .slice A nA cA, .agg #[.int .i64 S, .int .i64 B, .int .i64 D], .int .i64 i, .slice Al nl cl, .slice Ar nr cr] w fun e w' => e = .returned (.int .i64 er) ∧ Below w.heap.size w w'
/-- The program's functions answer as the document says. -/
structure Code9 : Prop where
  makeNo : MakeNo
  makeOk : MakeOk
  rootNo : RootNo
  rootOk : RootOk
  check : CheckC
  differ : DifferC
/-- Climb answers as the document says. -/
structure CodeC : Prop where
  climbOk : ClimbOk
  climbNo : ClimbNo
/-- A seed's shape. -/
theorem shape9_any (z b : Int) (A : Option Addr) (nA cA : Nat) (Ad : Option Addr) (nd cd : Nat) (D : Nat) (hD : sizeOfAlg z = D) (w : World) : Calls Tryd.prog 15 #[.agg #[.int .i64 z, .int .i64 b, .slice A nA cA, .slice Ad nd cd]] w fun e w' => e = .returned (.tuple #[.agg #[.int .i64 (nd : Int), .int .i64 b, .int .i64 (D : Int)], .bool (decide (Rgt nd b D ∧ nA ≤ 64))]) ∧ Below w.heap.size w w' := by
  by_cases hR : Rgt nd b D
  · by_cases h64 : nA ≤ 64
    · rw [decide_eq_true (show Rgt nd b D ∧ nA ≤ 64 from ⟨hR, h64⟩)]
      exact shape9_yes z b A nA cA Ad nd cd D hD w hR h64
    · rw [decide_eq_false (fun h : Rgt nd b D ∧ nA ≤ 64 => h64 h.2)]
      exact shape9_salt z b A nA cA Ad nd cd D hD w hR h64
  · rw [decide_eq_false (fun h : Rgt nd b D ∧ nA ≤ 64 => hR h.1)]
    exact shape9_no z b A nA cA Ad nd cd D hD w hR
end Go.Proofs.YtfoenafjaaidmaaDoor
