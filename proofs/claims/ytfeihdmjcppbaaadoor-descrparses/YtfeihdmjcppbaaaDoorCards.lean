/-
  DERIVED. GIVEN WITH THE SEED: THE CARDS: each row of YtfeihdmjcppbaaaDoorRows.lean that lists a variable, with what it lists TIED to the program's text (the seventh form; the later family's looks); each row that meets fmt, with fmt's text TOLD by the authors' own Lean function (tested against real Go, not proved from fmt's source: count such statements apart). THE CARD IS WHAT COUNTS. Prove the row's statement (the work); the ties are given (YtfeihdmjcppbaaaDoorTie.lean); close each card by the builder's one call (the guide's Derived/Test/ToyasCard.lean, 'card_holds'). Laid BY PROGRAM, IN A SANDBOX (cutbox-door.mjs). By AI agents, Wed Nov 11 2026. No macro, syntax, notation, axiom, sorry.
-/
import Derived.Test.YtfeihdmjcppbaaaDoorRows
import GoSem.ClaimSeven
namespace Go.Proofs.YtfeihdmjcppbaaaDoor
namespace Rows

/-- THE TIED CARD OF 'sallyportlaw12.DescrEncodes'. -/
def descrEncodesCard : Claim7 := { stood := { row := descrEncodesRow, standIns := [], harness := (true, "39c07125a04c560fe94672b79f5345a3d4bc5414fc7654598f3cc4c1bc40e2f9"), looks := false }, kinds := [], alts := [], laidByText := true, laidKinds := [.data, .pinned], laidTests := true, laidLooks := .later }
def DescrEncodesCardSaid : Prop := Claim7.holds Tryd.pinned (.plain (OpenSpec.ofChange descrEncodesSpec)) descrEncodesCard

/-- THE TIED CARD OF 'sallyportlaw12.DescrParses'. -/
def descrParsesCard : Claim7 := { stood := { row := descrParsesRow, standIns := [], harness := (true, "39c07125a04c560fe94672b79f5345a3d4bc5414fc7654598f3cc4c1bc40e2f9"), looks := false }, kinds := [], alts := [], laidByText := true, laidKinds := [.data, .pinned], laidTests := true, laidLooks := .later }
def DescrParsesCardSaid : Prop := Claim7.holds Tryd.pinned (.plain (OpenSpec.ofChange descrParsesSpec)) descrParsesCard

/-- THE TIED CARD OF 'sallyportlaw12.DescrCuts'. -/
def descrCutsCard : Claim7 := { stood := { row := descrCutsRow, standIns := [], harness := (true, "39c07125a04c560fe94672b79f5345a3d4bc5414fc7654598f3cc4c1bc40e2f9"), looks := false }, kinds := [], alts := [], laidByText := true, laidKinds := [.data, .pinned], laidTests := true, laidLooks := .later }
def DescrCutsCardSaid : Prop := Claim7.holds Tryd.pinned (.plain (OpenSpec.ofChange descrCutsSpec)) descrCutsCard

/-- THE TIED CARD OF 'sallyportlaw12.DescrSizes'. -/
def descrSizesCard : Claim7 := { stood := { row := descrSizesRow, standIns := [], harness := (true, "39c07125a04c560fe94672b79f5345a3d4bc5414fc7654598f3cc4c1bc40e2f9"), looks := false }, kinds := [], alts := [], laidByText := true, laidKinds := [.data, .pinned], laidTests := true, laidLooks := .later }
def DescrSizesCardSaid : Prop := Claim7.holds Tryd.pinned (.plain (OpenSpec.ofChange descrSizesSpec)) descrSizesCard

/-- THE TIED CARD OF 'sallyportlaw12.DescrOwn'. -/
def descrOwnCard : Claim7 := { stood := { row := descrOwnRow, standIns := [], harness := (true, "39c07125a04c560fe94672b79f5345a3d4bc5414fc7654598f3cc4c1bc40e2f9"), looks := false }, kinds := [], alts := [], laidByText := true, laidKinds := [.data, .pinned], laidTests := true, laidLooks := .later }
def DescrOwnCardSaid : Prop := Claim7.holds Tryd.pinned (.plain (OpenSpec.ofChange descrOwnSpec)) descrOwnCard

/-- THE SECOND FORM's CARD OF 'sallyportlaw12.DescrEncodes'. -/
def descrEncodesUptoCard : Claim7 := { stood := { row := descrEncodesUptoRow, standIns := [], harness := (true, "39c07125a04c560fe94672b79f5345a3d4bc5414fc7654598f3cc4c1bc40e2f9"), looks := false }, kinds := [], alts := [], laidByText := true, laidKinds := [.data, .pinned], laidTests := true, laidLooks := .later }
def DescrEncodesUptoCardSaid : Prop := Claim7.holds Tryd.pinned (.plain (OpenSpec.upto descrEncodesSpec)) descrEncodesUptoCard

/-- THE SECOND FORM's CARD OF 'sallyportlaw12.DescrParses'. -/
def descrParsesUptoCard : Claim7 := { stood := { row := descrParsesUptoRow, standIns := [], harness := (true, "39c07125a04c560fe94672b79f5345a3d4bc5414fc7654598f3cc4c1bc40e2f9"), looks := false }, kinds := [], alts := [], laidByText := true, laidKinds := [.data, .pinned], laidTests := true, laidLooks := .later }
def DescrParsesUptoCardSaid : Prop := Claim7.holds Tryd.pinned (.plain (OpenSpec.upto descrParsesSpec)) descrParsesUptoCard

/-- THE SECOND FORM's CARD OF 'sallyportlaw12.DescrCuts'. -/
def descrCutsUptoCard : Claim7 := { stood := { row := descrCutsUptoRow, standIns := [], harness := (true, "39c07125a04c560fe94672b79f5345a3d4bc5414fc7654598f3cc4c1bc40e2f9"), looks := false }, kinds := [], alts := [], laidByText := true, laidKinds := [.data, .pinned], laidTests := true, laidLooks := .later }
def DescrCutsUptoCardSaid : Prop := Claim7.holds Tryd.pinned (.plain (OpenSpec.upto descrCutsSpec)) descrCutsUptoCard

/-- THE SECOND FORM's CARD OF 'sallyportlaw12.DescrSizes'. -/
def descrSizesUptoCard : Claim7 := { stood := { row := descrSizesUptoRow, standIns := [], harness := (true, "39c07125a04c560fe94672b79f5345a3d4bc5414fc7654598f3cc4c1bc40e2f9"), looks := false }, kinds := [], alts := [], laidByText := true, laidKinds := [.data, .pinned], laidTests := true, laidLooks := .later }
def DescrSizesUptoCardSaid : Prop := Claim7.holds Tryd.pinned (.plain (OpenSpec.upto descrSizesSpec)) descrSizesUptoCard

/-- THE SECOND FORM's CARD OF 'sallyportlaw12.DescrOwn'. -/
def descrOwnUptoCard : Claim7 := { stood := { row := descrOwnUptoRow, standIns := [], harness := (true, "39c07125a04c560fe94672b79f5345a3d4bc5414fc7654598f3cc4c1bc40e2f9"), looks := false }, kinds := [], alts := [], laidByText := true, laidKinds := [.data, .pinned], laidTests := true, laidLooks := .later }
def DescrOwnUptoCardSaid : Prop := Claim7.holds Tryd.pinned (.plain (OpenSpec.upto descrOwnSpec)) descrOwnUptoCard
end Rows
end Go.Proofs.YtfeihdmjcppbaaaDoor
