/-
  DERIVED. GIVEN WITH THE SEED: THE CARDS: each row of YtbajckbjjepceaaDoorRows.lean that lists a variable, with what it lists TIED to the program's text (the seventh form; the later family's looks); each row that meets fmt, with fmt's text TOLD by the authors' own Lean function (tested against real Go, not proved from fmt's source: count such statements apart). THE CARD IS WHAT COUNTS. Prove the row's statement (the work); the ties are given (YtbajckbjjepceaaDoorTie.lean); close each card by the builder's one call (the guide's Derived/Test/ToyasCard.lean, 'card_holds'). Laid BY PROGRAM, IN A SANDBOX (cutbox-door.mjs). By AI agents, Wed Nov 11 2026. No macro, syntax, notation, axiom, sorry.
-/
import Derived.Test.YtbajckbjjepceaaDoorRows
import GoSem.ClaimSeven
namespace Go.Proofs.YtbajckbjjepceaaDoor
namespace Rows

/-- THE TIED CARD OF 'sallyportlaw04.LimbsBytes'. -/
def limbsBytesCard : Claim7 := { stood := { row := limbsBytesRow, standIns := [], harness := (true, "64cdc9a76ea2d11768a2a0a77ed3d189abc9f65ca3f90169691b432a83e10043"), looks := false }, kinds := [], alts := [], laidByText := true, laidKinds := [.data, .pinned], laidTests := true, laidLooks := .later }
def LimbsBytesCardSaid : Prop := Claim7.holds Tryd.pinned (.plain (OpenSpec.ofChange limbsBytesSpec)) limbsBytesCard

/-- THE TIED CARD OF 'sallyportlaw04.LimbsSums'. -/
def limbsSumsCard : Claim7 := { stood := { row := limbsSumsRow, standIns := [], harness := (true, "64cdc9a76ea2d11768a2a0a77ed3d189abc9f65ca3f90169691b432a83e10043"), looks := false }, kinds := [], alts := [], laidByText := true, laidKinds := [.data, .pinned], laidTests := true, laidLooks := .later }
def LimbsSumsCardSaid : Prop := Claim7.holds Tryd.pinned (.plain (OpenSpec.ofChange limbsSumsSpec)) limbsSumsCard

/-- THE TIED CARD OF 'sallyportlaw04.LimbsProducts'. -/
def limbsProductsCard : Claim7 := { stood := { row := limbsProductsRow, standIns := [], harness := (true, "64cdc9a76ea2d11768a2a0a77ed3d189abc9f65ca3f90169691b432a83e10043"), looks := false }, kinds := [], alts := [], laidByText := true, laidKinds := [.data, .pinned], laidTests := true, laidLooks := .later }
def LimbsProductsCardSaid : Prop := Claim7.holds Tryd.pinned (.plain (OpenSpec.ofChange limbsProductsSpec)) limbsProductsCard

/-- THE TIED CARD OF 'sallyportlaw04.LimbsOrders'. -/
def limbsOrdersCard : Claim7 := { stood := { row := limbsOrdersRow, standIns := [], harness := (true, "64cdc9a76ea2d11768a2a0a77ed3d189abc9f65ca3f90169691b432a83e10043"), looks := false }, kinds := [], alts := [], laidByText := true, laidKinds := [.data, .pinned], laidTests := true, laidLooks := .later }
def LimbsOrdersCardSaid : Prop := Claim7.holds Tryd.pinned (.plain (OpenSpec.ofChange limbsOrdersSpec)) limbsOrdersCard

/-- THE TIED CARD OF 'sallyportlaw04.LimbsBack'. -/
def limbsBackCard : Claim7 := { stood := { row := limbsBackRow, standIns := [], harness := (true, "64cdc9a76ea2d11768a2a0a77ed3d189abc9f65ca3f90169691b432a83e10043"), looks := false }, kinds := [], alts := [], laidByText := true, laidKinds := [.data, .pinned], laidTests := true, laidLooks := .later }
def LimbsBackCardSaid : Prop := Claim7.holds Tryd.pinned (.plain (OpenSpec.ofChange limbsBackSpec)) limbsBackCard

/-- THE TIED CARD OF 'sallyportlaw04.LimbsSpreads'. -/
def limbsSpreadsCard : Claim7 := { stood := { row := limbsSpreadsRow, standIns := [], harness := (true, "64cdc9a76ea2d11768a2a0a77ed3d189abc9f65ca3f90169691b432a83e10043"), looks := false }, kinds := [], alts := [], laidByText := true, laidKinds := [.data, .pinned], laidTests := true, laidLooks := .later }
def LimbsSpreadsCardSaid : Prop := Claim7.holds Tryd.pinned (.plain (OpenSpec.ofChange limbsSpreadsSpec)) limbsSpreadsCard

/-- THE TIED CARD OF 'sallyportlaw04.LimbsOnes'. -/
def limbsOnesCard : Claim7 := { stood := { row := limbsOnesRow, standIns := [], harness := (true, "64cdc9a76ea2d11768a2a0a77ed3d189abc9f65ca3f90169691b432a83e10043"), looks := false }, kinds := [], alts := [], laidByText := true, laidKinds := [.data, .pinned], laidTests := true, laidLooks := .later }
def LimbsOnesCardSaid : Prop := Claim7.holds Tryd.pinned (.plain (OpenSpec.ofChange limbsOnesSpec)) limbsOnesCard

/-- THE TIED CARD OF 'sallyportlaw04.LimbsWidths'. -/
def limbsWidthsCard : Claim7 := { stood := { row := limbsWidthsRow, standIns := [], harness := (true, "64cdc9a76ea2d11768a2a0a77ed3d189abc9f65ca3f90169691b432a83e10043"), looks := false }, kinds := [], alts := [], laidByText := true, laidKinds := [.data, .pinned], laidTests := true, laidLooks := .later }
def LimbsWidthsCardSaid : Prop := Claim7.holds Tryd.pinned (.plain (OpenSpec.ofChange limbsWidthsSpec)) limbsWidthsCard

/-- THE SECOND FORM's CARD OF 'sallyportlaw04.LimbsBytes'. -/
def limbsBytesUptoCard : Claim7 := { stood := { row := limbsBytesUptoRow, standIns := [], harness := (true, "64cdc9a76ea2d11768a2a0a77ed3d189abc9f65ca3f90169691b432a83e10043"), looks := false }, kinds := [], alts := [], laidByText := true, laidKinds := [.data, .pinned], laidTests := true, laidLooks := .later }
def LimbsBytesUptoCardSaid : Prop := Claim7.holds Tryd.pinned (.plain (OpenSpec.upto limbsBytesSpec)) limbsBytesUptoCard

/-- THE SECOND FORM's CARD OF 'sallyportlaw04.LimbsSums'. -/
def limbsSumsUptoCard : Claim7 := { stood := { row := limbsSumsUptoRow, standIns := [], harness := (true, "64cdc9a76ea2d11768a2a0a77ed3d189abc9f65ca3f90169691b432a83e10043"), looks := false }, kinds := [], alts := [], laidByText := true, laidKinds := [.data, .pinned], laidTests := true, laidLooks := .later }
def LimbsSumsUptoCardSaid : Prop := Claim7.holds Tryd.pinned (.plain (OpenSpec.upto limbsSumsSpec)) limbsSumsUptoCard

/-- THE SECOND FORM's CARD OF 'sallyportlaw04.LimbsProducts'. -/
def limbsProductsUptoCard : Claim7 := { stood := { row := limbsProductsUptoRow, standIns := [], harness := (true, "64cdc9a76ea2d11768a2a0a77ed3d189abc9f65ca3f90169691b432a83e10043"), looks := false }, kinds := [], alts := [], laidByText := true, laidKinds := [.data, .pinned], laidTests := true, laidLooks := .later }
def LimbsProductsUptoCardSaid : Prop := Claim7.holds Tryd.pinned (.plain (OpenSpec.upto limbsProductsSpec)) limbsProductsUptoCard

/-- THE SECOND FORM's CARD OF 'sallyportlaw04.LimbsOrders'. -/
def limbsOrdersUptoCard : Claim7 := { stood := { row := limbsOrdersUptoRow, standIns := [], harness := (true, "64cdc9a76ea2d11768a2a0a77ed3d189abc9f65ca3f90169691b432a83e10043"), looks := false }, kinds := [], alts := [], laidByText := true, laidKinds := [.data, .pinned], laidTests := true, laidLooks := .later }
def LimbsOrdersUptoCardSaid : Prop := Claim7.holds Tryd.pinned (.plain (OpenSpec.upto limbsOrdersSpec)) limbsOrdersUptoCard

/-- THE SECOND FORM's CARD OF 'sallyportlaw04.LimbsBack'. -/
def limbsBackUptoCard : Claim7 := { stood := { row := limbsBackUptoRow, standIns := [], harness := (true, "64cdc9a76ea2d11768a2a0a77ed3d189abc9f65ca3f90169691b432a83e10043"), looks := false }, kinds := [], alts := [], laidByText := true, laidKinds := [.data, .pinned], laidTests := true, laidLooks := .later }
def LimbsBackUptoCardSaid : Prop := Claim7.holds Tryd.pinned (.plain (OpenSpec.upto limbsBackSpec)) limbsBackUptoCard

/-- THE SECOND FORM's CARD OF 'sallyportlaw04.LimbsSpreads'. -/
def limbsSpreadsUptoCard : Claim7 := { stood := { row := limbsSpreadsUptoRow, standIns := [], harness := (true, "64cdc9a76ea2d11768a2a0a77ed3d189abc9f65ca3f90169691b432a83e10043"), looks := false }, kinds := [], alts := [], laidByText := true, laidKinds := [.data, .pinned], laidTests := true, laidLooks := .later }
def LimbsSpreadsUptoCardSaid : Prop := Claim7.holds Tryd.pinned (.plain (OpenSpec.upto limbsSpreadsSpec)) limbsSpreadsUptoCard

/-- THE SECOND FORM's CARD OF 'sallyportlaw04.LimbsOnes'. -/
def limbsOnesUptoCard : Claim7 := { stood := { row := limbsOnesUptoRow, standIns := [], harness := (true, "64cdc9a76ea2d11768a2a0a77ed3d189abc9f65ca3f90169691b432a83e10043"), looks := false }, kinds := [], alts := [], laidByText := true, laidKinds := [.data, .pinned], laidTests := true, laidLooks := .later }
def LimbsOnesUptoCardSaid : Prop := Claim7.holds Tryd.pinned (.plain (OpenSpec.upto limbsOnesSpec)) limbsOnesUptoCard

/-- THE SECOND FORM's CARD OF 'sallyportlaw04.LimbsWidths'. -/
def limbsWidthsUptoCard : Claim7 := { stood := { row := limbsWidthsUptoRow, standIns := [], harness := (true, "64cdc9a76ea2d11768a2a0a77ed3d189abc9f65ca3f90169691b432a83e10043"), looks := false }, kinds := [], alts := [], laidByText := true, laidKinds := [.data, .pinned], laidTests := true, laidLooks := .later }
def LimbsWidthsUptoCardSaid : Prop := Claim7.holds Tryd.pinned (.plain (OpenSpec.upto limbsWidthsSpec)) limbsWidthsUptoCard
end Rows
end Go.Proofs.YtbajckbjjepceaaDoor
