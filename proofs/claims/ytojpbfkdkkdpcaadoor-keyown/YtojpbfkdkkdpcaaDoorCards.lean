/-
  DERIVED. GIVEN WITH THE SEED: THE CARDS: each row of YtojpbfkdkkdpcaaDoorRows.lean that lists a variable, with what it lists TIED to the program's text (the seventh form; the later family's looks); each row that meets fmt, with fmt's text TOLD by the authors' own Lean function (tested against real Go, not proved from fmt's source: count such statements apart). THE CARD IS WHAT COUNTS. Prove the row's statement (the work); the ties are given (YtojpbfkdkkdpcaaDoorTie.lean); close each card by the builder's one call (the guide's Derived/Test/ToyasCard.lean, 'card_holds'). Laid BY PROGRAM, IN A SANDBOX (cutbox-door.mjs). By AI agents, Wed Nov 11 2026. No macro, syntax, notation, axiom, sorry.
-/
import Derived.Test.YtojpbfkdkkdpcaaDoorRows
import GoSem.ClaimSeven
namespace Go.Proofs.YtojpbfkdkkdpcaaDoor
namespace Rows

/-- THE TIED CARD OF 'sallyportlaw06.KeyMakes'. -/
def keyMakesCard : Claim7 := { stood := { row := keyMakesRow, standIns := [], harness := (true, "f20a712c2b91096d7270e2d2d7fda5c9943541d92ff67c859ab1dc83157bfb17"), looks := false }, kinds := [], alts := [], laidByText := true, laidKinds := [.data, .data, .data, .pinned], laidTests := true, laidLooks := .later }
def KeyMakesCardSaid : Prop := Claim7.holds Tryd.pinned (.plain (OpenSpec.ofChange keyMakesSpec)) keyMakesCard

/-- THE TIED CARD OF 'sallyportlaw06.KeyParses'. -/
def keyParsesCard : Claim7 := { stood := { row := keyParsesRow, standIns := [], harness := (true, "f20a712c2b91096d7270e2d2d7fda5c9943541d92ff67c859ab1dc83157bfb17"), looks := false }, kinds := [], alts := [], laidByText := true, laidKinds := [.data, .pinned], laidTests := true, laidLooks := .later }
def KeyParsesCardSaid : Prop := Claim7.holds Tryd.pinned (.plain (OpenSpec.ofChange keyParsesSpec)) keyParsesCard

/-- THE TIED CARD OF 'sallyportlaw06.KeyOpens'. -/
def keyOpensCard : Claim7 := { stood := { row := keyOpensRow, standIns := [], harness := (true, "f20a712c2b91096d7270e2d2d7fda5c9943541d92ff67c859ab1dc83157bfb17"), looks := false }, kinds := [], alts := [], laidByText := true, laidKinds := [.data, .pinned], laidTests := true, laidLooks := .later }
def KeyOpensCardSaid : Prop := Claim7.holds Tryd.pinned (.plain (OpenSpec.ofChange keyOpensSpec)) keyOpensCard

/-- THE TIED CARD OF 'sallyportlaw06.KeyBack'. -/
def keyBackCard : Claim7 := { stood := { row := keyBackRow, standIns := [], harness := (true, "f20a712c2b91096d7270e2d2d7fda5c9943541d92ff67c859ab1dc83157bfb17"), looks := false }, kinds := [], alts := [], laidByText := true, laidKinds := [.data, .pinned], laidTests := true, laidLooks := .later }
def KeyBackCardSaid : Prop := Claim7.holds Tryd.pinned (.plain (OpenSpec.ofChange keyBackSpec)) keyBackCard

/-- THE TIED CARD OF 'sallyportlaw06.KeyOwn'. -/
def keyOwnCard : Claim7 := { stood := { row := keyOwnRow, standIns := [], harness := (true, "f20a712c2b91096d7270e2d2d7fda5c9943541d92ff67c859ab1dc83157bfb17"), looks := false }, kinds := [], alts := [], laidByText := true, laidKinds := [.data, .data, .data, .pinned], laidTests := true, laidLooks := .later }
def KeyOwnCardSaid : Prop := Claim7.holds Tryd.pinned (.plain (OpenSpec.ofChange keyOwnSpec)) keyOwnCard

/-- THE TIED CARD OF 'sallyportlaw06.KeyProducts'. -/
def keyProductsCard : Claim7 := { stood := { row := keyProductsRow, standIns := [], harness := (true, "f20a712c2b91096d7270e2d2d7fda5c9943541d92ff67c859ab1dc83157bfb17"), looks := false }, kinds := [], alts := [], laidByText := true, laidKinds := [.data, .pinned], laidTests := true, laidLooks := .later }
def KeyProductsCardSaid : Prop := Claim7.holds Tryd.pinned (.plain (OpenSpec.ofChange keyProductsSpec)) keyProductsCard

/-- THE TIED CARD OF 'sallyportlaw06.KeyNames'. -/
def keyNamesCard : Claim7 := { stood := { row := keyNamesRow, standIns := [], harness := (true, "f20a712c2b91096d7270e2d2d7fda5c9943541d92ff67c859ab1dc83157bfb17"), looks := false }, kinds := [], alts := [], laidByText := true, laidKinds := [.data, .pinned], laidTests := true, laidLooks := .later }
def KeyNamesCardSaid : Prop := Claim7.holds Tryd.pinned (.plain (OpenSpec.ofChange keyNamesSpec)) keyNamesCard

/-- THE SECOND FORM's CARD OF 'sallyportlaw06.KeyMakes'. -/
def keyMakesUptoCard : Claim7 := { stood := { row := keyMakesUptoRow, standIns := [], harness := (true, "f20a712c2b91096d7270e2d2d7fda5c9943541d92ff67c859ab1dc83157bfb17"), looks := false }, kinds := [], alts := [], laidByText := true, laidKinds := [.data, .data, .data, .pinned], laidTests := true, laidLooks := .later }
def KeyMakesUptoCardSaid : Prop := Claim7.holds Tryd.pinned (.plain (OpenSpec.upto keyMakesSpec)) keyMakesUptoCard

/-- THE SECOND FORM's CARD OF 'sallyportlaw06.KeyParses'. -/
def keyParsesUptoCard : Claim7 := { stood := { row := keyParsesUptoRow, standIns := [], harness := (true, "f20a712c2b91096d7270e2d2d7fda5c9943541d92ff67c859ab1dc83157bfb17"), looks := false }, kinds := [], alts := [], laidByText := true, laidKinds := [.data, .pinned], laidTests := true, laidLooks := .later }
def KeyParsesUptoCardSaid : Prop := Claim7.holds Tryd.pinned (.plain (OpenSpec.upto keyParsesSpec)) keyParsesUptoCard

/-- THE SECOND FORM's CARD OF 'sallyportlaw06.KeyOpens'. -/
def keyOpensUptoCard : Claim7 := { stood := { row := keyOpensUptoRow, standIns := [], harness := (true, "f20a712c2b91096d7270e2d2d7fda5c9943541d92ff67c859ab1dc83157bfb17"), looks := false }, kinds := [], alts := [], laidByText := true, laidKinds := [.data, .pinned], laidTests := true, laidLooks := .later }
def KeyOpensUptoCardSaid : Prop := Claim7.holds Tryd.pinned (.plain (OpenSpec.upto keyOpensSpec)) keyOpensUptoCard

/-- THE SECOND FORM's CARD OF 'sallyportlaw06.KeyBack'. -/
def keyBackUptoCard : Claim7 := { stood := { row := keyBackUptoRow, standIns := [], harness := (true, "f20a712c2b91096d7270e2d2d7fda5c9943541d92ff67c859ab1dc83157bfb17"), looks := false }, kinds := [], alts := [], laidByText := true, laidKinds := [.data, .pinned], laidTests := true, laidLooks := .later }
def KeyBackUptoCardSaid : Prop := Claim7.holds Tryd.pinned (.plain (OpenSpec.upto keyBackSpec)) keyBackUptoCard

/-- THE SECOND FORM's CARD OF 'sallyportlaw06.KeyOwn'. -/
def keyOwnUptoCard : Claim7 := { stood := { row := keyOwnUptoRow, standIns := [], harness := (true, "f20a712c2b91096d7270e2d2d7fda5c9943541d92ff67c859ab1dc83157bfb17"), looks := false }, kinds := [], alts := [], laidByText := true, laidKinds := [.data, .data, .data, .pinned], laidTests := true, laidLooks := .later }
def KeyOwnUptoCardSaid : Prop := Claim7.holds Tryd.pinned (.plain (OpenSpec.upto keyOwnSpec)) keyOwnUptoCard

/-- THE SECOND FORM's CARD OF 'sallyportlaw06.KeyProducts'. -/
def keyProductsUptoCard : Claim7 := { stood := { row := keyProductsUptoRow, standIns := [], harness := (true, "f20a712c2b91096d7270e2d2d7fda5c9943541d92ff67c859ab1dc83157bfb17"), looks := false }, kinds := [], alts := [], laidByText := true, laidKinds := [.data, .pinned], laidTests := true, laidLooks := .later }
def KeyProductsUptoCardSaid : Prop := Claim7.holds Tryd.pinned (.plain (OpenSpec.upto keyProductsSpec)) keyProductsUptoCard

/-- THE SECOND FORM's CARD OF 'sallyportlaw06.KeyNames'. -/
def keyNamesUptoCard : Claim7 := { stood := { row := keyNamesUptoRow, standIns := [], harness := (true, "f20a712c2b91096d7270e2d2d7fda5c9943541d92ff67c859ab1dc83157bfb17"), looks := false }, kinds := [], alts := [], laidByText := true, laidKinds := [.data, .pinned], laidTests := true, laidLooks := .later }
def KeyNamesUptoCardSaid : Prop := Claim7.holds Tryd.pinned (.plain (OpenSpec.upto keyNamesSpec)) keyNamesUptoCard
end Rows
end Go.Proofs.YtojpbfkdkkdpcaaDoor
