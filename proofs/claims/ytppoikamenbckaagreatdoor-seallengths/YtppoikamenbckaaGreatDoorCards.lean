/-
  DERIVED. GIVEN WITH THE SEED: THE CARDS: each row of YtppoikamenbckaaGreatDoorRows.lean that lists a variable, with what it lists TIED to the program's text (the seventh form; the later family's looks); each row that meets fmt, with fmt's text TOLD by the authors' own Lean function (tested against real Go, not proved from fmt's source: count such statements apart). THE CARD IS WHAT COUNTS. Prove the row's statement (the work); the ties are given (YtppoikamenbckaaGreatDoorTie.lean); close each card by the builder's one call (the guide's Derived/Test/ToyasCard.lean, 'card_holds'). Laid BY PROGRAM, IN A SANDBOX (cutbox-door.mjs). By AI agents, Wed Nov 11 2026. No macro, syntax, notation, axiom, sorry.
-/
import Derived.Test.YtppoikamenbckaaGreatDoorRows
import GoSem.ClaimSeven
namespace Go.Proofs.YtppoikamenbckaaGreatDoor
namespace Rows

/-- THE TIED CARD OF 'sallyportlaw07.SealHolds'. -/
def sealHoldsCard : Claim7 := { stood := { row := sealHoldsRow, standIns := [], harness := (true, "c428253a03fd742e7dfa9697b8c470741c66aef5b13e0fd8186a4316fb9e8fe6"), looks := false }, kinds := [], alts := [], laidByText := true, laidKinds := [.data, .data, .data, .data, .data, .pinned], laidTests := true, laidLooks := .later }
def SealHoldsCardSaid : Prop := Claim7.holds Tryz.pinned (.plain (OpenSpec.ofChange sealHoldsSpec)) sealHoldsCard

/-- THE TIED CARD OF 'sallyportlaw07.SealSigns'. -/
def sealSignsCard : Claim7 := { stood := { row := sealSignsRow, standIns := [], harness := (true, "c428253a03fd742e7dfa9697b8c470741c66aef5b13e0fd8186a4316fb9e8fe6"), looks := false }, kinds := [], alts := [], laidByText := true, laidKinds := [.data, .data, .data, .data, .data, .pinned], laidTests := true, laidLooks := .later }
def SealSignsCardSaid : Prop := Claim7.holds Tryz.pinned (.plain (OpenSpec.ofChange sealSignsSpec)) sealSignsCard

/-- THE TIED CARD OF 'sallyportlaw07.SealTexts'. -/
def sealTextsCard : Claim7 := { stood := { row := sealTextsRow, standIns := [], harness := (true, "c428253a03fd742e7dfa9697b8c470741c66aef5b13e0fd8186a4316fb9e8fe6"), looks := false }, kinds := [], alts := [], laidByText := true, laidKinds := [.data, .data, .data, .data, .data, .pinned], laidTests := true, laidLooks := .later }
def SealTextsCardSaid : Prop := Claim7.holds Tryz.pinned (.plain (OpenSpec.ofChange sealTextsSpec)) sealTextsCard

/-- THE TIED CARD OF 'sallyportlaw07.SealLengths'. -/
def sealLengthsCard : Claim7 := { stood := { row := sealLengthsRow, standIns := [], harness := (true, "c428253a03fd742e7dfa9697b8c470741c66aef5b13e0fd8186a4316fb9e8fe6"), looks := false }, kinds := [], alts := [], laidByText := true, laidKinds := [.data, .data, .data, .data, .data, .pinned], laidTests := true, laidLooks := .later }
def SealLengthsCardSaid : Prop := Claim7.holds Tryz.pinned (.plain (OpenSpec.ofChange sealLengthsSpec)) sealLengthsCard

/-- THE SECOND FORM's CARD OF 'sallyportlaw07.SealHolds'. -/
def sealHoldsUptoCard : Claim7 := { stood := { row := sealHoldsUptoRow, standIns := [], harness := (true, "c428253a03fd742e7dfa9697b8c470741c66aef5b13e0fd8186a4316fb9e8fe6"), looks := false }, kinds := [], alts := [], laidByText := true, laidKinds := [.data, .data, .data, .data, .data, .pinned], laidTests := true, laidLooks := .later }
def SealHoldsUptoCardSaid : Prop := Claim7.holds Tryz.pinned (.plain (OpenSpec.upto sealHoldsSpec)) sealHoldsUptoCard

/-- THE SECOND FORM's CARD OF 'sallyportlaw07.SealSigns'. -/
def sealSignsUptoCard : Claim7 := { stood := { row := sealSignsUptoRow, standIns := [], harness := (true, "c428253a03fd742e7dfa9697b8c470741c66aef5b13e0fd8186a4316fb9e8fe6"), looks := false }, kinds := [], alts := [], laidByText := true, laidKinds := [.data, .data, .data, .data, .data, .pinned], laidTests := true, laidLooks := .later }
def SealSignsUptoCardSaid : Prop := Claim7.holds Tryz.pinned (.plain (OpenSpec.upto sealSignsSpec)) sealSignsUptoCard

/-- THE SECOND FORM's CARD OF 'sallyportlaw07.SealTexts'. -/
def sealTextsUptoCard : Claim7 := { stood := { row := sealTextsUptoRow, standIns := [], harness := (true, "c428253a03fd742e7dfa9697b8c470741c66aef5b13e0fd8186a4316fb9e8fe6"), looks := false }, kinds := [], alts := [], laidByText := true, laidKinds := [.data, .data, .data, .data, .data, .pinned], laidTests := true, laidLooks := .later }
def SealTextsUptoCardSaid : Prop := Claim7.holds Tryz.pinned (.plain (OpenSpec.upto sealTextsSpec)) sealTextsUptoCard

/-- THE SECOND FORM's CARD OF 'sallyportlaw07.SealLengths'. -/
def sealLengthsUptoCard : Claim7 := { stood := { row := sealLengthsUptoRow, standIns := [], harness := (true, "c428253a03fd742e7dfa9697b8c470741c66aef5b13e0fd8186a4316fb9e8fe6"), looks := false }, kinds := [], alts := [], laidByText := true, laidKinds := [.data, .data, .data, .data, .data, .pinned], laidTests := true, laidLooks := .later }
def SealLengthsUptoCardSaid : Prop := Claim7.holds Tryz.pinned (.plain (OpenSpec.upto sealLengthsSpec)) sealLengthsUptoCard
end Rows
end Go.Proofs.YtppoikamenbckaaGreatDoor
