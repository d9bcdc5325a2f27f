/-
  DERIVED. GIVEN WITH THE SEED: THE CARDS: each row of YtlcoebenkhafcaaGreatDoorRows.lean that lists a variable, with what it lists TIED to the program's text (the seventh form; the later family's looks); each row that meets fmt, with fmt's text TOLD by the authors' own Lean function (tested against real Go, not proved from fmt's source: count such statements apart). THE CARD IS WHAT COUNTS. Prove the row's statement (the work); the ties are given (YtlcoebenkhafcaaGreatDoorTie.lean); close each card by the builder's one call (the guide's Derived/Test/ToyasCard.lean, 'card_holds'). Laid BY PROGRAM, IN A SANDBOX (cutbox-door.mjs). By AI agents, Wed Nov 11 2026. No macro, syntax, notation, axiom, sorry.
-/
import Derived.Test.YtlcoebenkhafcaaGreatDoorRows
import GoSem.ClaimSeven
namespace Go.Proofs.YtlcoebenkhafcaaGreatDoor
namespace Rows

/-- THE TIED CARD OF 'sallyportlaw13.BlobEncodes'. -/
def blobEncodesCard : Claim7 := { stood := { row := blobEncodesRow, standIns := [], harness := (true, "65ee5f2564cc369d2b451aad13f4770e3e9386dbc9d8d8ec921f7ddc5faa26bd"), looks := false }, kinds := [], alts := [], laidByText := true, laidKinds := [.data, .data, .data, .data, .data, .pinned], laidTests := true, laidLooks := .later }
def BlobEncodesCardSaid : Prop := Claim7.holds Tryz.pinned (.plain (OpenSpec.ofChange blobEncodesSpec)) blobEncodesCard

/-- THE TIED CARD OF 'sallyportlaw13.BlobParses'. -/
def blobParsesCard : Claim7 := { stood := { row := blobParsesRow, standIns := [], harness := (true, "65ee5f2564cc369d2b451aad13f4770e3e9386dbc9d8d8ec921f7ddc5faa26bd"), looks := false }, kinds := [], alts := [], laidByText := true, laidKinds := [.data, .data, .data, .data, .data, .pinned], laidTests := true, laidLooks := .later }
def BlobParsesCardSaid : Prop := Claim7.holds Tryz.pinned (.plain (OpenSpec.ofChange blobParsesSpec)) blobParsesCard

/-- THE TIED CARD OF 'sallyportlaw13.BlobChecks'. -/
def blobChecksCard : Claim7 := { stood := { row := blobChecksRow, standIns := [], harness := (true, "65ee5f2564cc369d2b451aad13f4770e3e9386dbc9d8d8ec921f7ddc5faa26bd"), looks := false }, kinds := [], alts := [], laidByText := true, laidKinds := [.data, .data, .data, .data, .data, .pinned], laidTests := true, laidLooks := .later }
def BlobChecksCardSaid : Prop := Claim7.holds Tryz.pinned (.plain (OpenSpec.ofChange blobChecksSpec)) blobChecksCard

/-- THE TIED CARD OF 'sallyportlaw13.BlobTurned'. -/
def blobTurnedCard : Claim7 := { stood := { row := blobTurnedRow, standIns := [], harness := (true, "65ee5f2564cc369d2b451aad13f4770e3e9386dbc9d8d8ec921f7ddc5faa26bd"), looks := false }, kinds := [], alts := [], laidByText := true, laidKinds := [.data, .data, .data, .data, .data, .pinned], laidTests := true, laidLooks := .later }
def BlobTurnedCardSaid : Prop := Claim7.holds Tryz.pinned (.plain (OpenSpec.ofChange blobTurnedSpec)) blobTurnedCard

/-- THE TIED CARD OF 'sallyportlaw13.BlobSizes'. -/
def blobSizesCard : Claim7 := { stood := { row := blobSizesRow, standIns := [], harness := (true, "65ee5f2564cc369d2b451aad13f4770e3e9386dbc9d8d8ec921f7ddc5faa26bd"), looks := false }, kinds := [], alts := [], laidByText := true, laidKinds := [.data, .data, .data, .data, .data, .pinned], laidTests := true, laidLooks := .later }
def BlobSizesCardSaid : Prop := Claim7.holds Tryz.pinned (.plain (OpenSpec.ofChange blobSizesSpec)) blobSizesCard

/-- THE TIED CARD OF 'sallyportlaw13.BlobKeys'. -/
def blobKeysCard : Claim7 := { stood := { row := blobKeysRow, standIns := [], harness := (true, "65ee5f2564cc369d2b451aad13f4770e3e9386dbc9d8d8ec921f7ddc5faa26bd"), looks := false }, kinds := [], alts := [], laidByText := true, laidKinds := [.data, .data, .data, .data, .data, .pinned], laidTests := true, laidLooks := .later }
def BlobKeysCardSaid : Prop := Claim7.holds Tryz.pinned (.plain (OpenSpec.ofChange blobKeysSpec)) blobKeysCard

/-- THE TIED CARD OF 'sallyportlaw13.BlobOpen'. -/
def blobOpenCard : Claim7 := { stood := { row := blobOpenRow, standIns := [], harness := (true, "65ee5f2564cc369d2b451aad13f4770e3e9386dbc9d8d8ec921f7ddc5faa26bd"), looks := false }, kinds := [], alts := [], laidByText := true, laidKinds := [.data, .data, .data, .data, .data, .pinned], laidTests := true, laidLooks := .later }
def BlobOpenCardSaid : Prop := Claim7.holds Tryz.pinned (.plain (OpenSpec.ofChange blobOpenSpec)) blobOpenCard

/-- THE SECOND FORM's CARD OF 'sallyportlaw13.BlobEncodes'. -/
def blobEncodesUptoCard : Claim7 := { stood := { row := blobEncodesUptoRow, standIns := [], harness := (true, "65ee5f2564cc369d2b451aad13f4770e3e9386dbc9d8d8ec921f7ddc5faa26bd"), looks := false }, kinds := [], alts := [], laidByText := true, laidKinds := [.data, .data, .data, .data, .data, .pinned], laidTests := true, laidLooks := .later }
def BlobEncodesUptoCardSaid : Prop := Claim7.holds Tryz.pinned (.plain (OpenSpec.upto blobEncodesSpec)) blobEncodesUptoCard

/-- THE SECOND FORM's CARD OF 'sallyportlaw13.BlobParses'. -/
def blobParsesUptoCard : Claim7 := { stood := { row := blobParsesUptoRow, standIns := [], harness := (true, "65ee5f2564cc369d2b451aad13f4770e3e9386dbc9d8d8ec921f7ddc5faa26bd"), looks := false }, kinds := [], alts := [], laidByText := true, laidKinds := [.data, .data, .data, .data, .data, .pinned], laidTests := true, laidLooks := .later }
def BlobParsesUptoCardSaid : Prop := Claim7.holds Tryz.pinned (.plain (OpenSpec.upto blobParsesSpec)) blobParsesUptoCard

/-- THE SECOND FORM's CARD OF 'sallyportlaw13.BlobChecks'. -/
def blobChecksUptoCard : Claim7 := { stood := { row := blobChecksUptoRow, standIns := [], harness := (true, "65ee5f2564cc369d2b451aad13f4770e3e9386dbc9d8d8ec921f7ddc5faa26bd"), looks := false }, kinds := [], alts := [], laidByText := true, laidKinds := [.data, .data, .data, .data, .data, .pinned], laidTests := true, laidLooks := .later }
def BlobChecksUptoCardSaid : Prop := Claim7.holds Tryz.pinned (.plain (OpenSpec.upto blobChecksSpec)) blobChecksUptoCard

/-- THE SECOND FORM's CARD OF 'sallyportlaw13.BlobTurned'. -/
def blobTurnedUptoCard : Claim7 := { stood := { row := blobTurnedUptoRow, standIns := [], harness := (true, "65ee5f2564cc369d2b451aad13f4770e3e9386dbc9d8d8ec921f7ddc5faa26bd"), looks := false }, kinds := [], alts := [], laidByText := true, laidKinds := [.data, .data, .data, .data, .data, .pinned], laidTests := true, laidLooks := .later }
def BlobTurnedUptoCardSaid : Prop := Claim7.holds Tryz.pinned (.plain (OpenSpec.upto blobTurnedSpec)) blobTurnedUptoCard

/-- THE SECOND FORM's CARD OF 'sallyportlaw13.BlobSizes'. -/
def blobSizesUptoCard : Claim7 := { stood := { row := blobSizesUptoRow, standIns := [], harness := (true, "65ee5f2564cc369d2b451aad13f4770e3e9386dbc9d8d8ec921f7ddc5faa26bd"), looks := false }, kinds := [], alts := [], laidByText := true, laidKinds := [.data, .data, .data, .data, .data, .pinned], laidTests := true, laidLooks := .later }
def BlobSizesUptoCardSaid : Prop := Claim7.holds Tryz.pinned (.plain (OpenSpec.upto blobSizesSpec)) blobSizesUptoCard

/-- THE SECOND FORM's CARD OF 'sallyportlaw13.BlobKeys'. -/
def blobKeysUptoCard : Claim7 := { stood := { row := blobKeysUptoRow, standIns := [], harness := (true, "65ee5f2564cc369d2b451aad13f4770e3e9386dbc9d8d8ec921f7ddc5faa26bd"), looks := false }, kinds := [], alts := [], laidByText := true, laidKinds := [.data, .data, .data, .data, .data, .pinned], laidTests := true, laidLooks := .later }
def BlobKeysUptoCardSaid : Prop := Claim7.holds Tryz.pinned (.plain (OpenSpec.upto blobKeysSpec)) blobKeysUptoCard

/-- THE SECOND FORM's CARD OF 'sallyportlaw13.BlobOpen'. -/
def blobOpenUptoCard : Claim7 := { stood := { row := blobOpenUptoRow, standIns := [], harness := (true, "65ee5f2564cc369d2b451aad13f4770e3e9386dbc9d8d8ec921f7ddc5faa26bd"), looks := false }, kinds := [], alts := [], laidByText := true, laidKinds := [.data, .data, .data, .data, .data, .pinned], laidTests := true, laidLooks := .later }
def BlobOpenUptoCardSaid : Prop := Claim7.holds Tryz.pinned (.plain (OpenSpec.upto blobOpenSpec)) blobOpenUptoCard
end Rows
end Go.Proofs.YtlcoebenkhafcaaGreatDoor
