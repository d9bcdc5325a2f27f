/-
  DERIVED. GIVEN WITH THE SEED: THE CARDS: each row of YtppoikamenbckaaDoorRows.lean that lists a variable, with what it lists TIED to the program's text (the seventh form; the later family's looks); each row that meets fmt, with fmt's text TOLD by the authors' own Lean function (tested against real Go, not proved from fmt's source: count such statements apart). THE CARD IS WHAT COUNTS. Prove the row's statement (the work); the ties are given (YtppoikamenbckaaDoorTie.lean); close each card by the builder's one call (the guide's Derived/Test/ToyasCard.lean, 'card_holds'). Laid BY PROGRAM, IN A SANDBOX (cutbox-door.mjs). By AI agents, Wed Nov 11 2026. No macro, syntax, notation, axiom, sorry.
-/
import Derived.Test.YtppoikamenbckaaDoorRows
import GoSem.ClaimSeven
namespace Go.Proofs.YtppoikamenbckaaDoor
namespace Rows

/-- THE TIED CARD OF 'sallyportlaw07.SealDigests'. -/
def sealDigestsCard : Claim7 := { stood := { row := sealDigestsRow, standIns := [], harness := (true, "153c89b50c4ee256ec83ae0696aa0d33331bb27dc1784a0053c704e43e47d54c"), looks := false }, kinds := [], alts := [], laidByText := true, laidKinds := [.data, .data, .data, .data, .data, .pinned], laidTests := true, laidLooks := .later }
def SealDigestsCardSaid : Prop := Claim7.holds Tryd.pinned (.plain (OpenSpec.ofChange sealDigestsSpec)) sealDigestsCard

/-- THE TIED CARD OF 'sallyportlaw07.SealBlocks'. -/
def sealBlocksCard : Claim7 := { stood := { row := sealBlocksRow, standIns := [], harness := (true, "153c89b50c4ee256ec83ae0696aa0d33331bb27dc1784a0053c704e43e47d54c"), looks := false }, kinds := [], alts := [], laidByText := true, laidKinds := [.data, .data, .data, .data, .data, .pinned], laidTests := true, laidLooks := .later }
def SealBlocksCardSaid : Prop := Claim7.holds Tryd.pinned (.plain (OpenSpec.ofChange sealBlocksSpec)) sealBlocksCard

/-- THE TIED CARD OF 'sallyportlaw07.SealSalts'. -/
def sealSaltsCard : Claim7 := { stood := { row := sealSaltsRow, standIns := [], harness := (true, "153c89b50c4ee256ec83ae0696aa0d33331bb27dc1784a0053c704e43e47d54c"), looks := false }, kinds := [], alts := [], laidByText := true, laidKinds := [.data, .data, .data, .data, .data, .pinned], laidTests := true, laidLooks := .later }
def SealSaltsCardSaid : Prop := Claim7.holds Tryd.pinned (.plain (OpenSpec.ofChange sealSaltsSpec)) sealSaltsCard

/-- THE SECOND FORM's CARD OF 'sallyportlaw07.SealDigests'. -/
def sealDigestsUptoCard : Claim7 := { stood := { row := sealDigestsUptoRow, standIns := [], harness := (true, "153c89b50c4ee256ec83ae0696aa0d33331bb27dc1784a0053c704e43e47d54c"), looks := false }, kinds := [], alts := [], laidByText := true, laidKinds := [.data, .data, .data, .data, .data, .pinned], laidTests := true, laidLooks := .later }
def SealDigestsUptoCardSaid : Prop := Claim7.holds Tryd.pinned (.plain (OpenSpec.upto sealDigestsSpec)) sealDigestsUptoCard

/-- THE SECOND FORM's CARD OF 'sallyportlaw07.SealBlocks'. -/
def sealBlocksUptoCard : Claim7 := { stood := { row := sealBlocksUptoRow, standIns := [], harness := (true, "153c89b50c4ee256ec83ae0696aa0d33331bb27dc1784a0053c704e43e47d54c"), looks := false }, kinds := [], alts := [], laidByText := true, laidKinds := [.data, .data, .data, .data, .data, .pinned], laidTests := true, laidLooks := .later }
def SealBlocksUptoCardSaid : Prop := Claim7.holds Tryd.pinned (.plain (OpenSpec.upto sealBlocksSpec)) sealBlocksUptoCard

/-- THE SECOND FORM's CARD OF 'sallyportlaw07.SealSalts'. -/
def sealSaltsUptoCard : Claim7 := { stood := { row := sealSaltsUptoRow, standIns := [], harness := (true, "153c89b50c4ee256ec83ae0696aa0d33331bb27dc1784a0053c704e43e47d54c"), looks := false }, kinds := [], alts := [], laidByText := true, laidKinds := [.data, .data, .data, .data, .data, .pinned], laidTests := true, laidLooks := .later }
def SealSaltsUptoCardSaid : Prop := Claim7.holds Tryd.pinned (.plain (OpenSpec.upto sealSaltsSpec)) sealSaltsUptoCard
end Rows
end Go.Proofs.YtppoikamenbckaaDoor
