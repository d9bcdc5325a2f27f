/-
  DERIVED. GIVEN WITH THE SEED: THE CARDS: each row of YtggnhncodiekhaaDoorRows.lean that lists a variable, with what it lists TIED to the program's text (the seventh form; the later family's looks); each row that meets fmt, with fmt's text TOLD by the authors' own Lean function (tested against real Go, not proved from fmt's source: count such statements apart). THE CARD IS WHAT COUNTS. Prove the row's statement (the work); the ties are given (YtggnhncodiekhaaDoorTie.lean); close each card by the builder's one call (the guide's Derived/Test/ToyasCard.lean, 'card_holds'). Laid BY PROGRAM, IN A SANDBOX (cutbox-door.mjs). By AI agents, Wed Nov 11 2026. No macro, syntax, notation, axiom, sorry.
-/
import Derived.Test.YtggnhncodiekhaaDoorRows
import GoSem.ClaimSeven
namespace Go.Proofs.YtggnhncodiekhaaDoor
namespace Rows

/-- THE TIED CARD OF 'sallyportlaw05.RingMakes'. -/
def ringMakesCard : Claim7 := { stood := { row := ringMakesRow, standIns := [], harness := (true, "a43147baa5991a251e00321f31fa801485737f506dc76d46bf4f334a44e676d0"), looks := false }, kinds := [], alts := [], laidByText := true, laidKinds := [.data, .pinned], laidTests := true, laidLooks := .later }
def RingMakesCardSaid : Prop := Claim7.holds Tryd.pinned (.plain (OpenSpec.ofChange ringMakesSpec)) ringMakesCard

/-- THE TIED CARD OF 'sallyportlaw05.RingTimes'. -/
def ringTimesCard : Claim7 := { stood := { row := ringTimesRow, standIns := [], harness := (true, "a43147baa5991a251e00321f31fa801485737f506dc76d46bf4f334a44e676d0"), looks := false }, kinds := [], alts := [], laidByText := true, laidKinds := [.data, .pinned], laidTests := true, laidLooks := .later }
def RingTimesCardSaid : Prop := Claim7.holds Tryd.pinned (.plain (OpenSpec.ofChange ringTimesSpec)) ringTimesCard

/-- THE TIED CARD OF 'sallyportlaw05.RingPowers'. -/
def ringPowersCard : Claim7 := { stood := { row := ringPowersRow, standIns := [], harness := (true, "a43147baa5991a251e00321f31fa801485737f506dc76d46bf4f334a44e676d0"), looks := false }, kinds := [], alts := [], laidByText := true, laidKinds := [.data, .pinned], laidTests := true, laidLooks := .later }
def RingPowersCardSaid : Prop := Claim7.holds Tryd.pinned (.plain (OpenSpec.ofChange ringPowersSpec)) ringPowersCard

/-- THE TIED CARD OF 'sallyportlaw05.RingAdds'. -/
def ringAddsCard : Claim7 := { stood := { row := ringAddsRow, standIns := [], harness := (true, "a43147baa5991a251e00321f31fa801485737f506dc76d46bf4f334a44e676d0"), looks := false }, kinds := [], alts := [], laidByText := true, laidKinds := [.data, .pinned], laidTests := true, laidLooks := .later }
def RingAddsCardSaid : Prop := Claim7.holds Tryd.pinned (.plain (OpenSpec.ofChange ringAddsSpec)) ringAddsCard

/-- THE TIED CARD OF 'sallyportlaw05.RingOnes'. -/
def ringOnesCard : Claim7 := { stood := { row := ringOnesRow, standIns := [], harness := (true, "a43147baa5991a251e00321f31fa801485737f506dc76d46bf4f334a44e676d0"), looks := false }, kinds := [], alts := [], laidByText := true, laidKinds := [.data, .pinned], laidTests := true, laidLooks := .later }
def RingOnesCardSaid : Prop := Claim7.holds Tryd.pinned (.plain (OpenSpec.ofChange ringOnesSpec)) ringOnesCard

/-- THE TIED CARD OF 'sallyportlaw05.RingShorts'. -/
def ringShortsCard : Claim7 := { stood := { row := ringShortsRow, standIns := [], harness := (true, "a43147baa5991a251e00321f31fa801485737f506dc76d46bf4f334a44e676d0"), looks := false }, kinds := [], alts := [], laidByText := true, laidKinds := [.data, .pinned], laidTests := true, laidLooks := .later }
def RingShortsCardSaid : Prop := Claim7.holds Tryd.pinned (.plain (OpenSpec.ofChange ringShortsSpec)) ringShortsCard

/-- THE TIED CARD OF 'sallyportlaw05.RingSquares'. -/
def ringSquaresCard : Claim7 := { stood := { row := ringSquaresRow, standIns := [], harness := (true, "a43147baa5991a251e00321f31fa801485737f506dc76d46bf4f334a44e676d0"), looks := false }, kinds := [], alts := [], laidByText := true, laidKinds := [.data, .pinned], laidTests := true, laidLooks := .later }
def RingSquaresCardSaid : Prop := Claim7.holds Tryd.pinned (.plain (OpenSpec.ofChange ringSquaresSpec)) ringSquaresCard

/-- THE SECOND FORM's CARD OF 'sallyportlaw05.RingMakes'. -/
def ringMakesUptoCard : Claim7 := { stood := { row := ringMakesUptoRow, standIns := [], harness := (true, "a43147baa5991a251e00321f31fa801485737f506dc76d46bf4f334a44e676d0"), looks := false }, kinds := [], alts := [], laidByText := true, laidKinds := [.data, .pinned], laidTests := true, laidLooks := .later }
def RingMakesUptoCardSaid : Prop := Claim7.holds Tryd.pinned (.plain (OpenSpec.upto ringMakesSpec)) ringMakesUptoCard

/-- THE SECOND FORM's CARD OF 'sallyportlaw05.RingTimes'. -/
def ringTimesUptoCard : Claim7 := { stood := { row := ringTimesUptoRow, standIns := [], harness := (true, "a43147baa5991a251e00321f31fa801485737f506dc76d46bf4f334a44e676d0"), looks := false }, kinds := [], alts := [], laidByText := true, laidKinds := [.data, .pinned], laidTests := true, laidLooks := .later }
def RingTimesUptoCardSaid : Prop := Claim7.holds Tryd.pinned (.plain (OpenSpec.upto ringTimesSpec)) ringTimesUptoCard

/-- THE SECOND FORM's CARD OF 'sallyportlaw05.RingPowers'. -/
def ringPowersUptoCard : Claim7 := { stood := { row := ringPowersUptoRow, standIns := [], harness := (true, "a43147baa5991a251e00321f31fa801485737f506dc76d46bf4f334a44e676d0"), looks := false }, kinds := [], alts := [], laidByText := true, laidKinds := [.data, .pinned], laidTests := true, laidLooks := .later }
def RingPowersUptoCardSaid : Prop := Claim7.holds Tryd.pinned (.plain (OpenSpec.upto ringPowersSpec)) ringPowersUptoCard

/-- THE SECOND FORM's CARD OF 'sallyportlaw05.RingAdds'. -/
def ringAddsUptoCard : Claim7 := { stood := { row := ringAddsUptoRow, standIns := [], harness := (true, "a43147baa5991a251e00321f31fa801485737f506dc76d46bf4f334a44e676d0"), looks := false }, kinds := [], alts := [], laidByText := true, laidKinds := [.data, .pinned], laidTests := true, laidLooks := .later }
def RingAddsUptoCardSaid : Prop := Claim7.holds Tryd.pinned (.plain (OpenSpec.upto ringAddsSpec)) ringAddsUptoCard

/-- THE SECOND FORM's CARD OF 'sallyportlaw05.RingOnes'. -/
def ringOnesUptoCard : Claim7 := { stood := { row := ringOnesUptoRow, standIns := [], harness := (true, "a43147baa5991a251e00321f31fa801485737f506dc76d46bf4f334a44e676d0"), looks := false }, kinds := [], alts := [], laidByText := true, laidKinds := [.data, .pinned], laidTests := true, laidLooks := .later }
def RingOnesUptoCardSaid : Prop := Claim7.holds Tryd.pinned (.plain (OpenSpec.upto ringOnesSpec)) ringOnesUptoCard

/-- THE SECOND FORM's CARD OF 'sallyportlaw05.RingShorts'. -/
def ringShortsUptoCard : Claim7 := { stood := { row := ringShortsUptoRow, standIns := [], harness := (true, "a43147baa5991a251e00321f31fa801485737f506dc76d46bf4f334a44e676d0"), looks := false }, kinds := [], alts := [], laidByText := true, laidKinds := [.data, .pinned], laidTests := true, laidLooks := .later }
def RingShortsUptoCardSaid : Prop := Claim7.holds Tryd.pinned (.plain (OpenSpec.upto ringShortsSpec)) ringShortsUptoCard

/-- THE SECOND FORM's CARD OF 'sallyportlaw05.RingSquares'. -/
def ringSquaresUptoCard : Claim7 := { stood := { row := ringSquaresUptoRow, standIns := [], harness := (true, "a43147baa5991a251e00321f31fa801485737f506dc76d46bf4f334a44e676d0"), looks := false }, kinds := [], alts := [], laidByText := true, laidKinds := [.data, .pinned], laidTests := true, laidLooks := .later }
def RingSquaresUptoCardSaid : Prop := Claim7.holds Tryd.pinned (.plain (OpenSpec.upto ringSquaresSpec)) ringSquaresUptoCard
end Rows
end Go.Proofs.YtggnhncodiekhaaDoor
