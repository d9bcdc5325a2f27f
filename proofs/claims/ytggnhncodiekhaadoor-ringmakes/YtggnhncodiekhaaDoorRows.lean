/-
  NARROWER THAN 'FOR EVERY INPUT', by the rows' own cells (each row's printed sentence says how): RingMakes: laid · RingTimes: laid · RingPowers: laid · RingAdds: laid · RingOnes: laid · RingShorts: laid · RingSquares: laid.
  DERIVED. THE GIVEN ROWS OF THIS SEAT. 7 by the template 'for every input the law returns true; each argument reads behind the call as it read before'; 0 by the template 'total and deterministic' (their statements: YtggnhncodiekhaaDoorTotals.lean).
  GIVEN WITH THE SEED: the statements are not yours to turn. If you find one false, say at which input.
  Laid BY PROGRAM, IN A SANDBOX (cutbox-rows.mjs): the forced cells as the released guide's own fill.sh prints them over the translation 8c977dd17e3708d2… (all of the seat's roots in one cut). By AI agents, Wed Nov 11 2026. No macro, syntax, notation, axiom, sorry.
-/
import Derived.Test.YtggnhncodiekhaaDoorChecked
import GoSem.PinnedTables
import GoSem.Claim
import GoSem.ClaimJoined
import GoSem.ClaimMapViews
import Derived.JoinedTies
import Derived.KernelRfl
namespace Go.Proofs.YtggnhncodiekhaaDoor
/- THE CELL 'sum', in the pinned program and in every row, IS THE sha256 OF THE DUMP (.gsa) THAT YtggnhncodiekhaaDoorProg.lean LOADS. Nothing in Lean hashes anything: it is a label: what it is worth is what the hold of that sum in a sandbox is worth. -/
noncomputable def Tryd.pinned : Pinned := { name := "ytggnhncodiekhaadoor", sum := "8c977dd17e3708d26090c98bc15cbe82e03046f8449bd9a193c0e2bf4ea0d5c8", checked := Tryd.checked }
namespace Rows
def none {H : Type} : Left H := { results := [], args := [] }

/- WHAT THE LISTED PACKAGE-LEVEL VARIABLES READ AS WHEN THE CALL BEGINS. Each datum BY PROGRAM (the guide's laid-datum.mjs) off the statement by which the dump's own 'gosem.cut.vars' lays the variable. In a bare row this is a premise. The card (YtggnhncodiekhaaDoorCards.lean) ties it to the program's text. -/
def laid_unicode_utf8_acceptRanges {H : Type} : DataW H := .agg [.agg [.lit (.int .u8 128), .lit (.int .u8 191)], .agg [.lit (.int .u8 160), .lit (.int .u8 191)], .agg [.lit (.int .u8 128), .lit (.int .u8 159)], .agg [.lit (.int .u8 144), .lit (.int .u8 191)], .agg [.lit (.int .u8 128), .lit (.int .u8 143)], .agg [.lit (.int .u8 0), .lit (.int .u8 0)], .agg [.lit (.int .u8 0), .lit (.int .u8 0)], .agg [.lit (.int .u8 0), .lit (.int .u8 0)], .agg [.lit (.int .u8 0), .lit (.int .u8 0)], .agg [.lit (.int .u8 0), .lit (.int .u8 0)], .agg [.lit (.int .u8 0), .lit (.int .u8 0)], .agg [.lit (.int .u8 0), .lit (.int .u8 0)], .agg [.lit (.int .u8 0), .lit (.int .u8 0)], .agg [.lit (.int .u8 0), .lit (.int .u8 0)], .agg [.lit (.int .u8 0), .lit (.int .u8 0)], .agg [.lit (.int .u8 0), .lit (.int .u8 0)]]
/-- One of Go's own tables, pinned by name: the form's constant. -/
def laid_unicode_utf8_first : DataW Unit := Go.Pinned.utf8First

/-- 'sallyportlaw05.RingMakes': WHATEVER THE INPUT: true; the input reads as it did. -/
def ringMakesSpec : ChangeSpec := { name := "ringMakes", fn := fun _ => fun
  | [d] => { results := [.lit (.bool true)], args := [d] }
  | _ => none }
def ringMakesRow : OpenClaim := { program := "ytggnhncodiekhaadoor", sum := "8c977dd17e3708d26090c98bc15cbe82e03046f8449bd9a193c0e2bf4ea0d5c8", func := "sallyport/sallyportlaw05.RingMakes", spec := "ringMakes", unfollowed := true, recurses := true, named := ["unicode/utf8.first", "unicode/utf8.acceptRanges"], apart := false, laid := [("unicode/utf8.acceptRanges", laid_unicode_utf8_acceptRanges), ("unicode/utf8.first", laid_unicode_utf8_first)] }
def RingMakesSaid : Prop := ringMakesRow.holds Tryd.pinned (OpenSpec.ofChange ringMakesSpec)

/-- ITS FALSE NEIGHBOUR: 'it returns false'. Refute it at one input. -/
def ringMakesWrong : ChangeSpec := { name := "ringMakes", fn := fun _ => fun
  | [d] => { results := [.lit (.bool false)], args := [d] }
  | _ => none }
def RingMakesWrongFalsely : Prop := ringMakesRow.holds Tryd.pinned (OpenSpec.ofChange ringMakesWrong)

/-- 'sallyportlaw05.RingTimes': WHATEVER THE INPUT: true; the input reads as it did. -/
def ringTimesSpec : ChangeSpec := { name := "ringTimes", fn := fun _ => fun
  | [d1, d2, d3] => { results := [.lit (.bool true)], args := [d1, d2, d3] }
  | _ => none }
def ringTimesRow : OpenClaim := { program := "ytggnhncodiekhaadoor", sum := "8c977dd17e3708d26090c98bc15cbe82e03046f8449bd9a193c0e2bf4ea0d5c8", func := "sallyport/sallyportlaw05.RingTimes", spec := "ringTimes", unfollowed := true, recurses := true, named := ["unicode/utf8.first", "unicode/utf8.acceptRanges"], apart := false, laid := [("unicode/utf8.acceptRanges", laid_unicode_utf8_acceptRanges), ("unicode/utf8.first", laid_unicode_utf8_first)] }
def RingTimesSaid : Prop := ringTimesRow.holds Tryd.pinned (OpenSpec.ofChange ringTimesSpec)

/-- ITS FALSE NEIGHBOUR: 'it returns false'. Refute it at one input. -/
def ringTimesWrong : ChangeSpec := { name := "ringTimes", fn := fun _ => fun
  | [d1, d2, d3] => { results := [.lit (.bool false)], args := [d1, d2, d3] }
  | _ => none }
def RingTimesWrongFalsely : Prop := ringTimesRow.holds Tryd.pinned (OpenSpec.ofChange ringTimesWrong)

/-- 'sallyportlaw05.RingPowers': WHATEVER THE INPUT: true; the input reads as it did. -/
def ringPowersSpec : ChangeSpec := { name := "ringPowers", fn := fun _ => fun
  | [d1, d2, d3] => { results := [.lit (.bool true)], args := [d1, d2, d3] }
  | _ => none }
def ringPowersRow : OpenClaim := { program := "ytggnhncodiekhaadoor", sum := "8c977dd17e3708d26090c98bc15cbe82e03046f8449bd9a193c0e2bf4ea0d5c8", func := "sallyport/sallyportlaw05.RingPowers", spec := "ringPowers", unfollowed := true, recurses := true, named := ["unicode/utf8.first", "unicode/utf8.acceptRanges"], apart := false, laid := [("unicode/utf8.acceptRanges", laid_unicode_utf8_acceptRanges), ("unicode/utf8.first", laid_unicode_utf8_first)] }
def RingPowersSaid : Prop := ringPowersRow.holds Tryd.pinned (OpenSpec.ofChange ringPowersSpec)

/-- ITS FALSE NEIGHBOUR: 'it returns false'. Refute it at one input. -/
def ringPowersWrong : ChangeSpec := { name := "ringPowers", fn := fun _ => fun
  | [d1, d2, d3] => { results := [.lit (.bool false)], args := [d1, d2, d3] }
  | _ => none }
def RingPowersWrongFalsely : Prop := ringPowersRow.holds Tryd.pinned (OpenSpec.ofChange ringPowersWrong)

/-- 'sallyportlaw05.RingAdds': WHATEVER THE INPUT: true; the input reads as it did. -/
def ringAddsSpec : ChangeSpec := { name := "ringAdds", fn := fun _ => fun
  | [d1, d2, d3, d4] => { results := [.lit (.bool true)], args := [d1, d2, d3, d4] }
  | _ => none }
def ringAddsRow : OpenClaim := { program := "ytggnhncodiekhaadoor", sum := "8c977dd17e3708d26090c98bc15cbe82e03046f8449bd9a193c0e2bf4ea0d5c8", func := "sallyport/sallyportlaw05.RingAdds", spec := "ringAdds", unfollowed := true, recurses := true, named := ["unicode/utf8.first", "unicode/utf8.acceptRanges"], apart := false, laid := [("unicode/utf8.acceptRanges", laid_unicode_utf8_acceptRanges), ("unicode/utf8.first", laid_unicode_utf8_first)] }
def RingAddsSaid : Prop := ringAddsRow.holds Tryd.pinned (OpenSpec.ofChange ringAddsSpec)

/-- ITS FALSE NEIGHBOUR: 'it returns false'. Refute it at one input. -/
def ringAddsWrong : ChangeSpec := { name := "ringAdds", fn := fun _ => fun
  | [d1, d2, d3, d4] => { results := [.lit (.bool false)], args := [d1, d2, d3, d4] }
  | _ => none }
def RingAddsWrongFalsely : Prop := ringAddsRow.holds Tryd.pinned (OpenSpec.ofChange ringAddsWrong)

/-- 'sallyportlaw05.RingOnes': WHATEVER THE INPUT: true; the input reads as it did. -/
def ringOnesSpec : ChangeSpec := { name := "ringOnes", fn := fun _ => fun
  | [d1, d2, d3, d4] => { results := [.lit (.bool true)], args := [d1, d2, d3, d4] }
  | _ => none }
def ringOnesRow : OpenClaim := { program := "ytggnhncodiekhaadoor", sum := "8c977dd17e3708d26090c98bc15cbe82e03046f8449bd9a193c0e2bf4ea0d5c8", func := "sallyport/sallyportlaw05.RingOnes", spec := "ringOnes", unfollowed := true, recurses := true, named := ["unicode/utf8.first", "unicode/utf8.acceptRanges"], apart := false, laid := [("unicode/utf8.acceptRanges", laid_unicode_utf8_acceptRanges), ("unicode/utf8.first", laid_unicode_utf8_first)] }
def RingOnesSaid : Prop := ringOnesRow.holds Tryd.pinned (OpenSpec.ofChange ringOnesSpec)

/-- ITS FALSE NEIGHBOUR: 'it returns false'. Refute it at one input. -/
def ringOnesWrong : ChangeSpec := { name := "ringOnes", fn := fun _ => fun
  | [d1, d2, d3, d4] => { results := [.lit (.bool false)], args := [d1, d2, d3, d4] }
  | _ => none }
def RingOnesWrongFalsely : Prop := ringOnesRow.holds Tryd.pinned (OpenSpec.ofChange ringOnesWrong)

/-- 'sallyportlaw05.RingShorts': WHATEVER THE INPUT: true; the input reads as it did. -/
def ringShortsSpec : ChangeSpec := { name := "ringShorts", fn := fun _ => fun
  | [d1, d2] => { results := [.lit (.bool true)], args := [d1, d2] }
  | _ => none }
def ringShortsRow : OpenClaim := { program := "ytggnhncodiekhaadoor", sum := "8c977dd17e3708d26090c98bc15cbe82e03046f8449bd9a193c0e2bf4ea0d5c8", func := "sallyport/sallyportlaw05.RingShorts", spec := "ringShorts", unfollowed := true, recurses := true, named := ["unicode/utf8.first", "unicode/utf8.acceptRanges"], apart := false, laid := [("unicode/utf8.acceptRanges", laid_unicode_utf8_acceptRanges), ("unicode/utf8.first", laid_unicode_utf8_first)] }
def RingShortsSaid : Prop := ringShortsRow.holds Tryd.pinned (OpenSpec.ofChange ringShortsSpec)

/-- ITS FALSE NEIGHBOUR: 'it returns false'. Refute it at one input. -/
def ringShortsWrong : ChangeSpec := { name := "ringShorts", fn := fun _ => fun
  | [d1, d2] => { results := [.lit (.bool false)], args := [d1, d2] }
  | _ => none }
def RingShortsWrongFalsely : Prop := ringShortsRow.holds Tryd.pinned (OpenSpec.ofChange ringShortsWrong)

/-- 'sallyportlaw05.RingSquares': WHATEVER THE INPUT: true; the input reads as it did. -/
def ringSquaresSpec : ChangeSpec := { name := "ringSquares", fn := fun _ => fun
  | [d1, d2, d3] => { results := [.lit (.bool true)], args := [d1, d2, d3] }
  | _ => none }
def ringSquaresRow : OpenClaim := { program := "ytggnhncodiekhaadoor", sum := "8c977dd17e3708d26090c98bc15cbe82e03046f8449bd9a193c0e2bf4ea0d5c8", func := "sallyport/sallyportlaw05.RingSquares", spec := "ringSquares", unfollowed := true, recurses := true, named := ["unicode/utf8.first", "unicode/utf8.acceptRanges"], apart := false, laid := [("unicode/utf8.acceptRanges", laid_unicode_utf8_acceptRanges), ("unicode/utf8.first", laid_unicode_utf8_first)] }
def RingSquaresSaid : Prop := ringSquaresRow.holds Tryd.pinned (OpenSpec.ofChange ringSquaresSpec)

/-- ITS FALSE NEIGHBOUR: 'it returns false'. Refute it at one input. -/
def ringSquaresWrong : ChangeSpec := { name := "ringSquares", fn := fun _ => fun
  | [d1, d2, d3] => { results := [.lit (.bool false)], args := [d1, d2, d3] }
  | _ => none }
def RingSquaresWrongFalsely : Prop := ringSquaresRow.holds Tryd.pinned (OpenSpec.ofChange ringSquaresWrong)

/- THE SECOND FORM. 'bulk': how many values and letters a reading holds, each counted each time it is reached (what is shared counts as often as it is met; a slice's spare places count too). A statement '..UptoSaid' is the law's where the arguments, and the package variables that the reading takes, are together of bulk at most 1048576: NARROWER than '..Said'. Prove '..Said' where nothing that the law and all that it calls make is longer than what came in: it says more and counts as full. Else prove '..UptoSaid'. A law counts once. -/
mutual
def uptoBulk {H : Type} : DataW H → Nat
  | .lit (.string bytes) => bytes.length + 1
  | .lit _ => 1
  | .nil => 1
  | .ptr d => uptoBulk d + 1
  | .slice elems spare => uptoBulkAll elems + uptoBulkAll spare + 1
  | .agg parts => uptoBulkAll parts + 1
  | .iface _ d => uptoBulk d + 1
  | .map entries => uptoBulkEntries entries + 1
  | .held _ => 1
def uptoBulkAll {H : Type} : List (DataW H) → Nat
  | [] => 0
  | d :: r => uptoBulk d + uptoBulkAll r
def uptoBulkEntries {H : Type} : List (Lit × DataW H) → Nat
  | [] => 0
  | x :: r => uptoBulkEntry x + uptoBulkEntries r
def uptoBulkEntry {H : Type} : Lit × DataW H → Nat
  | (.string bytes, d) => bytes.length + uptoBulk d + 1
  | (_, d) => uptoBulk d + 1
 end
def uptoSmall : (H : Type) → List (DataW H) → Bool := fun _ ds => decide (uptoBulkAll ds ≤ 1048576)
def OpenSpec.upto (s : _root_.Go.ChangeSpec) : _root_.Go.OpenSpec := { _root_.Go.OpenSpec.ofChange s with cond := some uptoSmall }

/-- 'sallyportlaw05.RingMakes', WHERE WHAT IT READS IS OF BULK AT MOST 1048576: true; the input reads as it did. -/
def ringMakesUptoRow : OpenClaim := { program := "ytggnhncodiekhaadoor", sum := "8c977dd17e3708d26090c98bc15cbe82e03046f8449bd9a193c0e2bf4ea0d5c8", func := "sallyport/sallyportlaw05.RingMakes", spec := "ringMakes", unfollowed := true, recurses := true, named := ["unicode/utf8.first", "unicode/utf8.acceptRanges"], apart := false, laid := [("unicode/utf8.acceptRanges", laid_unicode_utf8_acceptRanges), ("unicode/utf8.first", laid_unicode_utf8_first)], narrowed := true }
def RingMakesUptoSaid : Prop := ringMakesUptoRow.holds Tryd.pinned (OpenSpec.upto ringMakesSpec)

/-- 'sallyportlaw05.RingTimes', WHERE WHAT IT READS IS OF BULK AT MOST 1048576: true; the input reads as it did. -/
def ringTimesUptoRow : OpenClaim := { program := "ytggnhncodiekhaadoor", sum := "8c977dd17e3708d26090c98bc15cbe82e03046f8449bd9a193c0e2bf4ea0d5c8", func := "sallyport/sallyportlaw05.RingTimes", spec := "ringTimes", unfollowed := true, recurses := true, named := ["unicode/utf8.first", "unicode/utf8.acceptRanges"], apart := false, laid := [("unicode/utf8.acceptRanges", laid_unicode_utf8_acceptRanges), ("unicode/utf8.first", laid_unicode_utf8_first)], narrowed := true }
def RingTimesUptoSaid : Prop := ringTimesUptoRow.holds Tryd.pinned (OpenSpec.upto ringTimesSpec)

/-- 'sallyportlaw05.RingPowers', WHERE WHAT IT READS IS OF BULK AT MOST 1048576: true; the input reads as it did. -/
def ringPowersUptoRow : OpenClaim := { program := "ytggnhncodiekhaadoor", sum := "8c977dd17e3708d26090c98bc15cbe82e03046f8449bd9a193c0e2bf4ea0d5c8", func := "sallyport/sallyportlaw05.RingPowers", spec := "ringPowers", unfollowed := true, recurses := true, named := ["unicode/utf8.first", "unicode/utf8.acceptRanges"], apart := false, laid := [("unicode/utf8.acceptRanges", laid_unicode_utf8_acceptRanges), ("unicode/utf8.first", laid_unicode_utf8_first)], narrowed := true }
def RingPowersUptoSaid : Prop := ringPowersUptoRow.holds Tryd.pinned (OpenSpec.upto ringPowersSpec)

/-- 'sallyportlaw05.RingAdds', WHERE WHAT IT READS IS OF BULK AT MOST 1048576: true; the input reads as it did. -/
def ringAddsUptoRow : OpenClaim := { program := "ytggnhncodiekhaadoor", sum := "8c977dd17e3708d26090c98bc15cbe82e03046f8449bd9a193c0e2bf4ea0d5c8", func := "sallyport/sallyportlaw05.RingAdds", spec := "ringAdds", unfollowed := true, recurses := true, named := ["unicode/utf8.first", "unicode/utf8.acceptRanges"], apart := false, laid := [("unicode/utf8.acceptRanges", laid_unicode_utf8_acceptRanges), ("unicode/utf8.first", laid_unicode_utf8_first)], narrowed := true }
def RingAddsUptoSaid : Prop := ringAddsUptoRow.holds Tryd.pinned (OpenSpec.upto ringAddsSpec)

/-- 'sallyportlaw05.RingOnes', WHERE WHAT IT READS IS OF BULK AT MOST 1048576: true; the input reads as it did. -/
def ringOnesUptoRow : OpenClaim := { program := "ytggnhncodiekhaadoor", sum := "8c977dd17e3708d26090c98bc15cbe82e03046f8449bd9a193c0e2bf4ea0d5c8", func := "sallyport/sallyportlaw05.RingOnes", spec := "ringOnes", unfollowed := true, recurses := true, named := ["unicode/utf8.first", "unicode/utf8.acceptRanges"], apart := false, laid := [("unicode/utf8.acceptRanges", laid_unicode_utf8_acceptRanges), ("unicode/utf8.first", laid_unicode_utf8_first)], narrowed := true }
def RingOnesUptoSaid : Prop := ringOnesUptoRow.holds Tryd.pinned (OpenSpec.upto ringOnesSpec)

/-- 'sallyportlaw05.RingShorts', WHERE WHAT IT READS IS OF BULK AT MOST 1048576: true; the input reads as it did. -/
def ringShortsUptoRow : OpenClaim := { program := "ytggnhncodiekhaadoor", sum := "8c977dd17e3708d26090c98bc15cbe82e03046f8449bd9a193c0e2bf4ea0d5c8", func := "sallyport/sallyportlaw05.RingShorts", spec := "ringShorts", unfollowed := true, recurses := true, named := ["unicode/utf8.first", "unicode/utf8.acceptRanges"], apart := false, laid := [("unicode/utf8.acceptRanges", laid_unicode_utf8_acceptRanges), ("unicode/utf8.first", laid_unicode_utf8_first)], narrowed := true }
def RingShortsUptoSaid : Prop := ringShortsUptoRow.holds Tryd.pinned (OpenSpec.upto ringShortsSpec)

/-- 'sallyportlaw05.RingSquares', WHERE WHAT IT READS IS OF BULK AT MOST 1048576: true; the input reads as it did. -/
def ringSquaresUptoRow : OpenClaim := { program := "ytggnhncodiekhaadoor", sum := "8c977dd17e3708d26090c98bc15cbe82e03046f8449bd9a193c0e2bf4ea0d5c8", func := "sallyport/sallyportlaw05.RingSquares", spec := "ringSquares", unfollowed := true, recurses := true, named := ["unicode/utf8.first", "unicode/utf8.acceptRanges"], apart := false, laid := [("unicode/utf8.acceptRanges", laid_unicode_utf8_acceptRanges), ("unicode/utf8.first", laid_unicode_utf8_first)], narrowed := true }
def RingSquaresUptoSaid : Prop := ringSquaresUptoRow.holds Tryd.pinned (OpenSpec.upto ringSquaresSpec)

end Rows
end Go.Proofs.YtggnhncodiekhaaDoor
