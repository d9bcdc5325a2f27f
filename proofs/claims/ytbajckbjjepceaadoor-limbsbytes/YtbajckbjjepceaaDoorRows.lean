/-
  NARROWER THAN 'FOR EVERY INPUT', by the rows' own cells (each row's printed sentence says how): LimbsBytes: laid · LimbsSums: laid · LimbsProducts: laid · LimbsOrders: laid · LimbsBack: laid · LimbsSpreads: laid · LimbsOnes: laid · LimbsWidths: laid.
  DERIVED. THE GIVEN ROWS OF THIS SEAT. 8 by the template 'for every input the law returns true; each argument reads behind the call as it read before'; 0 by the template 'total and deterministic' (their statements: YtbajckbjjepceaaDoorTotals.lean).
  GIVEN WITH THE SEED: the statements are not yours to turn. If you find one false, say at which input.
  Laid BY PROGRAM, IN A SANDBOX (cutbox-rows.mjs): the forced cells as the released guide's own fill.sh prints them over the translation ef2d862e092627cd… (all of the seat's roots in one cut). By AI agents, Wed Nov 11 2026. No macro, syntax, notation, axiom, sorry.
-/
import Derived.Test.YtbajckbjjepceaaDoorChecked
import GoSem.PinnedTables
import GoSem.Claim
import GoSem.ClaimJoined
import GoSem.ClaimMapViews
import Derived.JoinedTies
import Derived.KernelRfl
namespace Go.Proofs.YtbajckbjjepceaaDoor
/- THE CELL 'sum', in the pinned program and in every row, IS THE sha256 OF THE DUMP (.gsa) THAT YtbajckbjjepceaaDoorProg.lean LOADS. Nothing in Lean hashes anything: it is a label: what it is worth is what the hold of that sum in a sandbox is worth. -/
noncomputable def Tryd.pinned : Pinned := { name := "ytbajckbjjepceaadoor", sum := "ef2d862e092627cdb32f69d2c640c52f898fe5265a8df2acbf13b4b936fecd86", checked := Tryd.checked }
namespace Rows
def none {H : Type} : Left H := { results := [], args := [] }

/- WHAT THE LISTED PACKAGE-LEVEL VARIABLES READ AS WHEN THE CALL BEGINS. Each datum BY PROGRAM (the guide's laid-datum.mjs) off the statement by which the dump's own 'gosem.cut.vars' lays the variable. In a bare row this is a premise. The card (YtbajckbjjepceaaDoorCards.lean) ties it to the program's text. -/
def laid_unicode_utf8_acceptRanges {H : Type} : DataW H := .agg [.agg [.lit (.int .u8 128), .lit (.int .u8 191)], .agg [.lit (.int .u8 160), .lit (.int .u8 191)], .agg [.lit (.int .u8 128), .lit (.int .u8 159)], .agg [.lit (.int .u8 144), .lit (.int .u8 191)], .agg [.lit (.int .u8 128), .lit (.int .u8 143)], .agg [.lit (.int .u8 0), .lit (.int .u8 0)], .agg [.lit (.int .u8 0), .lit (.int .u8 0)], .agg [.lit (.int .u8 0), .lit (.int .u8 0)], .agg [.lit (.int .u8 0), .lit (.int .u8 0)], .agg [.lit (.int .u8 0), .lit (.int .u8 0)], .agg [.lit (.int .u8 0), .lit (.int .u8 0)], .agg [.lit (.int .u8 0), .lit (.int .u8 0)], .agg [.lit (.int .u8 0), .lit (.int .u8 0)], .agg [.lit (.int .u8 0), .lit (.int .u8 0)], .agg [.lit (.int .u8 0), .lit (.int .u8 0)], .agg [.lit (.int .u8 0), .lit (.int .u8 0)]]
/-- One of Go's own tables, pinned by name: the form's constant. -/
def laid_unicode_utf8_first : DataW Unit := Go.Pinned.utf8First

/-- 'sallyportlaw04.LimbsBytes': WHATEVER THE INPUT: true; the input reads as it did. -/
def limbsBytesSpec : ChangeSpec := { name := "limbsBytes", fn := fun _ => fun
  | [d1, d2, d3, d4] => { results := [.lit (.bool true)], args := [d1, d2, d3, d4] }
  | _ => none }
def limbsBytesRow : OpenClaim := { program := "ytbajckbjjepceaadoor", sum := "ef2d862e092627cdb32f69d2c640c52f898fe5265a8df2acbf13b4b936fecd86", func := "sallyport/sallyportlaw04.LimbsBytes", spec := "limbsBytes", unfollowed := true, recurses := true, named := ["unicode/utf8.first", "unicode/utf8.acceptRanges"], apart := false, laid := [("unicode/utf8.acceptRanges", laid_unicode_utf8_acceptRanges), ("unicode/utf8.first", laid_unicode_utf8_first)] }
def LimbsBytesSaid : Prop := limbsBytesRow.holds Tryd.pinned (OpenSpec.ofChange limbsBytesSpec)

/-- ITS FALSE NEIGHBOUR: 'it returns false'. Refute it at one input. -/
def limbsBytesWrong : ChangeSpec := { name := "limbsBytes", fn := fun _ => fun
  | [d1, d2, d3, d4] => { results := [.lit (.bool false)], args := [d1, d2, d3, d4] }
  | _ => none }
def LimbsBytesWrongFalsely : Prop := limbsBytesRow.holds Tryd.pinned (OpenSpec.ofChange limbsBytesWrong)

/-- 'sallyportlaw04.LimbsSums': WHATEVER THE INPUT: true; the input reads as it did. -/
def limbsSumsSpec : ChangeSpec := { name := "limbsSums", fn := fun _ => fun
  | [d1, d2] => { results := [.lit (.bool true)], args := [d1, d2] }
  | _ => none }
def limbsSumsRow : OpenClaim := { program := "ytbajckbjjepceaadoor", sum := "ef2d862e092627cdb32f69d2c640c52f898fe5265a8df2acbf13b4b936fecd86", func := "sallyport/sallyportlaw04.LimbsSums", spec := "limbsSums", named := ["unicode/utf8.first", "unicode/utf8.acceptRanges"], apart := false, laid := [("unicode/utf8.acceptRanges", laid_unicode_utf8_acceptRanges), ("unicode/utf8.first", laid_unicode_utf8_first)] }
def LimbsSumsSaid : Prop := limbsSumsRow.holds Tryd.pinned (OpenSpec.ofChange limbsSumsSpec)

/-- ITS FALSE NEIGHBOUR: 'it returns false'. Refute it at one input. -/
def limbsSumsWrong : ChangeSpec := { name := "limbsSums", fn := fun _ => fun
  | [d1, d2] => { results := [.lit (.bool false)], args := [d1, d2] }
  | _ => none }
def LimbsSumsWrongFalsely : Prop := limbsSumsRow.holds Tryd.pinned (OpenSpec.ofChange limbsSumsWrong)

/-- 'sallyportlaw04.LimbsProducts': WHATEVER THE INPUT: true; the input reads as it did. -/
def limbsProductsSpec : ChangeSpec := { name := "limbsProducts", fn := fun _ => fun
  | [d1, d2] => { results := [.lit (.bool true)], args := [d1, d2] }
  | _ => none }
def limbsProductsRow : OpenClaim := { program := "ytbajckbjjepceaadoor", sum := "ef2d862e092627cdb32f69d2c640c52f898fe5265a8df2acbf13b4b936fecd86", func := "sallyport/sallyportlaw04.LimbsProducts", spec := "limbsProducts", named := ["unicode/utf8.first", "unicode/utf8.acceptRanges"], apart := false, laid := [("unicode/utf8.acceptRanges", laid_unicode_utf8_acceptRanges), ("unicode/utf8.first", laid_unicode_utf8_first)] }
def LimbsProductsSaid : Prop := limbsProductsRow.holds Tryd.pinned (OpenSpec.ofChange limbsProductsSpec)

/-- ITS FALSE NEIGHBOUR: 'it returns false'. Refute it at one input. -/
def limbsProductsWrong : ChangeSpec := { name := "limbsProducts", fn := fun _ => fun
  | [d1, d2] => { results := [.lit (.bool false)], args := [d1, d2] }
  | _ => none }
def LimbsProductsWrongFalsely : Prop := limbsProductsRow.holds Tryd.pinned (OpenSpec.ofChange limbsProductsWrong)

/-- 'sallyportlaw04.LimbsOrders': WHATEVER THE INPUT: true; the input reads as it did. -/
def limbsOrdersSpec : ChangeSpec := { name := "limbsOrders", fn := fun _ => fun
  | [d1, d2] => { results := [.lit (.bool true)], args := [d1, d2] }
  | _ => none }
def limbsOrdersRow : OpenClaim := { program := "ytbajckbjjepceaadoor", sum := "ef2d862e092627cdb32f69d2c640c52f898fe5265a8df2acbf13b4b936fecd86", func := "sallyport/sallyportlaw04.LimbsOrders", spec := "limbsOrders", unfollowed := true, recurses := true, named := ["unicode/utf8.first", "unicode/utf8.acceptRanges"], apart := false, laid := [("unicode/utf8.acceptRanges", laid_unicode_utf8_acceptRanges), ("unicode/utf8.first", laid_unicode_utf8_first)] }
def LimbsOrdersSaid : Prop := limbsOrdersRow.holds Tryd.pinned (OpenSpec.ofChange limbsOrdersSpec)

/-- ITS FALSE NEIGHBOUR: 'it returns false'. Refute it at one input. -/
def limbsOrdersWrong : ChangeSpec := { name := "limbsOrders", fn := fun _ => fun
  | [d1, d2] => { results := [.lit (.bool false)], args := [d1, d2] }
  | _ => none }
def LimbsOrdersWrongFalsely : Prop := limbsOrdersRow.holds Tryd.pinned (OpenSpec.ofChange limbsOrdersWrong)

/-- 'sallyportlaw04.LimbsBack': WHATEVER THE INPUT: true; the input reads as it did. -/
def limbsBackSpec : ChangeSpec := { name := "limbsBack", fn := fun _ => fun
  | [d1, d2] => { results := [.lit (.bool true)], args := [d1, d2] }
  | _ => none }
def limbsBackRow : OpenClaim := { program := "ytbajckbjjepceaadoor", sum := "ef2d862e092627cdb32f69d2c640c52f898fe5265a8df2acbf13b4b936fecd86", func := "sallyport/sallyportlaw04.LimbsBack", spec := "limbsBack", unfollowed := true, recurses := true, named := ["unicode/utf8.first", "unicode/utf8.acceptRanges"], apart := false, laid := [("unicode/utf8.acceptRanges", laid_unicode_utf8_acceptRanges), ("unicode/utf8.first", laid_unicode_utf8_first)] }
def LimbsBackSaid : Prop := limbsBackRow.holds Tryd.pinned (OpenSpec.ofChange limbsBackSpec)

/-- ITS FALSE NEIGHBOUR: 'it returns false'. Refute it at one input. -/
def limbsBackWrong : ChangeSpec := { name := "limbsBack", fn := fun _ => fun
  | [d1, d2] => { results := [.lit (.bool false)], args := [d1, d2] }
  | _ => none }
def LimbsBackWrongFalsely : Prop := limbsBackRow.holds Tryd.pinned (OpenSpec.ofChange limbsBackWrong)

/-- 'sallyportlaw04.LimbsSpreads': WHATEVER THE INPUT: true; the input reads as it did. -/
def limbsSpreadsSpec : ChangeSpec := { name := "limbsSpreads", fn := fun _ => fun
  | [d1, d2, d3] => { results := [.lit (.bool true)], args := [d1, d2, d3] }
  | _ => none }
def limbsSpreadsRow : OpenClaim := { program := "ytbajckbjjepceaadoor", sum := "ef2d862e092627cdb32f69d2c640c52f898fe5265a8df2acbf13b4b936fecd86", func := "sallyport/sallyportlaw04.LimbsSpreads", spec := "limbsSpreads", unfollowed := true, recurses := true, named := ["unicode/utf8.first", "unicode/utf8.acceptRanges"], apart := false, laid := [("unicode/utf8.acceptRanges", laid_unicode_utf8_acceptRanges), ("unicode/utf8.first", laid_unicode_utf8_first)] }
def LimbsSpreadsSaid : Prop := limbsSpreadsRow.holds Tryd.pinned (OpenSpec.ofChange limbsSpreadsSpec)

/-- ITS FALSE NEIGHBOUR: 'it returns false'. Refute it at one input. -/
def limbsSpreadsWrong : ChangeSpec := { name := "limbsSpreads", fn := fun _ => fun
  | [d1, d2, d3] => { results := [.lit (.bool false)], args := [d1, d2, d3] }
  | _ => none }
def LimbsSpreadsWrongFalsely : Prop := limbsSpreadsRow.holds Tryd.pinned (OpenSpec.ofChange limbsSpreadsWrong)

/-- 'sallyportlaw04.LimbsOnes': WHATEVER THE INPUT: true; the input reads as it did. -/
def limbsOnesSpec : ChangeSpec := { name := "limbsOnes", fn := fun _ => fun
  | [d] => { results := [.lit (.bool true)], args := [d] }
  | _ => none }
def limbsOnesRow : OpenClaim := { program := "ytbajckbjjepceaadoor", sum := "ef2d862e092627cdb32f69d2c640c52f898fe5265a8df2acbf13b4b936fecd86", func := "sallyport/sallyportlaw04.LimbsOnes", spec := "limbsOnes", unfollowed := true, recurses := true, named := ["unicode/utf8.first", "unicode/utf8.acceptRanges"], apart := false, laid := [("unicode/utf8.acceptRanges", laid_unicode_utf8_acceptRanges), ("unicode/utf8.first", laid_unicode_utf8_first)] }
def LimbsOnesSaid : Prop := limbsOnesRow.holds Tryd.pinned (OpenSpec.ofChange limbsOnesSpec)

/-- ITS FALSE NEIGHBOUR: 'it returns false'. Refute it at one input. -/
def limbsOnesWrong : ChangeSpec := { name := "limbsOnes", fn := fun _ => fun
  | [d] => { results := [.lit (.bool false)], args := [d] }
  | _ => none }
def LimbsOnesWrongFalsely : Prop := limbsOnesRow.holds Tryd.pinned (OpenSpec.ofChange limbsOnesWrong)

/-- 'sallyportlaw04.LimbsWidths': WHATEVER THE INPUT: true; the input reads as it did. -/
def limbsWidthsSpec : ChangeSpec := { name := "limbsWidths", fn := fun _ => fun
  | [d1, d2, d3] => { results := [.lit (.bool true)], args := [d1, d2, d3] }
  | _ => none }
def limbsWidthsRow : OpenClaim := { program := "ytbajckbjjepceaadoor", sum := "ef2d862e092627cdb32f69d2c640c52f898fe5265a8df2acbf13b4b936fecd86", func := "sallyport/sallyportlaw04.LimbsWidths", spec := "limbsWidths", unfollowed := true, recurses := true, named := ["unicode/utf8.first", "unicode/utf8.acceptRanges"], apart := false, laid := [("unicode/utf8.acceptRanges", laid_unicode_utf8_acceptRanges), ("unicode/utf8.first", laid_unicode_utf8_first)] }
def LimbsWidthsSaid : Prop := limbsWidthsRow.holds Tryd.pinned (OpenSpec.ofChange limbsWidthsSpec)

/-- ITS FALSE NEIGHBOUR: 'it returns false'. Refute it at one input. -/
def limbsWidthsWrong : ChangeSpec := { name := "limbsWidths", fn := fun _ => fun
  | [d1, d2, d3] => { results := [.lit (.bool false)], args := [d1, d2, d3] }
  | _ => none }
def LimbsWidthsWrongFalsely : Prop := limbsWidthsRow.holds Tryd.pinned (OpenSpec.ofChange limbsWidthsWrong)

/- THE SECOND FORM. 'bulk': how many values and letters a reading holds, each counted each time it is reached (what is shared counts as often as it is met; a slice's spare places count too). A statement '..UptoSaid' is the law's where the arguments, and the package variables that the reading takes, are together of bulk at most 1048576: NARROWER than '..Said'. Prove '..Said' where nothing that the law and all that it calls make is longer than what came in: it says more and counts as full. Else prove '..UptoSaid'. A law counts once. -/
mutual
def uptoBulk {H : Type} : DataW H → Nat
  | .lit (.string bytes) => bytes.length + 1
  | .lit _ => 1
  | .nil => 1
  | .ptr d => uptoBulk d + 1
  | .slice elems spare => uptoBulkAll elems + uptoBulkAll spare + 1
  | .agg parts => uptoBulkAll parts + 1
  | .iface _ d => uptoBulk d + 1
  | .map entries => uptoBulkEntries entries + 1
  | .held _ => 1
def uptoBulkAll {H : Type} : List (DataW H) → Nat
  | [] => 0
  | d :: r => uptoBulk d + uptoBulkAll r
def uptoBulkEntries {H : Type} : List (Lit × DataW H) → Nat
  | [] => 0
  | x :: r => uptoBulkEntry x + uptoBulkEntries r
def uptoBulkEntry {H : Type} : Lit × DataW H → Nat
  | (.string bytes, d) => bytes.length + uptoBulk d + 1
  | (_, d) => uptoBulk d + 1
 end
def uptoSmall : (H : Type) → List (DataW H) → Bool := fun _ ds => decide (uptoBulkAll ds ≤ 1048576)
def OpenSpec.upto (s : _root_.Go.ChangeSpec) : _root_.Go.OpenSpec := { _root_.Go.OpenSpec.ofChange s with cond := some uptoSmall }

/-- 'sallyportlaw04.LimbsBytes', WHERE WHAT IT READS IS OF BULK AT MOST 1048576: true; the input reads as it did. -/
def limbsBytesUptoRow : OpenClaim := { program := "ytbajckbjjepceaadoor", sum := "ef2d862e092627cdb32f69d2c640c52f898fe5265a8df2acbf13b4b936fecd86", func := "sallyport/sallyportlaw04.LimbsBytes", spec := "limbsBytes", unfollowed := true, recurses := true, named := ["unicode/utf8.first", "unicode/utf8.acceptRanges"], apart := false, laid := [("unicode/utf8.acceptRanges", laid_unicode_utf8_acceptRanges), ("unicode/utf8.first", laid_unicode_utf8_first)], narrowed := true }
def LimbsBytesUptoSaid : Prop := limbsBytesUptoRow.holds Tryd.pinned (OpenSpec.upto limbsBytesSpec)

/-- 'sallyportlaw04.LimbsSums', WHERE WHAT IT READS IS OF BULK AT MOST 1048576: true; the input reads as it did. -/
def limbsSumsUptoRow : OpenClaim := { program := "ytbajckbjjepceaadoor", sum := "ef2d862e092627cdb32f69d2c640c52f898fe5265a8df2acbf13b4b936fecd86", func := "sallyport/sallyportlaw04.LimbsSums", spec := "limbsSums", named := ["unicode/utf8.first", "unicode/utf8.acceptRanges"], apart := false, laid := [("unicode/utf8.acceptRanges", laid_unicode_utf8_acceptRanges), ("unicode/utf8.first", laid_unicode_utf8_first)], narrowed := true }
def LimbsSumsUptoSaid : Prop := limbsSumsUptoRow.holds Tryd.pinned (OpenSpec.upto limbsSumsSpec)

/-- 'sallyportlaw04.LimbsProducts', WHERE WHAT IT READS IS OF BULK AT MOST 1048576: true; the input reads as it did. -/
def limbsProductsUptoRow : OpenClaim := { program := "ytbajckbjjepceaadoor", sum := "ef2d862e092627cdb32f69d2c640c52f898fe5265a8df2acbf13b4b936fecd86", func := "sallyport/sallyportlaw04.LimbsProducts", spec := "limbsProducts", named := ["unicode/utf8.first", "unicode/utf8.acceptRanges"], apart := false, laid := [("unicode/utf8.acceptRanges", laid_unicode_utf8_acceptRanges), ("unicode/utf8.first", laid_unicode_utf8_first)], narrowed := true }
def LimbsProductsUptoSaid : Prop := limbsProductsUptoRow.holds Tryd.pinned (OpenSpec.upto limbsProductsSpec)

/-- 'sallyportlaw04.LimbsOrders', WHERE WHAT IT READS IS OF BULK AT MOST 1048576: true; the input reads as it did. -/
def limbsOrdersUptoRow : OpenClaim := { program := "ytbajckbjjepceaadoor", sum := "ef2d862e092627cdb32f69d2c640c52f898fe5265a8df2acbf13b4b936fecd86", func := "sallyport/sallyportlaw04.LimbsOrders", spec := "limbsOrders", unfollowed := true, recurses := true, named := ["unicode/utf8.first", "unicode/utf8.acceptRanges"], apart := false, laid := [("unicode/utf8.acceptRanges", laid_unicode_utf8_acceptRanges), ("unicode/utf8.first", laid_unicode_utf8_first)], narrowed := true }
def LimbsOrdersUptoSaid : Prop := limbsOrdersUptoRow.holds Tryd.pinned (OpenSpec.upto limbsOrdersSpec)

/-- 'sallyportlaw04.LimbsBack', WHERE WHAT IT READS IS OF BULK AT MOST 1048576: true; the input reads as it did. -/
def limbsBackUptoRow : OpenClaim := { program := "ytbajckbjjepceaadoor", sum := "ef2d862e092627cdb32f69d2c640c52f898fe5265a8df2acbf13b4b936fecd86", func := "sallyport/sallyportlaw04.LimbsBack", spec := "limbsBack", unfollowed := true, recurses := true, named := ["unicode/utf8.first", "unicode/utf8.acceptRanges"], apart := false, laid := [("unicode/utf8.acceptRanges", laid_unicode_utf8_acceptRanges), ("unicode/utf8.first", laid_unicode_utf8_first)], narrowed := true }
def LimbsBackUptoSaid : Prop := limbsBackUptoRow.holds Tryd.pinned (OpenSpec.upto limbsBackSpec)

/-- 'sallyportlaw04.LimbsSpreads', WHERE WHAT IT READS IS OF BULK AT MOST 1048576: true; the input reads as it did. -/
def limbsSpreadsUptoRow : OpenClaim := { program := "ytbajckbjjepceaadoor", sum := "ef2d862e092627cdb32f69d2c640c52f898fe5265a8df2acbf13b4b936fecd86", func := "sallyport/sallyportlaw04.LimbsSpreads", spec := "limbsSpreads", unfollowed := true, recurses := true, named := ["unicode/utf8.first", "unicode/utf8.acceptRanges"], apart := false, laid := [("unicode/utf8.acceptRanges", laid_unicode_utf8_acceptRanges), ("unicode/utf8.first", laid_unicode_utf8_first)], narrowed := true }
def LimbsSpreadsUptoSaid : Prop := limbsSpreadsUptoRow.holds Tryd.pinned (OpenSpec.upto limbsSpreadsSpec)

/-- 'sallyportlaw04.LimbsOnes', WHERE WHAT IT READS IS OF BULK AT MOST 1048576: true; the input reads as it did. -/
def limbsOnesUptoRow : OpenClaim := { program := "ytbajckbjjepceaadoor", sum := "ef2d862e092627cdb32f69d2c640c52f898fe5265a8df2acbf13b4b936fecd86", func := "sallyport/sallyportlaw04.LimbsOnes", spec := "limbsOnes", unfollowed := true, recurses := true, named := ["unicode/utf8.first", "unicode/utf8.acceptRanges"], apart := false, laid := [("unicode/utf8.acceptRanges", laid_unicode_utf8_acceptRanges), ("unicode/utf8.first", laid_unicode_utf8_first)], narrowed := true }
def LimbsOnesUptoSaid : Prop := limbsOnesUptoRow.holds Tryd.pinned (OpenSpec.upto limbsOnesSpec)

/-- 'sallyportlaw04.LimbsWidths', WHERE WHAT IT READS IS OF BULK AT MOST 1048576: true; the input reads as it did. -/
def limbsWidthsUptoRow : OpenClaim := { program := "ytbajckbjjepceaadoor", sum := "ef2d862e092627cdb32f69d2c640c52f898fe5265a8df2acbf13b4b936fecd86", func := "sallyport/sallyportlaw04.LimbsWidths", spec := "limbsWidths", unfollowed := true, recurses := true, named := ["unicode/utf8.first", "unicode/utf8.acceptRanges"], apart := false, laid := [("unicode/utf8.acceptRanges", laid_unicode_utf8_acceptRanges), ("unicode/utf8.first", laid_unicode_utf8_first)], narrowed := true }
def LimbsWidthsUptoSaid : Prop := limbsWidthsUptoRow.holds Tryd.pinned (OpenSpec.upto limbsWidthsSpec)

end Rows
end Go.Proofs.YtbajckbjjepceaaDoor
