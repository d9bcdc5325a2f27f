/-
  NARROWER THAN 'FOR EVERY INPUT', by the rows' own cells (each row's printed sentence says how): BlobEncodes: laid · BlobParses: laid · BlobChecks: laid · BlobTurned: laid · BlobSizes: laid · BlobKeys: laid · BlobOpen: laid.
  DERIVED. THE GIVEN ROWS OF THIS SEAT. 7 by the template 'for every input the law returns true; each argument reads behind the call as it read before'; 0 by the template 'total and deterministic' (their statements: YtlcoebenkhafcaaGreatDoorTotals.lean).
  GIVEN WITH THE SEED: the statements are not yours to turn. If you find one false, say at which input.
  Laid BY PROGRAM, IN A SANDBOX (cutbox-rows.mjs): the forced cells as the released guide's own fill.sh prints them over the translation a6cc2707cecd8c7b… (all of the seat's roots in one cut). By AI agents, Wed Nov 11 2026. No macro, syntax, notation, axiom, sorry.
-/
import Derived.Test.YtlcoebenkhafcaaGreatDoorChecked
import GoSem.PinnedTables
import GoSem.Claim
import GoSem.ClaimJoined
import GoSem.ClaimMapViews
import Derived.JoinedTies
import Derived.KernelRfl
namespace Go.Proofs.YtlcoebenkhafcaaGreatDoor
/- THE CELL 'sum', in the pinned program and in every row, IS THE sha256 OF THE DUMP (.gsa) THAT YtlcoebenkhafcaaGreatDoorProg.lean LOADS. Nothing in Lean hashes anything: it is a label: what it is worth is what the hold of that sum in a sandbox is worth. -/
noncomputable def Tryz.pinned : Pinned := { name := "ytlcoebenkhafcaagreatdoor", sum := "a6cc2707cecd8c7b6220ccd47bf778ebcbae415edef264dbd32a8f66ee9adbdc", checked := Tryz.checked }
namespace Rows
def none {H : Type} : Left H := { results := [], args := [] }

/- WHAT THE LISTED PACKAGE-LEVEL VARIABLES READ AS WHEN THE CALL BEGINS. Each datum BY PROGRAM (the guide's laid-datum.mjs) off the statement by which the dump's own 'gosem.cut.vars' lays the variable. In a bare row this is a premise. The card (YtlcoebenkhafcaaGreatDoorCards.lean) ties it to the program's text. -/
def laid_sallyport_longsum_start {H : Type} : DataW H := .agg [.lit (.int .u64 7640891576956012808), .lit (.int .u64 13503953896175478587), .lit (.int .u64 4354685564936845355), .lit (.int .u64 11912009170470909681), .lit (.int .u64 5840696475078001361), .lit (.int .u64 11170449401992604703), .lit (.int .u64 2270897969802886507), .lit (.int .u64 6620516959819538809)]
def laid_sallyport_longsum_rounds {H : Type} : DataW H := .agg [.lit (.int .u64 4794697086780616226), .lit (.int .u64 8158064640168781261), .lit (.int .u64 13096744586834688815), .lit (.int .u64 16840607885511220156), .lit (.int .u64 4131703408338449720), .lit (.int .u64 6480981068601479193), .lit (.int .u64 10538285296894168987), .lit (.int .u64 12329834152419229976), .lit (.int .u64 15566598209576043074), .lit (.int .u64 1334009975649890238), .lit (.int .u64 2608012711638119052), .lit (.int .u64 6128411473006802146), .lit (.int .u64 8268148722764581231), .lit (.int .u64 9286055187155687089), .lit (.int .u64 11230858885718282805), .lit (.int .u64 13951009754708518548), .lit (.int .u64 16472876342353939154), .lit (.int .u64 17275323862435702243), .lit (.int .u64 1135362057144423861), .lit (.int .u64 2597628984639134821), .lit (.int .u64 3308224258029322869), .lit (.int .u64 5365058923640841347), .lit (.int .u64 6679025012923562964), .lit (.int .u64 8573033837759648693), .lit (.int .u64 10970295158949994411), .lit (.int .u64 12119686244451234320), .lit (.int .u64 12683024718118986047), .lit (.int .u64 13788192230050041572), .lit (.int .u64 14330467153632333762), .lit (.int .u64 15395433587784984357), .lit (.int .u64 489312712824947311), .lit (.int .u64 1452737877330783856), .lit (.int .u64 2861767655752347644), .lit (.int .u64 3322285676063803686), .lit (.int .u64 5560940570517711597), .lit (.int .u64 5996557281743188959), .lit (.int .u64 7280758554555802590), .lit (.int .u64 8532644243296465576), .lit (.int .u64 9350256976987008742), .lit (.int .u64 10552545826968843579), .lit (.int .u64 11727347734174303076), .lit (.int .u64 12113106623233404929), .lit (.int .u64 14000437183269869457), .lit (.int .u64 14369950271660146224), .lit (.int .u64 15101387698204529176), .lit (.int .u64 15463397548674623760), .lit (.int .u64 17586052441742319658), .lit (.int .u64 1182934255886127544), .lit (.int .u64 1847814050463011016), .lit (.int .u64 2177327727835720531), .lit (.int .u64 2830643537854262169), .lit (.int .u64 3796741975233480872), .lit (.int .u64 4115178125766777443), .lit (.int .u64 5681478168544905931), .lit (.int .u64 6601373596472566643), .lit (.int .u64 7507060721942968483), .lit (.int .u64 8399075790359081724), .lit (.int .u64 8693463985226723168), .lit (.int .u64 9568029438360202098), .lit (.int .u64 10144078919501101548), .lit (.int .u64 10430055236837252648), .lit (.int .u64 11840083180663258601), .lit (.int .u64 13761210420658862357), .lit (.int .u64 14299343276471374635), .lit (.int .u64 14566680578165727644), .lit (.int .u64 15097957966210449927), .lit (.int .u64 16922976911328602910), .lit (.int .u64 17689382322260857208), .lit (.int .u64 500013540394364858), .lit (.int .u64 748580250866718886), .lit (.int .u64 1242879168328830382), .lit (.int .u64 1977374033974150939), .lit (.int .u64 2944078676154940804), .lit (.int .u64 3659926193048069267), .lit (.int .u64 4368137639120453308), .lit (.int .u64 4836135668995329356), .lit (.int .u64 5532061633213252278), .lit (.int .u64 6448918945643986474), .lit (.int .u64 6902733635092675308), .lit (.int .u64 7801388544844847127)]
def laid_sallyport_shortsum_start {H : Type} : DataW H := .agg [.lit (.int .u32 1779033703), .lit (.int .u32 3144134277), .lit (.int .u32 1013904242), .lit (.int .u32 2773480762), .lit (.int .u32 1359893119), .lit (.int .u32 2600822924), .lit (.int .u32 528734635), .lit (.int .u32 1541459225)]
def laid_sallyport_shortsum_rounds {H : Type} : DataW H := .agg [.lit (.int .u32 1116352408), .lit (.int .u32 1899447441), .lit (.int .u32 3049323471), .lit (.int .u32 3921009573), .lit (.int .u32 961987163), .lit (.int .u32 1508970993), .lit (.int .u32 2453635748), .lit (.int .u32 2870763221), .lit (.int .u32 3624381080), .lit (.int .u32 310598401), .lit (.int .u32 607225278), .lit (.int .u32 1426881987), .lit (.int .u32 1925078388), .lit (.int .u32 2162078206), .lit (.int .u32 2614888103), .lit (.int .u32 3248222580), .lit (.int .u32 3835390401), .lit (.int .u32 4022224774), .lit (.int .u32 264347078), .lit (.int .u32 604807628), .lit (.int .u32 770255983), .lit (.int .u32 1249150122), .lit (.int .u32 1555081692), .lit (.int .u32 1996064986), .lit (.int .u32 2554220882), .lit (.int .u32 2821834349), .lit (.int .u32 2952996808), .lit (.int .u32 3210313671), .lit (.int .u32 3336571891), .lit (.int .u32 3584528711), .lit (.int .u32 113926993), .lit (.int .u32 338241895), .lit (.int .u32 666307205), .lit (.int .u32 773529912), .lit (.int .u32 1294757372), .lit (.int .u32 1396182291), .lit (.int .u32 1695183700), .lit (.int .u32 1986661051), .lit (.int .u32 2177026350), .lit (.int .u32 2456956037), .lit (.int .u32 2730485921), .lit (.int .u32 2820302411), .lit (.int .u32 3259730800), .lit (.int .u32 3345764771), .lit (.int .u32 3516065817), .lit (.int .u32 3600352804), .lit (.int .u32 4094571909), .lit (.int .u32 275423344), .lit (.int .u32 430227734), .lit (.int .u32 506948616), .lit (.int .u32 659060556), .lit (.int .u32 883997877), .lit (.int .u32 958139571), .lit (.int .u32 1322822218), .lit (.int .u32 1537002063), .lit (.int .u32 1747873779), .lit (.int .u32 1955562222), .lit (.int .u32 2024104815), .lit (.int .u32 2227730452), .lit (.int .u32 2361852424), .lit (.int .u32 2428436474), .lit (.int .u32 2756734187), .lit (.int .u32 3204031479), .lit (.int .u32 3329325298)]
def laid_unicode_utf8_acceptRanges {H : Type} : DataW H := .agg [.agg [.lit (.int .u8 128), .lit (.int .u8 191)], .agg [.lit (.int .u8 160), .lit (.int .u8 191)], .agg [.lit (.int .u8 128), .lit (.int .u8 159)], .agg [.lit (.int .u8 144), .lit (.int .u8 191)], .agg [.lit (.int .u8 128), .lit (.int .u8 143)], .agg [.lit (.int .u8 0), .lit (.int .u8 0)], .agg [.lit (.int .u8 0), .lit (.int .u8 0)], .agg [.lit (.int .u8 0), .lit (.int .u8 0)], .agg [.lit (.int .u8 0), .lit (.int .u8 0)], .agg [.lit (.int .u8 0), .lit (.int .u8 0)], .agg [.lit (.int .u8 0), .lit (.int .u8 0)], .agg [.lit (.int .u8 0), .lit (.int .u8 0)], .agg [.lit (.int .u8 0), .lit (.int .u8 0)], .agg [.lit (.int .u8 0), .lit (.int .u8 0)], .agg [.lit (.int .u8 0), .lit (.int .u8 0)], .agg [.lit (.int .u8 0), .lit (.int .u8 0)]]
/-- One of Go's own tables, pinned by name: the form's constant. -/
def laid_unicode_utf8_first : DataW Unit := Go.Pinned.utf8First

/-- 'sallyportlaw13.BlobEncodes': WHATEVER THE INPUT: true; the input reads as it did. -/
def blobEncodesSpec : ChangeSpec := { name := "blobEncodes", fn := fun _ => fun
  | [d] => { results := [.lit (.bool true)], args := [d] }
  | _ => none }
def blobEncodesRow : OpenClaim := { program := "ytlcoebenkhafcaagreatdoor", sum := "a6cc2707cecd8c7b6220ccd47bf778ebcbae415edef264dbd32a8f66ee9adbdc", func := "sallyport/sallyportlaw13.BlobEncodes", spec := "blobEncodes", inPlace := ["internal/bytealg.IndexByteString", "internal/bytealg.IndexString", "internal/bytealg.MakeNoZero"], unfollowed := true, recurses := true, named := ["unicode/utf8.first", "unicode/utf8.acceptRanges", "sallyport/shortsum.start", "sallyport/shortsum.rounds", "sallyport/longsum.start", "sallyport/longsum.rounds", "internal/bytealg.MaxLen"], apart := false, laid := [("sallyport/longsum.start", laid_sallyport_longsum_start), ("sallyport/longsum.rounds", laid_sallyport_longsum_rounds), ("sallyport/shortsum.start", laid_sallyport_shortsum_start), ("sallyport/shortsum.rounds", laid_sallyport_shortsum_rounds), ("unicode/utf8.acceptRanges", laid_unicode_utf8_acceptRanges), ("unicode/utf8.first", laid_unicode_utf8_first)] }
def BlobEncodesSaid : Prop := blobEncodesRow.holds Tryz.pinned (OpenSpec.ofChange blobEncodesSpec)

/-- ITS FALSE NEIGHBOUR: 'it returns false'. Refute it at one input. -/
def blobEncodesWrong : ChangeSpec := { name := "blobEncodes", fn := fun _ => fun
  | [d] => { results := [.lit (.bool false)], args := [d] }
  | _ => none }
def BlobEncodesWrongFalsely : Prop := blobEncodesRow.holds Tryz.pinned (OpenSpec.ofChange blobEncodesWrong)

/-- 'sallyportlaw13.BlobParses': WHATEVER THE INPUT: true; the input reads as it did. -/
def blobParsesSpec : ChangeSpec := { name := "blobParses", fn := fun _ => fun
  | [d] => { results := [.lit (.bool true)], args := [d] }
  | _ => none }
def blobParsesRow : OpenClaim := { program := "ytlcoebenkhafcaagreatdoor", sum := "a6cc2707cecd8c7b6220ccd47bf778ebcbae415edef264dbd32a8f66ee9adbdc", func := "sallyport/sallyportlaw13.BlobParses", spec := "blobParses", inPlace := ["internal/bytealg.IndexByteString", "internal/bytealg.IndexString", "internal/bytealg.MakeNoZero"], unfollowed := true, recurses := true, named := ["unicode/utf8.first", "unicode/utf8.acceptRanges", "sallyport/shortsum.start", "sallyport/shortsum.rounds", "sallyport/longsum.start", "sallyport/longsum.rounds", "internal/bytealg.MaxLen"], apart := false, laid := [("sallyport/longsum.start", laid_sallyport_longsum_start), ("sallyport/longsum.rounds", laid_sallyport_longsum_rounds), ("sallyport/shortsum.start", laid_sallyport_shortsum_start), ("sallyport/shortsum.rounds", laid_sallyport_shortsum_rounds), ("unicode/utf8.acceptRanges", laid_unicode_utf8_acceptRanges), ("unicode/utf8.first", laid_unicode_utf8_first)] }
def BlobParsesSaid : Prop := blobParsesRow.holds Tryz.pinned (OpenSpec.ofChange blobParsesSpec)

/-- ITS FALSE NEIGHBOUR: 'it returns false'. Refute it at one input. -/
def blobParsesWrong : ChangeSpec := { name := "blobParses", fn := fun _ => fun
  | [d] => { results := [.lit (.bool false)], args := [d] }
  | _ => none }
def BlobParsesWrongFalsely : Prop := blobParsesRow.holds Tryz.pinned (OpenSpec.ofChange blobParsesWrong)

/-- 'sallyportlaw13.BlobChecks': WHATEVER THE INPUT: true; the input reads as it did. -/
def blobChecksSpec : ChangeSpec := { name := "blobChecks", fn := fun _ => fun
  | [d] => { results := [.lit (.bool true)], args := [d] }
  | _ => none }
def blobChecksRow : OpenClaim := { program := "ytlcoebenkhafcaagreatdoor", sum := "a6cc2707cecd8c7b6220ccd47bf778ebcbae415edef264dbd32a8f66ee9adbdc", func := "sallyport/sallyportlaw13.BlobChecks", spec := "blobChecks", inPlace := ["internal/bytealg.IndexByteString", "internal/bytealg.IndexString", "internal/bytealg.MakeNoZero"], unfollowed := true, recurses := true, named := ["unicode/utf8.first", "unicode/utf8.acceptRanges", "sallyport/shortsum.start", "sallyport/shortsum.rounds", "sallyport/longsum.start", "sallyport/longsum.rounds", "internal/bytealg.MaxLen"], apart := false, laid := [("sallyport/longsum.start", laid_sallyport_longsum_start), ("sallyport/longsum.rounds", laid_sallyport_longsum_rounds), ("sallyport/shortsum.start", laid_sallyport_shortsum_start), ("sallyport/shortsum.rounds", laid_sallyport_shortsum_rounds), ("unicode/utf8.acceptRanges", laid_unicode_utf8_acceptRanges), ("unicode/utf8.first", laid_unicode_utf8_first)] }
def BlobChecksSaid : Prop := blobChecksRow.holds Tryz.pinned (OpenSpec.ofChange blobChecksSpec)

/-- ITS FALSE NEIGHBOUR: 'it returns false'. Refute it at one input. -/
def blobChecksWrong : ChangeSpec := { name := "blobChecks", fn := fun _ => fun
  | [d] => { results := [.lit (.bool false)], args := [d] }
  | _ => none }
def BlobChecksWrongFalsely : Prop := blobChecksRow.holds Tryz.pinned (OpenSpec.ofChange blobChecksWrong)

/-- 'sallyportlaw13.BlobTurned': WHATEVER THE INPUT: true; the input reads as it did. -/
def blobTurnedSpec : ChangeSpec := { name := "blobTurned", fn := fun _ => fun
  | [d1, d2, d3, d4] => { results := [.lit (.bool true)], args := [d1, d2, d3, d4] }
  | _ => none }
def blobTurnedRow : OpenClaim := { program := "ytlcoebenkhafcaagreatdoor", sum := "a6cc2707cecd8c7b6220ccd47bf778ebcbae415edef264dbd32a8f66ee9adbdc", func := "sallyport/sallyportlaw13.BlobTurned", spec := "blobTurned", inPlace := ["internal/bytealg.IndexByteString", "internal/bytealg.IndexString", "internal/bytealg.MakeNoZero"], unfollowed := true, recurses := true, named := ["unicode/utf8.first", "unicode/utf8.acceptRanges", "sallyport/shortsum.start", "sallyport/shortsum.rounds", "sallyport/longsum.start", "sallyport/longsum.rounds", "internal/bytealg.MaxLen"], apart := false, laid := [("sallyport/longsum.start", laid_sallyport_longsum_start), ("sallyport/longsum.rounds", laid_sallyport_longsum_rounds), ("sallyport/shortsum.start", laid_sallyport_shortsum_start), ("sallyport/shortsum.rounds", laid_sallyport_shortsum_rounds), ("unicode/utf8.acceptRanges", laid_unicode_utf8_acceptRanges), ("unicode/utf8.first", laid_unicode_utf8_first)] }
def BlobTurnedSaid : Prop := blobTurnedRow.holds Tryz.pinned (OpenSpec.ofChange blobTurnedSpec)

/-- ITS FALSE NEIGHBOUR: 'it returns false'. Refute it at one input. -/
def blobTurnedWrong : ChangeSpec := { name := "blobTurned", fn := fun _ => fun
  | [d1, d2, d3, d4] => { results := [.lit (.bool false)], args := [d1, d2, d3, d4] }
  | _ => none }
def BlobTurnedWrongFalsely : Prop := blobTurnedRow.holds Tryz.pinned (OpenSpec.ofChange blobTurnedWrong)

/-- 'sallyportlaw13.BlobSizes': WHATEVER THE INPUT: true; the input reads as it did. -/
def blobSizesSpec : ChangeSpec := { name := "blobSizes", fn := fun _ => fun
  | [d] => { results := [.lit (.bool true)], args := [d] }
  | _ => none }
def blobSizesRow : OpenClaim := { program := "ytlcoebenkhafcaagreatdoor", sum := "a6cc2707cecd8c7b6220ccd47bf778ebcbae415edef264dbd32a8f66ee9adbdc", func := "sallyport/sallyportlaw13.BlobSizes", spec := "blobSizes", inPlace := ["internal/bytealg.IndexByteString", "internal/bytealg.IndexString", "internal/bytealg.MakeNoZero"], unfollowed := true, recurses := true, named := ["unicode/utf8.first", "unicode/utf8.acceptRanges", "sallyport/shortsum.start", "sallyport/shortsum.rounds", "sallyport/longsum.start", "sallyport/longsum.rounds", "internal/bytealg.MaxLen"], apart := false, laid := [("sallyport/longsum.start", laid_sallyport_longsum_start), ("sallyport/longsum.rounds", laid_sallyport_longsum_rounds), ("sallyport/shortsum.start", laid_sallyport_shortsum_start), ("sallyport/shortsum.rounds", laid_sallyport_shortsum_rounds), ("unicode/utf8.acceptRanges", laid_unicode_utf8_acceptRanges), ("unicode/utf8.first", laid_unicode_utf8_first)] }
def BlobSizesSaid : Prop := blobSizesRow.holds Tryz.pinned (OpenSpec.ofChange blobSizesSpec)

/-- ITS FALSE NEIGHBOUR: 'it returns false'. Refute it at one input. -/
def blobSizesWrong : ChangeSpec := { name := "blobSizes", fn := fun _ => fun
  | [d] => { results := [.lit (.bool false)], args := [d] }
  | _ => none }
def BlobSizesWrongFalsely : Prop := blobSizesRow.holds Tryz.pinned (OpenSpec.ofChange blobSizesWrong)

/-- 'sallyportlaw13.BlobKeys': WHATEVER THE INPUT: true; the input reads as it did. -/
def blobKeysSpec : ChangeSpec := { name := "blobKeys", fn := fun _ => fun
  | [d1, d2, d3] => { results := [.lit (.bool true)], args := [d1, d2, d3] }
  | _ => none }
def blobKeysRow : OpenClaim := { program := "ytlcoebenkhafcaagreatdoor", sum := "a6cc2707cecd8c7b6220ccd47bf778ebcbae415edef264dbd32a8f66ee9adbdc", func := "sallyport/sallyportlaw13.BlobKeys", spec := "blobKeys", inPlace := ["internal/bytealg.IndexByteString", "internal/bytealg.IndexString", "internal/bytealg.MakeNoZero"], unfollowed := true, recurses := true, named := ["unicode/utf8.first", "unicode/utf8.acceptRanges", "sallyport/shortsum.start", "sallyport/shortsum.rounds", "sallyport/longsum.start", "sallyport/longsum.rounds", "internal/bytealg.MaxLen"], apart := false, laid := [("sallyport/longsum.start", laid_sallyport_longsum_start), ("sallyport/longsum.rounds", laid_sallyport_longsum_rounds), ("sallyport/shortsum.start", laid_sallyport_shortsum_start), ("sallyport/shortsum.rounds", laid_sallyport_shortsum_rounds), ("unicode/utf8.acceptRanges", laid_unicode_utf8_acceptRanges), ("unicode/utf8.first", laid_unicode_utf8_first)] }
def BlobKeysSaid : Prop := blobKeysRow.holds Tryz.pinned (OpenSpec.ofChange blobKeysSpec)

/-- ITS FALSE NEIGHBOUR: 'it returns false'. Refute it at one input. -/
def blobKeysWrong : ChangeSpec := { name := "blobKeys", fn := fun _ => fun
  | [d1, d2, d3] => { results := [.lit (.bool false)], args := [d1, d2, d3] }
  | _ => none }
def BlobKeysWrongFalsely : Prop := blobKeysRow.holds Tryz.pinned (OpenSpec.ofChange blobKeysWrong)

/-- 'sallyportlaw13.BlobOpen': WHATEVER THE INPUT: true; the input reads as it did. -/
def blobOpenSpec : ChangeSpec := { name := "blobOpen", fn := fun _ => fun
  | [d1, d2] => { results := [.lit (.bool true)], args := [d1, d2] }
  | _ => none }
def blobOpenRow : OpenClaim := { program := "ytlcoebenkhafcaagreatdoor", sum := "a6cc2707cecd8c7b6220ccd47bf778ebcbae415edef264dbd32a8f66ee9adbdc", func := "sallyport/sallyportlaw13.BlobOpen", spec := "blobOpen", inPlace := ["internal/bytealg.IndexByteString", "internal/bytealg.IndexString", "internal/bytealg.MakeNoZero"], unfollowed := true, recurses := true, named := ["unicode/utf8.first", "unicode/utf8.acceptRanges", "sallyport/shortsum.start", "sallyport/shortsum.rounds", "sallyport/longsum.start", "sallyport/longsum.rounds", "internal/bytealg.MaxLen"], apart := false, laid := [("sallyport/longsum.start", laid_sallyport_longsum_start), ("sallyport/longsum.rounds", laid_sallyport_longsum_rounds), ("sallyport/shortsum.start", laid_sallyport_shortsum_start), ("sallyport/shortsum.rounds", laid_sallyport_shortsum_rounds), ("unicode/utf8.acceptRanges", laid_unicode_utf8_acceptRanges), ("unicode/utf8.first", laid_unicode_utf8_first)] }
def BlobOpenSaid : Prop := blobOpenRow.holds Tryz.pinned (OpenSpec.ofChange blobOpenSpec)

/-- ITS FALSE NEIGHBOUR: 'it returns false'. Refute it at one input. -/
def blobOpenWrong : ChangeSpec := { name := "blobOpen", fn := fun _ => fun
  | [d1, d2] => { results := [.lit (.bool false)], args := [d1, d2] }
  | _ => none }
def BlobOpenWrongFalsely : Prop := blobOpenRow.holds Tryz.pinned (OpenSpec.ofChange blobOpenWrong)

/- THE SECOND FORM. 'bulk': how many values and letters a reading holds, each counted each time it is reached (what is shared counts as often as it is met; a slice's spare places count too). A statement '..UptoSaid' is the law's where the arguments, and the package variables that the reading takes, are together of bulk at most 1048576: NARROWER than '..Said'. Prove '..Said' where nothing that the law and all that it calls make is longer than what came in: it says more and counts as full. Else prove '..UptoSaid'. A law counts once. -/
mutual
def uptoBulk {H : Type} : DataW H → Nat
  | .lit (.string bytes) => bytes.length + 1
  | .lit _ => 1
  | .nil => 1
  | .ptr d => uptoBulk d + 1
  | .slice elems spare => uptoBulkAll elems + uptoBulkAll spare + 1
  | .agg parts => uptoBulkAll parts + 1
  | .iface _ d => uptoBulk d + 1
  | .map entries => uptoBulkEntries entries + 1
  | .held _ => 1
def uptoBulkAll {H : Type} : List (DataW H) → Nat
  | [] => 0
  | d :: r => uptoBulk d + uptoBulkAll r
def uptoBulkEntries {H : Type} : List (Lit × DataW H) → Nat
  | [] => 0
  | x :: r => uptoBulkEntry x + uptoBulkEntries r
def uptoBulkEntry {H : Type} : Lit × DataW H → Nat
  | (.string bytes, d) => bytes.length + uptoBulk d + 1
  | (_, d) => uptoBulk d + 1
 end
def uptoSmall : (H : Type) → List (DataW H) → Bool := fun _ ds => decide (uptoBulkAll ds ≤ 1048576)
def OpenSpec.upto (s : _root_.Go.ChangeSpec) : _root_.Go.OpenSpec := { _root_.Go.OpenSpec.ofChange s with cond := some uptoSmall }

/-- 'sallyportlaw13.BlobEncodes', WHERE WHAT IT READS IS OF BULK AT MOST 1048576: true; the input reads as it did. -/
def blobEncodesUptoRow : OpenClaim := { program := "ytlcoebenkhafcaagreatdoor", sum := "a6cc2707cecd8c7b6220ccd47bf778ebcbae415edef264dbd32a8f66ee9adbdc", func := "sallyport/sallyportlaw13.BlobEncodes", spec := "blobEncodes", inPlace := ["internal/bytealg.IndexByteString", "internal/bytealg.IndexString", "internal/bytealg.MakeNoZero"], unfollowed := true, recurses := true, named := ["unicode/utf8.first", "unicode/utf8.acceptRanges", "sallyport/shortsum.start", "sallyport/shortsum.rounds", "sallyport/longsum.start", "sallyport/longsum.rounds", "internal/bytealg.MaxLen"], apart := false, laid := [("sallyport/longsum.start", laid_sallyport_longsum_start), ("sallyport/longsum.rounds", laid_sallyport_longsum_rounds), ("sallyport/shortsum.start", laid_sallyport_shortsum_start), ("sallyport/shortsum.rounds", laid_sallyport_shortsum_rounds), ("unicode/utf8.acceptRanges", laid_unicode_utf8_acceptRanges), ("unicode/utf8.first", laid_unicode_utf8_first)], narrowed := true }
def BlobEncodesUptoSaid : Prop := blobEncodesUptoRow.holds Tryz.pinned (OpenSpec.upto blobEncodesSpec)

/-- 'sallyportlaw13.BlobParses', WHERE WHAT IT READS IS OF BULK AT MOST 1048576: true; the input reads as it did. -/
def blobParsesUptoRow : OpenClaim := { program := "ytlcoebenkhafcaagreatdoor", sum := "a6cc2707cecd8c7b6220ccd47bf778ebcbae415edef264dbd32a8f66ee9adbdc", func := "sallyport/sallyportlaw13.BlobParses", spec := "blobParses", inPlace := ["internal/bytealg.IndexByteString", "internal/bytealg.IndexString", "internal/bytealg.MakeNoZero"], unfollowed := true, recurses := true, named := ["unicode/utf8.first", "unicode/utf8.acceptRanges", "sallyport/shortsum.start", "sallyport/shortsum.rounds", "sallyport/longsum.start", "sallyport/longsum.rounds", "internal/bytealg.MaxLen"], apart := false, laid := [("sallyport/longsum.start", laid_sallyport_longsum_start), ("sallyport/longsum.rounds", laid_sallyport_longsum_rounds), ("sallyport/shortsum.start", laid_sallyport_shortsum_start), ("sallyport/shortsum.rounds", laid_sallyport_shortsum_rounds), ("unicode/utf8.acceptRanges", laid_unicode_utf8_acceptRanges), ("unicode/utf8.first", laid_unicode_utf8_first)], narrowed := true }
def BlobParsesUptoSaid : Prop := blobParsesUptoRow.holds Tryz.pinned (OpenSpec.upto blobParsesSpec)

/-- 'sallyportlaw13.BlobChecks', WHERE WHAT IT READS IS OF BULK AT MOST 1048576: true; the input reads as it did. -/
def blobChecksUptoRow : OpenClaim := { program := "ytlcoebenkhafcaagreatdoor", sum := "a6cc2707cecd8c7b6220ccd47bf778ebcbae415edef264dbd32a8f66ee9adbdc", func := "sallyport/sallyportlaw13.BlobChecks", spec := "blobChecks", inPlace := ["internal/bytealg.IndexByteString", "internal/bytealg.IndexString", "internal/bytealg.MakeNoZero"], unfollowed := true, recurses := true, named := ["unicode/utf8.first", "unicode/utf8.acceptRanges", "sallyport/shortsum.start", "sallyport/shortsum.rounds", "sallyport/longsum.start", "sallyport/longsum.rounds", "internal/bytealg.MaxLen"], apart := false, laid := [("sallyport/longsum.start", laid_sallyport_longsum_start), ("sallyport/longsum.rounds", laid_sallyport_longsum_rounds), ("sallyport/shortsum.start", laid_sallyport_shortsum_start), ("sallyport/shortsum.rounds", laid_sallyport_shortsum_rounds), ("unicode/utf8.acceptRanges", laid_unicode_utf8_acceptRanges), ("unicode/utf8.first", laid_unicode_utf8_first)], narrowed := true }
def BlobChecksUptoSaid : Prop := blobChecksUptoRow.holds Tryz.pinned (OpenSpec.upto blobChecksSpec)

/-- 'sallyportlaw13.BlobTurned', WHERE WHAT IT READS IS OF BULK AT MOST 1048576: true; the input reads as it did. -/
def blobTurnedUptoRow : OpenClaim := { program := "ytlcoebenkhafcaagreatdoor", sum := "a6cc2707cecd8c7b6220ccd47bf778ebcbae415edef264dbd32a8f66ee9adbdc", func := "sallyport/sallyportlaw13.BlobTurned", spec := "blobTurned", inPlace := ["internal/bytealg.IndexByteString", "internal/bytealg.IndexString", "internal/bytealg.MakeNoZero"], unfollowed := true, recurses := true, named := ["unicode/utf8.first", "unicode/utf8.acceptRanges", "sallyport/shortsum.start", "sallyport/shortsum.rounds", "sallyport/longsum.start", "sallyport/longsum.rounds", "internal/bytealg.MaxLen"], apart := false, laid := [("sallyport/longsum.start", laid_sallyport_longsum_start), ("sallyport/longsum.rounds", laid_sallyport_longsum_rounds), ("sallyport/shortsum.start", laid_sallyport_shortsum_start), ("sallyport/shortsum.rounds", laid_sallyport_shortsum_rounds), ("unicode/utf8.acceptRanges", laid_unicode_utf8_acceptRanges), ("unicode/utf8.first", laid_unicode_utf8_first)], narrowed := true }
def BlobTurnedUptoSaid : Prop := blobTurnedUptoRow.holds Tryz.pinned (OpenSpec.upto blobTurnedSpec)

/-- 'sallyportlaw13.BlobSizes', WHERE WHAT IT READS IS OF BULK AT MOST 1048576: true; the input reads as it did. -/
def blobSizesUptoRow : OpenClaim := { program := "ytlcoebenkhafcaagreatdoor", sum := "a6cc2707cecd8c7b6220ccd47bf778ebcbae415edef264dbd32a8f66ee9adbdc", func := "sallyport/sallyportlaw13.BlobSizes", spec := "blobSizes", inPlace := ["internal/bytealg.IndexByteString", "internal/bytealg.IndexString", "internal/bytealg.MakeNoZero"], unfollowed := true, recurses := true, named := ["unicode/utf8.first", "unicode/utf8.acceptRanges", "sallyport/shortsum.start", "sallyport/shortsum.rounds", "sallyport/longsum.start", "sallyport/longsum.rounds", "internal/bytealg.MaxLen"], apart := false, laid := [("sallyport/longsum.start", laid_sallyport_longsum_start), ("sallyport/longsum.rounds", laid_sallyport_longsum_rounds), ("sallyport/shortsum.start", laid_sallyport_shortsum_start), ("sallyport/shortsum.rounds", laid_sallyport_shortsum_rounds), ("unicode/utf8.acceptRanges", laid_unicode_utf8_acceptRanges), ("unicode/utf8.first", laid_unicode_utf8_first)], narrowed := true }
def BlobSizesUptoSaid : Prop := blobSizesUptoRow.holds Tryz.pinned (OpenSpec.upto blobSizesSpec)

/-- 'sallyportlaw13.BlobKeys', WHERE WHAT IT READS IS OF BULK AT MOST 1048576: true; the input reads as it did. -/
def blobKeysUptoRow : OpenClaim := { program := "ytlcoebenkhafcaagreatdoor", sum := "a6cc2707cecd8c7b6220ccd47bf778ebcbae415edef264dbd32a8f66ee9adbdc", func := "sallyport/sallyportlaw13.BlobKeys", spec := "blobKeys", inPlace := ["internal/bytealg.IndexByteString", "internal/bytealg.IndexString", "internal/bytealg.MakeNoZero"], unfollowed := true, recurses := true, named := ["unicode/utf8.first", "unicode/utf8.acceptRanges", "sallyport/shortsum.start", "sallyport/shortsum.rounds", "sallyport/longsum.start", "sallyport/longsum.rounds", "internal/bytealg.MaxLen"], apart := false, laid := [("sallyport/longsum.start", laid_sallyport_longsum_start), ("sallyport/longsum.rounds", laid_sallyport_longsum_rounds), ("sallyport/shortsum.start", laid_sallyport_shortsum_start), ("sallyport/shortsum.rounds", laid_sallyport_shortsum_rounds), ("unicode/utf8.acceptRanges", laid_unicode_utf8_acceptRanges), ("unicode/utf8.first", laid_unicode_utf8_first)], narrowed := true }
def BlobKeysUptoSaid : Prop := blobKeysUptoRow.holds Tryz.pinned (OpenSpec.upto blobKeysSpec)

/-- 'sallyportlaw13.BlobOpen', WHERE WHAT IT READS IS OF BULK AT MOST 1048576: true; the input reads as it did. -/
def blobOpenUptoRow : OpenClaim := { program := "ytlcoebenkhafcaagreatdoor", sum := "a6cc2707cecd8c7b6220ccd47bf778ebcbae415edef264dbd32a8f66ee9adbdc", func := "sallyport/sallyportlaw13.BlobOpen", spec := "blobOpen", inPlace := ["internal/bytealg.IndexByteString", "internal/bytealg.IndexString", "internal/bytealg.MakeNoZero"], unfollowed := true, recurses := true, named := ["unicode/utf8.first", "unicode/utf8.acceptRanges", "sallyport/shortsum.start", "sallyport/shortsum.rounds", "sallyport/longsum.start", "sallyport/longsum.rounds", "internal/bytealg.MaxLen"], apart := false, laid := [("sallyport/longsum.start", laid_sallyport_longsum_start), ("sallyport/longsum.rounds", laid_sallyport_longsum_rounds), ("sallyport/shortsum.start", laid_sallyport_shortsum_start), ("sallyport/shortsum.rounds", laid_sallyport_shortsum_rounds), ("unicode/utf8.acceptRanges", laid_unicode_utf8_acceptRanges), ("unicode/utf8.first", laid_unicode_utf8_first)], narrowed := true }
def BlobOpenUptoSaid : Prop := blobOpenUptoRow.holds Tryz.pinned (OpenSpec.upto blobOpenSpec)

end Rows
end Go.Proofs.YtlcoebenkhafcaaGreatDoor
