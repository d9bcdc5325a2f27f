/-
  NARROWER THAN 'FOR EVERY INPUT', by the rows' own cells (each row's printed sentence says how): GroveMakes: laid · GroveClimbs: laid · GroveRefuses: laid · GroveSame: laid · GroveDiffers: laid · GroveTurned: laid · GrovePads: laid · GroveChecks: laid.
  DERIVED. THE GIVEN ROWS OF THIS SEAT. 8 by the template 'for every input the law returns true; each argument reads behind the call as it read before'; 0 by the template 'total and deterministic' (their statements: YtfoenafjaaidmaaDoorTotals.lean).
  GIVEN WITH THE SEED: the statements are not yours to turn. If you find one false, say at which input.
  Laid BY PROGRAM, IN A SANDBOX (cutbox-rows.mjs): the forced cells as the released guide's own fill.sh prints them over the translation f5e417f17f1ac24a… (all of the seat's roots in one cut). By AI agents, Wed Nov 11 2026. No macro, syntax, notation, axiom, sorry.
-/
import Derived.Test.YtfoenafjaaidmaaDoorChecked
import GoSem.Claim
import GoSem.ClaimJoined
import GoSem.ClaimMapViews
import Derived.JoinedTies
import Derived.KernelRfl
namespace Go.Proofs.YtfoenafjaaidmaaDoor
/- THE CELL 'sum', in the pinned program and in every row, IS THE sha256 OF THE DUMP (.gsa) THAT YtfoenafjaaidmaaDoorProg.lean LOADS. Nothing in Lean hashes anything: it is a label: what it is worth is what the hold of that sum in a sandbox is worth. -/
noncomputable def Tryd.pinned : Pinned := { name := "ytfoenafjaaidmaadoor", sum := "f5e417f17f1ac24accd26ab17d7ff665012505c55a94601afb2940e4155b8137", checked := Tryd.checked }
namespace Rows
def none {H : Type} : Left H := { results := [], args := [] }

/- WHAT THE LISTED PACKAGE-LEVEL VARIABLES READ AS WHEN THE CALL BEGINS. Each datum BY PROGRAM (the guide's laid-datum.mjs) off the statement by which the dump's own 'gosem.cut.vars' lays the variable. In a bare row this is a premise. The card (YtfoenafjaaidmaaDoorCards.lean) ties it to the program's text. -/
def laid_sallyport_longsum_start {H : Type} : DataW H := .agg [.lit (.int .u64 7640891576956012808), .lit (.int .u64 13503953896175478587), .lit (.int .u64 4354685564936845355), .lit (.int .u64 11912009170470909681), .lit (.int .u64 5840696475078001361), .lit (.int .u64 11170449401992604703), .lit (.int .u64 2270897969802886507), .lit (.int .u64 6620516959819538809)]
def laid_sallyport_longsum_rounds {H : Type} : DataW H := .agg [.lit (.int .u64 4794697086780616226), .lit (.int .u64 8158064640168781261), .lit (.int .u64 13096744586834688815), .lit (.int .u64 16840607885511220156), .lit (.int .u64 4131703408338449720), .lit (.int .u64 6480981068601479193), .lit (.int .u64 10538285296894168987), .lit (.int .u64 12329834152419229976), .lit (.int .u64 15566598209576043074), .lit (.int .u64 1334009975649890238), .lit (.int .u64 2608012711638119052), .lit (.int .u64 6128411473006802146), .lit (.int .u64 8268148722764581231), .lit (.int .u64 9286055187155687089), .lit (.int .u64 11230858885718282805), .lit (.int .u64 13951009754708518548), .lit (.int .u64 16472876342353939154), .lit (.int .u64 17275323862435702243), .lit (.int .u64 1135362057144423861), .lit (.int .u64 2597628984639134821), .lit (.int .u64 3308224258029322869), .lit (.int .u64 5365058923640841347), .lit (.int .u64 6679025012923562964), .lit (.int .u64 8573033837759648693), .lit (.int .u64 10970295158949994411), .lit (.int .u64 12119686244451234320), .lit (.int .u64 12683024718118986047), .lit (.int .u64 13788192230050041572), .lit (.int .u64 14330467153632333762), .lit (.int .u64 15395433587784984357), .lit (.int .u64 489312712824947311), .lit (.int .u64 1452737877330783856), .lit (.int .u64 2861767655752347644), .lit (.int .u64 3322285676063803686), .lit (.int .u64 5560940570517711597), .lit (.int .u64 5996557281743188959), .lit (.int .u64 7280758554555802590), .lit (.int .u64 8532644243296465576), .lit (.int .u64 9350256976987008742), .lit (.int .u64 10552545826968843579), .lit (.int .u64 11727347734174303076), .lit (.int .u64 12113106623233404929), .lit (.int .u64 14000437183269869457), .lit (.int .u64 14369950271660146224), .lit (.int .u64 15101387698204529176), .lit (.int .u64 15463397548674623760), .lit (.int .u64 17586052441742319658), .lit (.int .u64 1182934255886127544), .lit (.int .u64 1847814050463011016), .lit (.int .u64 2177327727835720531), .lit (.int .u64 2830643537854262169), .lit (.int .u64 3796741975233480872), .lit (.int .u64 4115178125766777443), .lit (.int .u64 5681478168544905931), .lit (.int .u64 6601373596472566643), .lit (.int .u64 7507060721942968483), .lit (.int .u64 8399075790359081724), .lit (.int .u64 8693463985226723168), .lit (.int .u64 9568029438360202098), .lit (.int .u64 10144078919501101548), .lit (.int .u64 10430055236837252648), .lit (.int .u64 11840083180663258601), .lit (.int .u64 13761210420658862357), .lit (.int .u64 14299343276471374635), .lit (.int .u64 14566680578165727644), .lit (.int .u64 15097957966210449927), .lit (.int .u64 16922976911328602910), .lit (.int .u64 17689382322260857208), .lit (.int .u64 500013540394364858), .lit (.int .u64 748580250866718886), .lit (.int .u64 1242879168328830382), .lit (.int .u64 1977374033974150939), .lit (.int .u64 2944078676154940804), .lit (.int .u64 3659926193048069267), .lit (.int .u64 4368137639120453308), .lit (.int .u64 4836135668995329356), .lit (.int .u64 5532061633213252278), .lit (.int .u64 6448918945643986474), .lit (.int .u64 6902733635092675308), .lit (.int .u64 7801388544844847127)]
def laid_sallyport_shortsum_start {H : Type} : DataW H := .agg [.lit (.int .u32 1779033703), .lit (.int .u32 3144134277), .lit (.int .u32 1013904242), .lit (.int .u32 2773480762), .lit (.int .u32 1359893119), .lit (.int .u32 2600822924), .lit (.int .u32 528734635), .lit (.int .u32 1541459225)]
def laid_sallyport_shortsum_rounds {H : Type} : DataW H := .agg [.lit (.int .u32 1116352408), .lit (.int .u32 1899447441), .lit (.int .u32 3049323471), .lit (.int .u32 3921009573), .lit (.int .u32 961987163), .lit (.int .u32 1508970993), .lit (.int .u32 2453635748), .lit (.int .u32 2870763221), .lit (.int .u32 3624381080), .lit (.int .u32 310598401), .lit (.int .u32 607225278), .lit (.int .u32 1426881987), .lit (.int .u32 1925078388), .lit (.int .u32 2162078206), .lit (.int .u32 2614888103), .lit (.int .u32 3248222580), .lit (.int .u32 3835390401), .lit (.int .u32 4022224774), .lit (.int .u32 264347078), .lit (.int .u32 604807628), .lit (.int .u32 770255983), .lit (.int .u32 1249150122), .lit (.int .u32 1555081692), .lit (.int .u32 1996064986), .lit (.int .u32 2554220882), .lit (.int .u32 2821834349), .lit (.int .u32 2952996808), .lit (.int .u32 3210313671), .lit (.int .u32 3336571891), .lit (.int .u32 3584528711), .lit (.int .u32 113926993), .lit (.int .u32 338241895), .lit (.int .u32 666307205), .lit (.int .u32 773529912), .lit (.int .u32 1294757372), .lit (.int .u32 1396182291), .lit (.int .u32 1695183700), .lit (.int .u32 1986661051), .lit (.int .u32 2177026350), .lit (.int .u32 2456956037), .lit (.int .u32 2730485921), .lit (.int .u32 2820302411), .lit (.int .u32 3259730800), .lit (.int .u32 3345764771), .lit (.int .u32 3516065817), .lit (.int .u32 3600352804), .lit (.int .u32 4094571909), .lit (.int .u32 275423344), .lit (.int .u32 430227734), .lit (.int .u32 506948616), .lit (.int .u32 659060556), .lit (.int .u32 883997877), .lit (.int .u32 958139571), .lit (.int .u32 1322822218), .lit (.int .u32 1537002063), .lit (.int .u32 1747873779), .lit (.int .u32 1955562222), .lit (.int .u32 2024104815), .lit (.int .u32 2227730452), .lit (.int .u32 2361852424), .lit (.int .u32 2428436474), .lit (.int .u32 2756734187), .lit (.int .u32 3204031479), .lit (.int .u32 3329325298)]

/-- 'sallyportlaw09.GroveMakes': WHATEVER THE INPUT: true; the input reads as it did. -/
def groveMakesSpec : ChangeSpec := { name := "groveMakes", fn := fun _ => fun
  | [d] => { results := [.lit (.bool true)], args := [d] }
  | _ => none }
def groveMakesRow : OpenClaim := { program := "ytfoenafjaaidmaadoor", sum := "f5e417f17f1ac24accd26ab17d7ff665012505c55a94601afb2940e4155b8137", func := "sallyport/sallyportlaw09.GroveMakes", spec := "groveMakes", inPlace := ["internal/bytealg.MakeNoZero"], unfollowed := true, recurses := true, named := ["sallyport/shortsum.start", "sallyport/shortsum.rounds", "sallyport/longsum.start", "sallyport/longsum.rounds"], apart := false, laid := [("sallyport/longsum.start", laid_sallyport_longsum_start), ("sallyport/longsum.rounds", laid_sallyport_longsum_rounds), ("sallyport/shortsum.start", laid_sallyport_shortsum_start), ("sallyport/shortsum.rounds", laid_sallyport_shortsum_rounds)] }
def GroveMakesSaid : Prop := groveMakesRow.holds Tryd.pinned (OpenSpec.ofChange groveMakesSpec)

/-- ITS FALSE NEIGHBOUR: 'it returns false'. Refute it at one input. -/
def groveMakesWrong : ChangeSpec := { name := "groveMakes", fn := fun _ => fun
  | [d] => { results := [.lit (.bool false)], args := [d] }
  | _ => none }
def GroveMakesWrongFalsely : Prop := groveMakesRow.holds Tryd.pinned (OpenSpec.ofChange groveMakesWrong)

/-- 'sallyportlaw09.GroveClimbs': WHATEVER THE INPUT: true; the input reads as it did. -/
def groveClimbsSpec : ChangeSpec := { name := "groveClimbs", fn := fun _ => fun
  | [d1, d2, d3, d4] => { results := [.lit (.bool true)], args := [d1, d2, d3, d4] }
  | _ => none }
def groveClimbsRow : OpenClaim := { program := "ytfoenafjaaidmaadoor", sum := "f5e417f17f1ac24accd26ab17d7ff665012505c55a94601afb2940e4155b8137", func := "sallyport/sallyportlaw09.GroveClimbs", spec := "groveClimbs", inPlace := ["internal/bytealg.MakeNoZero"], unfollowed := true, recurses := true, named := ["sallyport/shortsum.start", "sallyport/shortsum.rounds", "sallyport/longsum.start", "sallyport/longsum.rounds"], apart := false, laid := [("sallyport/longsum.start", laid_sallyport_longsum_start), ("sallyport/longsum.rounds", laid_sallyport_longsum_rounds), ("sallyport/shortsum.start", laid_sallyport_shortsum_start), ("sallyport/shortsum.rounds", laid_sallyport_shortsum_rounds)] }
def GroveClimbsSaid : Prop := groveClimbsRow.holds Tryd.pinned (OpenSpec.ofChange groveClimbsSpec)

/-- ITS FALSE NEIGHBOUR: 'it returns false'. Refute it at one input. -/
def groveClimbsWrong : ChangeSpec := { name := "groveClimbs", fn := fun _ => fun
  | [d1, d2, d3, d4] => { results := [.lit (.bool false)], args := [d1, d2, d3, d4] }
  | _ => none }
def GroveClimbsWrongFalsely : Prop := groveClimbsRow.holds Tryd.pinned (OpenSpec.ofChange groveClimbsWrong)

/-- 'sallyportlaw09.GroveRefuses': WHATEVER THE INPUT: true; the input reads as it did. -/
def groveRefusesSpec : ChangeSpec := { name := "groveRefuses", fn := fun _ => fun
  | [d1, d2, d3, d4] => { results := [.lit (.bool true)], args := [d1, d2, d3, d4] }
  | _ => none }
def groveRefusesRow : OpenClaim := { program := "ytfoenafjaaidmaadoor", sum := "f5e417f17f1ac24accd26ab17d7ff665012505c55a94601afb2940e4155b8137", func := "sallyport/sallyportlaw09.GroveRefuses", spec := "groveRefuses", inPlace := ["internal/bytealg.MakeNoZero"], unfollowed := true, recurses := true, named := ["sallyport/shortsum.start", "sallyport/shortsum.rounds", "sallyport/longsum.start", "sallyport/longsum.rounds"], apart := false, laid := [("sallyport/longsum.start", laid_sallyport_longsum_start), ("sallyport/longsum.rounds", laid_sallyport_longsum_rounds), ("sallyport/shortsum.start", laid_sallyport_shortsum_start), ("sallyport/shortsum.rounds", laid_sallyport_shortsum_rounds)] }
def GroveRefusesSaid : Prop := groveRefusesRow.holds Tryd.pinned (OpenSpec.ofChange groveRefusesSpec)

/-- ITS FALSE NEIGHBOUR: 'it returns false'. Refute it at one input. -/
def groveRefusesWrong : ChangeSpec := { name := "groveRefuses", fn := fun _ => fun
  | [d1, d2, d3, d4] => { results := [.lit (.bool false)], args := [d1, d2, d3, d4] }
  | _ => none }
def GroveRefusesWrongFalsely : Prop := groveRefusesRow.holds Tryd.pinned (OpenSpec.ofChange groveRefusesWrong)

/-- 'sallyportlaw09.GroveSame': WHATEVER THE INPUT: true; the input reads as it did. -/
def groveSameSpec : ChangeSpec := { name := "groveSame", fn := fun _ => fun
  | [d1, d2, d3] => { results := [.lit (.bool true)], args := [d1, d2, d3] }
  | _ => none }
def groveSameRow : OpenClaim := { program := "ytfoenafjaaidmaadoor", sum := "f5e417f17f1ac24accd26ab17d7ff665012505c55a94601afb2940e4155b8137", func := "sallyport/sallyportlaw09.GroveSame", spec := "groveSame", inPlace := ["internal/bytealg.MakeNoZero"], unfollowed := true, recurses := true, named := ["sallyport/shortsum.start", "sallyport/shortsum.rounds", "sallyport/longsum.start", "sallyport/longsum.rounds"], apart := false, laid := [("sallyport/longsum.start", laid_sallyport_longsum_start), ("sallyport/longsum.rounds", laid_sallyport_longsum_rounds), ("sallyport/shortsum.start", laid_sallyport_shortsum_start), ("sallyport/shortsum.rounds", laid_sallyport_shortsum_rounds)] }
def GroveSameSaid : Prop := groveSameRow.holds Tryd.pinned (OpenSpec.ofChange groveSameSpec)

/-- ITS FALSE NEIGHBOUR: 'it returns false'. Refute it at one input. -/
def groveSameWrong : ChangeSpec := { name := "groveSame", fn := fun _ => fun
  | [d1, d2, d3] => { results := [.lit (.bool false)], args := [d1, d2, d3] }
  | _ => none }
def GroveSameWrongFalsely : Prop := groveSameRow.holds Tryd.pinned (OpenSpec.ofChange groveSameWrong)

/-- 'sallyportlaw09.GroveDiffers': WHATEVER THE INPUT: true; the input reads as it did. -/
def groveDiffersSpec : ChangeSpec := { name := "groveDiffers", fn := fun _ => fun
  | [d1, d2] => { results := [.lit (.bool true)], args := [d1, d2] }
  | _ => none }
def groveDiffersRow : OpenClaim := { program := "ytfoenafjaaidmaadoor", sum := "f5e417f17f1ac24accd26ab17d7ff665012505c55a94601afb2940e4155b8137", func := "sallyport/sallyportlaw09.GroveDiffers", spec := "groveDiffers", inPlace := ["internal/bytealg.MakeNoZero"], unfollowed := true, recurses := true, named := ["sallyport/shortsum.start", "sallyport/shortsum.rounds", "sallyport/longsum.start", "sallyport/longsum.rounds"], apart := false, laid := [("sallyport/longsum.start", laid_sallyport_longsum_start), ("sallyport/longsum.rounds", laid_sallyport_longsum_rounds), ("sallyport/shortsum.start", laid_sallyport_shortsum_start), ("sallyport/shortsum.rounds", laid_sallyport_shortsum_rounds)] }
def GroveDiffersSaid : Prop := groveDiffersRow.holds Tryd.pinned (OpenSpec.ofChange groveDiffersSpec)

/-- ITS FALSE NEIGHBOUR: 'it returns false'. Refute it at one input. -/
def groveDiffersWrong : ChangeSpec := { name := "groveDiffers", fn := fun _ => fun
  | [d1, d2] => { results := [.lit (.bool false)], args := [d1, d2] }
  | _ => none }
def GroveDiffersWrongFalsely : Prop := groveDiffersRow.holds Tryd.pinned (OpenSpec.ofChange groveDiffersWrong)

/-- 'sallyportlaw09.GroveTurned': WHATEVER THE INPUT: true; the input reads as it did. -/
def groveTurnedSpec : ChangeSpec := { name := "groveTurned", fn := fun _ => fun
  | [d1, d2, d3] => { results := [.lit (.bool true)], args := [d1, d2, d3] }
  | _ => none }
def groveTurnedRow : OpenClaim := { program := "ytfoenafjaaidmaadoor", sum := "f5e417f17f1ac24accd26ab17d7ff665012505c55a94601afb2940e4155b8137", func := "sallyport/sallyportlaw09.GroveTurned", spec := "groveTurned", inPlace := ["internal/bytealg.MakeNoZero"], unfollowed := true, recurses := true, named := ["sallyport/shortsum.start", "sallyport/shortsum.rounds", "sallyport/longsum.start", "sallyport/longsum.rounds"], apart := false, laid := [("sallyport/longsum.start", laid_sallyport_longsum_start), ("sallyport/longsum.rounds", laid_sallyport_longsum_rounds), ("sallyport/shortsum.start", laid_sallyport_shortsum_start), ("sallyport/shortsum.rounds", laid_sallyport_shortsum_rounds)] }
def GroveTurnedSaid : Prop := groveTurnedRow.holds Tryd.pinned (OpenSpec.ofChange groveTurnedSpec)

/-- ITS FALSE NEIGHBOUR: 'it returns false'. Refute it at one input. -/
def groveTurnedWrong : ChangeSpec := { name := "groveTurned", fn := fun _ => fun
  | [d1, d2, d3] => { results := [.lit (.bool false)], args := [d1, d2, d3] }
  | _ => none }
def GroveTurnedWrongFalsely : Prop := groveTurnedRow.holds Tryd.pinned (OpenSpec.ofChange groveTurnedWrong)

/-- 'sallyportlaw09.GrovePads': WHATEVER THE INPUT: true; the input reads as it did. -/
def grovePadsSpec : ChangeSpec := { name := "grovePads", fn := fun _ => fun
  | [d1, d2] => { results := [.lit (.bool true)], args := [d1, d2] }
  | _ => none }
def grovePadsRow : OpenClaim := { program := "ytfoenafjaaidmaadoor", sum := "f5e417f17f1ac24accd26ab17d7ff665012505c55a94601afb2940e4155b8137", func := "sallyport/sallyportlaw09.GrovePads", spec := "grovePads", inPlace := ["internal/bytealg.MakeNoZero"], unfollowed := true, recurses := true, named := ["sallyport/shortsum.start", "sallyport/shortsum.rounds", "sallyport/longsum.start", "sallyport/longsum.rounds"], apart := false, laid := [("sallyport/longsum.start", laid_sallyport_longsum_start), ("sallyport/longsum.rounds", laid_sallyport_longsum_rounds), ("sallyport/shortsum.start", laid_sallyport_shortsum_start), ("sallyport/shortsum.rounds", laid_sallyport_shortsum_rounds)] }
def GrovePadsSaid : Prop := grovePadsRow.holds Tryd.pinned (OpenSpec.ofChange grovePadsSpec)

/-- ITS FALSE NEIGHBOUR: 'it returns false'. Refute it at one input. -/
def grovePadsWrong : ChangeSpec := { name := "grovePads", fn := fun _ => fun
  | [d1, d2] => { results := [.lit (.bool false)], args := [d1, d2] }
  | _ => none }
def GrovePadsWrongFalsely : Prop := grovePadsRow.holds Tryd.pinned (OpenSpec.ofChange grovePadsWrong)

/-- 'sallyportlaw09.GroveChecks': WHATEVER THE INPUT: true; the input reads as it did. -/
def groveChecksSpec : ChangeSpec := { name := "groveChecks", fn := fun _ => fun
  | [d1, d2, d3, d4] => { results := [.lit (.bool true)], args := [d1, d2, d3, d4] }
  | _ => none }
def groveChecksRow : OpenClaim := { program := "ytfoenafjaaidmaadoor", sum := "f5e417f17f1ac24accd26ab17d7ff665012505c55a94601afb2940e4155b8137", func := "sallyport/sallyportlaw09.GroveChecks", spec := "groveChecks", inPlace := ["internal/bytealg.MakeNoZero"], unfollowed := true, recurses := true, named := ["sallyport/shortsum.start", "sallyport/shortsum.rounds", "sallyport/longsum.start", "sallyport/longsum.rounds"], apart := false, laid := [("sallyport/longsum.start", laid_sallyport_longsum_start), ("sallyport/longsum.rounds", laid_sallyport_longsum_rounds), ("sallyport/shortsum.start", laid_sallyport_shortsum_start), ("sallyport/shortsum.rounds", laid_sallyport_shortsum_rounds)] }
def GroveChecksSaid : Prop := groveChecksRow.holds Tryd.pinned (OpenSpec.ofChange groveChecksSpec)

/-- ITS FALSE NEIGHBOUR: 'it returns false'. Refute it at one input. -/
def groveChecksWrong : ChangeSpec := { name := "groveChecks", fn := fun _ => fun
  | [d1, d2, d3, d4] => { results := [.lit (.bool false)], args := [d1, d2, d3, d4] }
  | _ => none }
def GroveChecksWrongFalsely : Prop := groveChecksRow.holds Tryd.pinned (OpenSpec.ofChange groveChecksWrong)

/- THE SECOND FORM. 'bulk': how many values and letters a reading holds, each counted each time it is reached (what is shared counts as often as it is met; a slice's spare places count too). A statement '..UptoSaid' is the law's where the arguments, and the package variables that the reading takes, are together of bulk at most 1048576: NARROWER than '..Said'. Prove '..Said' where nothing that the law and all that it calls make is longer than what came in: it says more and counts as full. Else prove '..UptoSaid'. A law counts once. -/
mutual
def uptoBulk {H : Type} : DataW H → Nat
  | .lit (.string bytes) => bytes.length + 1
  | .lit _ => 1
  | .nil => 1
  | .ptr d => uptoBulk d + 1
  | .slice elems spare => uptoBulkAll elems + uptoBulkAll spare + 1
  | .agg parts => uptoBulkAll parts + 1
  | .iface _ d => uptoBulk d + 1
  | .map entries => uptoBulkEntries entries + 1
  | .held _ => 1
def uptoBulkAll {H : Type} : List (DataW H) → Nat
  | [] => 0
  | d :: r => uptoBulk d + uptoBulkAll r
def uptoBulkEntries {H : Type} : List (Lit × DataW H) → Nat
  | [] => 0
  | x :: r => uptoBulkEntry x + uptoBulkEntries r
def uptoBulkEntry {H : Type} : Lit × DataW H → Nat
  | (.string bytes, d) => bytes.length + uptoBulk d + 1
  | (_, d) => uptoBulk d + 1
 end
def uptoSmall : (H : Type) → List (DataW H) → Bool := fun _ ds => decide (uptoBulkAll ds ≤ 1048576)
def OpenSpec.upto (s : _root_.Go.ChangeSpec) : _root_.Go.OpenSpec := { _root_.Go.OpenSpec.ofChange s with cond := some uptoSmall }

/-- 'sallyportlaw09.GroveMakes', WHERE WHAT IT READS IS OF BULK AT MOST 1048576: true; the input reads as it did. -/
def groveMakesUptoRow : OpenClaim := { program := "ytfoenafjaaidmaadoor", sum := "f5e417f17f1ac24accd26ab17d7ff665012505c55a94601afb2940e4155b8137", func := "sallyport/sallyportlaw09.GroveMakes", spec := "groveMakes", inPlace := ["internal/bytealg.MakeNoZero"], unfollowed := true, recurses := true, named := ["sallyport/shortsum.start", "sallyport/shortsum.rounds", "sallyport/longsum.start", "sallyport/longsum.rounds"], apart := false, laid := [("sallyport/longsum.start", laid_sallyport_longsum_start), ("sallyport/longsum.rounds", laid_sallyport_longsum_rounds), ("sallyport/shortsum.start", laid_sallyport_shortsum_start), ("sallyport/shortsum.rounds", laid_sallyport_shortsum_rounds)], narrowed := true }
def GroveMakesUptoSaid : Prop := groveMakesUptoRow.holds Tryd.pinned (OpenSpec.upto groveMakesSpec)

/-- 'sallyportlaw09.GroveClimbs', WHERE WHAT IT READS IS OF BULK AT MOST 1048576: true; the input reads as it did. -/
def groveClimbsUptoRow : OpenClaim := { program := "ytfoenafjaaidmaadoor", sum := "f5e417f17f1ac24accd26ab17d7ff665012505c55a94601afb2940e4155b8137", func := "sallyport/sallyportlaw09.GroveClimbs", spec := "groveClimbs", inPlace := ["internal/bytealg.MakeNoZero"], unfollowed := true, recurses := true, named := ["sallyport/shortsum.start", "sallyport/shortsum.rounds", "sallyport/longsum.start", "sallyport/longsum.rounds"], apart := false, laid := [("sallyport/longsum.start", laid_sallyport_longsum_start), ("sallyport/longsum.rounds", laid_sallyport_longsum_rounds), ("sallyport/shortsum.start", laid_sallyport_shortsum_start), ("sallyport/shortsum.rounds", laid_sallyport_shortsum_rounds)], narrowed := true }
def GroveClimbsUptoSaid : Prop := groveClimbsUptoRow.holds Tryd.pinned (OpenSpec.upto groveClimbsSpec)

/-- 'sallyportlaw09.GroveRefuses', WHERE WHAT IT READS IS OF BULK AT MOST 1048576: true; the input reads as it did. -/
def groveRefusesUptoRow : OpenClaim := { program := "ytfoenafjaaidmaadoor", sum := "f5e417f17f1ac24accd26ab17d7ff665012505c55a94601afb2940e4155b8137", func := "sallyport/sallyportlaw09.GroveRefuses", spec := "groveRefuses", inPlace := ["internal/bytealg.MakeNoZero"], unfollowed := true, recurses := true, named := ["sallyport/shortsum.start", "sallyport/shortsum.rounds", "sallyport/longsum.start", "sallyport/longsum.rounds"], apart := false, laid := [("sallyport/longsum.start", laid_sallyport_longsum_start), ("sallyport/longsum.rounds", laid_sallyport_longsum_rounds), ("sallyport/shortsum.start", laid_sallyport_shortsum_start), ("sallyport/shortsum.rounds", laid_sallyport_shortsum_rounds)], narrowed := true }
def GroveRefusesUptoSaid : Prop := groveRefusesUptoRow.holds Tryd.pinned (OpenSpec.upto groveRefusesSpec)

/-- 'sallyportlaw09.GroveSame', WHERE WHAT IT READS IS OF BULK AT MOST 1048576: true; the input reads as it did. -/
def groveSameUptoRow : OpenClaim := { program := "ytfoenafjaaidmaadoor", sum := "f5e417f17f1ac24accd26ab17d7ff665012505c55a94601afb2940e4155b8137", func := "sallyport/sallyportlaw09.GroveSame", spec := "groveSame", inPlace := ["internal/bytealg.MakeNoZero"], unfollowed := true, recurses := true, named := ["sallyport/shortsum.start", "sallyport/shortsum.rounds", "sallyport/longsum.start", "sallyport/longsum.rounds"], apart := false, laid := [("sallyport/longsum.start", laid_sallyport_longsum_start), ("sallyport/longsum.rounds", laid_sallyport_longsum_rounds), ("sallyport/shortsum.start", laid_sallyport_shortsum_start), ("sallyport/shortsum.rounds", laid_sallyport_shortsum_rounds)], narrowed := true }
def GroveSameUptoSaid : Prop := groveSameUptoRow.holds Tryd.pinned (OpenSpec.upto groveSameSpec)

/-- 'sallyportlaw09.GroveDiffers', WHERE WHAT IT READS IS OF BULK AT MOST 1048576: true; the input reads as it did. -/
def groveDiffersUptoRow : OpenClaim := { program := "ytfoenafjaaidmaadoor", sum := "f5e417f17f1ac24accd26ab17d7ff665012505c55a94601afb2940e4155b8137", func := "sallyport/sallyportlaw09.GroveDiffers", spec := "groveDiffers", inPlace := ["internal/bytealg.MakeNoZero"], unfollowed := true, recurses := true, named := ["sallyport/shortsum.start", "sallyport/shortsum.rounds", "sallyport/longsum.start", "sallyport/longsum.rounds"], apart := false, laid := [("sallyport/longsum.start", laid_sallyport_longsum_start), ("sallyport/longsum.rounds", laid_sallyport_longsum_rounds), ("sallyport/shortsum.start", laid_sallyport_shortsum_start), ("sallyport/shortsum.rounds", laid_sallyport_shortsum_rounds)], narrowed := true }
def GroveDiffersUptoSaid : Prop := groveDiffersUptoRow.holds Tryd.pinned (OpenSpec.upto groveDiffersSpec)

/-- 'sallyportlaw09.GroveTurned', WHERE WHAT IT READS IS OF BULK AT MOST 1048576: true; the input reads as it did. -/
def groveTurnedUptoRow : OpenClaim := { program := "ytfoenafjaaidmaadoor", sum := "f5e417f17f1ac24accd26ab17d7ff665012505c55a94601afb2940e4155b8137", func := "sallyport/sallyportlaw09.GroveTurned", spec := "groveTurned", inPlace := ["internal/bytealg.MakeNoZero"], unfollowed := true, recurses := true, named := ["sallyport/shortsum.start", "sallyport/shortsum.rounds", "sallyport/longsum.start", "sallyport/longsum.rounds"], apart := false, laid := [("sallyport/longsum.start", laid_sallyport_longsum_start), ("sallyport/longsum.rounds", laid_sallyport_longsum_rounds), ("sallyport/shortsum.start", laid_sallyport_shortsum_start), ("sallyport/shortsum.rounds", laid_sallyport_shortsum_rounds)], narrowed := true }
def GroveTurnedUptoSaid : Prop := groveTurnedUptoRow.holds Tryd.pinned (OpenSpec.upto groveTurnedSpec)

/-- 'sallyportlaw09.GrovePads', WHERE WHAT IT READS IS OF BULK AT MOST 1048576: true; the input reads as it did. -/
def grovePadsUptoRow : OpenClaim := { program := "ytfoenafjaaidmaadoor", sum := "f5e417f17f1ac24accd26ab17d7ff665012505c55a94601afb2940e4155b8137", func := "sallyport/sallyportlaw09.GrovePads", spec := "grovePads", inPlace := ["internal/bytealg.MakeNoZero"], unfollowed := true, recurses := true, named := ["sallyport/shortsum.start", "sallyport/shortsum.rounds", "sallyport/longsum.start", "sallyport/longsum.rounds"], apart := false, laid := [("sallyport/longsum.start", laid_sallyport_longsum_start), ("sallyport/longsum.rounds", laid_sallyport_longsum_rounds), ("sallyport/shortsum.start", laid_sallyport_shortsum_start), ("sallyport/shortsum.rounds", laid_sallyport_shortsum_rounds)], narrowed := true }
def GrovePadsUptoSaid : Prop := grovePadsUptoRow.holds Tryd.pinned (OpenSpec.upto grovePadsSpec)

/-- 'sallyportlaw09.GroveChecks', WHERE WHAT IT READS IS OF BULK AT MOST 1048576: true; the input reads as it did. -/
def groveChecksUptoRow : OpenClaim := { program := "ytfoenafjaaidmaadoor", sum := "f5e417f17f1ac24accd26ab17d7ff665012505c55a94601afb2940e4155b8137", func := "sallyport/sallyportlaw09.GroveChecks", spec := "groveChecks", inPlace := ["internal/bytealg.MakeNoZero"], unfollowed := true, recurses := true, named := ["sallyport/shortsum.start", "sallyport/shortsum.rounds", "sallyport/longsum.start", "sallyport/longsum.rounds"], apart := false, laid := [("sallyport/longsum.start", laid_sallyport_longsum_start), ("sallyport/longsum.rounds", laid_sallyport_longsum_rounds), ("sallyport/shortsum.start", laid_sallyport_shortsum_start), ("sallyport/shortsum.rounds", laid_sallyport_shortsum_rounds)], narrowed := true }
def GroveChecksUptoSaid : Prop := groveChecksUptoRow.holds Tryd.pinned (OpenSpec.upto groveChecksSpec)

end Rows
end Go.Proofs.YtfoenafjaaidmaaDoor
