/-
  NARROWER THAN 'FOR EVERY INPUT', by the rows' own cells (each row's printed sentence says how): FnExactIsPicture: laid · FnExactCountDots: laid · FnExactSizeOfPicture: laid · FnExactTurnPicture: laid · FnExactMirrorPicture: laid · FnExactBesidePicture: laid · FnExactBelowPicture: laid · FnExactOtherDots: laid · FnExactPiecesOfPicture: laid · FnExactBorderDots: laid · FnExactTakeBorder: laid · FnExactLayersOfPicture: laid.
  DERIVED. THE GIVEN ROWS OF THIS SEAT. 12 by the template 'for every input the law returns true; each argument reads behind the call as it read before'; 0 by the template 'total and deterministic' (their statements: YtbcgidgjdedkiaaDoorTotals.lean).
  GIVEN WITH THE SEED: the statements are not yours to turn. If you find one false, say at which input.
  Laid BY PROGRAM, IN A SANDBOX (cutbox-rows.mjs): the forced cells as the released guide's own fill.sh prints them over the translation 5718eb037f010378… (all of the seat's roots in one cut). By AI agents, Wed Nov 11 2026. No macro, syntax, notation, axiom, sorry.
-/
import Derived.Test.YtbcgidgjdedkiaaDoorChecked
import GoSem.PinnedTables
import GoSem.Claim
import GoSem.ClaimJoined
import GoSem.ClaimMapViews
import Derived.JoinedTies
import Derived.KernelRfl
namespace Go.Proofs.YtbcgidgjdedkiaaDoor
/- THE CELL 'sum', in the pinned program and in every row, IS THE sha256 OF THE DUMP (.gsa) THAT YtbcgidgjdedkiaaDoorProg.lean LOADS. Nothing in Lean hashes anything: it is a label: what it is worth is what the hold of that sum in a sandbox is worth. -/
noncomputable def Tryd.pinned : Pinned := { name := "ytbcgidgjdedkiaadoor", sum := "5718eb037f010378aa7d7b45871859546087617cfa11263242725d00a3575658", checked := Tryd.checked }
namespace Rows
def none {H : Type} : Left H := { results := [], args := [] }

/- WHAT THE LISTED PACKAGE-LEVEL VARIABLES READ AS WHEN THE CALL BEGINS. Each datum BY PROGRAM (the guide's laid-datum.mjs) off the statement by which the dump's own 'gosem.cut.vars' lays the variable. In a bare row this is a premise. The card (YtbcgidgjdedkiaaDoorCards.lean) ties it to the program's text. -/
def laid_unicode_utf8_acceptRanges {H : Type} : DataW H := .agg [.agg [.lit (.int .u8 128), .lit (.int .u8 191)], .agg [.lit (.int .u8 160), .lit (.int .u8 191)], .agg [.lit (.int .u8 128), .lit (.int .u8 159)], .agg [.lit (.int .u8 144), .lit (.int .u8 191)], .agg [.lit (.int .u8 128), .lit (.int .u8 143)], .agg [.lit (.int .u8 0), .lit (.int .u8 0)], .agg [.lit (.int .u8 0), .lit (.int .u8 0)], .agg [.lit (.int .u8 0), .lit (.int .u8 0)], .agg [.lit (.int .u8 0), .lit (.int .u8 0)], .agg [.lit (.int .u8 0), .lit (.int .u8 0)], .agg [.lit (.int .u8 0), .lit (.int .u8 0)], .agg [.lit (.int .u8 0), .lit (.int .u8 0)], .agg [.lit (.int .u8 0), .lit (.int .u8 0)], .agg [.lit (.int .u8 0), .lit (.int .u8 0)], .agg [.lit (.int .u8 0), .lit (.int .u8 0)], .agg [.lit (.int .u8 0), .lit (.int .u8 0)]]
/-- One of Go's own tables, pinned by name: the form's constant. -/
def laid_unicode_utf8_first : DataW Unit := Go.Pinned.utf8First

/-- 'laws.FnExactIsPicture': WHATEVER THE INPUT: true; the input reads as it did. -/
def fnExactIsPictureSpec : ChangeSpec := { name := "fnExactIsPicture", fn := fun _ => fun
  | [d] => { results := [.lit (.bool true)], args := [d] }
  | _ => none }
def fnExactIsPictureRow : OpenClaim := { program := "ytbcgidgjdedkiaadoor", sum := "5718eb037f010378aa7d7b45871859546087617cfa11263242725d00a3575658", func := "loop.example/g01250/laws.FnExactIsPicture", spec := "fnExactIsPicture", inPlace := ["internal/bytealg.CountString", "internal/bytealg.IndexByteString", "internal/bytealg.IndexString"], named := ["unicode/utf8.first", "unicode/utf8.acceptRanges", "internal/bytealg.MaxLen"], plainKeys := false, apart := false, laid := [("unicode/utf8.acceptRanges", laid_unicode_utf8_acceptRanges), ("unicode/utf8.first", laid_unicode_utf8_first)] }
def FnExactIsPictureSaid : Prop := fnExactIsPictureRow.holds Tryd.pinned (OpenSpec.ofChange fnExactIsPictureSpec)

/-- ITS FALSE NEIGHBOUR: 'it returns false'. Refute it at one input. -/
def fnExactIsPictureWrong : ChangeSpec := { name := "fnExactIsPicture", fn := fun _ => fun
  | [d] => { results := [.lit (.bool false)], args := [d] }
  | _ => none }
def FnExactIsPictureWrongFalsely : Prop := fnExactIsPictureRow.holds Tryd.pinned (OpenSpec.ofChange fnExactIsPictureWrong)

/-- 'laws.FnExactCountDots': WHATEVER THE INPUT: true; the input reads as it did. -/
def fnExactCountDotsSpec : ChangeSpec := { name := "fnExactCountDots", fn := fun _ => fun
  | [d] => { results := [.lit (.bool true)], args := [d] }
  | _ => none }
def fnExactCountDotsRow : OpenClaim := { program := "ytbcgidgjdedkiaadoor", sum := "5718eb037f010378aa7d7b45871859546087617cfa11263242725d00a3575658", func := "loop.example/g01250/laws.FnExactCountDots", spec := "fnExactCountDots", inPlace := ["internal/bytealg.CountString", "internal/bytealg.IndexByteString", "internal/bytealg.IndexString"], named := ["unicode/utf8.first", "unicode/utf8.acceptRanges", "internal/bytealg.MaxLen"], plainKeys := false, apart := false, laid := [("unicode/utf8.acceptRanges", laid_unicode_utf8_acceptRanges), ("unicode/utf8.first", laid_unicode_utf8_first)] }
def FnExactCountDotsSaid : Prop := fnExactCountDotsRow.holds Tryd.pinned (OpenSpec.ofChange fnExactCountDotsSpec)

/-- ITS FALSE NEIGHBOUR: 'it returns false'. Refute it at one input. -/
def fnExactCountDotsWrong : ChangeSpec := { name := "fnExactCountDots", fn := fun _ => fun
  | [d] => { results := [.lit (.bool false)], args := [d] }
  | _ => none }
def FnExactCountDotsWrongFalsely : Prop := fnExactCountDotsRow.holds Tryd.pinned (OpenSpec.ofChange fnExactCountDotsWrong)

/-- 'laws.FnExactSizeOfPicture': WHATEVER THE INPUT: true; the input reads as it did. -/
def fnExactSizeOfPictureSpec : ChangeSpec := { name := "fnExactSizeOfPicture", fn := fun _ => fun
  | [d] => { results := [.lit (.bool true)], args := [d] }
  | _ => none }
def fnExactSizeOfPictureRow : OpenClaim := { program := "ytbcgidgjdedkiaadoor", sum := "5718eb037f010378aa7d7b45871859546087617cfa11263242725d00a3575658", func := "loop.example/g01250/laws.FnExactSizeOfPicture", spec := "fnExactSizeOfPicture", inPlace := ["internal/bytealg.CountString", "internal/bytealg.IndexByteString", "internal/bytealg.IndexString"], named := ["unicode/utf8.first", "unicode/utf8.acceptRanges", "internal/bytealg.MaxLen"], plainKeys := false, apart := false, laid := [("unicode/utf8.acceptRanges", laid_unicode_utf8_acceptRanges), ("unicode/utf8.first", laid_unicode_utf8_first)] }
def FnExactSizeOfPictureSaid : Prop := fnExactSizeOfPictureRow.holds Tryd.pinned (OpenSpec.ofChange fnExactSizeOfPictureSpec)

/-- ITS FALSE NEIGHBOUR: 'it returns false'. Refute it at one input. -/
def fnExactSizeOfPictureWrong : ChangeSpec := { name := "fnExactSizeOfPicture", fn := fun _ => fun
  | [d] => { results := [.lit (.bool false)], args := [d] }
  | _ => none }
def FnExactSizeOfPictureWrongFalsely : Prop := fnExactSizeOfPictureRow.holds Tryd.pinned (OpenSpec.ofChange fnExactSizeOfPictureWrong)

/-- 'laws.FnExactTurnPicture': WHATEVER THE INPUT: true; the input reads as it did. -/
def fnExactTurnPictureSpec : ChangeSpec := { name := "fnExactTurnPicture", fn := fun _ => fun
  | [d] => { results := [.lit (.bool true)], args := [d] }
  | _ => none }
def fnExactTurnPictureRow : OpenClaim := { program := "ytbcgidgjdedkiaadoor", sum := "5718eb037f010378aa7d7b45871859546087617cfa11263242725d00a3575658", func := "loop.example/g01250/laws.FnExactTurnPicture", spec := "fnExactTurnPicture", inPlace := ["internal/bytealg.CountString", "internal/bytealg.IndexByteString", "internal/bytealg.IndexString", "internal/abi.NoEscape"], unfollowed := true, recurses := true, named := ["unicode/utf8.first", "unicode/utf8.acceptRanges", "internal/bytealg.MaxLen"], plainKeys := false, apart := false, laid := [("unicode/utf8.acceptRanges", laid_unicode_utf8_acceptRanges), ("unicode/utf8.first", laid_unicode_utf8_first)] }
def FnExactTurnPictureSaid : Prop := fnExactTurnPictureRow.holds Tryd.pinned (OpenSpec.ofChange fnExactTurnPictureSpec)

/-- ITS FALSE NEIGHBOUR: 'it returns false'. Refute it at one input. -/
def fnExactTurnPictureWrong : ChangeSpec := { name := "fnExactTurnPicture", fn := fun _ => fun
  | [d] => { results := [.lit (.bool false)], args := [d] }
  | _ => none }
def FnExactTurnPictureWrongFalsely : Prop := fnExactTurnPictureRow.holds Tryd.pinned (OpenSpec.ofChange fnExactTurnPictureWrong)

/-- 'laws.FnExactMirrorPicture': WHATEVER THE INPUT: true; the input reads as it did. -/
def fnExactMirrorPictureSpec : ChangeSpec := { name := "fnExactMirrorPicture", fn := fun _ => fun
  | [d] => { results := [.lit (.bool true)], args := [d] }
  | _ => none }
def fnExactMirrorPictureRow : OpenClaim := { program := "ytbcgidgjdedkiaadoor", sum := "5718eb037f010378aa7d7b45871859546087617cfa11263242725d00a3575658", func := "loop.example/g01250/laws.FnExactMirrorPicture", spec := "fnExactMirrorPicture", inPlace := ["internal/bytealg.CountString", "internal/bytealg.IndexByteString", "internal/bytealg.IndexString", "internal/abi.NoEscape"], unfollowed := true, recurses := true, named := ["unicode/utf8.first", "unicode/utf8.acceptRanges", "internal/bytealg.MaxLen"], plainKeys := false, apart := false, laid := [("unicode/utf8.acceptRanges", laid_unicode_utf8_acceptRanges), ("unicode/utf8.first", laid_unicode_utf8_first)] }
def FnExactMirrorPictureSaid : Prop := fnExactMirrorPictureRow.holds Tryd.pinned (OpenSpec.ofChange fnExactMirrorPictureSpec)

/-- ITS FALSE NEIGHBOUR: 'it returns false'. Refute it at one input. -/
def fnExactMirrorPictureWrong : ChangeSpec := { name := "fnExactMirrorPicture", fn := fun _ => fun
  | [d] => { results := [.lit (.bool false)], args := [d] }
  | _ => none }
def FnExactMirrorPictureWrongFalsely : Prop := fnExactMirrorPictureRow.holds Tryd.pinned (OpenSpec.ofChange fnExactMirrorPictureWrong)

/-- 'laws.FnExactBesidePicture': WHATEVER THE INPUT: true; the input reads as it did. -/
def fnExactBesidePictureSpec : ChangeSpec := { name := "fnExactBesidePicture", fn := fun _ => fun
  | [d1, d2] => { results := [.lit (.bool true)], args := [d1, d2] }
  | _ => none }
def fnExactBesidePictureRow : OpenClaim := { program := "ytbcgidgjdedkiaadoor", sum := "5718eb037f010378aa7d7b45871859546087617cfa11263242725d00a3575658", func := "loop.example/g01250/laws.FnExactBesidePicture", spec := "fnExactBesidePicture", inPlace := ["internal/bytealg.CountString", "internal/bytealg.IndexByteString", "internal/bytealg.IndexString", "internal/abi.NoEscape"], unfollowed := true, recurses := true, named := ["unicode/utf8.first", "unicode/utf8.acceptRanges", "internal/bytealg.MaxLen"], plainKeys := false, apart := false, laid := [("unicode/utf8.acceptRanges", laid_unicode_utf8_acceptRanges), ("unicode/utf8.first", laid_unicode_utf8_first)] }
def FnExactBesidePictureSaid : Prop := fnExactBesidePictureRow.holds Tryd.pinned (OpenSpec.ofChange fnExactBesidePictureSpec)

/-- ITS FALSE NEIGHBOUR: 'it returns false'. Refute it at one input. -/
def fnExactBesidePictureWrong : ChangeSpec := { name := "fnExactBesidePicture", fn := fun _ => fun
  | [d1, d2] => { results := [.lit (.bool false)], args := [d1, d2] }
  | _ => none }
def FnExactBesidePictureWrongFalsely : Prop := fnExactBesidePictureRow.holds Tryd.pinned (OpenSpec.ofChange fnExactBesidePictureWrong)

/-- 'laws.FnExactBelowPicture': WHATEVER THE INPUT: true; the input reads as it did. -/
def fnExactBelowPictureSpec : ChangeSpec := { name := "fnExactBelowPicture", fn := fun _ => fun
  | [d1, d2] => { results := [.lit (.bool true)], args := [d1, d2] }
  | _ => none }
def fnExactBelowPictureRow : OpenClaim := { program := "ytbcgidgjdedkiaadoor", sum := "5718eb037f010378aa7d7b45871859546087617cfa11263242725d00a3575658", func := "loop.example/g01250/laws.FnExactBelowPicture", spec := "fnExactBelowPicture", inPlace := ["internal/bytealg.CountString", "internal/bytealg.IndexByteString", "internal/bytealg.IndexString", "internal/abi.NoEscape"], unfollowed := true, recurses := true, named := ["unicode/utf8.first", "unicode/utf8.acceptRanges", "internal/bytealg.MaxLen"], plainKeys := false, apart := false, laid := [("unicode/utf8.acceptRanges", laid_unicode_utf8_acceptRanges), ("unicode/utf8.first", laid_unicode_utf8_first)] }
def FnExactBelowPictureSaid : Prop := fnExactBelowPictureRow.holds Tryd.pinned (OpenSpec.ofChange fnExactBelowPictureSpec)

/-- ITS FALSE NEIGHBOUR: 'it returns false'. Refute it at one input. -/
def fnExactBelowPictureWrong : ChangeSpec := { name := "fnExactBelowPicture", fn := fun _ => fun
  | [d1, d2] => { results := [.lit (.bool false)], args := [d1, d2] }
  | _ => none }
def FnExactBelowPictureWrongFalsely : Prop := fnExactBelowPictureRow.holds Tryd.pinned (OpenSpec.ofChange fnExactBelowPictureWrong)

/-- 'laws.FnExactOtherDots': WHATEVER THE INPUT: true; the input reads as it did. -/
def fnExactOtherDotsSpec : ChangeSpec := { name := "fnExactOtherDots", fn := fun _ => fun
  | [d] => { results := [.lit (.bool true)], args := [d] }
  | _ => none }
def fnExactOtherDotsRow : OpenClaim := { program := "ytbcgidgjdedkiaadoor", sum := "5718eb037f010378aa7d7b45871859546087617cfa11263242725d00a3575658", func := "loop.example/g01250/laws.FnExactOtherDots", spec := "fnExactOtherDots", inPlace := ["internal/bytealg.CountString", "internal/bytealg.IndexByteString", "internal/bytealg.IndexString", "internal/abi.NoEscape"], unfollowed := true, recurses := true, named := ["unicode/utf8.first", "unicode/utf8.acceptRanges", "internal/bytealg.MaxLen"], plainKeys := false, apart := false, laid := [("unicode/utf8.acceptRanges", laid_unicode_utf8_acceptRanges), ("unicode/utf8.first", laid_unicode_utf8_first)] }
def FnExactOtherDotsSaid : Prop := fnExactOtherDotsRow.holds Tryd.pinned (OpenSpec.ofChange fnExactOtherDotsSpec)

/-- ITS FALSE NEIGHBOUR: 'it returns false'. Refute it at one input. -/
def fnExactOtherDotsWrong : ChangeSpec := { name := "fnExactOtherDots", fn := fun _ => fun
  | [d] => { results := [.lit (.bool false)], args := [d] }
  | _ => none }
def FnExactOtherDotsWrongFalsely : Prop := fnExactOtherDotsRow.holds Tryd.pinned (OpenSpec.ofChange fnExactOtherDotsWrong)

/-- 'laws.FnExactPiecesOfPicture': WHATEVER THE INPUT: true; the input reads as it did. -/
def fnExactPiecesOfPictureSpec : ChangeSpec := { name := "fnExactPiecesOfPicture", fn := fun _ => fun
  | [d] => { results := [.lit (.bool true)], args := [d] }
  | _ => none }
def fnExactPiecesOfPictureRow : OpenClaim := { program := "ytbcgidgjdedkiaadoor", sum := "5718eb037f010378aa7d7b45871859546087617cfa11263242725d00a3575658", func := "loop.example/g01250/laws.FnExactPiecesOfPicture", spec := "fnExactPiecesOfPicture", inPlace := ["internal/bytealg.CountString", "internal/bytealg.IndexByteString", "internal/bytealg.IndexString", "internal/abi.NoEscape"], named := ["unicode/utf8.first", "unicode/utf8.acceptRanges", "internal/bytealg.MaxLen"], plainKeys := false, apart := false, laid := [("unicode/utf8.acceptRanges", laid_unicode_utf8_acceptRanges), ("unicode/utf8.first", laid_unicode_utf8_first)] }
def FnExactPiecesOfPictureSaid : Prop := fnExactPiecesOfPictureRow.holds Tryd.pinned (OpenSpec.ofChange fnExactPiecesOfPictureSpec)

/-- ITS FALSE NEIGHBOUR: 'it returns false'. Refute it at one input. -/
def fnExactPiecesOfPictureWrong : ChangeSpec := { name := "fnExactPiecesOfPicture", fn := fun _ => fun
  | [d] => { results := [.lit (.bool false)], args := [d] }
  | _ => none }
def FnExactPiecesOfPictureWrongFalsely : Prop := fnExactPiecesOfPictureRow.holds Tryd.pinned (OpenSpec.ofChange fnExactPiecesOfPictureWrong)

/-- 'laws.FnExactBorderDots': WHATEVER THE INPUT: true; the input reads as it did. -/
def fnExactBorderDotsSpec : ChangeSpec := { name := "fnExactBorderDots", fn := fun _ => fun
  | [d] => { results := [.lit (.bool true)], args := [d] }
  | _ => none }
def fnExactBorderDotsRow : OpenClaim := { program := "ytbcgidgjdedkiaadoor", sum := "5718eb037f010378aa7d7b45871859546087617cfa11263242725d00a3575658", func := "loop.example/g01250/laws.FnExactBorderDots", spec := "fnExactBorderDots", inPlace := ["internal/bytealg.CountString", "internal/bytealg.IndexByteString", "internal/bytealg.IndexString", "internal/abi.NoEscape"], unfollowed := true, recurses := true, named := ["unicode/utf8.first", "unicode/utf8.acceptRanges", "internal/bytealg.MaxLen"], plainKeys := false, apart := false, laid := [("unicode/utf8.acceptRanges", laid_unicode_utf8_acceptRanges), ("unicode/utf8.first", laid_unicode_utf8_first)] }
def FnExactBorderDotsSaid : Prop := fnExactBorderDotsRow.holds Tryd.pinned (OpenSpec.ofChange fnExactBorderDotsSpec)

/-- ITS FALSE NEIGHBOUR: 'it returns false'. Refute it at one input. -/
def fnExactBorderDotsWrong : ChangeSpec := { name := "fnExactBorderDots", fn := fun _ => fun
  | [d] => { results := [.lit (.bool false)], args := [d] }
  | _ => none }
def FnExactBorderDotsWrongFalsely : Prop := fnExactBorderDotsRow.holds Tryd.pinned (OpenSpec.ofChange fnExactBorderDotsWrong)

/-- 'laws.FnExactTakeBorder': WHATEVER THE INPUT: true; the input reads as it did. -/
def fnExactTakeBorderSpec : ChangeSpec := { name := "fnExactTakeBorder", fn := fun _ => fun
  | [d] => { results := [.lit (.bool true)], args := [d] }
  | _ => none }
def fnExactTakeBorderRow : OpenClaim := { program := "ytbcgidgjdedkiaadoor", sum := "5718eb037f010378aa7d7b45871859546087617cfa11263242725d00a3575658", func := "loop.example/g01250/laws.FnExactTakeBorder", spec := "fnExactTakeBorder", inPlace := ["internal/bytealg.CountString", "internal/bytealg.IndexByteString", "internal/bytealg.IndexString", "internal/abi.NoEscape", "maps.clone"], unfollowed := true, recurses := true, named := ["unicode/utf8.first", "unicode/utf8.acceptRanges", "internal/bytealg.MaxLen"], plainKeys := false, apart := false, laid := [("unicode/utf8.acceptRanges", laid_unicode_utf8_acceptRanges), ("unicode/utf8.first", laid_unicode_utf8_first)] }
def FnExactTakeBorderSaid : Prop := fnExactTakeBorderRow.holds Tryd.pinned (OpenSpec.ofChange fnExactTakeBorderSpec)

/-- ITS FALSE NEIGHBOUR: 'it returns false'. Refute it at one input. -/
def fnExactTakeBorderWrong : ChangeSpec := { name := "fnExactTakeBorder", fn := fun _ => fun
  | [d] => { results := [.lit (.bool false)], args := [d] }
  | _ => none }
def FnExactTakeBorderWrongFalsely : Prop := fnExactTakeBorderRow.holds Tryd.pinned (OpenSpec.ofChange fnExactTakeBorderWrong)

/-- 'laws.FnExactLayersOfPicture': WHATEVER THE INPUT: true; the input reads as it did. -/
def fnExactLayersOfPictureSpec : ChangeSpec := { name := "fnExactLayersOfPicture", fn := fun _ => fun
  | [d] => { results := [.lit (.bool true)], args := [d] }
  | _ => none }
def fnExactLayersOfPictureRow : OpenClaim := { program := "ytbcgidgjdedkiaadoor", sum := "5718eb037f010378aa7d7b45871859546087617cfa11263242725d00a3575658", func := "loop.example/g01250/laws.FnExactLayersOfPicture", spec := "fnExactLayersOfPicture", inPlace := ["internal/bytealg.CountString", "internal/bytealg.IndexByteString", "internal/bytealg.IndexString"], named := ["unicode/utf8.first", "unicode/utf8.acceptRanges", "internal/bytealg.MaxLen"], plainKeys := false, apart := false, laid := [("unicode/utf8.acceptRanges", laid_unicode_utf8_acceptRanges), ("unicode/utf8.first", laid_unicode_utf8_first)] }
def FnExactLayersOfPictureSaid : Prop := fnExactLayersOfPictureRow.holds Tryd.pinned (OpenSpec.ofChange fnExactLayersOfPictureSpec)

/-- ITS FALSE NEIGHBOUR: 'it returns false'. Refute it at one input. -/
def fnExactLayersOfPictureWrong : ChangeSpec := { name := "fnExactLayersOfPicture", fn := fun _ => fun
  | [d] => { results := [.lit (.bool false)], args := [d] }
  | _ => none }
def FnExactLayersOfPictureWrongFalsely : Prop := fnExactLayersOfPictureRow.holds Tryd.pinned (OpenSpec.ofChange fnExactLayersOfPictureWrong)

/- THE SECOND FORM. 'bulk': how many values and letters a reading holds, each counted each time it is reached (what is shared counts as often as it is met; a slice's spare places count too). A statement '..UptoSaid' is the law's where the arguments, and the package variables that the reading takes, are together of bulk at most 1048576: NARROWER than '..Said'. Prove '..Said' where nothing that the law and all that it calls make is longer than what came in: it says more and counts as full. Else prove '..UptoSaid'. A law counts once. -/
mutual
def uptoBulk {H : Type} : DataW H → Nat
  | .lit (.string bytes) => bytes.length + 1
  | .lit _ => 1
  | .nil => 1
  | .ptr d => uptoBulk d + 1
  | .slice elems spare => uptoBulkAll elems + uptoBulkAll spare + 1
  | .agg parts => uptoBulkAll parts + 1
  | .iface _ d => uptoBulk d + 1
  | .map entries => uptoBulkEntries entries + 1
  | .held _ => 1
def uptoBulkAll {H : Type} : List (DataW H) → Nat
  | [] => 0
  | d :: r => uptoBulk d + uptoBulkAll r
def uptoBulkEntries {H : Type} : List (Lit × DataW H) → Nat
  | [] => 0
  | x :: r => uptoBulkEntry x + uptoBulkEntries r
def uptoBulkEntry {H : Type} : Lit × DataW H → Nat
  | (.string bytes, d) => bytes.length + uptoBulk d + 1
  | (_, d) => uptoBulk d + 1
 end
def uptoSmall : (H : Type) → List (DataW H) → Bool := fun _ ds => decide (uptoBulkAll ds ≤ 1048576)
def OpenSpec.upto (s : _root_.Go.ChangeSpec) : _root_.Go.OpenSpec := { _root_.Go.OpenSpec.ofChange s with cond := some uptoSmall }

/-- 'laws.FnExactIsPicture', WHERE WHAT IT READS IS OF BULK AT MOST 1048576: true; the input reads as it did. -/
def fnExactIsPictureUptoRow : OpenClaim := { program := "ytbcgidgjdedkiaadoor", sum := "5718eb037f010378aa7d7b45871859546087617cfa11263242725d00a3575658", func := "loop.example/g01250/laws.FnExactIsPicture", spec := "fnExactIsPicture", inPlace := ["internal/bytealg.CountString", "internal/bytealg.IndexByteString", "internal/bytealg.IndexString"], named := ["unicode/utf8.first", "unicode/utf8.acceptRanges", "internal/bytealg.MaxLen"], plainKeys := false, apart := false, laid := [("unicode/utf8.acceptRanges", laid_unicode_utf8_acceptRanges), ("unicode/utf8.first", laid_unicode_utf8_first)], narrowed := true }
def FnExactIsPictureUptoSaid : Prop := fnExactIsPictureUptoRow.holds Tryd.pinned (OpenSpec.upto fnExactIsPictureSpec)

/-- 'laws.FnExactCountDots', WHERE WHAT IT READS IS OF BULK AT MOST 1048576: true; the input reads as it did. -/
def fnExactCountDotsUptoRow : OpenClaim := { program := "ytbcgidgjdedkiaadoor", sum := "5718eb037f010378aa7d7b45871859546087617cfa11263242725d00a3575658", func := "loop.example/g01250/laws.FnExactCountDots", spec := "fnExactCountDots", inPlace := ["internal/bytealg.CountString", "internal/bytealg.IndexByteString", "internal/bytealg.IndexString"], named := ["unicode/utf8.first", "unicode/utf8.acceptRanges", "internal/bytealg.MaxLen"], plainKeys := false, apart := false, laid := [("unicode/utf8.acceptRanges", laid_unicode_utf8_acceptRanges), ("unicode/utf8.first", laid_unicode_utf8_first)], narrowed := true }
def FnExactCountDotsUptoSaid : Prop := fnExactCountDotsUptoRow.holds Tryd.pinned (OpenSpec.upto fnExactCountDotsSpec)

/-- 'laws.FnExactSizeOfPicture', WHERE WHAT IT READS IS OF BULK AT MOST 1048576: true; the input reads as it did. -/
def fnExactSizeOfPictureUptoRow : OpenClaim := { program := "ytbcgidgjdedkiaadoor", sum := "5718eb037f010378aa7d7b45871859546087617cfa11263242725d00a3575658", func := "loop.example/g01250/laws.FnExactSizeOfPicture", spec := "fnExactSizeOfPicture", inPlace := ["internal/bytealg.CountString", "internal/bytealg.IndexByteString", "internal/bytealg.IndexString"], named := ["unicode/utf8.first", "unicode/utf8.acceptRanges", "internal/bytealg.MaxLen"], plainKeys := false, apart := false, laid := [("unicode/utf8.acceptRanges", laid_unicode_utf8_acceptRanges), ("unicode/utf8.first", laid_unicode_utf8_first)], narrowed := true }
def FnExactSizeOfPictureUptoSaid : Prop := fnExactSizeOfPictureUptoRow.holds Tryd.pinned (OpenSpec.upto fnExactSizeOfPictureSpec)

/-- 'laws.FnExactTurnPicture', WHERE WHAT IT READS IS OF BULK AT MOST 1048576: true; the input reads as it did. -/
def fnExactTurnPictureUptoRow : OpenClaim := { program := "ytbcgidgjdedkiaadoor", sum := "5718eb037f010378aa7d7b45871859546087617cfa11263242725d00a3575658", func := "loop.example/g01250/laws.FnExactTurnPicture", spec := "fnExactTurnPicture", inPlace := ["internal/bytealg.CountString", "internal/bytealg.IndexByteString", "internal/bytealg.IndexString", "internal/abi.NoEscape"], unfollowed := true, recurses := true, named := ["unicode/utf8.first", "unicode/utf8.acceptRanges", "internal/bytealg.MaxLen"], plainKeys := false, apart := false, laid := [("unicode/utf8.acceptRanges", laid_unicode_utf8_acceptRanges), ("unicode/utf8.first", laid_unicode_utf8_first)], narrowed := true }
def FnExactTurnPictureUptoSaid : Prop := fnExactTurnPictureUptoRow.holds Tryd.pinned (OpenSpec.upto fnExactTurnPictureSpec)

/-- 'laws.FnExactMirrorPicture', WHERE WHAT IT READS IS OF BULK AT MOST 1048576: true; the input reads as it did. -/
def fnExactMirrorPictureUptoRow : OpenClaim := { program := "ytbcgidgjdedkiaadoor", sum := "5718eb037f010378aa7d7b45871859546087617cfa11263242725d00a3575658", func := "loop.example/g01250/laws.FnExactMirrorPicture", spec := "fnExactMirrorPicture", inPlace := ["internal/bytealg.CountString", "internal/bytealg.IndexByteString", "internal/bytealg.IndexString", "internal/abi.NoEscape"], unfollowed := true, recurses := true, named := ["unicode/utf8.first", "unicode/utf8.acceptRanges", "internal/bytealg.MaxLen"], plainKeys := false, apart := false, laid := [("unicode/utf8.acceptRanges", laid_unicode_utf8_acceptRanges), ("unicode/utf8.first", laid_unicode_utf8_first)], narrowed := true }
def FnExactMirrorPictureUptoSaid : Prop := fnExactMirrorPictureUptoRow.holds Tryd.pinned (OpenSpec.upto fnExactMirrorPictureSpec)

/-- 'laws.FnExactBesidePicture', WHERE WHAT IT READS IS OF BULK AT MOST 1048576: true; the input reads as it did. -/
def fnExactBesidePictureUptoRow : OpenClaim := { program := "ytbcgidgjdedkiaadoor", sum := "5718eb037f010378aa7d7b45871859546087617cfa11263242725d00a3575658", func := "loop.example/g01250/laws.FnExactBesidePicture", spec := "fnExactBesidePicture", inPlace := ["internal/bytealg.CountString", "internal/bytealg.IndexByteString", "internal/bytealg.IndexString", "internal/abi.NoEscape"], unfollowed := true, recurses := true, named := ["unicode/utf8.first", "unicode/utf8.acceptRanges", "internal/bytealg.MaxLen"], plainKeys := false, apart := false, laid := [("unicode/utf8.acceptRanges", laid_unicode_utf8_acceptRanges), ("unicode/utf8.first", laid_unicode_utf8_first)], narrowed := true }
def FnExactBesidePictureUptoSaid : Prop := fnExactBesidePictureUptoRow.holds Tryd.pinned (OpenSpec.upto fnExactBesidePictureSpec)

/-- 'laws.FnExactBelowPicture', WHERE WHAT IT READS IS OF BULK AT MOST 1048576: true; the input reads as it did. -/
def fnExactBelowPictureUptoRow : OpenClaim := { program := "ytbcgidgjdedkiaadoor", sum := "5718eb037f010378aa7d7b45871859546087617cfa11263242725d00a3575658", func := "loop.example/g01250/laws.FnExactBelowPicture", spec := "fnExactBelowPicture", inPlace := ["internal/bytealg.CountString", "internal/bytealg.IndexByteString", "internal/bytealg.IndexString", "internal/abi.NoEscape"], unfollowed := true, recurses := true, named := ["unicode/utf8.first", "unicode/utf8.acceptRanges", "internal/bytealg.MaxLen"], plainKeys := false, apart := false, laid := [("unicode/utf8.acceptRanges", laid_unicode_utf8_acceptRanges), ("unicode/utf8.first", laid_unicode_utf8_first)], narrowed := true }
def FnExactBelowPictureUptoSaid : Prop := fnExactBelowPictureUptoRow.holds Tryd.pinned (OpenSpec.upto fnExactBelowPictureSpec)

/-- 'laws.FnExactOtherDots', WHERE WHAT IT READS IS OF BULK AT MOST 1048576: true; the input reads as it did. -/
def fnExactOtherDotsUptoRow : OpenClaim := { program := "ytbcgidgjdedkiaadoor", sum := "5718eb037f010378aa7d7b45871859546087617cfa11263242725d00a3575658", func := "loop.example/g01250/laws.FnExactOtherDots", spec := "fnExactOtherDots", inPlace := ["internal/bytealg.CountString", "internal/bytealg.IndexByteString", "internal/bytealg.IndexString", "internal/abi.NoEscape"], unfollowed := true, recurses := true, named := ["unicode/utf8.first", "unicode/utf8.acceptRanges", "internal/bytealg.MaxLen"], plainKeys := false, apart := false, laid := [("unicode/utf8.acceptRanges", laid_unicode_utf8_acceptRanges), ("unicode/utf8.first", laid_unicode_utf8_first)], narrowed := true }
def FnExactOtherDotsUptoSaid : Prop := fnExactOtherDotsUptoRow.holds Tryd.pinned (OpenSpec.upto fnExactOtherDotsSpec)

/-- 'laws.FnExactPiecesOfPicture', WHERE WHAT IT READS IS OF BULK AT MOST 1048576: true; the input reads as it did. -/
def fnExactPiecesOfPictureUptoRow : OpenClaim := { program := "ytbcgidgjdedkiaadoor", sum := "5718eb037f010378aa7d7b45871859546087617cfa11263242725d00a3575658", func := "loop.example/g01250/laws.FnExactPiecesOfPicture", spec := "fnExactPiecesOfPicture", inPlace := ["internal/bytealg.CountString", "internal/bytealg.IndexByteString", "internal/bytealg.IndexString", "internal/abi.NoEscape"], named := ["unicode/utf8.first", "unicode/utf8.acceptRanges", "internal/bytealg.MaxLen"], plainKeys := false, apart := false, laid := [("unicode/utf8.acceptRanges", laid_unicode_utf8_acceptRanges), ("unicode/utf8.first", laid_unicode_utf8_first)], narrowed := true }
def FnExactPiecesOfPictureUptoSaid : Prop := fnExactPiecesOfPictureUptoRow.holds Tryd.pinned (OpenSpec.upto fnExactPiecesOfPictureSpec)

/-- 'laws.FnExactBorderDots', WHERE WHAT IT READS IS OF BULK AT MOST 1048576: true; the input reads as it did. -/
def fnExactBorderDotsUptoRow : OpenClaim := { program := "ytbcgidgjdedkiaadoor", sum := "5718eb037f010378aa7d7b45871859546087617cfa11263242725d00a3575658", func := "loop.example/g01250/laws.FnExactBorderDots", spec := "fnExactBorderDots", inPlace := ["internal/bytealg.CountString", "internal/bytealg.IndexByteString", "internal/bytealg.IndexString", "internal/abi.NoEscape"], unfollowed := true, recurses := true, named := ["unicode/utf8.first", "unicode/utf8.acceptRanges", "internal/bytealg.MaxLen"], plainKeys := false, apart := false, laid := [("unicode/utf8.acceptRanges", laid_unicode_utf8_acceptRanges), ("unicode/utf8.first", laid_unicode_utf8_first)], narrowed := true }
def FnExactBorderDotsUptoSaid : Prop := fnExactBorderDotsUptoRow.holds Tryd.pinned (OpenSpec.upto fnExactBorderDotsSpec)

/-- 'laws.FnExactTakeBorder', WHERE WHAT IT READS IS OF BULK AT MOST 1048576: true; the input reads as it did. -/
def fnExactTakeBorderUptoRow : OpenClaim := { program := "ytbcgidgjdedkiaadoor", sum := "5718eb037f010378aa7d7b45871859546087617cfa11263242725d00a3575658", func := "loop.example/g01250/laws.FnExactTakeBorder", spec := "fnExactTakeBorder", inPlace := ["internal/bytealg.CountString", "internal/bytealg.IndexByteString", "internal/bytealg.IndexString", "internal/abi.NoEscape", "maps.clone"], unfollowed := true, recurses := true, named := ["unicode/utf8.first", "unicode/utf8.acceptRanges", "internal/bytealg.MaxLen"], plainKeys := false, apart := false, laid := [("unicode/utf8.acceptRanges", laid_unicode_utf8_acceptRanges), ("unicode/utf8.first", laid_unicode_utf8_first)], narrowed := true }
def FnExactTakeBorderUptoSaid : Prop := fnExactTakeBorderUptoRow.holds Tryd.pinned (OpenSpec.upto fnExactTakeBorderSpec)

/-- 'laws.FnExactLayersOfPicture', WHERE WHAT IT READS IS OF BULK AT MOST 1048576: true; the input reads as it did. -/
def fnExactLayersOfPictureUptoRow : OpenClaim := { program := "ytbcgidgjdedkiaadoor", sum := "5718eb037f010378aa7d7b45871859546087617cfa11263242725d00a3575658", func := "loop.example/g01250/laws.FnExactLayersOfPicture", spec := "fnExactLayersOfPicture", inPlace := ["internal/bytealg.CountString", "internal/bytealg.IndexByteString", "internal/bytealg.IndexString"], named := ["unicode/utf8.first", "unicode/utf8.acceptRanges", "internal/bytealg.MaxLen"], plainKeys := false, apart := false, laid := [("unicode/utf8.acceptRanges", laid_unicode_utf8_acceptRanges), ("unicode/utf8.first", laid_unicode_utf8_first)], narrowed := true }
def FnExactLayersOfPictureUptoSaid : Prop := fnExactLayersOfPictureUptoRow.holds Tryd.pinned (OpenSpec.upto fnExactLayersOfPictureSpec)

end Rows
end Go.Proofs.YtbcgidgjdedkiaaDoor
