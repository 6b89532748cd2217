/-
  No cell of these rows narrows 'for every input' (looked for: loops, veiled, ifaces, maps, wideKeys, modest, calm, conditions, laid).
  DERIVED. THE GIVEN ROWS OF THIS SEAT. 16 by the template 'for every input the law returns true; each argument reads behind the call as it read before'; 0 by the template 'total and deterministic' (their statements: YtmjgjdebcmbjeaaTotals.lean).
  GIVEN WITH THE SEED: the statements are not yours to turn. If you find one false, say at which input.
  Laid BY PROGRAM, IN A SANDBOX (cutbox-rows.mjs): the forced cells as the released guide's own fill.sh prints them over the translation 91bcd254b0021773… (all of the seat's roots in one cut). By AI agents, Wed Nov 11 2026. No macro, syntax, notation, axiom, sorry.
-/
import Derived.Test.YtmjgjdebcmbjeaaChecked
import GoSem.Claim
import GoSem.ClaimJoined
import GoSem.ClaimMapViews
import Derived.JoinedTies
import Derived.KernelRfl
namespace Go.Proofs.Ytmjgjdebcmbjeaa
/- THE CELL 'sum', in the pinned program and in every row, IS THE sha256 OF THE DUMP (.gsa) THAT YtmjgjdebcmbjeaaProg.lean LOADS. Nothing in Lean hashes anything: it is a label: what it is worth is what the hold of that sum in a sandbox is worth. -/
noncomputable def Try.pinned : Pinned := { name := "ytmjgjdebcmbjeaa", sum := "91bcd254b002177335f51c75e08c7ce1abebfda8a8cdf59465a2d43d47c9727d", checked := Try.checked }
namespace Rows
def none {H : Type} : Left H := { results := [], args := [] }

/-- 'laws.FnExactDifferencesOf': WHATEVER THE INPUT: true; the input reads as it did. -/
def fnExactDifferencesOfSpec : ChangeSpec := { name := "fnExactDifferencesOf", fn := fun _ => fun
  | [d] => { results := [.lit (.bool true)], args := [d] }
  | _ => none }
def fnExactDifferencesOfRow : OpenClaim := { program := "ytmjgjdebcmbjeaa", sum := "91bcd254b002177335f51c75e08c7ce1abebfda8a8cdf59465a2d43d47c9727d", func := "loop.example/g01250/laws.FnExactDifferencesOf", spec := "fnExactDifferencesOf", inPlace := ["math/bits.Sub64"], unfollowed := true, recurses := true, apart := false }
def FnExactDifferencesOfSaid : Prop := fnExactDifferencesOfRow.holds Try.pinned (OpenSpec.ofChange fnExactDifferencesOfSpec)

/-- ITS FALSE NEIGHBOUR: 'it returns false'. Refute it at one input. -/
def fnExactDifferencesOfWrong : ChangeSpec := { name := "fnExactDifferencesOf", fn := fun _ => fun
  | [d] => { results := [.lit (.bool false)], args := [d] }
  | _ => none }
def FnExactDifferencesOfWrongFalsely : Prop := fnExactDifferencesOfRow.holds Try.pinned (OpenSpec.ofChange fnExactDifferencesOfWrong)

/-- 'laws.FnExactDifferenceTable': WHATEVER THE INPUT: true; the input reads as it did. -/
def fnExactDifferenceTableSpec : ChangeSpec := { name := "fnExactDifferenceTable", fn := fun _ => fun
  | [d] => { results := [.lit (.bool true)], args := [d] }
  | _ => none }
def fnExactDifferenceTableRow : OpenClaim := { program := "ytmjgjdebcmbjeaa", sum := "91bcd254b002177335f51c75e08c7ce1abebfda8a8cdf59465a2d43d47c9727d", func := "loop.example/g01250/laws.FnExactDifferenceTable", spec := "fnExactDifferenceTable", inPlace := ["math/bits.Sub64"], unfollowed := true, recurses := true, apart := false }
def FnExactDifferenceTableSaid : Prop := fnExactDifferenceTableRow.holds Try.pinned (OpenSpec.ofChange fnExactDifferenceTableSpec)

/-- ITS FALSE NEIGHBOUR: 'it returns false'. Refute it at one input. -/
def fnExactDifferenceTableWrong : ChangeSpec := { name := "fnExactDifferenceTable", fn := fun _ => fun
  | [d] => { results := [.lit (.bool false)], args := [d] }
  | _ => none }
def FnExactDifferenceTableWrongFalsely : Prop := fnExactDifferenceTableRow.holds Try.pinned (OpenSpec.ofChange fnExactDifferenceTableWrong)

/-- 'laws.FnExactDegreeOf': WHATEVER THE INPUT: true; the input reads as it did. -/
def fnExactDegreeOfSpec : ChangeSpec := { name := "fnExactDegreeOf", fn := fun _ => fun
  | [d] => { results := [.lit (.bool true)], args := [d] }
  | _ => none }
def fnExactDegreeOfRow : OpenClaim := { program := "ytmjgjdebcmbjeaa", sum := "91bcd254b002177335f51c75e08c7ce1abebfda8a8cdf59465a2d43d47c9727d", func := "loop.example/g01250/laws.FnExactDegreeOf", spec := "fnExactDegreeOf", inPlace := ["math/bits.Sub64"], unfollowed := true, recurses := true, apart := false }
def FnExactDegreeOfSaid : Prop := fnExactDegreeOfRow.holds Try.pinned (OpenSpec.ofChange fnExactDegreeOfSpec)

/-- ITS FALSE NEIGHBOUR: 'it returns false'. Refute it at one input. -/
def fnExactDegreeOfWrong : ChangeSpec := { name := "fnExactDegreeOf", fn := fun _ => fun
  | [d] => { results := [.lit (.bool false)], args := [d] }
  | _ => none }
def FnExactDegreeOfWrongFalsely : Prop := fnExactDegreeOfRow.holds Try.pinned (OpenSpec.ofChange fnExactDegreeOfWrong)

/-- 'laws.FnExactFormOf': WHATEVER THE INPUT: true; the input reads as it did. -/
def fnExactFormOfSpec : ChangeSpec := { name := "fnExactFormOf", fn := fun _ => fun
  | [d] => { results := [.lit (.bool true)], args := [d] }
  | _ => none }
def fnExactFormOfRow : OpenClaim := { program := "ytmjgjdebcmbjeaa", sum := "91bcd254b002177335f51c75e08c7ce1abebfda8a8cdf59465a2d43d47c9727d", func := "loop.example/g01250/laws.FnExactFormOf", spec := "fnExactFormOf", inPlace := ["math/bits.Sub64"], unfollowed := true, recurses := true, apart := false }
def FnExactFormOfSaid : Prop := fnExactFormOfRow.holds Try.pinned (OpenSpec.ofChange fnExactFormOfSpec)

/-- ITS FALSE NEIGHBOUR: 'it returns false'. Refute it at one input. -/
def fnExactFormOfWrong : ChangeSpec := { name := "fnExactFormOf", fn := fun _ => fun
  | [d] => { results := [.lit (.bool false)], args := [d] }
  | _ => none }
def FnExactFormOfWrongFalsely : Prop := fnExactFormOfRow.holds Try.pinned (OpenSpec.ofChange fnExactFormOfWrong)

/-- 'laws.FnExactValueOf': WHATEVER THE INPUT: true; the input reads as it did. -/
def fnExactValueOfSpec : ChangeSpec := { name := "fnExactValueOf", fn := fun _ => fun
  | [d1, d2] => { results := [.lit (.bool true)], args := [d1, d2] }
  | _ => none }
def fnExactValueOfRow : OpenClaim := { program := "ytmjgjdebcmbjeaa", sum := "91bcd254b002177335f51c75e08c7ce1abebfda8a8cdf59465a2d43d47c9727d", func := "loop.example/g01250/laws.FnExactValueOf", spec := "fnExactValueOf", inPlace := ["math/bits.Add64"], unfollowed := true, recurses := true, apart := false }
def FnExactValueOfSaid : Prop := fnExactValueOfRow.holds Try.pinned (OpenSpec.ofChange fnExactValueOfSpec)

/-- ITS FALSE NEIGHBOUR: 'it returns false'. Refute it at one input. -/
def fnExactValueOfWrong : ChangeSpec := { name := "fnExactValueOf", fn := fun _ => fun
  | [d1, d2] => { results := [.lit (.bool false)], args := [d1, d2] }
  | _ => none }
def FnExactValueOfWrongFalsely : Prop := fnExactValueOfRow.holds Try.pinned (OpenSpec.ofChange fnExactValueOfWrong)

/-- 'laws.FnExactListOfForm': WHATEVER THE INPUT: true; the input reads as it did. -/
def fnExactListOfFormSpec : ChangeSpec := { name := "fnExactListOfForm", fn := fun _ => fun
  | [d1, d2] => { results := [.lit (.bool true)], args := [d1, d2] }
  | _ => none }
def fnExactListOfFormRow : OpenClaim := { program := "ytmjgjdebcmbjeaa", sum := "91bcd254b002177335f51c75e08c7ce1abebfda8a8cdf59465a2d43d47c9727d", func := "loop.example/g01250/laws.FnExactListOfForm", spec := "fnExactListOfForm", inPlace := ["math/bits.Add64"], unfollowed := true, recurses := true, apart := false }
def FnExactListOfFormSaid : Prop := fnExactListOfFormRow.holds Try.pinned (OpenSpec.ofChange fnExactListOfFormSpec)

/-- ITS FALSE NEIGHBOUR: 'it returns false'. Refute it at one input. -/
def fnExactListOfFormWrong : ChangeSpec := { name := "fnExactListOfForm", fn := fun _ => fun
  | [d1, d2] => { results := [.lit (.bool false)], args := [d1, d2] }
  | _ => none }
def FnExactListOfFormWrongFalsely : Prop := fnExactListOfFormRow.holds Try.pinned (OpenSpec.ofChange fnExactListOfFormWrong)

/-- 'laws.FnExactGoOn': WHATEVER THE INPUT: true; the input reads as it did. -/
def fnExactGoOnSpec : ChangeSpec := { name := "fnExactGoOn", fn := fun _ => fun
  | [d1, d2] => { results := [.lit (.bool true)], args := [d1, d2] }
  | _ => none }
def fnExactGoOnRow : OpenClaim := { program := "ytmjgjdebcmbjeaa", sum := "91bcd254b002177335f51c75e08c7ce1abebfda8a8cdf59465a2d43d47c9727d", func := "loop.example/g01250/laws.FnExactGoOn", spec := "fnExactGoOn", inPlace := ["math/bits.Sub64", "math/bits.Add64"], unfollowed := true, recurses := true, apart := false }
def FnExactGoOnSaid : Prop := fnExactGoOnRow.holds Try.pinned (OpenSpec.ofChange fnExactGoOnSpec)

/-- ITS FALSE NEIGHBOUR: 'it returns false'. Refute it at one input. -/
def fnExactGoOnWrong : ChangeSpec := { name := "fnExactGoOn", fn := fun _ => fun
  | [d1, d2] => { results := [.lit (.bool false)], args := [d1, d2] }
  | _ => none }
def FnExactGoOnWrongFalsely : Prop := fnExactGoOnRow.holds Try.pinned (OpenSpec.ofChange fnExactGoOnWrong)

/-- 'laws.FnExactSumsFrom': WHATEVER THE INPUT: true; the input reads as it did. -/
def fnExactSumsFromSpec : ChangeSpec := { name := "fnExactSumsFrom", fn := fun _ => fun
  | [d1, d2] => { results := [.lit (.bool true)], args := [d1, d2] }
  | _ => none }
def fnExactSumsFromRow : OpenClaim := { program := "ytmjgjdebcmbjeaa", sum := "91bcd254b002177335f51c75e08c7ce1abebfda8a8cdf59465a2d43d47c9727d", func := "loop.example/g01250/laws.FnExactSumsFrom", spec := "fnExactSumsFrom", inPlace := ["math/bits.Add64"], unfollowed := true, recurses := true, apart := false }
def FnExactSumsFromSaid : Prop := fnExactSumsFromRow.holds Try.pinned (OpenSpec.ofChange fnExactSumsFromSpec)

/-- ITS FALSE NEIGHBOUR: 'it returns false'. Refute it at one input. -/
def fnExactSumsFromWrong : ChangeSpec := { name := "fnExactSumsFrom", fn := fun _ => fun
  | [d1, d2] => { results := [.lit (.bool false)], args := [d1, d2] }
  | _ => none }
def FnExactSumsFromWrongFalsely : Prop := fnExactSumsFromRow.holds Try.pinned (OpenSpec.ofChange fnExactSumsFromWrong)

/-- 'laws.FnExactFormOfSums': WHATEVER THE INPUT: true; the input reads as it did. -/
def fnExactFormOfSumsSpec : ChangeSpec := { name := "fnExactFormOfSums", fn := fun _ => fun
  | [d] => { results := [.lit (.bool true)], args := [d] }
  | _ => none }
def fnExactFormOfSumsRow : OpenClaim := { program := "ytmjgjdebcmbjeaa", sum := "91bcd254b002177335f51c75e08c7ce1abebfda8a8cdf59465a2d43d47c9727d", func := "loop.example/g01250/laws.FnExactFormOfSums", spec := "fnExactFormOfSums", unfollowed := true, recurses := true, apart := false }
def FnExactFormOfSumsSaid : Prop := fnExactFormOfSumsRow.holds Try.pinned (OpenSpec.ofChange fnExactFormOfSumsSpec)

/-- ITS FALSE NEIGHBOUR: 'it returns false'. Refute it at one input. -/
def fnExactFormOfSumsWrong : ChangeSpec := { name := "fnExactFormOfSums", fn := fun _ => fun
  | [d] => { results := [.lit (.bool false)], args := [d] }
  | _ => none }
def FnExactFormOfSumsWrongFalsely : Prop := fnExactFormOfSumsRow.holds Try.pinned (OpenSpec.ofChange fnExactFormOfSumsWrong)

/-- 'laws.FnExactFormBehind': WHATEVER THE INPUT: true; the input reads as it did. -/
def fnExactFormBehindSpec : ChangeSpec := { name := "fnExactFormBehind", fn := fun _ => fun
  | [d] => { results := [.lit (.bool true)], args := [d] }
  | _ => none }
def fnExactFormBehindRow : OpenClaim := { program := "ytmjgjdebcmbjeaa", sum := "91bcd254b002177335f51c75e08c7ce1abebfda8a8cdf59465a2d43d47c9727d", func := "loop.example/g01250/laws.FnExactFormBehind", spec := "fnExactFormBehind", inPlace := ["math/bits.Add64"], unfollowed := true, recurses := true, apart := false }
def FnExactFormBehindSaid : Prop := fnExactFormBehindRow.holds Try.pinned (OpenSpec.ofChange fnExactFormBehindSpec)

/-- ITS FALSE NEIGHBOUR: 'it returns false'. Refute it at one input. -/
def fnExactFormBehindWrong : ChangeSpec := { name := "fnExactFormBehind", fn := fun _ => fun
  | [d] => { results := [.lit (.bool false)], args := [d] }
  | _ => none }
def FnExactFormBehindWrongFalsely : Prop := fnExactFormBehindRow.holds Try.pinned (OpenSpec.ofChange fnExactFormBehindWrong)

/-- 'laws.FnExactTransformOf': WHATEVER THE INPUT: true; the input reads as it did. -/
def fnExactTransformOfSpec : ChangeSpec := { name := "fnExactTransformOf", fn := fun _ => fun
  | [d] => { results := [.lit (.bool true)], args := [d] }
  | _ => none }
def fnExactTransformOfRow : OpenClaim := { program := "ytmjgjdebcmbjeaa", sum := "91bcd254b002177335f51c75e08c7ce1abebfda8a8cdf59465a2d43d47c9727d", func := "loop.example/g01250/laws.FnExactTransformOf", spec := "fnExactTransformOf", inPlace := ["math/bits.Add64"], unfollowed := true, recurses := true, apart := false }
def FnExactTransformOfSaid : Prop := fnExactTransformOfRow.holds Try.pinned (OpenSpec.ofChange fnExactTransformOfSpec)

/-- ITS FALSE NEIGHBOUR: 'it returns false'. Refute it at one input. -/
def fnExactTransformOfWrong : ChangeSpec := { name := "fnExactTransformOf", fn := fun _ => fun
  | [d] => { results := [.lit (.bool false)], args := [d] }
  | _ => none }
def FnExactTransformOfWrongFalsely : Prop := fnExactTransformOfRow.holds Try.pinned (OpenSpec.ofChange fnExactTransformOfWrong)

/-- 'laws.FnExactUndoTransform': WHATEVER THE INPUT: true; the input reads as it did. -/
def fnExactUndoTransformSpec : ChangeSpec := { name := "fnExactUndoTransform", fn := fun _ => fun
  | [d] => { results := [.lit (.bool true)], args := [d] }
  | _ => none }
def fnExactUndoTransformRow : OpenClaim := { program := "ytmjgjdebcmbjeaa", sum := "91bcd254b002177335f51c75e08c7ce1abebfda8a8cdf59465a2d43d47c9727d", func := "loop.example/g01250/laws.FnExactUndoTransform", spec := "fnExactUndoTransform", inPlace := ["math/bits.Sub64"], unfollowed := true, recurses := true, apart := false }
def FnExactUndoTransformSaid : Prop := fnExactUndoTransformRow.holds Try.pinned (OpenSpec.ofChange fnExactUndoTransformSpec)

/-- ITS FALSE NEIGHBOUR: 'it returns false'. Refute it at one input. -/
def fnExactUndoTransformWrong : ChangeSpec := { name := "fnExactUndoTransform", fn := fun _ => fun
  | [d] => { results := [.lit (.bool false)], args := [d] }
  | _ => none }
def FnExactUndoTransformWrongFalsely : Prop := fnExactUndoTransformRow.holds Try.pinned (OpenSpec.ofChange fnExactUndoTransformWrong)

/-- 'laws.FnExactTimesPlace': WHATEVER THE INPUT: true; the input reads as it did. -/
def fnExactTimesPlaceSpec : ChangeSpec := { name := "fnExactTimesPlace", fn := fun _ => fun
  | [d] => { results := [.lit (.bool true)], args := [d] }
  | _ => none }
def fnExactTimesPlaceRow : OpenClaim := { program := "ytmjgjdebcmbjeaa", sum := "91bcd254b002177335f51c75e08c7ce1abebfda8a8cdf59465a2d43d47c9727d", func := "loop.example/g01250/laws.FnExactTimesPlace", spec := "fnExactTimesPlace", unfollowed := true, recurses := true, apart := false }
def FnExactTimesPlaceSaid : Prop := fnExactTimesPlaceRow.holds Try.pinned (OpenSpec.ofChange fnExactTimesPlaceSpec)

/-- ITS FALSE NEIGHBOUR: 'it returns false'. Refute it at one input. -/
def fnExactTimesPlaceWrong : ChangeSpec := { name := "fnExactTimesPlace", fn := fun _ => fun
  | [d] => { results := [.lit (.bool false)], args := [d] }
  | _ => none }
def FnExactTimesPlaceWrongFalsely : Prop := fnExactTimesPlaceRow.holds Try.pinned (OpenSpec.ofChange fnExactTimesPlaceWrong)

/-- 'laws.FnExactFormOfShape': WHATEVER THE INPUT: true; the input reads as it did. -/
def fnExactFormOfShapeSpec : ChangeSpec := { name := "fnExactFormOfShape", fn := fun _ => fun
  | [d] => { results := [.lit (.bool true)], args := [d] }
  | _ => none }
def fnExactFormOfShapeRow : OpenClaim := { program := "ytmjgjdebcmbjeaa", sum := "91bcd254b002177335f51c75e08c7ce1abebfda8a8cdf59465a2d43d47c9727d", func := "loop.example/g01250/laws.FnExactFormOfShape", spec := "fnExactFormOfShape", apart := false }
def FnExactFormOfShapeSaid : Prop := fnExactFormOfShapeRow.holds Try.pinned (OpenSpec.ofChange fnExactFormOfShapeSpec)

/-- ITS FALSE NEIGHBOUR: 'it returns false'. Refute it at one input. -/
def fnExactFormOfShapeWrong : ChangeSpec := { name := "fnExactFormOfShape", fn := fun _ => fun
  | [d] => { results := [.lit (.bool false)], args := [d] }
  | _ => none }
def FnExactFormOfShapeWrongFalsely : Prop := fnExactFormOfShapeRow.holds Try.pinned (OpenSpec.ofChange fnExactFormOfShapeWrong)

/-- 'laws.FnExactShapeOfList': WHATEVER THE INPUT: true; the input reads as it did. -/
def fnExactShapeOfListSpec : ChangeSpec := { name := "fnExactShapeOfList", fn := fun _ => fun
  | [d] => { results := [.lit (.bool true)], args := [d] }
  | _ => none }
def fnExactShapeOfListRow : OpenClaim := { program := "ytmjgjdebcmbjeaa", sum := "91bcd254b002177335f51c75e08c7ce1abebfda8a8cdf59465a2d43d47c9727d", func := "loop.example/g01250/laws.FnExactShapeOfList", spec := "fnExactShapeOfList", unfollowed := true, recurses := true, apart := false }
def FnExactShapeOfListSaid : Prop := fnExactShapeOfListRow.holds Try.pinned (OpenSpec.ofChange fnExactShapeOfListSpec)

/-- ITS FALSE NEIGHBOUR: 'it returns false'. Refute it at one input. -/
def fnExactShapeOfListWrong : ChangeSpec := { name := "fnExactShapeOfList", fn := fun _ => fun
  | [d] => { results := [.lit (.bool false)], args := [d] }
  | _ => none }
def FnExactShapeOfListWrongFalsely : Prop := fnExactShapeOfListRow.holds Try.pinned (OpenSpec.ofChange fnExactShapeOfListWrong)

/-- 'laws.FnExactChooseOf': WHATEVER THE INPUT: true; the input reads as it did. -/
def fnExactChooseOfSpec : ChangeSpec := { name := "fnExactChooseOf", fn := fun _ => fun
  | [d1, d2] => { results := [.lit (.bool true)], args := [d1, d2] }
  | _ => none }
def fnExactChooseOfRow : OpenClaim := { program := "ytmjgjdebcmbjeaa", sum := "91bcd254b002177335f51c75e08c7ce1abebfda8a8cdf59465a2d43d47c9727d", func := "loop.example/g01250/laws.FnExactChooseOf", spec := "fnExactChooseOf", apart := false }
def FnExactChooseOfSaid : Prop := fnExactChooseOfRow.holds Try.pinned (OpenSpec.ofChange fnExactChooseOfSpec)

/-- ITS FALSE NEIGHBOUR: 'it returns false'. Refute it at one input. -/
def fnExactChooseOfWrong : ChangeSpec := { name := "fnExactChooseOf", fn := fun _ => fun
  | [d1, d2] => { results := [.lit (.bool false)], args := [d1, d2] }
  | _ => none }
def FnExactChooseOfWrongFalsely : Prop := fnExactChooseOfRow.holds Try.pinned (OpenSpec.ofChange fnExactChooseOfWrong)

/- THE SECOND FORM. 'bulk': how many values and letters a reading holds, each counted each time it is reached (what is shared counts as often as it is met; a slice's spare places count too). A statement '..UptoSaid' is the law's where the arguments, and the package variables that the reading takes, are together of bulk at most 1048576: NARROWER than '..Said'. Prove '..Said' where nothing that the law and all that it calls make is longer than what came in: it says more and counts as full. Else prove '..UptoSaid'. A law counts once. -/
mutual
def uptoBulk {H : Type} : DataW H → Nat
  | .lit (.string bytes) => bytes.length + 1
  | .lit _ => 1
  | .nil => 1
  | .ptr d => uptoBulk d + 1
  | .slice elems spare => uptoBulkAll elems + uptoBulkAll spare + 1
  | .agg parts => uptoBulkAll parts + 1
  | .iface _ d => uptoBulk d + 1
  | .map entries => uptoBulkEntries entries + 1
  | .held _ => 1
def uptoBulkAll {H : Type} : List (DataW H) → Nat
  | [] => 0
  | d :: r => uptoBulk d + uptoBulkAll r
def uptoBulkEntries {H : Type} : List (Lit × DataW H) → Nat
  | [] => 0
  | x :: r => uptoBulkEntry x + uptoBulkEntries r
def uptoBulkEntry {H : Type} : Lit × DataW H → Nat
  | (.string bytes, d) => bytes.length + uptoBulk d + 1
  | (_, d) => uptoBulk d + 1
 end
def uptoSmall : (H : Type) → List (DataW H) → Bool := fun _ ds => decide (uptoBulkAll ds ≤ 1048576)
def OpenSpec.upto (s : _root_.Go.ChangeSpec) : _root_.Go.OpenSpec := { _root_.Go.OpenSpec.ofChange s with cond := some uptoSmall }

/-- 'laws.FnExactDifferencesOf', WHERE WHAT IT READS IS OF BULK AT MOST 1048576: true; the input reads as it did. -/
def fnExactDifferencesOfUptoRow : OpenClaim := { program := "ytmjgjdebcmbjeaa", sum := "91bcd254b002177335f51c75e08c7ce1abebfda8a8cdf59465a2d43d47c9727d", func := "loop.example/g01250/laws.FnExactDifferencesOf", spec := "fnExactDifferencesOf", inPlace := ["math/bits.Sub64"], unfollowed := true, recurses := true, apart := false, narrowed := true }
def FnExactDifferencesOfUptoSaid : Prop := fnExactDifferencesOfUptoRow.holds Try.pinned (OpenSpec.upto fnExactDifferencesOfSpec)

/-- 'laws.FnExactDifferenceTable', WHERE WHAT IT READS IS OF BULK AT MOST 1048576: true; the input reads as it did. -/
def fnExactDifferenceTableUptoRow : OpenClaim := { program := "ytmjgjdebcmbjeaa", sum := "91bcd254b002177335f51c75e08c7ce1abebfda8a8cdf59465a2d43d47c9727d", func := "loop.example/g01250/laws.FnExactDifferenceTable", spec := "fnExactDifferenceTable", inPlace := ["math/bits.Sub64"], unfollowed := true, recurses := true, apart := false, narrowed := true }
def FnExactDifferenceTableUptoSaid : Prop := fnExactDifferenceTableUptoRow.holds Try.pinned (OpenSpec.upto fnExactDifferenceTableSpec)

/-- 'laws.FnExactDegreeOf', WHERE WHAT IT READS IS OF BULK AT MOST 1048576: true; the input reads as it did. -/
def fnExactDegreeOfUptoRow : OpenClaim := { program := "ytmjgjdebcmbjeaa", sum := "91bcd254b002177335f51c75e08c7ce1abebfda8a8cdf59465a2d43d47c9727d", func := "loop.example/g01250/laws.FnExactDegreeOf", spec := "fnExactDegreeOf", inPlace := ["math/bits.Sub64"], unfollowed := true, recurses := true, apart := false, narrowed := true }
def FnExactDegreeOfUptoSaid : Prop := fnExactDegreeOfUptoRow.holds Try.pinned (OpenSpec.upto fnExactDegreeOfSpec)

/-- 'laws.FnExactFormOf', WHERE WHAT IT READS IS OF BULK AT MOST 1048576: true; the input reads as it did. -/
def fnExactFormOfUptoRow : OpenClaim := { program := "ytmjgjdebcmbjeaa", sum := "91bcd254b002177335f51c75e08c7ce1abebfda8a8cdf59465a2d43d47c9727d", func := "loop.example/g01250/laws.FnExactFormOf", spec := "fnExactFormOf", inPlace := ["math/bits.Sub64"], unfollowed := true, recurses := true, apart := false, narrowed := true }
def FnExactFormOfUptoSaid : Prop := fnExactFormOfUptoRow.holds Try.pinned (OpenSpec.upto fnExactFormOfSpec)

/-- 'laws.FnExactValueOf', WHERE WHAT IT READS IS OF BULK AT MOST 1048576: true; the input reads as it did. -/
def fnExactValueOfUptoRow : OpenClaim := { program := "ytmjgjdebcmbjeaa", sum := "91bcd254b002177335f51c75e08c7ce1abebfda8a8cdf59465a2d43d47c9727d", func := "loop.example/g01250/laws.FnExactValueOf", spec := "fnExactValueOf", inPlace := ["math/bits.Add64"], unfollowed := true, recurses := true, apart := false, narrowed := true }
def FnExactValueOfUptoSaid : Prop := fnExactValueOfUptoRow.holds Try.pinned (OpenSpec.upto fnExactValueOfSpec)

/-- 'laws.FnExactListOfForm', WHERE WHAT IT READS IS OF BULK AT MOST 1048576: true; the input reads as it did. -/
def fnExactListOfFormUptoRow : OpenClaim := { program := "ytmjgjdebcmbjeaa", sum := "91bcd254b002177335f51c75e08c7ce1abebfda8a8cdf59465a2d43d47c9727d", func := "loop.example/g01250/laws.FnExactListOfForm", spec := "fnExactListOfForm", inPlace := ["math/bits.Add64"], unfollowed := true, recurses := true, apart := false, narrowed := true }
def FnExactListOfFormUptoSaid : Prop := fnExactListOfFormUptoRow.holds Try.pinned (OpenSpec.upto fnExactListOfFormSpec)

/-- 'laws.FnExactGoOn', WHERE WHAT IT READS IS OF BULK AT MOST 1048576: true; the input reads as it did. -/
def fnExactGoOnUptoRow : OpenClaim := { program := "ytmjgjdebcmbjeaa", sum := "91bcd254b002177335f51c75e08c7ce1abebfda8a8cdf59465a2d43d47c9727d", func := "loop.example/g01250/laws.FnExactGoOn", spec := "fnExactGoOn", inPlace := ["math/bits.Sub64", "math/bits.Add64"], unfollowed := true, recurses := true, apart := false, narrowed := true }
def FnExactGoOnUptoSaid : Prop := fnExactGoOnUptoRow.holds Try.pinned (OpenSpec.upto fnExactGoOnSpec)

/-- 'laws.FnExactSumsFrom', WHERE WHAT IT READS IS OF BULK AT MOST 1048576: true; the input reads as it did. -/
def fnExactSumsFromUptoRow : OpenClaim := { program := "ytmjgjdebcmbjeaa", sum := "91bcd254b002177335f51c75e08c7ce1abebfda8a8cdf59465a2d43d47c9727d", func := "loop.example/g01250/laws.FnExactSumsFrom", spec := "fnExactSumsFrom", inPlace := ["math/bits.Add64"], unfollowed := true, recurses := true, apart := false, narrowed := true }
def FnExactSumsFromUptoSaid : Prop := fnExactSumsFromUptoRow.holds Try.pinned (OpenSpec.upto fnExactSumsFromSpec)

/-- 'laws.FnExactFormOfSums', WHERE WHAT IT READS IS OF BULK AT MOST 1048576: true; the input reads as it did. -/
def fnExactFormOfSumsUptoRow : OpenClaim := { program := "ytmjgjdebcmbjeaa", sum := "91bcd254b002177335f51c75e08c7ce1abebfda8a8cdf59465a2d43d47c9727d", func := "loop.example/g01250/laws.FnExactFormOfSums", spec := "fnExactFormOfSums", unfollowed := true, recurses := true, apart := false, narrowed := true }
def FnExactFormOfSumsUptoSaid : Prop := fnExactFormOfSumsUptoRow.holds Try.pinned (OpenSpec.upto fnExactFormOfSumsSpec)

/-- 'laws.FnExactFormBehind', WHERE WHAT IT READS IS OF BULK AT MOST 1048576: true; the input reads as it did. -/
def fnExactFormBehindUptoRow : OpenClaim := { program := "ytmjgjdebcmbjeaa", sum := "91bcd254b002177335f51c75e08c7ce1abebfda8a8cdf59465a2d43d47c9727d", func := "loop.example/g01250/laws.FnExactFormBehind", spec := "fnExactFormBehind", inPlace := ["math/bits.Add64"], unfollowed := true, recurses := true, apart := false, narrowed := true }
def FnExactFormBehindUptoSaid : Prop := fnExactFormBehindUptoRow.holds Try.pinned (OpenSpec.upto fnExactFormBehindSpec)

/-- 'laws.FnExactTransformOf', WHERE WHAT IT READS IS OF BULK AT MOST 1048576: true; the input reads as it did. -/
def fnExactTransformOfUptoRow : OpenClaim := { program := "ytmjgjdebcmbjeaa", sum := "91bcd254b002177335f51c75e08c7ce1abebfda8a8cdf59465a2d43d47c9727d", func := "loop.example/g01250/laws.FnExactTransformOf", spec := "fnExactTransformOf", inPlace := ["math/bits.Add64"], unfollowed := true, recurses := true, apart := false, narrowed := true }
def FnExactTransformOfUptoSaid : Prop := fnExactTransformOfUptoRow.holds Try.pinned (OpenSpec.upto fnExactTransformOfSpec)

/-- 'laws.FnExactUndoTransform', WHERE WHAT IT READS IS OF BULK AT MOST 1048576: true; the input reads as it did. -/
def fnExactUndoTransformUptoRow : OpenClaim := { program := "ytmjgjdebcmbjeaa", sum := "91bcd254b002177335f51c75e08c7ce1abebfda8a8cdf59465a2d43d47c9727d", func := "loop.example/g01250/laws.FnExactUndoTransform", spec := "fnExactUndoTransform", inPlace := ["math/bits.Sub64"], unfollowed := true, recurses := true, apart := false, narrowed := true }
def FnExactUndoTransformUptoSaid : Prop := fnExactUndoTransformUptoRow.holds Try.pinned (OpenSpec.upto fnExactUndoTransformSpec)

/-- 'laws.FnExactTimesPlace', WHERE WHAT IT READS IS OF BULK AT MOST 1048576: true; the input reads as it did. -/
def fnExactTimesPlaceUptoRow : OpenClaim := { program := "ytmjgjdebcmbjeaa", sum := "91bcd254b002177335f51c75e08c7ce1abebfda8a8cdf59465a2d43d47c9727d", func := "loop.example/g01250/laws.FnExactTimesPlace", spec := "fnExactTimesPlace", unfollowed := true, recurses := true, apart := false, narrowed := true }
def FnExactTimesPlaceUptoSaid : Prop := fnExactTimesPlaceUptoRow.holds Try.pinned (OpenSpec.upto fnExactTimesPlaceSpec)

/-- 'laws.FnExactFormOfShape', WHERE WHAT IT READS IS OF BULK AT MOST 1048576: true; the input reads as it did. -/
def fnExactFormOfShapeUptoRow : OpenClaim := { program := "ytmjgjdebcmbjeaa", sum := "91bcd254b002177335f51c75e08c7ce1abebfda8a8cdf59465a2d43d47c9727d", func := "loop.example/g01250/laws.FnExactFormOfShape", spec := "fnExactFormOfShape", apart := false, narrowed := true }
def FnExactFormOfShapeUptoSaid : Prop := fnExactFormOfShapeUptoRow.holds Try.pinned (OpenSpec.upto fnExactFormOfShapeSpec)

/-- 'laws.FnExactShapeOfList', WHERE WHAT IT READS IS OF BULK AT MOST 1048576: true; the input reads as it did. -/
def fnExactShapeOfListUptoRow : OpenClaim := { program := "ytmjgjdebcmbjeaa", sum := "91bcd254b002177335f51c75e08c7ce1abebfda8a8cdf59465a2d43d47c9727d", func := "loop.example/g01250/laws.FnExactShapeOfList", spec := "fnExactShapeOfList", unfollowed := true, recurses := true, apart := false, narrowed := true }
def FnExactShapeOfListUptoSaid : Prop := fnExactShapeOfListUptoRow.holds Try.pinned (OpenSpec.upto fnExactShapeOfListSpec)

/-- 'laws.FnExactChooseOf', WHERE WHAT IT READS IS OF BULK AT MOST 1048576: true; the input reads as it did. -/
def fnExactChooseOfUptoRow : OpenClaim := { program := "ytmjgjdebcmbjeaa", sum := "91bcd254b002177335f51c75e08c7ce1abebfda8a8cdf59465a2d43d47c9727d", func := "loop.example/g01250/laws.FnExactChooseOf", spec := "fnExactChooseOf", apart := false, narrowed := true }
def FnExactChooseOfUptoSaid : Prop := fnExactChooseOfUptoRow.holds Try.pinned (OpenSpec.upto fnExactChooseOfSpec)

end Rows
end Go.Proofs.Ytmjgjdebcmbjeaa
