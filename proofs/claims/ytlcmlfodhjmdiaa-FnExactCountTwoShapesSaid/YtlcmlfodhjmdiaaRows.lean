/-
  No cell of these rows narrows 'for every input' (looked for: loops, veiled, ifaces, maps, wideKeys, modest, calm, conditions, laid).
  DERIVED. THE GIVEN ROWS OF THIS SEAT. 10 by the template 'for every input the law returns true; each argument reads behind the call as it read before'; 0 by the template 'total and deterministic' (their statements: YtlcmlfodhjmdiaaTotals.lean).
  GIVEN WITH THE SEED: the statements are not yours to turn. If you find one false, say at which input.
  Laid BY PROGRAM, IN A SANDBOX (cutbox-rows.mjs): the forced cells as the released guide's own fill.sh prints them over the translation 7d2eea38ff266133… (all of the seat's roots in one cut). By AI agents, Wed Nov 11 2026. No macro, syntax, notation, axiom, sorry.
-/
import Derived.Test.YtlcmlfodhjmdiaaChecked
import GoSem.Claim
import GoSem.ClaimJoined
import GoSem.ClaimMapViews
import Derived.JoinedTies
import Derived.KernelRfl
namespace Go.Proofs.Ytlcmlfodhjmdiaa
/- THE CELL 'sum', in the pinned program and in every row, IS THE sha256 OF THE DUMP (.gsa) THAT YtlcmlfodhjmdiaaProg.lean LOADS. Nothing in Lean hashes anything: it is a label: what it is worth is what the hold of that sum in a sandbox is worth. -/
noncomputable def Try.pinned : Pinned := { name := "ytlcmlfodhjmdiaa", sum := "7d2eea38ff266133719fc8f26d3f7c7a2c06e2cef27852ceb2c00bde9932b174", checked := Try.checked }
namespace Rows
def none {H : Type} : Left H := { results := [], args := [] }

/-- 'laws.FnExactAllSums': WHATEVER THE INPUT: true; the input reads as it did. -/
def fnExactAllSumsSpec : ChangeSpec := { name := "fnExactAllSums", fn := fun _ => fun
  | [d1, d2, d3] => { results := [.lit (.bool true)], args := [d1, d2, d3] }
  | _ => none }
def fnExactAllSumsRow : OpenClaim := { program := "ytlcmlfodhjmdiaa", sum := "7d2eea38ff266133719fc8f26d3f7c7a2c06e2cef27852ceb2c00bde9932b174", func := "loop.example/g01250/laws.FnExactAllSums", spec := "fnExactAllSums", recurses := true, apart := false }
def FnExactAllSumsSaid : Prop := fnExactAllSumsRow.holds Try.pinned (OpenSpec.ofChange fnExactAllSumsSpec)

/-- ITS FALSE NEIGHBOUR: 'it returns false'. Refute it at one input. -/
def fnExactAllSumsWrong : ChangeSpec := { name := "fnExactAllSums", fn := fun _ => fun
  | [d1, d2, d3] => { results := [.lit (.bool false)], args := [d1, d2, d3] }
  | _ => none }
def FnExactAllSumsWrongFalsely : Prop := fnExactAllSumsRow.holds Try.pinned (OpenSpec.ofChange fnExactAllSumsWrong)

/-- 'laws.FnExactAreParts': WHATEVER THE INPUT: true; the input reads as it did. -/
def fnExactArePartsSpec : ChangeSpec := { name := "fnExactAreParts", fn := fun _ => fun
  | [d1, d2] => { results := [.lit (.bool true)], args := [d1, d2] }
  | _ => none }
def fnExactArePartsRow : OpenClaim := { program := "ytlcmlfodhjmdiaa", sum := "7d2eea38ff266133719fc8f26d3f7c7a2c06e2cef27852ceb2c00bde9932b174", func := "loop.example/g01250/laws.FnExactAreParts", spec := "fnExactAreParts", apart := false }
def FnExactArePartsSaid : Prop := fnExactArePartsRow.holds Try.pinned (OpenSpec.ofChange fnExactArePartsSpec)

/-- ITS FALSE NEIGHBOUR: 'it returns false'. Refute it at one input. -/
def fnExactArePartsWrong : ChangeSpec := { name := "fnExactAreParts", fn := fun _ => fun
  | [d1, d2] => { results := [.lit (.bool false)], args := [d1, d2] }
  | _ => none }
def FnExactArePartsWrongFalsely : Prop := fnExactArePartsRow.holds Try.pinned (OpenSpec.ofChange fnExactArePartsWrong)

/-- 'laws.FnExactCountDifferentSums': WHATEVER THE INPUT: true; the input reads as it did. -/
def fnExactCountDifferentSumsSpec : ChangeSpec := { name := "fnExactCountDifferentSums", fn := fun _ => fun
  | [d1, d2] => { results := [.lit (.bool true)], args := [d1, d2] }
  | _ => none }
def fnExactCountDifferentSumsRow : OpenClaim := { program := "ytlcmlfodhjmdiaa", sum := "7d2eea38ff266133719fc8f26d3f7c7a2c06e2cef27852ceb2c00bde9932b174", func := "loop.example/g01250/laws.FnExactCountDifferentSums", spec := "fnExactCountDifferentSums", apart := false }
def FnExactCountDifferentSumsSaid : Prop := fnExactCountDifferentSumsRow.holds Try.pinned (OpenSpec.ofChange fnExactCountDifferentSumsSpec)

/-- ITS FALSE NEIGHBOUR: 'it returns false'. Refute it at one input. -/
def fnExactCountDifferentSumsWrong : ChangeSpec := { name := "fnExactCountDifferentSums", fn := fun _ => fun
  | [d1, d2] => { results := [.lit (.bool false)], args := [d1, d2] }
  | _ => none }
def FnExactCountDifferentSumsWrongFalsely : Prop := fnExactCountDifferentSumsRow.holds Try.pinned (OpenSpec.ofChange fnExactCountDifferentSumsWrong)

/-- 'laws.FnExactCountSums': WHATEVER THE INPUT: true; the input reads as it did. -/
def fnExactCountSumsSpec : ChangeSpec := { name := "fnExactCountSums", fn := fun _ => fun
  | [d1, d2, d3] => { results := [.lit (.bool true)], args := [d1, d2, d3] }
  | _ => none }
def fnExactCountSumsRow : OpenClaim := { program := "ytlcmlfodhjmdiaa", sum := "7d2eea38ff266133719fc8f26d3f7c7a2c06e2cef27852ceb2c00bde9932b174", func := "loop.example/g01250/laws.FnExactCountSums", spec := "fnExactCountSums", apart := false }
def FnExactCountSumsSaid : Prop := fnExactCountSumsRow.holds Try.pinned (OpenSpec.ofChange fnExactCountSumsSpec)

/-- ITS FALSE NEIGHBOUR: 'it returns false'. Refute it at one input. -/
def fnExactCountSumsWrong : ChangeSpec := { name := "fnExactCountSums", fn := fun _ => fun
  | [d1, d2, d3] => { results := [.lit (.bool false)], args := [d1, d2, d3] }
  | _ => none }
def FnExactCountSumsWrongFalsely : Prop := fnExactCountSumsRow.holds Try.pinned (OpenSpec.ofChange fnExactCountSumsWrong)

/-- 'laws.FnExactCountThreeTriangles': WHATEVER THE INPUT: true; the input reads as it did. -/
def fnExactCountThreeTrianglesSpec : ChangeSpec := { name := "fnExactCountThreeTriangles", fn := fun _ => fun
  | [d] => { results := [.lit (.bool true)], args := [d] }
  | _ => none }
def fnExactCountThreeTrianglesRow : OpenClaim := { program := "ytlcmlfodhjmdiaa", sum := "7d2eea38ff266133719fc8f26d3f7c7a2c06e2cef27852ceb2c00bde9932b174", func := "loop.example/g01250/laws.FnExactCountThreeTriangles", spec := "fnExactCountThreeTriangles", apart := false }
def FnExactCountThreeTrianglesSaid : Prop := fnExactCountThreeTrianglesRow.holds Try.pinned (OpenSpec.ofChange fnExactCountThreeTrianglesSpec)

/-- ITS FALSE NEIGHBOUR: 'it returns false'. Refute it at one input. -/
def fnExactCountThreeTrianglesWrong : ChangeSpec := { name := "fnExactCountThreeTriangles", fn := fun _ => fun
  | [d] => { results := [.lit (.bool false)], args := [d] }
  | _ => none }
def FnExactCountThreeTrianglesWrongFalsely : Prop := fnExactCountThreeTrianglesRow.holds Try.pinned (OpenSpec.ofChange fnExactCountThreeTrianglesWrong)

/-- 'laws.FnExactCountTwoShapes': WHATEVER THE INPUT: true; the input reads as it did. -/
def fnExactCountTwoShapesSpec : ChangeSpec := { name := "fnExactCountTwoShapes", fn := fun _ => fun
  | [d1, d2, d3] => { results := [.lit (.bool true)], args := [d1, d2, d3] }
  | _ => none }
def fnExactCountTwoShapesRow : OpenClaim := { program := "ytlcmlfodhjmdiaa", sum := "7d2eea38ff266133719fc8f26d3f7c7a2c06e2cef27852ceb2c00bde9932b174", func := "loop.example/g01250/laws.FnExactCountTwoShapes", spec := "fnExactCountTwoShapes", unfollowed := true, recurses := true, apart := false }
def FnExactCountTwoShapesSaid : Prop := fnExactCountTwoShapesRow.holds Try.pinned (OpenSpec.ofChange fnExactCountTwoShapesSpec)

/-- ITS FALSE NEIGHBOUR: 'it returns false'. Refute it at one input. -/
def fnExactCountTwoShapesWrong : ChangeSpec := { name := "fnExactCountTwoShapes", fn := fun _ => fun
  | [d1, d2, d3] => { results := [.lit (.bool false)], args := [d1, d2, d3] }
  | _ => none }
def FnExactCountTwoShapesWrongFalsely : Prop := fnExactCountTwoShapesRow.holds Try.pinned (OpenSpec.ofChange fnExactCountTwoShapesWrong)

/-- 'laws.FnExactFirstDifferentSum': WHATEVER THE INPUT: true; the input reads as it did. -/
def fnExactFirstDifferentSumSpec : ChangeSpec := { name := "fnExactFirstDifferentSum", fn := fun _ => fun
  | [d1, d2] => { results := [.lit (.bool true)], args := [d1, d2] }
  | _ => none }
def fnExactFirstDifferentSumRow : OpenClaim := { program := "ytlcmlfodhjmdiaa", sum := "7d2eea38ff266133719fc8f26d3f7c7a2c06e2cef27852ceb2c00bde9932b174", func := "loop.example/g01250/laws.FnExactFirstDifferentSum", spec := "fnExactFirstDifferentSum", recurses := true, apart := false }
def FnExactFirstDifferentSumSaid : Prop := fnExactFirstDifferentSumRow.holds Try.pinned (OpenSpec.ofChange fnExactFirstDifferentSumSpec)

/-- ITS FALSE NEIGHBOUR: 'it returns false'. Refute it at one input. -/
def fnExactFirstDifferentSumWrong : ChangeSpec := { name := "fnExactFirstDifferentSum", fn := fun _ => fun
  | [d1, d2] => { results := [.lit (.bool false)], args := [d1, d2] }
  | _ => none }
def FnExactFirstDifferentSumWrongFalsely : Prop := fnExactFirstDifferentSumRow.holds Try.pinned (OpenSpec.ofChange fnExactFirstDifferentSumWrong)

/-- 'laws.FnExactGreedyParts': WHATEVER THE INPUT: true; the input reads as it did. -/
def fnExactGreedyPartsSpec : ChangeSpec := { name := "fnExactGreedyParts", fn := fun _ => fun
  | [d1, d2] => { results := [.lit (.bool true)], args := [d1, d2] }
  | _ => none }
def fnExactGreedyPartsRow : OpenClaim := { program := "ytlcmlfodhjmdiaa", sum := "7d2eea38ff266133719fc8f26d3f7c7a2c06e2cef27852ceb2c00bde9932b174", func := "loop.example/g01250/laws.FnExactGreedyParts", spec := "fnExactGreedyParts", unfollowed := true, recurses := true, apart := false }
def FnExactGreedyPartsSaid : Prop := fnExactGreedyPartsRow.holds Try.pinned (OpenSpec.ofChange fnExactGreedyPartsSpec)

/-- ITS FALSE NEIGHBOUR: 'it returns false'. Refute it at one input. -/
def fnExactGreedyPartsWrong : ChangeSpec := { name := "fnExactGreedyParts", fn := fun _ => fun
  | [d1, d2] => { results := [.lit (.bool false)], args := [d1, d2] }
  | _ => none }
def FnExactGreedyPartsWrongFalsely : Prop := fnExactGreedyPartsRow.holds Try.pinned (OpenSpec.ofChange fnExactGreedyPartsWrong)

/-- 'laws.FnExactNoDifferentSum': WHATEVER THE INPUT: true; the input reads as it did. -/
def fnExactNoDifferentSumSpec : ChangeSpec := { name := "fnExactNoDifferentSum", fn := fun _ => fun
  | [d1, d2] => { results := [.lit (.bool true)], args := [d1, d2] }
  | _ => none }
def fnExactNoDifferentSumRow : OpenClaim := { program := "ytlcmlfodhjmdiaa", sum := "7d2eea38ff266133719fc8f26d3f7c7a2c06e2cef27852ceb2c00bde9932b174", func := "loop.example/g01250/laws.FnExactNoDifferentSum", spec := "fnExactNoDifferentSum", apart := false }
def FnExactNoDifferentSumSaid : Prop := fnExactNoDifferentSumRow.holds Try.pinned (OpenSpec.ofChange fnExactNoDifferentSumSpec)

/-- ITS FALSE NEIGHBOUR: 'it returns false'. Refute it at one input. -/
def fnExactNoDifferentSumWrong : ChangeSpec := { name := "fnExactNoDifferentSum", fn := fun _ => fun
  | [d1, d2] => { results := [.lit (.bool false)], args := [d1, d2] }
  | _ => none }
def FnExactNoDifferentSumWrongFalsely : Prop := fnExactNoDifferentSumRow.holds Try.pinned (OpenSpec.ofChange fnExactNoDifferentSumWrong)

/-- 'laws.FnExactTwoShapes': WHATEVER THE INPUT: true; the input reads as it did. -/
def fnExactTwoShapesSpec : ChangeSpec := { name := "fnExactTwoShapes", fn := fun _ => fun
  | [d1, d2, d3] => { results := [.lit (.bool true)], args := [d1, d2, d3] }
  | _ => none }
def fnExactTwoShapesRow : OpenClaim := { program := "ytlcmlfodhjmdiaa", sum := "7d2eea38ff266133719fc8f26d3f7c7a2c06e2cef27852ceb2c00bde9932b174", func := "loop.example/g01250/laws.FnExactTwoShapes", spec := "fnExactTwoShapes", unfollowed := true, recurses := true, apart := false }
def FnExactTwoShapesSaid : Prop := fnExactTwoShapesRow.holds Try.pinned (OpenSpec.ofChange fnExactTwoShapesSpec)

/-- ITS FALSE NEIGHBOUR: 'it returns false'. Refute it at one input. -/
def fnExactTwoShapesWrong : ChangeSpec := { name := "fnExactTwoShapes", fn := fun _ => fun
  | [d1, d2, d3] => { results := [.lit (.bool false)], args := [d1, d2, d3] }
  | _ => none }
def FnExactTwoShapesWrongFalsely : Prop := fnExactTwoShapesRow.holds Try.pinned (OpenSpec.ofChange fnExactTwoShapesWrong)

/- THE SECOND FORM. 'bulk': how many values and letters a reading holds, each counted each time it is reached (what is shared counts as often as it is met; a slice's spare places count too). A statement '..UptoSaid' is the law's where the arguments, and the package variables that the reading takes, are together of bulk at most 1048576: NARROWER than '..Said'. Prove '..Said' where nothing that the law and all that it calls make is longer than what came in: it says more and counts as full. Else prove '..UptoSaid'. A law counts once. -/
mutual
def uptoBulk {H : Type} : DataW H → Nat
  | .lit (.string bytes) => bytes.length + 1
  | .lit _ => 1
  | .nil => 1
  | .ptr d => uptoBulk d + 1
  | .slice elems spare => uptoBulkAll elems + uptoBulkAll spare + 1
  | .agg parts => uptoBulkAll parts + 1
  | .iface _ d => uptoBulk d + 1
  | .map entries => uptoBulkEntries entries + 1
  | .held _ => 1
def uptoBulkAll {H : Type} : List (DataW H) → Nat
  | [] => 0
  | d :: r => uptoBulk d + uptoBulkAll r
def uptoBulkEntries {H : Type} : List (Lit × DataW H) → Nat
  | [] => 0
  | x :: r => uptoBulkEntry x + uptoBulkEntries r
def uptoBulkEntry {H : Type} : Lit × DataW H → Nat
  | (.string bytes, d) => bytes.length + uptoBulk d + 1
  | (_, d) => uptoBulk d + 1
 end
def uptoSmall : (H : Type) → List (DataW H) → Bool := fun _ ds => decide (uptoBulkAll ds ≤ 1048576)
def OpenSpec.upto (s : _root_.Go.ChangeSpec) : _root_.Go.OpenSpec := { _root_.Go.OpenSpec.ofChange s with cond := some uptoSmall }

/-- 'laws.FnExactAllSums', WHERE WHAT IT READS IS OF BULK AT MOST 1048576: true; the input reads as it did. -/
def fnExactAllSumsUptoRow : OpenClaim := { program := "ytlcmlfodhjmdiaa", sum := "7d2eea38ff266133719fc8f26d3f7c7a2c06e2cef27852ceb2c00bde9932b174", func := "loop.example/g01250/laws.FnExactAllSums", spec := "fnExactAllSums", recurses := true, apart := false, narrowed := true }
def FnExactAllSumsUptoSaid : Prop := fnExactAllSumsUptoRow.holds Try.pinned (OpenSpec.upto fnExactAllSumsSpec)

/-- 'laws.FnExactAreParts', WHERE WHAT IT READS IS OF BULK AT MOST 1048576: true; the input reads as it did. -/
def fnExactArePartsUptoRow : OpenClaim := { program := "ytlcmlfodhjmdiaa", sum := "7d2eea38ff266133719fc8f26d3f7c7a2c06e2cef27852ceb2c00bde9932b174", func := "loop.example/g01250/laws.FnExactAreParts", spec := "fnExactAreParts", apart := false, narrowed := true }
def FnExactArePartsUptoSaid : Prop := fnExactArePartsUptoRow.holds Try.pinned (OpenSpec.upto fnExactArePartsSpec)

/-- 'laws.FnExactCountDifferentSums', WHERE WHAT IT READS IS OF BULK AT MOST 1048576: true; the input reads as it did. -/
def fnExactCountDifferentSumsUptoRow : OpenClaim := { program := "ytlcmlfodhjmdiaa", sum := "7d2eea38ff266133719fc8f26d3f7c7a2c06e2cef27852ceb2c00bde9932b174", func := "loop.example/g01250/laws.FnExactCountDifferentSums", spec := "fnExactCountDifferentSums", apart := false, narrowed := true }
def FnExactCountDifferentSumsUptoSaid : Prop := fnExactCountDifferentSumsUptoRow.holds Try.pinned (OpenSpec.upto fnExactCountDifferentSumsSpec)

/-- 'laws.FnExactCountSums', WHERE WHAT IT READS IS OF BULK AT MOST 1048576: true; the input reads as it did. -/
def fnExactCountSumsUptoRow : OpenClaim := { program := "ytlcmlfodhjmdiaa", sum := "7d2eea38ff266133719fc8f26d3f7c7a2c06e2cef27852ceb2c00bde9932b174", func := "loop.example/g01250/laws.FnExactCountSums", spec := "fnExactCountSums", apart := false, narrowed := true }
def FnExactCountSumsUptoSaid : Prop := fnExactCountSumsUptoRow.holds Try.pinned (OpenSpec.upto fnExactCountSumsSpec)

/-- 'laws.FnExactCountThreeTriangles', WHERE WHAT IT READS IS OF BULK AT MOST 1048576: true; the input reads as it did. -/
def fnExactCountThreeTrianglesUptoRow : OpenClaim := { program := "ytlcmlfodhjmdiaa", sum := "7d2eea38ff266133719fc8f26d3f7c7a2c06e2cef27852ceb2c00bde9932b174", func := "loop.example/g01250/laws.FnExactCountThreeTriangles", spec := "fnExactCountThreeTriangles", apart := false, narrowed := true }
def FnExactCountThreeTrianglesUptoSaid : Prop := fnExactCountThreeTrianglesUptoRow.holds Try.pinned (OpenSpec.upto fnExactCountThreeTrianglesSpec)

/-- 'laws.FnExactCountTwoShapes', WHERE WHAT IT READS IS OF BULK AT MOST 1048576: true; the input reads as it did. -/
def fnExactCountTwoShapesUptoRow : OpenClaim := { program := "ytlcmlfodhjmdiaa", sum := "7d2eea38ff266133719fc8f26d3f7c7a2c06e2cef27852ceb2c00bde9932b174", func := "loop.example/g01250/laws.FnExactCountTwoShapes", spec := "fnExactCountTwoShapes", unfollowed := true, recurses := true, apart := false, narrowed := true }
def FnExactCountTwoShapesUptoSaid : Prop := fnExactCountTwoShapesUptoRow.holds Try.pinned (OpenSpec.upto fnExactCountTwoShapesSpec)

/-- 'laws.FnExactFirstDifferentSum', WHERE WHAT IT READS IS OF BULK AT MOST 1048576: true; the input reads as it did. -/
def fnExactFirstDifferentSumUptoRow : OpenClaim := { program := "ytlcmlfodhjmdiaa", sum := "7d2eea38ff266133719fc8f26d3f7c7a2c06e2cef27852ceb2c00bde9932b174", func := "loop.example/g01250/laws.FnExactFirstDifferentSum", spec := "fnExactFirstDifferentSum", recurses := true, apart := false, narrowed := true }
def FnExactFirstDifferentSumUptoSaid : Prop := fnExactFirstDifferentSumUptoRow.holds Try.pinned (OpenSpec.upto fnExactFirstDifferentSumSpec)

/-- 'laws.FnExactGreedyParts', WHERE WHAT IT READS IS OF BULK AT MOST 1048576: true; the input reads as it did. -/
def fnExactGreedyPartsUptoRow : OpenClaim := { program := "ytlcmlfodhjmdiaa", sum := "7d2eea38ff266133719fc8f26d3f7c7a2c06e2cef27852ceb2c00bde9932b174", func := "loop.example/g01250/laws.FnExactGreedyParts", spec := "fnExactGreedyParts", unfollowed := true, recurses := true, apart := false, narrowed := true }
def FnExactGreedyPartsUptoSaid : Prop := fnExactGreedyPartsUptoRow.holds Try.pinned (OpenSpec.upto fnExactGreedyPartsSpec)

/-- 'laws.FnExactNoDifferentSum', WHERE WHAT IT READS IS OF BULK AT MOST 1048576: true; the input reads as it did. -/
def fnExactNoDifferentSumUptoRow : OpenClaim := { program := "ytlcmlfodhjmdiaa", sum := "7d2eea38ff266133719fc8f26d3f7c7a2c06e2cef27852ceb2c00bde9932b174", func := "loop.example/g01250/laws.FnExactNoDifferentSum", spec := "fnExactNoDifferentSum", apart := false, narrowed := true }
def FnExactNoDifferentSumUptoSaid : Prop := fnExactNoDifferentSumUptoRow.holds Try.pinned (OpenSpec.upto fnExactNoDifferentSumSpec)

/-- 'laws.FnExactTwoShapes', WHERE WHAT IT READS IS OF BULK AT MOST 1048576: true; the input reads as it did. -/
def fnExactTwoShapesUptoRow : OpenClaim := { program := "ytlcmlfodhjmdiaa", sum := "7d2eea38ff266133719fc8f26d3f7c7a2c06e2cef27852ceb2c00bde9932b174", func := "loop.example/g01250/laws.FnExactTwoShapes", spec := "fnExactTwoShapes", unfollowed := true, recurses := true, apart := false, narrowed := true }
def FnExactTwoShapesUptoSaid : Prop := fnExactTwoShapesUptoRow.holds Try.pinned (OpenSpec.upto fnExactTwoShapesSpec)

end Rows
end Go.Proofs.Ytlcmlfodhjmdiaa
