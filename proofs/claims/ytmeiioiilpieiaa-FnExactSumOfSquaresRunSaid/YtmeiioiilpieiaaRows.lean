/-
  No cell of these rows narrows 'for every input' (looked for: loops, veiled, ifaces, maps, wideKeys, modest, calm, conditions, laid).
  DERIVED. THE GIVEN ROWS OF THIS SEAT. 15 by the template 'for every input the law returns true; each argument reads behind the call as it read before'; 0 by the template 'total and deterministic' (their statements: YtmeiioiilpieiaaTotals.lean).
  GIVEN WITH THE SEED: the statements are not yours to turn. If you find one false, say at which input.
  Laid BY PROGRAM, IN A SANDBOX (cutbox-rows.mjs): the forced cells as the released guide's own fill.sh prints them over the translation a90cb0f92520d97d… (all of the seat's roots in one cut). By AI agents, Wed Nov 11 2026. No macro, syntax, notation, axiom, sorry.
-/
import Derived.Test.YtmeiioiilpieiaaChecked
import GoSem.Claim
import GoSem.ClaimJoined
import GoSem.ClaimMapViews
import Derived.JoinedTies
import Derived.KernelRfl
namespace Go.Proofs.Ytmeiioiilpieiaa
/- THE CELL 'sum', in the pinned program and in every row, IS THE sha256 OF THE DUMP (.gsa) THAT YtmeiioiilpieiaaProg.lean LOADS. Nothing in Lean hashes anything: it is a label: what it is worth is what the hold of that sum in a sandbox is worth. -/
noncomputable def Try.pinned : Pinned := { name := "ytmeiioiilpieiaa", sum := "a90cb0f92520d97d7fbf96749f485e53edb644b85f67624a37dbedcfeefe45b6", checked := Try.checked }
namespace Rows
def none {H : Type} : Left H := { results := [], args := [] }

/-- 'laws.FnExactSumOfRun': WHATEVER THE INPUT: true; the input reads as it did. -/
def fnExactSumOfRunSpec : ChangeSpec := { name := "fnExactSumOfRun", fn := fun _ => fun
  | [d] => { results := [.lit (.bool true)], args := [d] }
  | _ => none }
def fnExactSumOfRunRow : OpenClaim := { program := "ytmeiioiilpieiaa", sum := "a90cb0f92520d97d7fbf96749f485e53edb644b85f67624a37dbedcfeefe45b6", func := "loop.example/g01250/laws.FnExactSumOfRun", spec := "fnExactSumOfRun", apart := false }
def FnExactSumOfRunSaid : Prop := fnExactSumOfRunRow.holds Try.pinned (OpenSpec.ofChange fnExactSumOfRunSpec)

/-- ITS FALSE NEIGHBOUR: 'it returns false'. Refute it at one input. -/
def fnExactSumOfRunWrong : ChangeSpec := { name := "fnExactSumOfRun", fn := fun _ => fun
  | [d] => { results := [.lit (.bool false)], args := [d] }
  | _ => none }
def FnExactSumOfRunWrongFalsely : Prop := fnExactSumOfRunRow.holds Try.pinned (OpenSpec.ofChange fnExactSumOfRunWrong)

/-- 'laws.FnExactRunsOf': WHATEVER THE INPUT: true; the input reads as it did. -/
def fnExactRunsOfSpec : ChangeSpec := { name := "fnExactRunsOf", fn := fun _ => fun
  | [d] => { results := [.lit (.bool true)], args := [d] }
  | _ => none }
def fnExactRunsOfRow : OpenClaim := { program := "ytmeiioiilpieiaa", sum := "a90cb0f92520d97d7fbf96749f485e53edb644b85f67624a37dbedcfeefe45b6", func := "loop.example/g01250/laws.FnExactRunsOf", spec := "fnExactRunsOf", apart := false }
def FnExactRunsOfSaid : Prop := fnExactRunsOfRow.holds Try.pinned (OpenSpec.ofChange fnExactRunsOfSpec)

/-- ITS FALSE NEIGHBOUR: 'it returns false'. Refute it at one input. -/
def fnExactRunsOfWrong : ChangeSpec := { name := "fnExactRunsOf", fn := fun _ => fun
  | [d] => { results := [.lit (.bool false)], args := [d] }
  | _ => none }
def FnExactRunsOfWrongFalsely : Prop := fnExactRunsOfRow.holds Try.pinned (OpenSpec.ofChange fnExactRunsOfWrong)

/-- 'laws.FnExactCountRuns': WHATEVER THE INPUT: true; the input reads as it did. -/
def fnExactCountRunsSpec : ChangeSpec := { name := "fnExactCountRuns", fn := fun _ => fun
  | [d] => { results := [.lit (.bool true)], args := [d] }
  | _ => none }
def fnExactCountRunsRow : OpenClaim := { program := "ytmeiioiilpieiaa", sum := "a90cb0f92520d97d7fbf96749f485e53edb644b85f67624a37dbedcfeefe45b6", func := "loop.example/g01250/laws.FnExactCountRuns", spec := "fnExactCountRuns", apart := false }
def FnExactCountRunsSaid : Prop := fnExactCountRunsRow.holds Try.pinned (OpenSpec.ofChange fnExactCountRunsSpec)

/-- ITS FALSE NEIGHBOUR: 'it returns false'. Refute it at one input. -/
def fnExactCountRunsWrong : ChangeSpec := { name := "fnExactCountRuns", fn := fun _ => fun
  | [d] => { results := [.lit (.bool false)], args := [d] }
  | _ => none }
def FnExactCountRunsWrongFalsely : Prop := fnExactCountRunsRow.holds Try.pinned (OpenSpec.ofChange fnExactCountRunsWrong)

/-- 'laws.FnExactLongestRun': WHATEVER THE INPUT: true; the input reads as it did. -/
def fnExactLongestRunSpec : ChangeSpec := { name := "fnExactLongestRun", fn := fun _ => fun
  | [d] => { results := [.lit (.bool true)], args := [d] }
  | _ => none }
def fnExactLongestRunRow : OpenClaim := { program := "ytmeiioiilpieiaa", sum := "a90cb0f92520d97d7fbf96749f485e53edb644b85f67624a37dbedcfeefe45b6", func := "loop.example/g01250/laws.FnExactLongestRun", spec := "fnExactLongestRun", apart := false }
def FnExactLongestRunSaid : Prop := fnExactLongestRunRow.holds Try.pinned (OpenSpec.ofChange fnExactLongestRunSpec)

/-- ITS FALSE NEIGHBOUR: 'it returns false'. Refute it at one input. -/
def fnExactLongestRunWrong : ChangeSpec := { name := "fnExactLongestRun", fn := fun _ => fun
  | [d] => { results := [.lit (.bool false)], args := [d] }
  | _ => none }
def FnExactLongestRunWrongFalsely : Prop := fnExactLongestRunRow.holds Try.pinned (OpenSpec.ofChange fnExactLongestRunWrong)

/-- 'laws.FnExactSignedRuns': WHATEVER THE INPUT: true; the input reads as it did. -/
def fnExactSignedRunsSpec : ChangeSpec := { name := "fnExactSignedRuns", fn := fun _ => fun
  | [d] => { results := [.lit (.bool true)], args := [d] }
  | _ => none }
def fnExactSignedRunsRow : OpenClaim := { program := "ytmeiioiilpieiaa", sum := "a90cb0f92520d97d7fbf96749f485e53edb644b85f67624a37dbedcfeefe45b6", func := "loop.example/g01250/laws.FnExactSignedRuns", spec := "fnExactSignedRuns", unfollowed := true, recurses := true, apart := false }
def FnExactSignedRunsSaid : Prop := fnExactSignedRunsRow.holds Try.pinned (OpenSpec.ofChange fnExactSignedRunsSpec)

/-- ITS FALSE NEIGHBOUR: 'it returns false'. Refute it at one input. -/
def fnExactSignedRunsWrong : ChangeSpec := { name := "fnExactSignedRuns", fn := fun _ => fun
  | [d] => { results := [.lit (.bool false)], args := [d] }
  | _ => none }
def FnExactSignedRunsWrongFalsely : Prop := fnExactSignedRunsRow.holds Try.pinned (OpenSpec.ofChange fnExactSignedRunsWrong)

/-- 'laws.FnExactOddRunsOf': WHATEVER THE INPUT: true; the input reads as it did. -/
def fnExactOddRunsOfSpec : ChangeSpec := { name := "fnExactOddRunsOf", fn := fun _ => fun
  | [d] => { results := [.lit (.bool true)], args := [d] }
  | _ => none }
def fnExactOddRunsOfRow : OpenClaim := { program := "ytmeiioiilpieiaa", sum := "a90cb0f92520d97d7fbf96749f485e53edb644b85f67624a37dbedcfeefe45b6", func := "loop.example/g01250/laws.FnExactOddRunsOf", spec := "fnExactOddRunsOf", unfollowed := true, recurses := true, apart := false }
def FnExactOddRunsOfSaid : Prop := fnExactOddRunsOfRow.holds Try.pinned (OpenSpec.ofChange fnExactOddRunsOfSpec)

/-- ITS FALSE NEIGHBOUR: 'it returns false'. Refute it at one input. -/
def fnExactOddRunsOfWrong : ChangeSpec := { name := "fnExactOddRunsOf", fn := fun _ => fun
  | [d] => { results := [.lit (.bool false)], args := [d] }
  | _ => none }
def FnExactOddRunsOfWrongFalsely : Prop := fnExactOddRunsOfRow.holds Try.pinned (OpenSpec.ofChange fnExactOddRunsOfWrong)

/-- 'laws.FnExactSquaresApart': WHATEVER THE INPUT: true; the input reads as it did. -/
def fnExactSquaresApartSpec : ChangeSpec := { name := "fnExactSquaresApart", fn := fun _ => fun
  | [d] => { results := [.lit (.bool true)], args := [d] }
  | _ => none }
def fnExactSquaresApartRow : OpenClaim := { program := "ytmeiioiilpieiaa", sum := "a90cb0f92520d97d7fbf96749f485e53edb644b85f67624a37dbedcfeefe45b6", func := "loop.example/g01250/laws.FnExactSquaresApart", spec := "fnExactSquaresApart", unfollowed := true, recurses := true, apart := false }
def FnExactSquaresApartSaid : Prop := fnExactSquaresApartRow.holds Try.pinned (OpenSpec.ofChange fnExactSquaresApartSpec)

/-- ITS FALSE NEIGHBOUR: 'it returns false'. Refute it at one input. -/
def fnExactSquaresApartWrong : ChangeSpec := { name := "fnExactSquaresApart", fn := fun _ => fun
  | [d] => { results := [.lit (.bool false)], args := [d] }
  | _ => none }
def FnExactSquaresApartWrongFalsely : Prop := fnExactSquaresApartRow.holds Try.pinned (OpenSpec.ofChange fnExactSquaresApartWrong)

/-- 'laws.FnExactCountSquaresApart': WHATEVER THE INPUT: true; the input reads as it did. -/
def fnExactCountSquaresApartSpec : ChangeSpec := { name := "fnExactCountSquaresApart", fn := fun _ => fun
  | [d] => { results := [.lit (.bool true)], args := [d] }
  | _ => none }
def fnExactCountSquaresApartRow : OpenClaim := { program := "ytmeiioiilpieiaa", sum := "a90cb0f92520d97d7fbf96749f485e53edb644b85f67624a37dbedcfeefe45b6", func := "loop.example/g01250/laws.FnExactCountSquaresApart", spec := "fnExactCountSquaresApart", unfollowed := true, recurses := true, apart := false }
def FnExactCountSquaresApartSaid : Prop := fnExactCountSquaresApartRow.holds Try.pinned (OpenSpec.ofChange fnExactCountSquaresApartSpec)

/-- ITS FALSE NEIGHBOUR: 'it returns false'. Refute it at one input. -/
def fnExactCountSquaresApartWrong : ChangeSpec := { name := "fnExactCountSquaresApart", fn := fun _ => fun
  | [d] => { results := [.lit (.bool false)], args := [d] }
  | _ => none }
def FnExactCountSquaresApartWrongFalsely : Prop := fnExactCountSquaresApartRow.holds Try.pinned (OpenSpec.ofChange fnExactCountSquaresApartWrong)

/-- 'laws.FnExactTrianglesApart': WHATEVER THE INPUT: true; the input reads as it did. -/
def fnExactTrianglesApartSpec : ChangeSpec := { name := "fnExactTrianglesApart", fn := fun _ => fun
  | [d] => { results := [.lit (.bool true)], args := [d] }
  | _ => none }
def fnExactTrianglesApartRow : OpenClaim := { program := "ytmeiioiilpieiaa", sum := "a90cb0f92520d97d7fbf96749f485e53edb644b85f67624a37dbedcfeefe45b6", func := "loop.example/g01250/laws.FnExactTrianglesApart", spec := "fnExactTrianglesApart", unfollowed := true, recurses := true, apart := false }
def FnExactTrianglesApartSaid : Prop := fnExactTrianglesApartRow.holds Try.pinned (OpenSpec.ofChange fnExactTrianglesApartSpec)

/-- ITS FALSE NEIGHBOUR: 'it returns false'. Refute it at one input. -/
def fnExactTrianglesApartWrong : ChangeSpec := { name := "fnExactTrianglesApart", fn := fun _ => fun
  | [d] => { results := [.lit (.bool false)], args := [d] }
  | _ => none }
def FnExactTrianglesApartWrongFalsely : Prop := fnExactTrianglesApartRow.holds Try.pinned (OpenSpec.ofChange fnExactTrianglesApartWrong)

/-- 'laws.FnExactCubeAsOdds': WHATEVER THE INPUT: true; the input reads as it did. -/
def fnExactCubeAsOddsSpec : ChangeSpec := { name := "fnExactCubeAsOdds", fn := fun _ => fun
  | [d] => { results := [.lit (.bool true)], args := [d] }
  | _ => none }
def fnExactCubeAsOddsRow : OpenClaim := { program := "ytmeiioiilpieiaa", sum := "a90cb0f92520d97d7fbf96749f485e53edb644b85f67624a37dbedcfeefe45b6", func := "loop.example/g01250/laws.FnExactCubeAsOdds", spec := "fnExactCubeAsOdds", apart := false }
def FnExactCubeAsOddsSaid : Prop := fnExactCubeAsOddsRow.holds Try.pinned (OpenSpec.ofChange fnExactCubeAsOddsSpec)

/-- ITS FALSE NEIGHBOUR: 'it returns false'. Refute it at one input. -/
def fnExactCubeAsOddsWrong : ChangeSpec := { name := "fnExactCubeAsOdds", fn := fun _ => fun
  | [d] => { results := [.lit (.bool false)], args := [d] }
  | _ => none }
def FnExactCubeAsOddsWrongFalsely : Prop := fnExactCubeAsOddsRow.holds Try.pinned (OpenSpec.ofChange fnExactCubeAsOddsWrong)

/-- 'laws.FnExactPowerAsOdds': WHATEVER THE INPUT: true; the input reads as it did. -/
def fnExactPowerAsOddsSpec : ChangeSpec := { name := "fnExactPowerAsOdds", fn := fun _ => fun
  | [d1, d2] => { results := [.lit (.bool true)], args := [d1, d2] }
  | _ => none }
def fnExactPowerAsOddsRow : OpenClaim := { program := "ytmeiioiilpieiaa", sum := "a90cb0f92520d97d7fbf96749f485e53edb644b85f67624a37dbedcfeefe45b6", func := "loop.example/g01250/laws.FnExactPowerAsOdds", spec := "fnExactPowerAsOdds", apart := false }
def FnExactPowerAsOddsSaid : Prop := fnExactPowerAsOddsRow.holds Try.pinned (OpenSpec.ofChange fnExactPowerAsOddsSpec)

/-- ITS FALSE NEIGHBOUR: 'it returns false'. Refute it at one input. -/
def fnExactPowerAsOddsWrong : ChangeSpec := { name := "fnExactPowerAsOdds", fn := fun _ => fun
  | [d1, d2] => { results := [.lit (.bool false)], args := [d1, d2] }
  | _ => none }
def FnExactPowerAsOddsWrongFalsely : Prop := fnExactPowerAsOddsRow.holds Try.pinned (OpenSpec.ofChange fnExactPowerAsOddsWrong)

/-- 'laws.FnExactRectanglesOf': WHATEVER THE INPUT: true; the input reads as it did. -/
def fnExactRectanglesOfSpec : ChangeSpec := { name := "fnExactRectanglesOf", fn := fun _ => fun
  | [d] => { results := [.lit (.bool true)], args := [d] }
  | _ => none }
def fnExactRectanglesOfRow : OpenClaim := { program := "ytmeiioiilpieiaa", sum := "a90cb0f92520d97d7fbf96749f485e53edb644b85f67624a37dbedcfeefe45b6", func := "loop.example/g01250/laws.FnExactRectanglesOf", spec := "fnExactRectanglesOf", apart := false }
def FnExactRectanglesOfSaid : Prop := fnExactRectanglesOfRow.holds Try.pinned (OpenSpec.ofChange fnExactRectanglesOfSpec)

/-- ITS FALSE NEIGHBOUR: 'it returns false'. Refute it at one input. -/
def fnExactRectanglesOfWrong : ChangeSpec := { name := "fnExactRectanglesOf", fn := fun _ => fun
  | [d] => { results := [.lit (.bool false)], args := [d] }
  | _ => none }
def FnExactRectanglesOfWrongFalsely : Prop := fnExactRectanglesOfRow.holds Try.pinned (OpenSpec.ofChange fnExactRectanglesOfWrong)

/-- 'laws.FnExactMostSquareRectangle': WHATEVER THE INPUT: true; the input reads as it did. -/
def fnExactMostSquareRectangleSpec : ChangeSpec := { name := "fnExactMostSquareRectangle", fn := fun _ => fun
  | [d] => { results := [.lit (.bool true)], args := [d] }
  | _ => none }
def fnExactMostSquareRectangleRow : OpenClaim := { program := "ytmeiioiilpieiaa", sum := "a90cb0f92520d97d7fbf96749f485e53edb644b85f67624a37dbedcfeefe45b6", func := "loop.example/g01250/laws.FnExactMostSquareRectangle", spec := "fnExactMostSquareRectangle", apart := false }
def FnExactMostSquareRectangleSaid : Prop := fnExactMostSquareRectangleRow.holds Try.pinned (OpenSpec.ofChange fnExactMostSquareRectangleSpec)

/-- ITS FALSE NEIGHBOUR: 'it returns false'. Refute it at one input. -/
def fnExactMostSquareRectangleWrong : ChangeSpec := { name := "fnExactMostSquareRectangle", fn := fun _ => fun
  | [d] => { results := [.lit (.bool false)], args := [d] }
  | _ => none }
def FnExactMostSquareRectangleWrongFalsely : Prop := fnExactMostSquareRectangleRow.holds Try.pinned (OpenSpec.ofChange fnExactMostSquareRectangleWrong)

/-- 'laws.FnExactSumOfSquaresRun': WHATEVER THE INPUT: true; the input reads as it did. -/
def fnExactSumOfSquaresRunSpec : ChangeSpec := { name := "fnExactSumOfSquaresRun", fn := fun _ => fun
  | [d] => { results := [.lit (.bool true)], args := [d] }
  | _ => none }
def fnExactSumOfSquaresRunRow : OpenClaim := { program := "ytmeiioiilpieiaa", sum := "a90cb0f92520d97d7fbf96749f485e53edb644b85f67624a37dbedcfeefe45b6", func := "loop.example/g01250/laws.FnExactSumOfSquaresRun", spec := "fnExactSumOfSquaresRun", unfollowed := true, recurses := true, apart := false }
def FnExactSumOfSquaresRunSaid : Prop := fnExactSumOfSquaresRunRow.holds Try.pinned (OpenSpec.ofChange fnExactSumOfSquaresRunSpec)

/-- ITS FALSE NEIGHBOUR: 'it returns false'. Refute it at one input. -/
def fnExactSumOfSquaresRunWrong : ChangeSpec := { name := "fnExactSumOfSquaresRun", fn := fun _ => fun
  | [d] => { results := [.lit (.bool false)], args := [d] }
  | _ => none }
def FnExactSumOfSquaresRunWrongFalsely : Prop := fnExactSumOfSquaresRunRow.holds Try.pinned (OpenSpec.ofChange fnExactSumOfSquaresRunWrong)

/-- 'laws.FnExactSameSums': WHATEVER THE INPUT: true; the input reads as it did. -/
def fnExactSameSumsSpec : ChangeSpec := { name := "fnExactSameSums", fn := fun _ => fun
  | [d] => { results := [.lit (.bool true)], args := [d] }
  | _ => none }
def fnExactSameSumsRow : OpenClaim := { program := "ytmeiioiilpieiaa", sum := "a90cb0f92520d97d7fbf96749f485e53edb644b85f67624a37dbedcfeefe45b6", func := "loop.example/g01250/laws.FnExactSameSums", spec := "fnExactSameSums", apart := false }
def FnExactSameSumsSaid : Prop := fnExactSameSumsRow.holds Try.pinned (OpenSpec.ofChange fnExactSameSumsSpec)

/-- ITS FALSE NEIGHBOUR: 'it returns false'. Refute it at one input. -/
def fnExactSameSumsWrong : ChangeSpec := { name := "fnExactSameSums", fn := fun _ => fun
  | [d] => { results := [.lit (.bool false)], args := [d] }
  | _ => none }
def FnExactSameSumsWrongFalsely : Prop := fnExactSameSumsRow.holds Try.pinned (OpenSpec.ofChange fnExactSameSumsWrong)

/- THE SECOND FORM. 'bulk': how many values and letters a reading holds, each counted each time it is reached (what is shared counts as often as it is met; a slice's spare places count too). A statement '..UptoSaid' is the law's where the arguments, and the package variables that the reading takes, are together of bulk at most 1048576: NARROWER than '..Said'. Prove '..Said' where nothing that the law and all that it calls make is longer than what came in: it says more and counts as full. Else prove '..UptoSaid'. A law counts once. -/
mutual
def uptoBulk {H : Type} : DataW H → Nat
  | .lit (.string bytes) => bytes.length + 1
  | .lit _ => 1
  | .nil => 1
  | .ptr d => uptoBulk d + 1
  | .slice elems spare => uptoBulkAll elems + uptoBulkAll spare + 1
  | .agg parts => uptoBulkAll parts + 1
  | .iface _ d => uptoBulk d + 1
  | .map entries => uptoBulkEntries entries + 1
  | .held _ => 1
def uptoBulkAll {H : Type} : List (DataW H) → Nat
  | [] => 0
  | d :: r => uptoBulk d + uptoBulkAll r
def uptoBulkEntries {H : Type} : List (Lit × DataW H) → Nat
  | [] => 0
  | x :: r => uptoBulkEntry x + uptoBulkEntries r
def uptoBulkEntry {H : Type} : Lit × DataW H → Nat
  | (.string bytes, d) => bytes.length + uptoBulk d + 1
  | (_, d) => uptoBulk d + 1
 end
def uptoSmall : (H : Type) → List (DataW H) → Bool := fun _ ds => decide (uptoBulkAll ds ≤ 1048576)
def OpenSpec.upto (s : _root_.Go.ChangeSpec) : _root_.Go.OpenSpec := { _root_.Go.OpenSpec.ofChange s with cond := some uptoSmall }

/-- 'laws.FnExactSumOfRun', WHERE WHAT IT READS IS OF BULK AT MOST 1048576: true; the input reads as it did. -/
def fnExactSumOfRunUptoRow : OpenClaim := { program := "ytmeiioiilpieiaa", sum := "a90cb0f92520d97d7fbf96749f485e53edb644b85f67624a37dbedcfeefe45b6", func := "loop.example/g01250/laws.FnExactSumOfRun", spec := "fnExactSumOfRun", apart := false, narrowed := true }
def FnExactSumOfRunUptoSaid : Prop := fnExactSumOfRunUptoRow.holds Try.pinned (OpenSpec.upto fnExactSumOfRunSpec)

/-- 'laws.FnExactRunsOf', WHERE WHAT IT READS IS OF BULK AT MOST 1048576: true; the input reads as it did. -/
def fnExactRunsOfUptoRow : OpenClaim := { program := "ytmeiioiilpieiaa", sum := "a90cb0f92520d97d7fbf96749f485e53edb644b85f67624a37dbedcfeefe45b6", func := "loop.example/g01250/laws.FnExactRunsOf", spec := "fnExactRunsOf", apart := false, narrowed := true }
def FnExactRunsOfUptoSaid : Prop := fnExactRunsOfUptoRow.holds Try.pinned (OpenSpec.upto fnExactRunsOfSpec)

/-- 'laws.FnExactCountRuns', WHERE WHAT IT READS IS OF BULK AT MOST 1048576: true; the input reads as it did. -/
def fnExactCountRunsUptoRow : OpenClaim := { program := "ytmeiioiilpieiaa", sum := "a90cb0f92520d97d7fbf96749f485e53edb644b85f67624a37dbedcfeefe45b6", func := "loop.example/g01250/laws.FnExactCountRuns", spec := "fnExactCountRuns", apart := false, narrowed := true }
def FnExactCountRunsUptoSaid : Prop := fnExactCountRunsUptoRow.holds Try.pinned (OpenSpec.upto fnExactCountRunsSpec)

/-- 'laws.FnExactLongestRun', WHERE WHAT IT READS IS OF BULK AT MOST 1048576: true; the input reads as it did. -/
def fnExactLongestRunUptoRow : OpenClaim := { program := "ytmeiioiilpieiaa", sum := "a90cb0f92520d97d7fbf96749f485e53edb644b85f67624a37dbedcfeefe45b6", func := "loop.example/g01250/laws.FnExactLongestRun", spec := "fnExactLongestRun", apart := false, narrowed := true }
def FnExactLongestRunUptoSaid : Prop := fnExactLongestRunUptoRow.holds Try.pinned (OpenSpec.upto fnExactLongestRunSpec)

/-- 'laws.FnExactSignedRuns', WHERE WHAT IT READS IS OF BULK AT MOST 1048576: true; the input reads as it did. -/
def fnExactSignedRunsUptoRow : OpenClaim := { program := "ytmeiioiilpieiaa", sum := "a90cb0f92520d97d7fbf96749f485e53edb644b85f67624a37dbedcfeefe45b6", func := "loop.example/g01250/laws.FnExactSignedRuns", spec := "fnExactSignedRuns", unfollowed := true, recurses := true, apart := false, narrowed := true }
def FnExactSignedRunsUptoSaid : Prop := fnExactSignedRunsUptoRow.holds Try.pinned (OpenSpec.upto fnExactSignedRunsSpec)

/-- 'laws.FnExactOddRunsOf', WHERE WHAT IT READS IS OF BULK AT MOST 1048576: true; the input reads as it did. -/
def fnExactOddRunsOfUptoRow : OpenClaim := { program := "ytmeiioiilpieiaa", sum := "a90cb0f92520d97d7fbf96749f485e53edb644b85f67624a37dbedcfeefe45b6", func := "loop.example/g01250/laws.FnExactOddRunsOf", spec := "fnExactOddRunsOf", unfollowed := true, recurses := true, apart := false, narrowed := true }
def FnExactOddRunsOfUptoSaid : Prop := fnExactOddRunsOfUptoRow.holds Try.pinned (OpenSpec.upto fnExactOddRunsOfSpec)

/-- 'laws.FnExactSquaresApart', WHERE WHAT IT READS IS OF BULK AT MOST 1048576: true; the input reads as it did. -/
def fnExactSquaresApartUptoRow : OpenClaim := { program := "ytmeiioiilpieiaa", sum := "a90cb0f92520d97d7fbf96749f485e53edb644b85f67624a37dbedcfeefe45b6", func := "loop.example/g01250/laws.FnExactSquaresApart", spec := "fnExactSquaresApart", unfollowed := true, recurses := true, apart := false, narrowed := true }
def FnExactSquaresApartUptoSaid : Prop := fnExactSquaresApartUptoRow.holds Try.pinned (OpenSpec.upto fnExactSquaresApartSpec)

/-- 'laws.FnExactCountSquaresApart', WHERE WHAT IT READS IS OF BULK AT MOST 1048576: true; the input reads as it did. -/
def fnExactCountSquaresApartUptoRow : OpenClaim := { program := "ytmeiioiilpieiaa", sum := "a90cb0f92520d97d7fbf96749f485e53edb644b85f67624a37dbedcfeefe45b6", func := "loop.example/g01250/laws.FnExactCountSquaresApart", spec := "fnExactCountSquaresApart", unfollowed := true, recurses := true, apart := false, narrowed := true }
def FnExactCountSquaresApartUptoSaid : Prop := fnExactCountSquaresApartUptoRow.holds Try.pinned (OpenSpec.upto fnExactCountSquaresApartSpec)

/-- 'laws.FnExactTrianglesApart', WHERE WHAT IT READS IS OF BULK AT MOST 1048576: true; the input reads as it did. -/
def fnExactTrianglesApartUptoRow : OpenClaim := { program := "ytmeiioiilpieiaa", sum := "a90cb0f92520d97d7fbf96749f485e53edb644b85f67624a37dbedcfeefe45b6", func := "loop.example/g01250/laws.FnExactTrianglesApart", spec := "fnExactTrianglesApart", unfollowed := true, recurses := true, apart := false, narrowed := true }
def FnExactTrianglesApartUptoSaid : Prop := fnExactTrianglesApartUptoRow.holds Try.pinned (OpenSpec.upto fnExactTrianglesApartSpec)

/-- 'laws.FnExactCubeAsOdds', WHERE WHAT IT READS IS OF BULK AT MOST 1048576: true; the input reads as it did. -/
def fnExactCubeAsOddsUptoRow : OpenClaim := { program := "ytmeiioiilpieiaa", sum := "a90cb0f92520d97d7fbf96749f485e53edb644b85f67624a37dbedcfeefe45b6", func := "loop.example/g01250/laws.FnExactCubeAsOdds", spec := "fnExactCubeAsOdds", apart := false, narrowed := true }
def FnExactCubeAsOddsUptoSaid : Prop := fnExactCubeAsOddsUptoRow.holds Try.pinned (OpenSpec.upto fnExactCubeAsOddsSpec)

/-- 'laws.FnExactPowerAsOdds', WHERE WHAT IT READS IS OF BULK AT MOST 1048576: true; the input reads as it did. -/
def fnExactPowerAsOddsUptoRow : OpenClaim := { program := "ytmeiioiilpieiaa", sum := "a90cb0f92520d97d7fbf96749f485e53edb644b85f67624a37dbedcfeefe45b6", func := "loop.example/g01250/laws.FnExactPowerAsOdds", spec := "fnExactPowerAsOdds", apart := false, narrowed := true }
def FnExactPowerAsOddsUptoSaid : Prop := fnExactPowerAsOddsUptoRow.holds Try.pinned (OpenSpec.upto fnExactPowerAsOddsSpec)

/-- 'laws.FnExactRectanglesOf', WHERE WHAT IT READS IS OF BULK AT MOST 1048576: true; the input reads as it did. -/
def fnExactRectanglesOfUptoRow : OpenClaim := { program := "ytmeiioiilpieiaa", sum := "a90cb0f92520d97d7fbf96749f485e53edb644b85f67624a37dbedcfeefe45b6", func := "loop.example/g01250/laws.FnExactRectanglesOf", spec := "fnExactRectanglesOf", apart := false, narrowed := true }
def FnExactRectanglesOfUptoSaid : Prop := fnExactRectanglesOfUptoRow.holds Try.pinned (OpenSpec.upto fnExactRectanglesOfSpec)

/-- 'laws.FnExactMostSquareRectangle', WHERE WHAT IT READS IS OF BULK AT MOST 1048576: true; the input reads as it did. -/
def fnExactMostSquareRectangleUptoRow : OpenClaim := { program := "ytmeiioiilpieiaa", sum := "a90cb0f92520d97d7fbf96749f485e53edb644b85f67624a37dbedcfeefe45b6", func := "loop.example/g01250/laws.FnExactMostSquareRectangle", spec := "fnExactMostSquareRectangle", apart := false, narrowed := true }
def FnExactMostSquareRectangleUptoSaid : Prop := fnExactMostSquareRectangleUptoRow.holds Try.pinned (OpenSpec.upto fnExactMostSquareRectangleSpec)

/-- 'laws.FnExactSumOfSquaresRun', WHERE WHAT IT READS IS OF BULK AT MOST 1048576: true; the input reads as it did. -/
def fnExactSumOfSquaresRunUptoRow : OpenClaim := { program := "ytmeiioiilpieiaa", sum := "a90cb0f92520d97d7fbf96749f485e53edb644b85f67624a37dbedcfeefe45b6", func := "loop.example/g01250/laws.FnExactSumOfSquaresRun", spec := "fnExactSumOfSquaresRun", unfollowed := true, recurses := true, apart := false, narrowed := true }
def FnExactSumOfSquaresRunUptoSaid : Prop := fnExactSumOfSquaresRunUptoRow.holds Try.pinned (OpenSpec.upto fnExactSumOfSquaresRunSpec)

/-- 'laws.FnExactSameSums', WHERE WHAT IT READS IS OF BULK AT MOST 1048576: true; the input reads as it did. -/
def fnExactSameSumsUptoRow : OpenClaim := { program := "ytmeiioiilpieiaa", sum := "a90cb0f92520d97d7fbf96749f485e53edb644b85f67624a37dbedcfeefe45b6", func := "loop.example/g01250/laws.FnExactSameSums", spec := "fnExactSameSums", apart := false, narrowed := true }
def FnExactSameSumsUptoSaid : Prop := fnExactSameSumsUptoRow.holds Try.pinned (OpenSpec.upto fnExactSameSumsSpec)

end Rows
end Go.Proofs.Ytmeiioiilpieiaa
