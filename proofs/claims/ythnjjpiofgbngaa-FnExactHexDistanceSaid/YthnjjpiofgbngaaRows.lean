/-
  No cell of these rows narrows 'for every input' (looked for: loops, veiled, ifaces, maps, wideKeys, modest, calm, conditions, laid).
  DERIVED. THE GIVEN ROWS OF THIS SEAT. 17 by the template 'for every input the law returns true; each argument reads behind the call as it read before'; 0 by the template 'total and deterministic' (their statements: YthnjjpiofgbngaaTotals.lean).
  GIVEN WITH THE SEED: the statements are not yours to turn. If you find one false, say at which input.
  Laid BY PROGRAM, IN A SANDBOX (cutbox-rows.mjs): the forced cells as the released guide's own fill.sh prints them over the translation 3ea42f9894571b50… (all of the seat's roots in one cut). By AI agents, Wed Nov 11 2026. No macro, syntax, notation, axiom, sorry.
-/
import Derived.Test.YthnjjpiofgbngaaChecked
import GoSem.Claim
import GoSem.ClaimJoined
import GoSem.ClaimMapViews
import Derived.JoinedTies
import Derived.KernelRfl
namespace Go.Proofs.Ythnjjpiofgbngaa
/- THE CELL 'sum', in the pinned program and in every row, IS THE sha256 OF THE DUMP (.gsa) THAT YthnjjpiofgbngaaProg.lean LOADS. Nothing in Lean hashes anything: it is a label: what it is worth is what the hold of that sum in a sandbox is worth. -/
noncomputable def Try.pinned : Pinned := { name := "ythnjjpiofgbngaa", sum := "3ea42f9894571b50614b34ebb6661b325330822603738f86a7b7c058aa6d87a7", checked := Try.checked }
namespace Rows
def none {H : Type} : Left H := { results := [], args := [] }

/-- 'laws.FnExactSpotOf': WHATEVER THE INPUT: true; the input reads as it did. -/
def fnExactSpotOfSpec : ChangeSpec := { name := "fnExactSpotOf", fn := fun _ => fun
  | [d] => { results := [.lit (.bool true)], args := [d] }
  | _ => none }
def fnExactSpotOfRow : OpenClaim := { program := "ythnjjpiofgbngaa", sum := "3ea42f9894571b50614b34ebb6661b325330822603738f86a7b7c058aa6d87a7", func := "loop.example/g01250/laws.FnExactSpotOf", spec := "fnExactSpotOf", unfollowed := true, recurses := true, apart := false }
def FnExactSpotOfSaid : Prop := fnExactSpotOfRow.holds Try.pinned (OpenSpec.ofChange fnExactSpotOfSpec)

/-- ITS FALSE NEIGHBOUR: 'it returns false'. Refute it at one input. -/
def fnExactSpotOfWrong : ChangeSpec := { name := "fnExactSpotOf", fn := fun _ => fun
  | [d] => { results := [.lit (.bool false)], args := [d] }
  | _ => none }
def FnExactSpotOfWrongFalsely : Prop := fnExactSpotOfRow.holds Try.pinned (OpenSpec.ofChange fnExactSpotOfWrong)

/-- 'laws.FnExactNumberAt': WHATEVER THE INPUT: true; the input reads as it did. -/
def fnExactNumberAtSpec : ChangeSpec := { name := "fnExactNumberAt", fn := fun _ => fun
  | [d] => { results := [.lit (.bool true)], args := [d] }
  | _ => none }
def fnExactNumberAtRow : OpenClaim := { program := "ythnjjpiofgbngaa", sum := "3ea42f9894571b50614b34ebb6661b325330822603738f86a7b7c058aa6d87a7", func := "loop.example/g01250/laws.FnExactNumberAt", spec := "fnExactNumberAt", unfollowed := true, recurses := true, apart := false }
def FnExactNumberAtSaid : Prop := fnExactNumberAtRow.holds Try.pinned (OpenSpec.ofChange fnExactNumberAtSpec)

/-- ITS FALSE NEIGHBOUR: 'it returns false'. Refute it at one input. -/
def fnExactNumberAtWrong : ChangeSpec := { name := "fnExactNumberAt", fn := fun _ => fun
  | [d] => { results := [.lit (.bool false)], args := [d] }
  | _ => none }
def FnExactNumberAtWrongFalsely : Prop := fnExactNumberAtRow.holds Try.pinned (OpenSpec.ofChange fnExactNumberAtWrong)

/-- 'laws.FnExactRingOf': WHATEVER THE INPUT: true; the input reads as it did. -/
def fnExactRingOfSpec : ChangeSpec := { name := "fnExactRingOf", fn := fun _ => fun
  | [d] => { results := [.lit (.bool true)], args := [d] }
  | _ => none }
def fnExactRingOfRow : OpenClaim := { program := "ythnjjpiofgbngaa", sum := "3ea42f9894571b50614b34ebb6661b325330822603738f86a7b7c058aa6d87a7", func := "loop.example/g01250/laws.FnExactRingOf", spec := "fnExactRingOf", unfollowed := true, recurses := true, apart := false }
def FnExactRingOfSaid : Prop := fnExactRingOfRow.holds Try.pinned (OpenSpec.ofChange fnExactRingOfSpec)

/-- ITS FALSE NEIGHBOUR: 'it returns false'. Refute it at one input. -/
def fnExactRingOfWrong : ChangeSpec := { name := "fnExactRingOf", fn := fun _ => fun
  | [d] => { results := [.lit (.bool false)], args := [d] }
  | _ => none }
def FnExactRingOfWrongFalsely : Prop := fnExactRingOfRow.holds Try.pinned (OpenSpec.ofChange fnExactRingOfWrong)

/-- 'laws.FnExactRingNumbers': WHATEVER THE INPUT: true; the input reads as it did. -/
def fnExactRingNumbersSpec : ChangeSpec := { name := "fnExactRingNumbers", fn := fun _ => fun
  | [d] => { results := [.lit (.bool true)], args := [d] }
  | _ => none }
def fnExactRingNumbersRow : OpenClaim := { program := "ythnjjpiofgbngaa", sum := "3ea42f9894571b50614b34ebb6661b325330822603738f86a7b7c058aa6d87a7", func := "loop.example/g01250/laws.FnExactRingNumbers", spec := "fnExactRingNumbers", apart := false }
def FnExactRingNumbersSaid : Prop := fnExactRingNumbersRow.holds Try.pinned (OpenSpec.ofChange fnExactRingNumbersSpec)

/-- ITS FALSE NEIGHBOUR: 'it returns false'. Refute it at one input. -/
def fnExactRingNumbersWrong : ChangeSpec := { name := "fnExactRingNumbers", fn := fun _ => fun
  | [d] => { results := [.lit (.bool false)], args := [d] }
  | _ => none }
def FnExactRingNumbersWrongFalsely : Prop := fnExactRingNumbersRow.holds Try.pinned (OpenSpec.ofChange fnExactRingNumbersWrong)

/-- 'laws.FnExactStepFrom': WHATEVER THE INPUT: true; the input reads as it did. -/
def fnExactStepFromSpec : ChangeSpec := { name := "fnExactStepFrom", fn := fun _ => fun
  | [d] => { results := [.lit (.bool true)], args := [d] }
  | _ => none }
def fnExactStepFromRow : OpenClaim := { program := "ythnjjpiofgbngaa", sum := "3ea42f9894571b50614b34ebb6661b325330822603738f86a7b7c058aa6d87a7", func := "loop.example/g01250/laws.FnExactStepFrom", spec := "fnExactStepFrom", unfollowed := true, recurses := true, apart := false }
def FnExactStepFromSaid : Prop := fnExactStepFromRow.holds Try.pinned (OpenSpec.ofChange fnExactStepFromSpec)

/-- ITS FALSE NEIGHBOUR: 'it returns false'. Refute it at one input. -/
def fnExactStepFromWrong : ChangeSpec := { name := "fnExactStepFrom", fn := fun _ => fun
  | [d] => { results := [.lit (.bool false)], args := [d] }
  | _ => none }
def FnExactStepFromWrongFalsely : Prop := fnExactStepFromRow.holds Try.pinned (OpenSpec.ofChange fnExactStepFromWrong)

/-- 'laws.FnExactBesideNumbers': WHATEVER THE INPUT: true; the input reads as it did. -/
def fnExactBesideNumbersSpec : ChangeSpec := { name := "fnExactBesideNumbers", fn := fun _ => fun
  | [d] => { results := [.lit (.bool true)], args := [d] }
  | _ => none }
def fnExactBesideNumbersRow : OpenClaim := { program := "ythnjjpiofgbngaa", sum := "3ea42f9894571b50614b34ebb6661b325330822603738f86a7b7c058aa6d87a7", func := "loop.example/g01250/laws.FnExactBesideNumbers", spec := "fnExactBesideNumbers", unfollowed := true, recurses := true, apart := false }
def FnExactBesideNumbersSaid : Prop := fnExactBesideNumbersRow.holds Try.pinned (OpenSpec.ofChange fnExactBesideNumbersSpec)

/-- ITS FALSE NEIGHBOUR: 'it returns false'. Refute it at one input. -/
def fnExactBesideNumbersWrong : ChangeSpec := { name := "fnExactBesideNumbers", fn := fun _ => fun
  | [d] => { results := [.lit (.bool false)], args := [d] }
  | _ => none }
def FnExactBesideNumbersWrongFalsely : Prop := fnExactBesideNumbersRow.holds Try.pinned (OpenSpec.ofChange fnExactBesideNumbersWrong)

/-- 'laws.FnExactDistanceOf': WHATEVER THE INPUT: true; the input reads as it did. -/
def fnExactDistanceOfSpec : ChangeSpec := { name := "fnExactDistanceOf", fn := fun _ => fun
  | [d1, d2] => { results := [.lit (.bool true)], args := [d1, d2] }
  | _ => none }
def fnExactDistanceOfRow : OpenClaim := { program := "ythnjjpiofgbngaa", sum := "3ea42f9894571b50614b34ebb6661b325330822603738f86a7b7c058aa6d87a7", func := "loop.example/g01250/laws.FnExactDistanceOf", spec := "fnExactDistanceOf", unfollowed := true, recurses := true, apart := false }
def FnExactDistanceOfSaid : Prop := fnExactDistanceOfRow.holds Try.pinned (OpenSpec.ofChange fnExactDistanceOfSpec)

/-- ITS FALSE NEIGHBOUR: 'it returns false'. Refute it at one input. -/
def fnExactDistanceOfWrong : ChangeSpec := { name := "fnExactDistanceOf", fn := fun _ => fun
  | [d1, d2] => { results := [.lit (.bool false)], args := [d1, d2] }
  | _ => none }
def FnExactDistanceOfWrongFalsely : Prop := fnExactDistanceOfRow.holds Try.pinned (OpenSpec.ofChange fnExactDistanceOfWrong)

/-- 'laws.FnExactDiagonalOf': WHATEVER THE INPUT: true; the input reads as it did. -/
def fnExactDiagonalOfSpec : ChangeSpec := { name := "fnExactDiagonalOf", fn := fun _ => fun
  | [d1, d2, d3] => { results := [.lit (.bool true)], args := [d1, d2, d3] }
  | _ => none }
def fnExactDiagonalOfRow : OpenClaim := { program := "ythnjjpiofgbngaa", sum := "3ea42f9894571b50614b34ebb6661b325330822603738f86a7b7c058aa6d87a7", func := "loop.example/g01250/laws.FnExactDiagonalOf", spec := "fnExactDiagonalOf", unfollowed := true, recurses := true, apart := false }
def FnExactDiagonalOfSaid : Prop := fnExactDiagonalOfRow.holds Try.pinned (OpenSpec.ofChange fnExactDiagonalOfSpec)

/-- ITS FALSE NEIGHBOUR: 'it returns false'. Refute it at one input. -/
def fnExactDiagonalOfWrong : ChangeSpec := { name := "fnExactDiagonalOf", fn := fun _ => fun
  | [d1, d2, d3] => { results := [.lit (.bool false)], args := [d1, d2, d3] }
  | _ => none }
def FnExactDiagonalOfWrongFalsely : Prop := fnExactDiagonalOfRow.holds Try.pinned (OpenSpec.ofChange fnExactDiagonalOfWrong)

/-- 'laws.FnExactWindowOf': WHATEVER THE INPUT: true; the input reads as it did. -/
def fnExactWindowOfSpec : ChangeSpec := { name := "fnExactWindowOf", fn := fun _ => fun
  | [d1, d2, d3] => { results := [.lit (.bool true)], args := [d1, d2, d3] }
  | _ => none }
def fnExactWindowOfRow : OpenClaim := { program := "ythnjjpiofgbngaa", sum := "3ea42f9894571b50614b34ebb6661b325330822603738f86a7b7c058aa6d87a7", func := "loop.example/g01250/laws.FnExactWindowOf", spec := "fnExactWindowOf", unfollowed := true, recurses := true, apart := false }
def FnExactWindowOfSaid : Prop := fnExactWindowOfRow.holds Try.pinned (OpenSpec.ofChange fnExactWindowOfSpec)

/-- ITS FALSE NEIGHBOUR: 'it returns false'. Refute it at one input. -/
def fnExactWindowOfWrong : ChangeSpec := { name := "fnExactWindowOf", fn := fun _ => fun
  | [d1, d2, d3] => { results := [.lit (.bool false)], args := [d1, d2, d3] }
  | _ => none }
def FnExactWindowOfWrongFalsely : Prop := fnExactWindowOfRow.holds Try.pinned (OpenSpec.ofChange fnExactWindowOfWrong)

/-- 'laws.FnExactHexSpotOf': WHATEVER THE INPUT: true; the input reads as it did. -/
def fnExactHexSpotOfSpec : ChangeSpec := { name := "fnExactHexSpotOf", fn := fun _ => fun
  | [d] => { results := [.lit (.bool true)], args := [d] }
  | _ => none }
def fnExactHexSpotOfRow : OpenClaim := { program := "ythnjjpiofgbngaa", sum := "3ea42f9894571b50614b34ebb6661b325330822603738f86a7b7c058aa6d87a7", func := "loop.example/g01250/laws.FnExactHexSpotOf", spec := "fnExactHexSpotOf", unfollowed := true, recurses := true, apart := false }
def FnExactHexSpotOfSaid : Prop := fnExactHexSpotOfRow.holds Try.pinned (OpenSpec.ofChange fnExactHexSpotOfSpec)

/-- ITS FALSE NEIGHBOUR: 'it returns false'. Refute it at one input. -/
def fnExactHexSpotOfWrong : ChangeSpec := { name := "fnExactHexSpotOf", fn := fun _ => fun
  | [d] => { results := [.lit (.bool false)], args := [d] }
  | _ => none }
def FnExactHexSpotOfWrongFalsely : Prop := fnExactHexSpotOfRow.holds Try.pinned (OpenSpec.ofChange fnExactHexSpotOfWrong)

/-- 'laws.FnExactHexNumberAt': WHATEVER THE INPUT: true; the input reads as it did. -/
def fnExactHexNumberAtSpec : ChangeSpec := { name := "fnExactHexNumberAt", fn := fun _ => fun
  | [d] => { results := [.lit (.bool true)], args := [d] }
  | _ => none }
def fnExactHexNumberAtRow : OpenClaim := { program := "ythnjjpiofgbngaa", sum := "3ea42f9894571b50614b34ebb6661b325330822603738f86a7b7c058aa6d87a7", func := "loop.example/g01250/laws.FnExactHexNumberAt", spec := "fnExactHexNumberAt", unfollowed := true, recurses := true, apart := false }
def FnExactHexNumberAtSaid : Prop := fnExactHexNumberAtRow.holds Try.pinned (OpenSpec.ofChange fnExactHexNumberAtSpec)

/-- ITS FALSE NEIGHBOUR: 'it returns false'. Refute it at one input. -/
def fnExactHexNumberAtWrong : ChangeSpec := { name := "fnExactHexNumberAt", fn := fun _ => fun
  | [d] => { results := [.lit (.bool false)], args := [d] }
  | _ => none }
def FnExactHexNumberAtWrongFalsely : Prop := fnExactHexNumberAtRow.holds Try.pinned (OpenSpec.ofChange fnExactHexNumberAtWrong)

/-- 'laws.FnExactHexRingOf': WHATEVER THE INPUT: true; the input reads as it did. -/
def fnExactHexRingOfSpec : ChangeSpec := { name := "fnExactHexRingOf", fn := fun _ => fun
  | [d] => { results := [.lit (.bool true)], args := [d] }
  | _ => none }
def fnExactHexRingOfRow : OpenClaim := { program := "ythnjjpiofgbngaa", sum := "3ea42f9894571b50614b34ebb6661b325330822603738f86a7b7c058aa6d87a7", func := "loop.example/g01250/laws.FnExactHexRingOf", spec := "fnExactHexRingOf", unfollowed := true, recurses := true, apart := false }
def FnExactHexRingOfSaid : Prop := fnExactHexRingOfRow.holds Try.pinned (OpenSpec.ofChange fnExactHexRingOfSpec)

/-- ITS FALSE NEIGHBOUR: 'it returns false'. Refute it at one input. -/
def fnExactHexRingOfWrong : ChangeSpec := { name := "fnExactHexRingOf", fn := fun _ => fun
  | [d] => { results := [.lit (.bool false)], args := [d] }
  | _ => none }
def FnExactHexRingOfWrongFalsely : Prop := fnExactHexRingOfRow.holds Try.pinned (OpenSpec.ofChange fnExactHexRingOfWrong)

/-- 'laws.FnExactHexBeside': WHATEVER THE INPUT: true; the input reads as it did. -/
def fnExactHexBesideSpec : ChangeSpec := { name := "fnExactHexBeside", fn := fun _ => fun
  | [d] => { results := [.lit (.bool true)], args := [d] }
  | _ => none }
def fnExactHexBesideRow : OpenClaim := { program := "ythnjjpiofgbngaa", sum := "3ea42f9894571b50614b34ebb6661b325330822603738f86a7b7c058aa6d87a7", func := "loop.example/g01250/laws.FnExactHexBeside", spec := "fnExactHexBeside", unfollowed := true, recurses := true, apart := false }
def FnExactHexBesideSaid : Prop := fnExactHexBesideRow.holds Try.pinned (OpenSpec.ofChange fnExactHexBesideSpec)

/-- ITS FALSE NEIGHBOUR: 'it returns false'. Refute it at one input. -/
def fnExactHexBesideWrong : ChangeSpec := { name := "fnExactHexBeside", fn := fun _ => fun
  | [d] => { results := [.lit (.bool false)], args := [d] }
  | _ => none }
def FnExactHexBesideWrongFalsely : Prop := fnExactHexBesideRow.holds Try.pinned (OpenSpec.ofChange fnExactHexBesideWrong)

/-- 'laws.FnExactHexDistance': WHATEVER THE INPUT: true; the input reads as it did. -/
def fnExactHexDistanceSpec : ChangeSpec := { name := "fnExactHexDistance", fn := fun _ => fun
  | [d1, d2] => { results := [.lit (.bool true)], args := [d1, d2] }
  | _ => none }
def fnExactHexDistanceRow : OpenClaim := { program := "ythnjjpiofgbngaa", sum := "3ea42f9894571b50614b34ebb6661b325330822603738f86a7b7c058aa6d87a7", func := "loop.example/g01250/laws.FnExactHexDistance", spec := "fnExactHexDistance", unfollowed := true, recurses := true, apart := false }
def FnExactHexDistanceSaid : Prop := fnExactHexDistanceRow.holds Try.pinned (OpenSpec.ofChange fnExactHexDistanceSpec)

/-- ITS FALSE NEIGHBOUR: 'it returns false'. Refute it at one input. -/
def fnExactHexDistanceWrong : ChangeSpec := { name := "fnExactHexDistance", fn := fun _ => fun
  | [d1, d2] => { results := [.lit (.bool false)], args := [d1, d2] }
  | _ => none }
def FnExactHexDistanceWrongFalsely : Prop := fnExactHexDistanceRow.holds Try.pinned (OpenSpec.ofChange fnExactHexDistanceWrong)

/-- 'laws.FnExactTriangleSpot': WHATEVER THE INPUT: true; the input reads as it did. -/
def fnExactTriangleSpotSpec : ChangeSpec := { name := "fnExactTriangleSpot", fn := fun _ => fun
  | [d] => { results := [.lit (.bool true)], args := [d] }
  | _ => none }
def fnExactTriangleSpotRow : OpenClaim := { program := "ythnjjpiofgbngaa", sum := "3ea42f9894571b50614b34ebb6661b325330822603738f86a7b7c058aa6d87a7", func := "loop.example/g01250/laws.FnExactTriangleSpot", spec := "fnExactTriangleSpot", unfollowed := true, recurses := true, apart := false }
def FnExactTriangleSpotSaid : Prop := fnExactTriangleSpotRow.holds Try.pinned (OpenSpec.ofChange fnExactTriangleSpotSpec)

/-- ITS FALSE NEIGHBOUR: 'it returns false'. Refute it at one input. -/
def fnExactTriangleSpotWrong : ChangeSpec := { name := "fnExactTriangleSpot", fn := fun _ => fun
  | [d] => { results := [.lit (.bool false)], args := [d] }
  | _ => none }
def FnExactTriangleSpotWrongFalsely : Prop := fnExactTriangleSpotRow.holds Try.pinned (OpenSpec.ofChange fnExactTriangleSpotWrong)

/-- 'laws.FnExactTriangleNumber': WHATEVER THE INPUT: true; the input reads as it did. -/
def fnExactTriangleNumberSpec : ChangeSpec := { name := "fnExactTriangleNumber", fn := fun _ => fun
  | [d] => { results := [.lit (.bool true)], args := [d] }
  | _ => none }
def fnExactTriangleNumberRow : OpenClaim := { program := "ythnjjpiofgbngaa", sum := "3ea42f9894571b50614b34ebb6661b325330822603738f86a7b7c058aa6d87a7", func := "loop.example/g01250/laws.FnExactTriangleNumber", spec := "fnExactTriangleNumber", apart := false }
def FnExactTriangleNumberSaid : Prop := fnExactTriangleNumberRow.holds Try.pinned (OpenSpec.ofChange fnExactTriangleNumberSpec)

/-- ITS FALSE NEIGHBOUR: 'it returns false'. Refute it at one input. -/
def fnExactTriangleNumberWrong : ChangeSpec := { name := "fnExactTriangleNumber", fn := fun _ => fun
  | [d] => { results := [.lit (.bool false)], args := [d] }
  | _ => none }
def FnExactTriangleNumberWrongFalsely : Prop := fnExactTriangleNumberRow.holds Try.pinned (OpenSpec.ofChange fnExactTriangleNumberWrong)

/-- 'laws.FnExactZigzagNumber': WHATEVER THE INPUT: true; the input reads as it did. -/
def fnExactZigzagNumberSpec : ChangeSpec := { name := "fnExactZigzagNumber", fn := fun _ => fun
  | [d] => { results := [.lit (.bool true)], args := [d] }
  | _ => none }
def fnExactZigzagNumberRow : OpenClaim := { program := "ythnjjpiofgbngaa", sum := "3ea42f9894571b50614b34ebb6661b325330822603738f86a7b7c058aa6d87a7", func := "loop.example/g01250/laws.FnExactZigzagNumber", spec := "fnExactZigzagNumber", apart := false }
def FnExactZigzagNumberSaid : Prop := fnExactZigzagNumberRow.holds Try.pinned (OpenSpec.ofChange fnExactZigzagNumberSpec)

/-- ITS FALSE NEIGHBOUR: 'it returns false'. Refute it at one input. -/
def fnExactZigzagNumberWrong : ChangeSpec := { name := "fnExactZigzagNumber", fn := fun _ => fun
  | [d] => { results := [.lit (.bool false)], args := [d] }
  | _ => none }
def FnExactZigzagNumberWrongFalsely : Prop := fnExactZigzagNumberRow.holds Try.pinned (OpenSpec.ofChange fnExactZigzagNumberWrong)

/- THE SECOND FORM. 'bulk': how many values and letters a reading holds, each counted each time it is reached (what is shared counts as often as it is met; a slice's spare places count too). A statement '..UptoSaid' is the law's where the arguments, and the package variables that the reading takes, are together of bulk at most 1048576: NARROWER than '..Said'. Prove '..Said' where nothing that the law and all that it calls make is longer than what came in: it says more and counts as full. Else prove '..UptoSaid'. A law counts once. -/
mutual
def uptoBulk {H : Type} : DataW H → Nat
  | .lit (.string bytes) => bytes.length + 1
  | .lit _ => 1
  | .nil => 1
  | .ptr d => uptoBulk d + 1
  | .slice elems spare => uptoBulkAll elems + uptoBulkAll spare + 1
  | .agg parts => uptoBulkAll parts + 1
  | .iface _ d => uptoBulk d + 1
  | .map entries => uptoBulkEntries entries + 1
  | .held _ => 1
def uptoBulkAll {H : Type} : List (DataW H) → Nat
  | [] => 0
  | d :: r => uptoBulk d + uptoBulkAll r
def uptoBulkEntries {H : Type} : List (Lit × DataW H) → Nat
  | [] => 0
  | x :: r => uptoBulkEntry x + uptoBulkEntries r
def uptoBulkEntry {H : Type} : Lit × DataW H → Nat
  | (.string bytes, d) => bytes.length + uptoBulk d + 1
  | (_, d) => uptoBulk d + 1
 end
def uptoSmall : (H : Type) → List (DataW H) → Bool := fun _ ds => decide (uptoBulkAll ds ≤ 1048576)
def OpenSpec.upto (s : _root_.Go.ChangeSpec) : _root_.Go.OpenSpec := { _root_.Go.OpenSpec.ofChange s with cond := some uptoSmall }

/-- 'laws.FnExactSpotOf', WHERE WHAT IT READS IS OF BULK AT MOST 1048576: true; the input reads as it did. -/
def fnExactSpotOfUptoRow : OpenClaim := { program := "ythnjjpiofgbngaa", sum := "3ea42f9894571b50614b34ebb6661b325330822603738f86a7b7c058aa6d87a7", func := "loop.example/g01250/laws.FnExactSpotOf", spec := "fnExactSpotOf", unfollowed := true, recurses := true, apart := false, narrowed := true }
def FnExactSpotOfUptoSaid : Prop := fnExactSpotOfUptoRow.holds Try.pinned (OpenSpec.upto fnExactSpotOfSpec)

/-- 'laws.FnExactNumberAt', WHERE WHAT IT READS IS OF BULK AT MOST 1048576: true; the input reads as it did. -/
def fnExactNumberAtUptoRow : OpenClaim := { program := "ythnjjpiofgbngaa", sum := "3ea42f9894571b50614b34ebb6661b325330822603738f86a7b7c058aa6d87a7", func := "loop.example/g01250/laws.FnExactNumberAt", spec := "fnExactNumberAt", unfollowed := true, recurses := true, apart := false, narrowed := true }
def FnExactNumberAtUptoSaid : Prop := fnExactNumberAtUptoRow.holds Try.pinned (OpenSpec.upto fnExactNumberAtSpec)

/-- 'laws.FnExactRingOf', WHERE WHAT IT READS IS OF BULK AT MOST 1048576: true; the input reads as it did. -/
def fnExactRingOfUptoRow : OpenClaim := { program := "ythnjjpiofgbngaa", sum := "3ea42f9894571b50614b34ebb6661b325330822603738f86a7b7c058aa6d87a7", func := "loop.example/g01250/laws.FnExactRingOf", spec := "fnExactRingOf", unfollowed := true, recurses := true, apart := false, narrowed := true }
def FnExactRingOfUptoSaid : Prop := fnExactRingOfUptoRow.holds Try.pinned (OpenSpec.upto fnExactRingOfSpec)

/-- 'laws.FnExactRingNumbers', WHERE WHAT IT READS IS OF BULK AT MOST 1048576: true; the input reads as it did. -/
def fnExactRingNumbersUptoRow : OpenClaim := { program := "ythnjjpiofgbngaa", sum := "3ea42f9894571b50614b34ebb6661b325330822603738f86a7b7c058aa6d87a7", func := "loop.example/g01250/laws.FnExactRingNumbers", spec := "fnExactRingNumbers", apart := false, narrowed := true }
def FnExactRingNumbersUptoSaid : Prop := fnExactRingNumbersUptoRow.holds Try.pinned (OpenSpec.upto fnExactRingNumbersSpec)

/-- 'laws.FnExactStepFrom', WHERE WHAT IT READS IS OF BULK AT MOST 1048576: true; the input reads as it did. -/
def fnExactStepFromUptoRow : OpenClaim := { program := "ythnjjpiofgbngaa", sum := "3ea42f9894571b50614b34ebb6661b325330822603738f86a7b7c058aa6d87a7", func := "loop.example/g01250/laws.FnExactStepFrom", spec := "fnExactStepFrom", unfollowed := true, recurses := true, apart := false, narrowed := true }
def FnExactStepFromUptoSaid : Prop := fnExactStepFromUptoRow.holds Try.pinned (OpenSpec.upto fnExactStepFromSpec)

/-- 'laws.FnExactBesideNumbers', WHERE WHAT IT READS IS OF BULK AT MOST 1048576: true; the input reads as it did. -/
def fnExactBesideNumbersUptoRow : OpenClaim := { program := "ythnjjpiofgbngaa", sum := "3ea42f9894571b50614b34ebb6661b325330822603738f86a7b7c058aa6d87a7", func := "loop.example/g01250/laws.FnExactBesideNumbers", spec := "fnExactBesideNumbers", unfollowed := true, recurses := true, apart := false, narrowed := true }
def FnExactBesideNumbersUptoSaid : Prop := fnExactBesideNumbersUptoRow.holds Try.pinned (OpenSpec.upto fnExactBesideNumbersSpec)

/-- 'laws.FnExactDistanceOf', WHERE WHAT IT READS IS OF BULK AT MOST 1048576: true; the input reads as it did. -/
def fnExactDistanceOfUptoRow : OpenClaim := { program := "ythnjjpiofgbngaa", sum := "3ea42f9894571b50614b34ebb6661b325330822603738f86a7b7c058aa6d87a7", func := "loop.example/g01250/laws.FnExactDistanceOf", spec := "fnExactDistanceOf", unfollowed := true, recurses := true, apart := false, narrowed := true }
def FnExactDistanceOfUptoSaid : Prop := fnExactDistanceOfUptoRow.holds Try.pinned (OpenSpec.upto fnExactDistanceOfSpec)

/-- 'laws.FnExactDiagonalOf', WHERE WHAT IT READS IS OF BULK AT MOST 1048576: true; the input reads as it did. -/
def fnExactDiagonalOfUptoRow : OpenClaim := { program := "ythnjjpiofgbngaa", sum := "3ea42f9894571b50614b34ebb6661b325330822603738f86a7b7c058aa6d87a7", func := "loop.example/g01250/laws.FnExactDiagonalOf", spec := "fnExactDiagonalOf", unfollowed := true, recurses := true, apart := false, narrowed := true }
def FnExactDiagonalOfUptoSaid : Prop := fnExactDiagonalOfUptoRow.holds Try.pinned (OpenSpec.upto fnExactDiagonalOfSpec)

/-- 'laws.FnExactWindowOf', WHERE WHAT IT READS IS OF BULK AT MOST 1048576: true; the input reads as it did. -/
def fnExactWindowOfUptoRow : OpenClaim := { program := "ythnjjpiofgbngaa", sum := "3ea42f9894571b50614b34ebb6661b325330822603738f86a7b7c058aa6d87a7", func := "loop.example/g01250/laws.FnExactWindowOf", spec := "fnExactWindowOf", unfollowed := true, recurses := true, apart := false, narrowed := true }
def FnExactWindowOfUptoSaid : Prop := fnExactWindowOfUptoRow.holds Try.pinned (OpenSpec.upto fnExactWindowOfSpec)

/-- 'laws.FnExactHexSpotOf', WHERE WHAT IT READS IS OF BULK AT MOST 1048576: true; the input reads as it did. -/
def fnExactHexSpotOfUptoRow : OpenClaim := { program := "ythnjjpiofgbngaa", sum := "3ea42f9894571b50614b34ebb6661b325330822603738f86a7b7c058aa6d87a7", func := "loop.example/g01250/laws.FnExactHexSpotOf", spec := "fnExactHexSpotOf", unfollowed := true, recurses := true, apart := false, narrowed := true }
def FnExactHexSpotOfUptoSaid : Prop := fnExactHexSpotOfUptoRow.holds Try.pinned (OpenSpec.upto fnExactHexSpotOfSpec)

/-- 'laws.FnExactHexNumberAt', WHERE WHAT IT READS IS OF BULK AT MOST 1048576: true; the input reads as it did. -/
def fnExactHexNumberAtUptoRow : OpenClaim := { program := "ythnjjpiofgbngaa", sum := "3ea42f9894571b50614b34ebb6661b325330822603738f86a7b7c058aa6d87a7", func := "loop.example/g01250/laws.FnExactHexNumberAt", spec := "fnExactHexNumberAt", unfollowed := true, recurses := true, apart := false, narrowed := true }
def FnExactHexNumberAtUptoSaid : Prop := fnExactHexNumberAtUptoRow.holds Try.pinned (OpenSpec.upto fnExactHexNumberAtSpec)

/-- 'laws.FnExactHexRingOf', WHERE WHAT IT READS IS OF BULK AT MOST 1048576: true; the input reads as it did. -/
def fnExactHexRingOfUptoRow : OpenClaim := { program := "ythnjjpiofgbngaa", sum := "3ea42f9894571b50614b34ebb6661b325330822603738f86a7b7c058aa6d87a7", func := "loop.example/g01250/laws.FnExactHexRingOf", spec := "fnExactHexRingOf", unfollowed := true, recurses := true, apart := false, narrowed := true }
def FnExactHexRingOfUptoSaid : Prop := fnExactHexRingOfUptoRow.holds Try.pinned (OpenSpec.upto fnExactHexRingOfSpec)

/-- 'laws.FnExactHexBeside', WHERE WHAT IT READS IS OF BULK AT MOST 1048576: true; the input reads as it did. -/
def fnExactHexBesideUptoRow : OpenClaim := { program := "ythnjjpiofgbngaa", sum := "3ea42f9894571b50614b34ebb6661b325330822603738f86a7b7c058aa6d87a7", func := "loop.example/g01250/laws.FnExactHexBeside", spec := "fnExactHexBeside", unfollowed := true, recurses := true, apart := false, narrowed := true }
def FnExactHexBesideUptoSaid : Prop := fnExactHexBesideUptoRow.holds Try.pinned (OpenSpec.upto fnExactHexBesideSpec)

/-- 'laws.FnExactHexDistance', WHERE WHAT IT READS IS OF BULK AT MOST 1048576: true; the input reads as it did. -/
def fnExactHexDistanceUptoRow : OpenClaim := { program := "ythnjjpiofgbngaa", sum := "3ea42f9894571b50614b34ebb6661b325330822603738f86a7b7c058aa6d87a7", func := "loop.example/g01250/laws.FnExactHexDistance", spec := "fnExactHexDistance", unfollowed := true, recurses := true, apart := false, narrowed := true }
def FnExactHexDistanceUptoSaid : Prop := fnExactHexDistanceUptoRow.holds Try.pinned (OpenSpec.upto fnExactHexDistanceSpec)

/-- 'laws.FnExactTriangleSpot', WHERE WHAT IT READS IS OF BULK AT MOST 1048576: true; the input reads as it did. -/
def fnExactTriangleSpotUptoRow : OpenClaim := { program := "ythnjjpiofgbngaa", sum := "3ea42f9894571b50614b34ebb6661b325330822603738f86a7b7c058aa6d87a7", func := "loop.example/g01250/laws.FnExactTriangleSpot", spec := "fnExactTriangleSpot", unfollowed := true, recurses := true, apart := false, narrowed := true }
def FnExactTriangleSpotUptoSaid : Prop := fnExactTriangleSpotUptoRow.holds Try.pinned (OpenSpec.upto fnExactTriangleSpotSpec)

/-- 'laws.FnExactTriangleNumber', WHERE WHAT IT READS IS OF BULK AT MOST 1048576: true; the input reads as it did. -/
def fnExactTriangleNumberUptoRow : OpenClaim := { program := "ythnjjpiofgbngaa", sum := "3ea42f9894571b50614b34ebb6661b325330822603738f86a7b7c058aa6d87a7", func := "loop.example/g01250/laws.FnExactTriangleNumber", spec := "fnExactTriangleNumber", apart := false, narrowed := true }
def FnExactTriangleNumberUptoSaid : Prop := fnExactTriangleNumberUptoRow.holds Try.pinned (OpenSpec.upto fnExactTriangleNumberSpec)

/-- 'laws.FnExactZigzagNumber', WHERE WHAT IT READS IS OF BULK AT MOST 1048576: true; the input reads as it did. -/
def fnExactZigzagNumberUptoRow : OpenClaim := { program := "ythnjjpiofgbngaa", sum := "3ea42f9894571b50614b34ebb6661b325330822603738f86a7b7c058aa6d87a7", func := "loop.example/g01250/laws.FnExactZigzagNumber", spec := "fnExactZigzagNumber", apart := false, narrowed := true }
def FnExactZigzagNumberUptoSaid : Prop := fnExactZigzagNumberUptoRow.holds Try.pinned (OpenSpec.upto fnExactZigzagNumberSpec)

end Rows
end Go.Proofs.Ythnjjpiofgbngaa
