/-
  No cell of these rows narrows 'for every input' (looked for: loops, veiled, ifaces, maps, wideKeys, modest, calm, conditions, laid).
  DERIVED. THE GIVEN ROWS OF THIS SEAT. 15 by the template 'for every input the law returns true; each argument reads behind the call as it read before'; 0 by the template 'total and deterministic' (their statements: YtaefmlngnfgkhaaTotals.lean).
  GIVEN WITH THE SEED: the statements are not yours to turn. If you find one false, say at which input.
  Laid BY PROGRAM, IN A SANDBOX (cutbox-rows.mjs): the forced cells as the released guide's own fill.sh prints them over the translation 71e26a207256cbf6… (all of the seat's roots in one cut). By AI agents, Wed Nov 11 2026. No macro, syntax, notation, axiom, sorry.
-/
import Derived.Test.YtaefmlngnfgkhaaChecked
import GoSem.Claim
import GoSem.ClaimJoined
import GoSem.ClaimMapViews
import Derived.JoinedTies
import Derived.KernelRfl
namespace Go.Proofs.Ytaefmlngnfgkhaa
/- THE CELL 'sum', in the pinned program and in every row, IS THE sha256 OF THE DUMP (.gsa) THAT YtaefmlngnfgkhaaProg.lean LOADS. Nothing in Lean hashes anything: it is a label: what it is worth is what the hold of that sum in a sandbox is worth. -/
noncomputable def Try.pinned : Pinned := { name := "ytaefmlngnfgkhaa", sum := "71e26a207256cbf6c20234a9a65292c110a7c9c3452fdb515ac0ee2b420e8fb5", checked := Try.checked }
namespace Rows
def none {H : Type} : Left H := { results := [], args := [] }

/-- 'laws.FnExactPyramidNumber': WHATEVER THE INPUT: true; the input reads as it did. -/
def fnExactPyramidNumberSpec : ChangeSpec := { name := "fnExactPyramidNumber", fn := fun _ => fun
  | [d1, d2] => { results := [.lit (.bool true)], args := [d1, d2] }
  | _ => none }
def fnExactPyramidNumberRow : OpenClaim := { program := "ytaefmlngnfgkhaa", sum := "71e26a207256cbf6c20234a9a65292c110a7c9c3452fdb515ac0ee2b420e8fb5", func := "loop.example/g01250/laws.FnExactPyramidNumber", spec := "fnExactPyramidNumber", apart := false }
def FnExactPyramidNumberSaid : Prop := fnExactPyramidNumberRow.holds Try.pinned (OpenSpec.ofChange fnExactPyramidNumberSpec)

/-- ITS FALSE NEIGHBOUR: 'it returns false'. Refute it at one input. -/
def fnExactPyramidNumberWrong : ChangeSpec := { name := "fnExactPyramidNumber", fn := fun _ => fun
  | [d1, d2] => { results := [.lit (.bool false)], args := [d1, d2] }
  | _ => none }
def FnExactPyramidNumberWrongFalsely : Prop := fnExactPyramidNumberRow.holds Try.pinned (OpenSpec.ofChange fnExactPyramidNumberWrong)

/-- 'laws.FnExactLayersOfPyramid': WHATEVER THE INPUT: true; the input reads as it did. -/
def fnExactLayersOfPyramidSpec : ChangeSpec := { name := "fnExactLayersOfPyramid", fn := fun _ => fun
  | [d1, d2] => { results := [.lit (.bool true)], args := [d1, d2] }
  | _ => none }
def fnExactLayersOfPyramidRow : OpenClaim := { program := "ytaefmlngnfgkhaa", sum := "71e26a207256cbf6c20234a9a65292c110a7c9c3452fdb515ac0ee2b420e8fb5", func := "loop.example/g01250/laws.FnExactLayersOfPyramid", spec := "fnExactLayersOfPyramid", unfollowed := true, recurses := true, apart := false }
def FnExactLayersOfPyramidSaid : Prop := fnExactLayersOfPyramidRow.holds Try.pinned (OpenSpec.ofChange fnExactLayersOfPyramidSpec)

/-- ITS FALSE NEIGHBOUR: 'it returns false'. Refute it at one input. -/
def fnExactLayersOfPyramidWrong : ChangeSpec := { name := "fnExactLayersOfPyramid", fn := fun _ => fun
  | [d1, d2] => { results := [.lit (.bool false)], args := [d1, d2] }
  | _ => none }
def FnExactLayersOfPyramidWrongFalsely : Prop := fnExactLayersOfPyramidRow.holds Try.pinned (OpenSpec.ofChange fnExactLayersOfPyramidWrong)

/-- 'laws.FnExactIsPyramidal': WHATEVER THE INPUT: true; the input reads as it did. -/
def fnExactIsPyramidalSpec : ChangeSpec := { name := "fnExactIsPyramidal", fn := fun _ => fun
  | [d1, d2] => { results := [.lit (.bool true)], args := [d1, d2] }
  | _ => none }
def fnExactIsPyramidalRow : OpenClaim := { program := "ytaefmlngnfgkhaa", sum := "71e26a207256cbf6c20234a9a65292c110a7c9c3452fdb515ac0ee2b420e8fb5", func := "loop.example/g01250/laws.FnExactIsPyramidal", spec := "fnExactIsPyramidal", unfollowed := true, recurses := true, apart := false }
def FnExactIsPyramidalSaid : Prop := fnExactIsPyramidalRow.holds Try.pinned (OpenSpec.ofChange fnExactIsPyramidalSpec)

/-- ITS FALSE NEIGHBOUR: 'it returns false'. Refute it at one input. -/
def fnExactIsPyramidalWrong : ChangeSpec := { name := "fnExactIsPyramidal", fn := fun _ => fun
  | [d1, d2] => { results := [.lit (.bool false)], args := [d1, d2] }
  | _ => none }
def FnExactIsPyramidalWrongFalsely : Prop := fnExactIsPyramidalRow.holds Try.pinned (OpenSpec.ofChange fnExactIsPyramidalWrong)

/-- 'laws.FnExactLayerList': WHATEVER THE INPUT: true; the input reads as it did. -/
def fnExactLayerListSpec : ChangeSpec := { name := "fnExactLayerList", fn := fun _ => fun
  | [d1, d2] => { results := [.lit (.bool true)], args := [d1, d2] }
  | _ => none }
def fnExactLayerListRow : OpenClaim := { program := "ytaefmlngnfgkhaa", sum := "71e26a207256cbf6c20234a9a65292c110a7c9c3452fdb515ac0ee2b420e8fb5", func := "loop.example/g01250/laws.FnExactLayerList", spec := "fnExactLayerList", apart := false }
def FnExactLayerListSaid : Prop := fnExactLayerListRow.holds Try.pinned (OpenSpec.ofChange fnExactLayerListSpec)

/-- ITS FALSE NEIGHBOUR: 'it returns false'. Refute it at one input. -/
def fnExactLayerListWrong : ChangeSpec := { name := "fnExactLayerList", fn := fun _ => fun
  | [d1, d2] => { results := [.lit (.bool false)], args := [d1, d2] }
  | _ => none }
def FnExactLayerListWrongFalsely : Prop := fnExactLayerListRow.holds Try.pinned (OpenSpec.ofChange fnExactLayerListWrong)

/-- 'laws.FnExactFrustumNumber': WHATEVER THE INPUT: true; the input reads as it did. -/
def fnExactFrustumNumberSpec : ChangeSpec := { name := "fnExactFrustumNumber", fn := fun _ => fun
  | [d1, d2, d3] => { results := [.lit (.bool true)], args := [d1, d2, d3] }
  | _ => none }
def fnExactFrustumNumberRow : OpenClaim := { program := "ytaefmlngnfgkhaa", sum := "71e26a207256cbf6c20234a9a65292c110a7c9c3452fdb515ac0ee2b420e8fb5", func := "loop.example/g01250/laws.FnExactFrustumNumber", spec := "fnExactFrustumNumber", unfollowed := true, recurses := true, apart := false }
def FnExactFrustumNumberSaid : Prop := fnExactFrustumNumberRow.holds Try.pinned (OpenSpec.ofChange fnExactFrustumNumberSpec)

/-- ITS FALSE NEIGHBOUR: 'it returns false'. Refute it at one input. -/
def fnExactFrustumNumberWrong : ChangeSpec := { name := "fnExactFrustumNumber", fn := fun _ => fun
  | [d1, d2, d3] => { results := [.lit (.bool false)], args := [d1, d2, d3] }
  | _ => none }
def FnExactFrustumNumberWrongFalsely : Prop := fnExactFrustumNumberRow.holds Try.pinned (OpenSpec.ofChange fnExactFrustumNumberWrong)

/-- 'laws.FnExactCannonballs': WHATEVER THE INPUT: true; the input reads as it did. -/
def fnExactCannonballsSpec : ChangeSpec := { name := "fnExactCannonballs", fn := fun _ => fun
  | [d1, d2, d3] => { results := [.lit (.bool true)], args := [d1, d2, d3] }
  | _ => none }
def fnExactCannonballsRow : OpenClaim := { program := "ytaefmlngnfgkhaa", sum := "71e26a207256cbf6c20234a9a65292c110a7c9c3452fdb515ac0ee2b420e8fb5", func := "loop.example/g01250/laws.FnExactCannonballs", spec := "fnExactCannonballs", unfollowed := true, recurses := true, apart := false }
def FnExactCannonballsSaid : Prop := fnExactCannonballsRow.holds Try.pinned (OpenSpec.ofChange fnExactCannonballsSpec)

/-- ITS FALSE NEIGHBOUR: 'it returns false'. Refute it at one input. -/
def fnExactCannonballsWrong : ChangeSpec := { name := "fnExactCannonballs", fn := fun _ => fun
  | [d1, d2, d3] => { results := [.lit (.bool false)], args := [d1, d2, d3] }
  | _ => none }
def FnExactCannonballsWrongFalsely : Prop := fnExactCannonballsRow.holds Try.pinned (OpenSpec.ofChange fnExactCannonballsWrong)

/-- 'laws.FnExactOctahedronNumber': WHATEVER THE INPUT: true; the input reads as it did. -/
def fnExactOctahedronNumberSpec : ChangeSpec := { name := "fnExactOctahedronNumber", fn := fun _ => fun
  | [d] => { results := [.lit (.bool true)], args := [d] }
  | _ => none }
def fnExactOctahedronNumberRow : OpenClaim := { program := "ytaefmlngnfgkhaa", sum := "71e26a207256cbf6c20234a9a65292c110a7c9c3452fdb515ac0ee2b420e8fb5", func := "loop.example/g01250/laws.FnExactOctahedronNumber", spec := "fnExactOctahedronNumber", apart := false }
def FnExactOctahedronNumberSaid : Prop := fnExactOctahedronNumberRow.holds Try.pinned (OpenSpec.ofChange fnExactOctahedronNumberSpec)

/-- ITS FALSE NEIGHBOUR: 'it returns false'. Refute it at one input. -/
def fnExactOctahedronNumberWrong : ChangeSpec := { name := "fnExactOctahedronNumber", fn := fun _ => fun
  | [d] => { results := [.lit (.bool false)], args := [d] }
  | _ => none }
def FnExactOctahedronNumberWrongFalsely : Prop := fnExactOctahedronNumberRow.holds Try.pinned (OpenSpec.ofChange fnExactOctahedronNumberWrong)

/-- 'laws.FnExactCubeNumber': WHATEVER THE INPUT: true; the input reads as it did. -/
def fnExactCubeNumberSpec : ChangeSpec := { name := "fnExactCubeNumber", fn := fun _ => fun
  | [d] => { results := [.lit (.bool true)], args := [d] }
  | _ => none }
def fnExactCubeNumberRow : OpenClaim := { program := "ytaefmlngnfgkhaa", sum := "71e26a207256cbf6c20234a9a65292c110a7c9c3452fdb515ac0ee2b420e8fb5", func := "loop.example/g01250/laws.FnExactCubeNumber", spec := "fnExactCubeNumber", apart := false }
def FnExactCubeNumberSaid : Prop := fnExactCubeNumberRow.holds Try.pinned (OpenSpec.ofChange fnExactCubeNumberSpec)

/-- ITS FALSE NEIGHBOUR: 'it returns false'. Refute it at one input. -/
def fnExactCubeNumberWrong : ChangeSpec := { name := "fnExactCubeNumber", fn := fun _ => fun
  | [d] => { results := [.lit (.bool false)], args := [d] }
  | _ => none }
def FnExactCubeNumberWrongFalsely : Prop := fnExactCubeNumberRow.holds Try.pinned (OpenSpec.ofChange fnExactCubeNumberWrong)

/-- 'laws.FnExactCentredCube': WHATEVER THE INPUT: true; the input reads as it did. -/
def fnExactCentredCubeSpec : ChangeSpec := { name := "fnExactCentredCube", fn := fun _ => fun
  | [d] => { results := [.lit (.bool true)], args := [d] }
  | _ => none }
def fnExactCentredCubeRow : OpenClaim := { program := "ytaefmlngnfgkhaa", sum := "71e26a207256cbf6c20234a9a65292c110a7c9c3452fdb515ac0ee2b420e8fb5", func := "loop.example/g01250/laws.FnExactCentredCube", spec := "fnExactCentredCube", apart := false }
def FnExactCentredCubeSaid : Prop := fnExactCentredCubeRow.holds Try.pinned (OpenSpec.ofChange fnExactCentredCubeSpec)

/-- ITS FALSE NEIGHBOUR: 'it returns false'. Refute it at one input. -/
def fnExactCentredCubeWrong : ChangeSpec := { name := "fnExactCentredCube", fn := fun _ => fun
  | [d] => { results := [.lit (.bool false)], args := [d] }
  | _ => none }
def FnExactCentredCubeWrongFalsely : Prop := fnExactCentredCubeRow.holds Try.pinned (OpenSpec.ofChange fnExactCentredCubeWrong)

/-- 'laws.FnExactStarNumber': WHATEVER THE INPUT: true; the input reads as it did. -/
def fnExactStarNumberSpec : ChangeSpec := { name := "fnExactStarNumber", fn := fun _ => fun
  | [d] => { results := [.lit (.bool true)], args := [d] }
  | _ => none }
def fnExactStarNumberRow : OpenClaim := { program := "ytaefmlngnfgkhaa", sum := "71e26a207256cbf6c20234a9a65292c110a7c9c3452fdb515ac0ee2b420e8fb5", func := "loop.example/g01250/laws.FnExactStarNumber", spec := "fnExactStarNumber", apart := false }
def FnExactStarNumberSaid : Prop := fnExactStarNumberRow.holds Try.pinned (OpenSpec.ofChange fnExactStarNumberSpec)

/-- ITS FALSE NEIGHBOUR: 'it returns false'. Refute it at one input. -/
def fnExactStarNumberWrong : ChangeSpec := { name := "fnExactStarNumber", fn := fun _ => fun
  | [d] => { results := [.lit (.bool false)], args := [d] }
  | _ => none }
def FnExactStarNumberWrongFalsely : Prop := fnExactStarNumberRow.holds Try.pinned (OpenSpec.ofChange fnExactStarNumberWrong)

/-- 'laws.FnExactSimplexNumber': WHATEVER THE INPUT: true; the input reads as it did. -/
def fnExactSimplexNumberSpec : ChangeSpec := { name := "fnExactSimplexNumber", fn := fun _ => fun
  | [d1, d2] => { results := [.lit (.bool true)], args := [d1, d2] }
  | _ => none }
def fnExactSimplexNumberRow : OpenClaim := { program := "ytaefmlngnfgkhaa", sum := "71e26a207256cbf6c20234a9a65292c110a7c9c3452fdb515ac0ee2b420e8fb5", func := "loop.example/g01250/laws.FnExactSimplexNumber", spec := "fnExactSimplexNumber", apart := false }
def FnExactSimplexNumberSaid : Prop := fnExactSimplexNumberRow.holds Try.pinned (OpenSpec.ofChange fnExactSimplexNumberSpec)

/-- ITS FALSE NEIGHBOUR: 'it returns false'. Refute it at one input. -/
def fnExactSimplexNumberWrong : ChangeSpec := { name := "fnExactSimplexNumber", fn := fun _ => fun
  | [d1, d2] => { results := [.lit (.bool false)], args := [d1, d2] }
  | _ => none }
def FnExactSimplexNumberWrongFalsely : Prop := fnExactSimplexNumberRow.holds Try.pinned (OpenSpec.ofChange fnExactSimplexNumberWrong)

/-- 'laws.FnExactSimplexPlace': WHATEVER THE INPUT: true; the input reads as it did. -/
def fnExactSimplexPlaceSpec : ChangeSpec := { name := "fnExactSimplexPlace", fn := fun _ => fun
  | [d1, d2] => { results := [.lit (.bool true)], args := [d1, d2] }
  | _ => none }
def fnExactSimplexPlaceRow : OpenClaim := { program := "ytaefmlngnfgkhaa", sum := "71e26a207256cbf6c20234a9a65292c110a7c9c3452fdb515ac0ee2b420e8fb5", func := "loop.example/g01250/laws.FnExactSimplexPlace", spec := "fnExactSimplexPlace", unfollowed := true, recurses := true, apart := false }
def FnExactSimplexPlaceSaid : Prop := fnExactSimplexPlaceRow.holds Try.pinned (OpenSpec.ofChange fnExactSimplexPlaceSpec)

/-- ITS FALSE NEIGHBOUR: 'it returns false'. Refute it at one input. -/
def fnExactSimplexPlaceWrong : ChangeSpec := { name := "fnExactSimplexPlace", fn := fun _ => fun
  | [d1, d2] => { results := [.lit (.bool false)], args := [d1, d2] }
  | _ => none }
def FnExactSimplexPlaceWrongFalsely : Prop := fnExactSimplexPlaceRow.holds Try.pinned (OpenSpec.ofChange fnExactSimplexPlaceWrong)

/-- 'laws.FnExactSumOfSquares': WHATEVER THE INPUT: true; the input reads as it did. -/
def fnExactSumOfSquaresSpec : ChangeSpec := { name := "fnExactSumOfSquares", fn := fun _ => fun
  | [d] => { results := [.lit (.bool true)], args := [d] }
  | _ => none }
def fnExactSumOfSquaresRow : OpenClaim := { program := "ytaefmlngnfgkhaa", sum := "71e26a207256cbf6c20234a9a65292c110a7c9c3452fdb515ac0ee2b420e8fb5", func := "loop.example/g01250/laws.FnExactSumOfSquares", spec := "fnExactSumOfSquares", apart := false }
def FnExactSumOfSquaresSaid : Prop := fnExactSumOfSquaresRow.holds Try.pinned (OpenSpec.ofChange fnExactSumOfSquaresSpec)

/-- ITS FALSE NEIGHBOUR: 'it returns false'. Refute it at one input. -/
def fnExactSumOfSquaresWrong : ChangeSpec := { name := "fnExactSumOfSquares", fn := fun _ => fun
  | [d] => { results := [.lit (.bool false)], args := [d] }
  | _ => none }
def FnExactSumOfSquaresWrongFalsely : Prop := fnExactSumOfSquaresRow.holds Try.pinned (OpenSpec.ofChange fnExactSumOfSquaresWrong)

/-- 'laws.FnExactSumOfCubes': WHATEVER THE INPUT: true; the input reads as it did. -/
def fnExactSumOfCubesSpec : ChangeSpec := { name := "fnExactSumOfCubes", fn := fun _ => fun
  | [d] => { results := [.lit (.bool true)], args := [d] }
  | _ => none }
def fnExactSumOfCubesRow : OpenClaim := { program := "ytaefmlngnfgkhaa", sum := "71e26a207256cbf6c20234a9a65292c110a7c9c3452fdb515ac0ee2b420e8fb5", func := "loop.example/g01250/laws.FnExactSumOfCubes", spec := "fnExactSumOfCubes", apart := false }
def FnExactSumOfCubesSaid : Prop := fnExactSumOfCubesRow.holds Try.pinned (OpenSpec.ofChange fnExactSumOfCubesSpec)

/-- ITS FALSE NEIGHBOUR: 'it returns false'. Refute it at one input. -/
def fnExactSumOfCubesWrong : ChangeSpec := { name := "fnExactSumOfCubes", fn := fun _ => fun
  | [d] => { results := [.lit (.bool false)], args := [d] }
  | _ => none }
def FnExactSumOfCubesWrongFalsely : Prop := fnExactSumOfCubesRow.holds Try.pinned (OpenSpec.ofChange fnExactSumOfCubesWrong)

/-- 'laws.FnExactCountTetrahedra': WHATEVER THE INPUT: true; the input reads as it did. -/
def fnExactCountTetrahedraSpec : ChangeSpec := { name := "fnExactCountTetrahedra", fn := fun _ => fun
  | [d1, d2] => { results := [.lit (.bool true)], args := [d1, d2] }
  | _ => none }
def fnExactCountTetrahedraRow : OpenClaim := { program := "ytaefmlngnfgkhaa", sum := "71e26a207256cbf6c20234a9a65292c110a7c9c3452fdb515ac0ee2b420e8fb5", func := "loop.example/g01250/laws.FnExactCountTetrahedra", spec := "fnExactCountTetrahedra", recurses := true, apart := false }
def FnExactCountTetrahedraSaid : Prop := fnExactCountTetrahedraRow.holds Try.pinned (OpenSpec.ofChange fnExactCountTetrahedraSpec)

/-- ITS FALSE NEIGHBOUR: 'it returns false'. Refute it at one input. -/
def fnExactCountTetrahedraWrong : ChangeSpec := { name := "fnExactCountTetrahedra", fn := fun _ => fun
  | [d1, d2] => { results := [.lit (.bool false)], args := [d1, d2] }
  | _ => none }
def FnExactCountTetrahedraWrongFalsely : Prop := fnExactCountTetrahedraRow.holds Try.pinned (OpenSpec.ofChange fnExactCountTetrahedraWrong)

/- THE SECOND FORM. 'bulk': how many values and letters a reading holds, each counted each time it is reached (what is shared counts as often as it is met; a slice's spare places count too). A statement '..UptoSaid' is the law's where the arguments, and the package variables that the reading takes, are together of bulk at most 1048576: NARROWER than '..Said'. Prove '..Said' where nothing that the law and all that it calls make is longer than what came in: it says more and counts as full. Else prove '..UptoSaid'. A law counts once. -/
mutual
def uptoBulk {H : Type} : DataW H → Nat
  | .lit (.string bytes) => bytes.length + 1
  | .lit _ => 1
  | .nil => 1
  | .ptr d => uptoBulk d + 1
  | .slice elems spare => uptoBulkAll elems + uptoBulkAll spare + 1
  | .agg parts => uptoBulkAll parts + 1
  | .iface _ d => uptoBulk d + 1
  | .map entries => uptoBulkEntries entries + 1
  | .held _ => 1
def uptoBulkAll {H : Type} : List (DataW H) → Nat
  | [] => 0
  | d :: r => uptoBulk d + uptoBulkAll r
def uptoBulkEntries {H : Type} : List (Lit × DataW H) → Nat
  | [] => 0
  | x :: r => uptoBulkEntry x + uptoBulkEntries r
def uptoBulkEntry {H : Type} : Lit × DataW H → Nat
  | (.string bytes, d) => bytes.length + uptoBulk d + 1
  | (_, d) => uptoBulk d + 1
 end
def uptoSmall : (H : Type) → List (DataW H) → Bool := fun _ ds => decide (uptoBulkAll ds ≤ 1048576)
def OpenSpec.upto (s : _root_.Go.ChangeSpec) : _root_.Go.OpenSpec := { _root_.Go.OpenSpec.ofChange s with cond := some uptoSmall }

/-- 'laws.FnExactPyramidNumber', WHERE WHAT IT READS IS OF BULK AT MOST 1048576: true; the input reads as it did. -/
def fnExactPyramidNumberUptoRow : OpenClaim := { program := "ytaefmlngnfgkhaa", sum := "71e26a207256cbf6c20234a9a65292c110a7c9c3452fdb515ac0ee2b420e8fb5", func := "loop.example/g01250/laws.FnExactPyramidNumber", spec := "fnExactPyramidNumber", apart := false, narrowed := true }
def FnExactPyramidNumberUptoSaid : Prop := fnExactPyramidNumberUptoRow.holds Try.pinned (OpenSpec.upto fnExactPyramidNumberSpec)

/-- 'laws.FnExactLayersOfPyramid', WHERE WHAT IT READS IS OF BULK AT MOST 1048576: true; the input reads as it did. -/
def fnExactLayersOfPyramidUptoRow : OpenClaim := { program := "ytaefmlngnfgkhaa", sum := "71e26a207256cbf6c20234a9a65292c110a7c9c3452fdb515ac0ee2b420e8fb5", func := "loop.example/g01250/laws.FnExactLayersOfPyramid", spec := "fnExactLayersOfPyramid", unfollowed := true, recurses := true, apart := false, narrowed := true }
def FnExactLayersOfPyramidUptoSaid : Prop := fnExactLayersOfPyramidUptoRow.holds Try.pinned (OpenSpec.upto fnExactLayersOfPyramidSpec)

/-- 'laws.FnExactIsPyramidal', WHERE WHAT IT READS IS OF BULK AT MOST 1048576: true; the input reads as it did. -/
def fnExactIsPyramidalUptoRow : OpenClaim := { program := "ytaefmlngnfgkhaa", sum := "71e26a207256cbf6c20234a9a65292c110a7c9c3452fdb515ac0ee2b420e8fb5", func := "loop.example/g01250/laws.FnExactIsPyramidal", spec := "fnExactIsPyramidal", unfollowed := true, recurses := true, apart := false, narrowed := true }
def FnExactIsPyramidalUptoSaid : Prop := fnExactIsPyramidalUptoRow.holds Try.pinned (OpenSpec.upto fnExactIsPyramidalSpec)

/-- 'laws.FnExactLayerList', WHERE WHAT IT READS IS OF BULK AT MOST 1048576: true; the input reads as it did. -/
def fnExactLayerListUptoRow : OpenClaim := { program := "ytaefmlngnfgkhaa", sum := "71e26a207256cbf6c20234a9a65292c110a7c9c3452fdb515ac0ee2b420e8fb5", func := "loop.example/g01250/laws.FnExactLayerList", spec := "fnExactLayerList", apart := false, narrowed := true }
def FnExactLayerListUptoSaid : Prop := fnExactLayerListUptoRow.holds Try.pinned (OpenSpec.upto fnExactLayerListSpec)

/-- 'laws.FnExactFrustumNumber', WHERE WHAT IT READS IS OF BULK AT MOST 1048576: true; the input reads as it did. -/
def fnExactFrustumNumberUptoRow : OpenClaim := { program := "ytaefmlngnfgkhaa", sum := "71e26a207256cbf6c20234a9a65292c110a7c9c3452fdb515ac0ee2b420e8fb5", func := "loop.example/g01250/laws.FnExactFrustumNumber", spec := "fnExactFrustumNumber", unfollowed := true, recurses := true, apart := false, narrowed := true }
def FnExactFrustumNumberUptoSaid : Prop := fnExactFrustumNumberUptoRow.holds Try.pinned (OpenSpec.upto fnExactFrustumNumberSpec)

/-- 'laws.FnExactCannonballs', WHERE WHAT IT READS IS OF BULK AT MOST 1048576: true; the input reads as it did. -/
def fnExactCannonballsUptoRow : OpenClaim := { program := "ytaefmlngnfgkhaa", sum := "71e26a207256cbf6c20234a9a65292c110a7c9c3452fdb515ac0ee2b420e8fb5", func := "loop.example/g01250/laws.FnExactCannonballs", spec := "fnExactCannonballs", unfollowed := true, recurses := true, apart := false, narrowed := true }
def FnExactCannonballsUptoSaid : Prop := fnExactCannonballsUptoRow.holds Try.pinned (OpenSpec.upto fnExactCannonballsSpec)

/-- 'laws.FnExactOctahedronNumber', WHERE WHAT IT READS IS OF BULK AT MOST 1048576: true; the input reads as it did. -/
def fnExactOctahedronNumberUptoRow : OpenClaim := { program := "ytaefmlngnfgkhaa", sum := "71e26a207256cbf6c20234a9a65292c110a7c9c3452fdb515ac0ee2b420e8fb5", func := "loop.example/g01250/laws.FnExactOctahedronNumber", spec := "fnExactOctahedronNumber", apart := false, narrowed := true }
def FnExactOctahedronNumberUptoSaid : Prop := fnExactOctahedronNumberUptoRow.holds Try.pinned (OpenSpec.upto fnExactOctahedronNumberSpec)

/-- 'laws.FnExactCubeNumber', WHERE WHAT IT READS IS OF BULK AT MOST 1048576: true; the input reads as it did. -/
def fnExactCubeNumberUptoRow : OpenClaim := { program := "ytaefmlngnfgkhaa", sum := "71e26a207256cbf6c20234a9a65292c110a7c9c3452fdb515ac0ee2b420e8fb5", func := "loop.example/g01250/laws.FnExactCubeNumber", spec := "fnExactCubeNumber", apart := false, narrowed := true }
def FnExactCubeNumberUptoSaid : Prop := fnExactCubeNumberUptoRow.holds Try.pinned (OpenSpec.upto fnExactCubeNumberSpec)

/-- 'laws.FnExactCentredCube', WHERE WHAT IT READS IS OF BULK AT MOST 1048576: true; the input reads as it did. -/
def fnExactCentredCubeUptoRow : OpenClaim := { program := "ytaefmlngnfgkhaa", sum := "71e26a207256cbf6c20234a9a65292c110a7c9c3452fdb515ac0ee2b420e8fb5", func := "loop.example/g01250/laws.FnExactCentredCube", spec := "fnExactCentredCube", apart := false, narrowed := true }
def FnExactCentredCubeUptoSaid : Prop := fnExactCentredCubeUptoRow.holds Try.pinned (OpenSpec.upto fnExactCentredCubeSpec)

/-- 'laws.FnExactStarNumber', WHERE WHAT IT READS IS OF BULK AT MOST 1048576: true; the input reads as it did. -/
def fnExactStarNumberUptoRow : OpenClaim := { program := "ytaefmlngnfgkhaa", sum := "71e26a207256cbf6c20234a9a65292c110a7c9c3452fdb515ac0ee2b420e8fb5", func := "loop.example/g01250/laws.FnExactStarNumber", spec := "fnExactStarNumber", apart := false, narrowed := true }
def FnExactStarNumberUptoSaid : Prop := fnExactStarNumberUptoRow.holds Try.pinned (OpenSpec.upto fnExactStarNumberSpec)

/-- 'laws.FnExactSimplexNumber', WHERE WHAT IT READS IS OF BULK AT MOST 1048576: true; the input reads as it did. -/
def fnExactSimplexNumberUptoRow : OpenClaim := { program := "ytaefmlngnfgkhaa", sum := "71e26a207256cbf6c20234a9a65292c110a7c9c3452fdb515ac0ee2b420e8fb5", func := "loop.example/g01250/laws.FnExactSimplexNumber", spec := "fnExactSimplexNumber", apart := false, narrowed := true }
def FnExactSimplexNumberUptoSaid : Prop := fnExactSimplexNumberUptoRow.holds Try.pinned (OpenSpec.upto fnExactSimplexNumberSpec)

/-- 'laws.FnExactSimplexPlace', WHERE WHAT IT READS IS OF BULK AT MOST 1048576: true; the input reads as it did. -/
def fnExactSimplexPlaceUptoRow : OpenClaim := { program := "ytaefmlngnfgkhaa", sum := "71e26a207256cbf6c20234a9a65292c110a7c9c3452fdb515ac0ee2b420e8fb5", func := "loop.example/g01250/laws.FnExactSimplexPlace", spec := "fnExactSimplexPlace", unfollowed := true, recurses := true, apart := false, narrowed := true }
def FnExactSimplexPlaceUptoSaid : Prop := fnExactSimplexPlaceUptoRow.holds Try.pinned (OpenSpec.upto fnExactSimplexPlaceSpec)

/-- 'laws.FnExactSumOfSquares', WHERE WHAT IT READS IS OF BULK AT MOST 1048576: true; the input reads as it did. -/
def fnExactSumOfSquaresUptoRow : OpenClaim := { program := "ytaefmlngnfgkhaa", sum := "71e26a207256cbf6c20234a9a65292c110a7c9c3452fdb515ac0ee2b420e8fb5", func := "loop.example/g01250/laws.FnExactSumOfSquares", spec := "fnExactSumOfSquares", apart := false, narrowed := true }
def FnExactSumOfSquaresUptoSaid : Prop := fnExactSumOfSquaresUptoRow.holds Try.pinned (OpenSpec.upto fnExactSumOfSquaresSpec)

/-- 'laws.FnExactSumOfCubes', WHERE WHAT IT READS IS OF BULK AT MOST 1048576: true; the input reads as it did. -/
def fnExactSumOfCubesUptoRow : OpenClaim := { program := "ytaefmlngnfgkhaa", sum := "71e26a207256cbf6c20234a9a65292c110a7c9c3452fdb515ac0ee2b420e8fb5", func := "loop.example/g01250/laws.FnExactSumOfCubes", spec := "fnExactSumOfCubes", apart := false, narrowed := true }
def FnExactSumOfCubesUptoSaid : Prop := fnExactSumOfCubesUptoRow.holds Try.pinned (OpenSpec.upto fnExactSumOfCubesSpec)

/-- 'laws.FnExactCountTetrahedra', WHERE WHAT IT READS IS OF BULK AT MOST 1048576: true; the input reads as it did. -/
def fnExactCountTetrahedraUptoRow : OpenClaim := { program := "ytaefmlngnfgkhaa", sum := "71e26a207256cbf6c20234a9a65292c110a7c9c3452fdb515ac0ee2b420e8fb5", func := "loop.example/g01250/laws.FnExactCountTetrahedra", spec := "fnExactCountTetrahedra", recurses := true, apart := false, narrowed := true }
def FnExactCountTetrahedraUptoSaid : Prop := fnExactCountTetrahedraUptoRow.holds Try.pinned (OpenSpec.upto fnExactCountTetrahedraSpec)

end Rows
end Go.Proofs.Ytaefmlngnfgkhaa
