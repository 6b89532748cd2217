/-
  No cell of these rows narrows 'for every input' (looked for: loops, veiled, ifaces, maps, wideKeys, modest, calm, conditions, laid).
  DERIVED. THE GIVEN ROWS OF THIS SEAT. 14 by the template 'for every input the law returns true; each argument reads behind the call as it read before'; 0 by the template 'total and deterministic' (their statements: YtnldnnhfbaffkaaTotals.lean).
  GIVEN WITH THE SEED: the statements are not yours to turn. If you find one false, say at which input.
  Laid BY PROGRAM, IN A SANDBOX (cutbox-rows.mjs): the forced cells as the released guide's own fill.sh prints them over the translation 9d76288f0149201b… (all of the seat's roots in one cut). By AI agents, Wed Nov 11 2026. No macro, syntax, notation, axiom, sorry.
-/
import Derived.Test.YtnldnnhfbaffkaaChecked
import GoSem.Claim
import GoSem.ClaimJoined
import GoSem.ClaimMapViews
import Derived.JoinedTies
import Derived.KernelRfl
namespace Go.Proofs.Ytnldnnhfbaffkaa
/- THE CELL 'sum', in the pinned program and in every row, IS THE sha256 OF THE DUMP (.gsa) THAT YtnldnnhfbaffkaaProg.lean LOADS. Nothing in Lean hashes anything: it is a label: what it is worth is what the hold of that sum in a sandbox is worth. -/
noncomputable def Try.pinned : Pinned := { name := "ytnldnnhfbaffkaa", sum := "9d76288f0149201b38f23f3e2052d450d22f3ec8cbde7f57bc821a17a179d6af", checked := Try.checked }
namespace Rows
def none {H : Type} : Left H := { results := [], args := [] }

/-- 'laws.FnExactPolygonNumber': WHATEVER THE INPUT: true; the input reads as it did. -/
def fnExactPolygonNumberSpec : ChangeSpec := { name := "fnExactPolygonNumber", fn := fun _ => fun
  | [d1, d2] => { results := [.lit (.bool true)], args := [d1, d2] }
  | _ => none }
def fnExactPolygonNumberRow : OpenClaim := { program := "ytnldnnhfbaffkaa", sum := "9d76288f0149201b38f23f3e2052d450d22f3ec8cbde7f57bc821a17a179d6af", func := "loop.example/g01250/laws.FnExactPolygonNumber", spec := "fnExactPolygonNumber", apart := false }
def FnExactPolygonNumberSaid : Prop := fnExactPolygonNumberRow.holds Try.pinned (OpenSpec.ofChange fnExactPolygonNumberSpec)

/-- ITS FALSE NEIGHBOUR: 'it returns false'. Refute it at one input. -/
def fnExactPolygonNumberWrong : ChangeSpec := { name := "fnExactPolygonNumber", fn := fun _ => fun
  | [d1, d2] => { results := [.lit (.bool false)], args := [d1, d2] }
  | _ => none }
def FnExactPolygonNumberWrongFalsely : Prop := fnExactPolygonNumberRow.holds Try.pinned (OpenSpec.ofChange fnExactPolygonNumberWrong)

/-- 'laws.FnExactPlaceOf': WHATEVER THE INPUT: true; the input reads as it did. -/
def fnExactPlaceOfSpec : ChangeSpec := { name := "fnExactPlaceOf", fn := fun _ => fun
  | [d1, d2] => { results := [.lit (.bool true)], args := [d1, d2] }
  | _ => none }
def fnExactPlaceOfRow : OpenClaim := { program := "ytnldnnhfbaffkaa", sum := "9d76288f0149201b38f23f3e2052d450d22f3ec8cbde7f57bc821a17a179d6af", func := "loop.example/g01250/laws.FnExactPlaceOf", spec := "fnExactPlaceOf", unfollowed := true, recurses := true, apart := false }
def FnExactPlaceOfSaid : Prop := fnExactPlaceOfRow.holds Try.pinned (OpenSpec.ofChange fnExactPlaceOfSpec)

/-- ITS FALSE NEIGHBOUR: 'it returns false'. Refute it at one input. -/
def fnExactPlaceOfWrong : ChangeSpec := { name := "fnExactPlaceOf", fn := fun _ => fun
  | [d1, d2] => { results := [.lit (.bool false)], args := [d1, d2] }
  | _ => none }
def FnExactPlaceOfWrongFalsely : Prop := fnExactPlaceOfRow.holds Try.pinned (OpenSpec.ofChange fnExactPlaceOfWrong)

/-- 'laws.FnExactIsPolygonal': WHATEVER THE INPUT: true; the input reads as it did. -/
def fnExactIsPolygonalSpec : ChangeSpec := { name := "fnExactIsPolygonal", fn := fun _ => fun
  | [d1, d2] => { results := [.lit (.bool true)], args := [d1, d2] }
  | _ => none }
def fnExactIsPolygonalRow : OpenClaim := { program := "ytnldnnhfbaffkaa", sum := "9d76288f0149201b38f23f3e2052d450d22f3ec8cbde7f57bc821a17a179d6af", func := "loop.example/g01250/laws.FnExactIsPolygonal", spec := "fnExactIsPolygonal", unfollowed := true, recurses := true, apart := false }
def FnExactIsPolygonalSaid : Prop := fnExactIsPolygonalRow.holds Try.pinned (OpenSpec.ofChange fnExactIsPolygonalSpec)

/-- ITS FALSE NEIGHBOUR: 'it returns false'. Refute it at one input. -/
def fnExactIsPolygonalWrong : ChangeSpec := { name := "fnExactIsPolygonal", fn := fun _ => fun
  | [d1, d2] => { results := [.lit (.bool false)], args := [d1, d2] }
  | _ => none }
def FnExactIsPolygonalWrongFalsely : Prop := fnExactIsPolygonalRow.holds Try.pinned (OpenSpec.ofChange fnExactIsPolygonalWrong)

/-- 'laws.FnExactGnomonOf': WHATEVER THE INPUT: true; the input reads as it did. -/
def fnExactGnomonOfSpec : ChangeSpec := { name := "fnExactGnomonOf", fn := fun _ => fun
  | [d1, d2] => { results := [.lit (.bool true)], args := [d1, d2] }
  | _ => none }
def fnExactGnomonOfRow : OpenClaim := { program := "ytnldnnhfbaffkaa", sum := "9d76288f0149201b38f23f3e2052d450d22f3ec8cbde7f57bc821a17a179d6af", func := "loop.example/g01250/laws.FnExactGnomonOf", spec := "fnExactGnomonOf", apart := false }
def FnExactGnomonOfSaid : Prop := fnExactGnomonOfRow.holds Try.pinned (OpenSpec.ofChange fnExactGnomonOfSpec)

/-- ITS FALSE NEIGHBOUR: 'it returns false'. Refute it at one input. -/
def fnExactGnomonOfWrong : ChangeSpec := { name := "fnExactGnomonOf", fn := fun _ => fun
  | [d1, d2] => { results := [.lit (.bool false)], args := [d1, d2] }
  | _ => none }
def FnExactGnomonOfWrongFalsely : Prop := fnExactGnomonOfRow.holds Try.pinned (OpenSpec.ofChange fnExactGnomonOfWrong)

/-- 'laws.FnExactNextPolygonal': WHATEVER THE INPUT: true; the input reads as it did. -/
def fnExactNextPolygonalSpec : ChangeSpec := { name := "fnExactNextPolygonal", fn := fun _ => fun
  | [d1, d2] => { results := [.lit (.bool true)], args := [d1, d2] }
  | _ => none }
def fnExactNextPolygonalRow : OpenClaim := { program := "ytnldnnhfbaffkaa", sum := "9d76288f0149201b38f23f3e2052d450d22f3ec8cbde7f57bc821a17a179d6af", func := "loop.example/g01250/laws.FnExactNextPolygonal", spec := "fnExactNextPolygonal", unfollowed := true, recurses := true, apart := false }
def FnExactNextPolygonalSaid : Prop := fnExactNextPolygonalRow.holds Try.pinned (OpenSpec.ofChange fnExactNextPolygonalSpec)

/-- ITS FALSE NEIGHBOUR: 'it returns false'. Refute it at one input. -/
def fnExactNextPolygonalWrong : ChangeSpec := { name := "fnExactNextPolygonal", fn := fun _ => fun
  | [d1, d2] => { results := [.lit (.bool false)], args := [d1, d2] }
  | _ => none }
def FnExactNextPolygonalWrongFalsely : Prop := fnExactNextPolygonalRow.holds Try.pinned (OpenSpec.ofChange fnExactNextPolygonalWrong)

/-- 'laws.FnExactCountUpTo': WHATEVER THE INPUT: true; the input reads as it did. -/
def fnExactCountUpToSpec : ChangeSpec := { name := "fnExactCountUpTo", fn := fun _ => fun
  | [d1, d2] => { results := [.lit (.bool true)], args := [d1, d2] }
  | _ => none }
def fnExactCountUpToRow : OpenClaim := { program := "ytnldnnhfbaffkaa", sum := "9d76288f0149201b38f23f3e2052d450d22f3ec8cbde7f57bc821a17a179d6af", func := "loop.example/g01250/laws.FnExactCountUpTo", spec := "fnExactCountUpTo", unfollowed := true, recurses := true, apart := false }
def FnExactCountUpToSaid : Prop := fnExactCountUpToRow.holds Try.pinned (OpenSpec.ofChange fnExactCountUpToSpec)

/-- ITS FALSE NEIGHBOUR: 'it returns false'. Refute it at one input. -/
def fnExactCountUpToWrong : ChangeSpec := { name := "fnExactCountUpTo", fn := fun _ => fun
  | [d1, d2] => { results := [.lit (.bool false)], args := [d1, d2] }
  | _ => none }
def FnExactCountUpToWrongFalsely : Prop := fnExactCountUpToRow.holds Try.pinned (OpenSpec.ofChange fnExactCountUpToWrong)

/-- 'laws.FnExactPolygonalUpTo': WHATEVER THE INPUT: true; the input reads as it did. -/
def fnExactPolygonalUpToSpec : ChangeSpec := { name := "fnExactPolygonalUpTo", fn := fun _ => fun
  | [d1, d2] => { results := [.lit (.bool true)], args := [d1, d2] }
  | _ => none }
def fnExactPolygonalUpToRow : OpenClaim := { program := "ytnldnnhfbaffkaa", sum := "9d76288f0149201b38f23f3e2052d450d22f3ec8cbde7f57bc821a17a179d6af", func := "loop.example/g01250/laws.FnExactPolygonalUpTo", spec := "fnExactPolygonalUpTo", apart := false }
def FnExactPolygonalUpToSaid : Prop := fnExactPolygonalUpToRow.holds Try.pinned (OpenSpec.ofChange fnExactPolygonalUpToSpec)

/-- ITS FALSE NEIGHBOUR: 'it returns false'. Refute it at one input. -/
def fnExactPolygonalUpToWrong : ChangeSpec := { name := "fnExactPolygonalUpTo", fn := fun _ => fun
  | [d1, d2] => { results := [.lit (.bool false)], args := [d1, d2] }
  | _ => none }
def FnExactPolygonalUpToWrongFalsely : Prop := fnExactPolygonalUpToRow.holds Try.pinned (OpenSpec.ofChange fnExactPolygonalUpToWrong)

/-- 'laws.FnExactWideNumber': WHATEVER THE INPUT: true; the input reads as it did. -/
def fnExactWideNumberSpec : ChangeSpec := { name := "fnExactWideNumber", fn := fun _ => fun
  | [d1, d2] => { results := [.lit (.bool true)], args := [d1, d2] }
  | _ => none }
def fnExactWideNumberRow : OpenClaim := { program := "ytnldnnhfbaffkaa", sum := "9d76288f0149201b38f23f3e2052d450d22f3ec8cbde7f57bc821a17a179d6af", func := "loop.example/g01250/laws.FnExactWideNumber", spec := "fnExactWideNumber", apart := false }
def FnExactWideNumberSaid : Prop := fnExactWideNumberRow.holds Try.pinned (OpenSpec.ofChange fnExactWideNumberSpec)

/-- ITS FALSE NEIGHBOUR: 'it returns false'. Refute it at one input. -/
def fnExactWideNumberWrong : ChangeSpec := { name := "fnExactWideNumber", fn := fun _ => fun
  | [d1, d2] => { results := [.lit (.bool false)], args := [d1, d2] }
  | _ => none }
def FnExactWideNumberWrongFalsely : Prop := fnExactWideNumberRow.holds Try.pinned (OpenSpec.ofChange fnExactWideNumberWrong)

/-- 'laws.FnExactWidePlace': WHATEVER THE INPUT: true; the input reads as it did. -/
def fnExactWidePlaceSpec : ChangeSpec := { name := "fnExactWidePlace", fn := fun _ => fun
  | [d1, d2] => { results := [.lit (.bool true)], args := [d1, d2] }
  | _ => none }
def fnExactWidePlaceRow : OpenClaim := { program := "ytnldnnhfbaffkaa", sum := "9d76288f0149201b38f23f3e2052d450d22f3ec8cbde7f57bc821a17a179d6af", func := "loop.example/g01250/laws.FnExactWidePlace", spec := "fnExactWidePlace", unfollowed := true, recurses := true, apart := false }
def FnExactWidePlaceSaid : Prop := fnExactWidePlaceRow.holds Try.pinned (OpenSpec.ofChange fnExactWidePlaceSpec)

/-- ITS FALSE NEIGHBOUR: 'it returns false'. Refute it at one input. -/
def fnExactWidePlaceWrong : ChangeSpec := { name := "fnExactWidePlace", fn := fun _ => fun
  | [d1, d2] => { results := [.lit (.bool false)], args := [d1, d2] }
  | _ => none }
def FnExactWidePlaceWrongFalsely : Prop := fnExactWidePlaceRow.holds Try.pinned (OpenSpec.ofChange fnExactWidePlaceWrong)

/-- 'laws.FnExactCentredNumber': WHATEVER THE INPUT: true; the input reads as it did. -/
def fnExactCentredNumberSpec : ChangeSpec := { name := "fnExactCentredNumber", fn := fun _ => fun
  | [d1, d2] => { results := [.lit (.bool true)], args := [d1, d2] }
  | _ => none }
def fnExactCentredNumberRow : OpenClaim := { program := "ytnldnnhfbaffkaa", sum := "9d76288f0149201b38f23f3e2052d450d22f3ec8cbde7f57bc821a17a179d6af", func := "loop.example/g01250/laws.FnExactCentredNumber", spec := "fnExactCentredNumber", apart := false }
def FnExactCentredNumberSaid : Prop := fnExactCentredNumberRow.holds Try.pinned (OpenSpec.ofChange fnExactCentredNumberSpec)

/-- ITS FALSE NEIGHBOUR: 'it returns false'. Refute it at one input. -/
def fnExactCentredNumberWrong : ChangeSpec := { name := "fnExactCentredNumber", fn := fun _ => fun
  | [d1, d2] => { results := [.lit (.bool false)], args := [d1, d2] }
  | _ => none }
def FnExactCentredNumberWrongFalsely : Prop := fnExactCentredNumberRow.holds Try.pinned (OpenSpec.ofChange fnExactCentredNumberWrong)

/-- 'laws.FnExactCentredPlace': WHATEVER THE INPUT: true; the input reads as it did. -/
def fnExactCentredPlaceSpec : ChangeSpec := { name := "fnExactCentredPlace", fn := fun _ => fun
  | [d1, d2] => { results := [.lit (.bool true)], args := [d1, d2] }
  | _ => none }
def fnExactCentredPlaceRow : OpenClaim := { program := "ytnldnnhfbaffkaa", sum := "9d76288f0149201b38f23f3e2052d450d22f3ec8cbde7f57bc821a17a179d6af", func := "loop.example/g01250/laws.FnExactCentredPlace", spec := "fnExactCentredPlace", unfollowed := true, recurses := true, apart := false }
def FnExactCentredPlaceSaid : Prop := fnExactCentredPlaceRow.holds Try.pinned (OpenSpec.ofChange fnExactCentredPlaceSpec)

/-- ITS FALSE NEIGHBOUR: 'it returns false'. Refute it at one input. -/
def fnExactCentredPlaceWrong : ChangeSpec := { name := "fnExactCentredPlace", fn := fun _ => fun
  | [d1, d2] => { results := [.lit (.bool false)], args := [d1, d2] }
  | _ => none }
def FnExactCentredPlaceWrongFalsely : Prop := fnExactCentredPlaceRow.holds Try.pinned (OpenSpec.ofChange fnExactCentredPlaceWrong)

/-- 'laws.FnExactShapesOf': WHATEVER THE INPUT: true; the input reads as it did. -/
def fnExactShapesOfSpec : ChangeSpec := { name := "fnExactShapesOf", fn := fun _ => fun
  | [d] => { results := [.lit (.bool true)], args := [d] }
  | _ => none }
def fnExactShapesOfRow : OpenClaim := { program := "ytnldnnhfbaffkaa", sum := "9d76288f0149201b38f23f3e2052d450d22f3ec8cbde7f57bc821a17a179d6af", func := "loop.example/g01250/laws.FnExactShapesOf", spec := "fnExactShapesOf", unfollowed := true, recurses := true, apart := false }
def FnExactShapesOfSaid : Prop := fnExactShapesOfRow.holds Try.pinned (OpenSpec.ofChange fnExactShapesOfSpec)

/-- ITS FALSE NEIGHBOUR: 'it returns false'. Refute it at one input. -/
def fnExactShapesOfWrong : ChangeSpec := { name := "fnExactShapesOf", fn := fun _ => fun
  | [d] => { results := [.lit (.bool false)], args := [d] }
  | _ => none }
def FnExactShapesOfWrongFalsely : Prop := fnExactShapesOfRow.holds Try.pinned (OpenSpec.ofChange fnExactShapesOfWrong)

/-- 'laws.FnExactSquareTest': WHATEVER THE INPUT: true; the input reads as it did. -/
def fnExactSquareTestSpec : ChangeSpec := { name := "fnExactSquareTest", fn := fun _ => fun
  | [d1, d2] => { results := [.lit (.bool true)], args := [d1, d2] }
  | _ => none }
def fnExactSquareTestRow : OpenClaim := { program := "ytnldnnhfbaffkaa", sum := "9d76288f0149201b38f23f3e2052d450d22f3ec8cbde7f57bc821a17a179d6af", func := "loop.example/g01250/laws.FnExactSquareTest", spec := "fnExactSquareTest", apart := false }
def FnExactSquareTestSaid : Prop := fnExactSquareTestRow.holds Try.pinned (OpenSpec.ofChange fnExactSquareTestSpec)

/-- ITS FALSE NEIGHBOUR: 'it returns false'. Refute it at one input. -/
def fnExactSquareTestWrong : ChangeSpec := { name := "fnExactSquareTest", fn := fun _ => fun
  | [d1, d2] => { results := [.lit (.bool false)], args := [d1, d2] }
  | _ => none }
def FnExactSquareTestWrongFalsely : Prop := fnExactSquareTestRow.holds Try.pinned (OpenSpec.ofChange fnExactSquareTestWrong)

/-- 'laws.FnExactRootOf': WHATEVER THE INPUT: true; the input reads as it did. -/
def fnExactRootOfSpec : ChangeSpec := { name := "fnExactRootOf", fn := fun _ => fun
  | [d] => { results := [.lit (.bool true)], args := [d] }
  | _ => none }
def fnExactRootOfRow : OpenClaim := { program := "ytnldnnhfbaffkaa", sum := "9d76288f0149201b38f23f3e2052d450d22f3ec8cbde7f57bc821a17a179d6af", func := "loop.example/g01250/laws.FnExactRootOf", spec := "fnExactRootOf", unfollowed := true, recurses := true, apart := false }
def FnExactRootOfSaid : Prop := fnExactRootOfRow.holds Try.pinned (OpenSpec.ofChange fnExactRootOfSpec)

/-- ITS FALSE NEIGHBOUR: 'it returns false'. Refute it at one input. -/
def fnExactRootOfWrong : ChangeSpec := { name := "fnExactRootOf", fn := fun _ => fun
  | [d] => { results := [.lit (.bool false)], args := [d] }
  | _ => none }
def FnExactRootOfWrongFalsely : Prop := fnExactRootOfRow.holds Try.pinned (OpenSpec.ofChange fnExactRootOfWrong)

/- THE SECOND FORM. 'bulk': how many values and letters a reading holds, each counted each time it is reached (what is shared counts as often as it is met; a slice's spare places count too). A statement '..UptoSaid' is the law's where the arguments, and the package variables that the reading takes, are together of bulk at most 1048576: NARROWER than '..Said'. Prove '..Said' where nothing that the law and all that it calls make is longer than what came in: it says more and counts as full. Else prove '..UptoSaid'. A law counts once. -/
mutual
def uptoBulk {H : Type} : DataW H → Nat
  | .lit (.string bytes) => bytes.length + 1
  | .lit _ => 1
  | .nil => 1
  | .ptr d => uptoBulk d + 1
  | .slice elems spare => uptoBulkAll elems + uptoBulkAll spare + 1
  | .agg parts => uptoBulkAll parts + 1
  | .iface _ d => uptoBulk d + 1
  | .map entries => uptoBulkEntries entries + 1
  | .held _ => 1
def uptoBulkAll {H : Type} : List (DataW H) → Nat
  | [] => 0
  | d :: r => uptoBulk d + uptoBulkAll r
def uptoBulkEntries {H : Type} : List (Lit × DataW H) → Nat
  | [] => 0
  | x :: r => uptoBulkEntry x + uptoBulkEntries r
def uptoBulkEntry {H : Type} : Lit × DataW H → Nat
  | (.string bytes, d) => bytes.length + uptoBulk d + 1
  | (_, d) => uptoBulk d + 1
 end
def uptoSmall : (H : Type) → List (DataW H) → Bool := fun _ ds => decide (uptoBulkAll ds ≤ 1048576)
def OpenSpec.upto (s : _root_.Go.ChangeSpec) : _root_.Go.OpenSpec := { _root_.Go.OpenSpec.ofChange s with cond := some uptoSmall }

/-- 'laws.FnExactPolygonNumber', WHERE WHAT IT READS IS OF BULK AT MOST 1048576: true; the input reads as it did. -/
def fnExactPolygonNumberUptoRow : OpenClaim := { program := "ytnldnnhfbaffkaa", sum := "9d76288f0149201b38f23f3e2052d450d22f3ec8cbde7f57bc821a17a179d6af", func := "loop.example/g01250/laws.FnExactPolygonNumber", spec := "fnExactPolygonNumber", apart := false, narrowed := true }
def FnExactPolygonNumberUptoSaid : Prop := fnExactPolygonNumberUptoRow.holds Try.pinned (OpenSpec.upto fnExactPolygonNumberSpec)

/-- 'laws.FnExactPlaceOf', WHERE WHAT IT READS IS OF BULK AT MOST 1048576: true; the input reads as it did. -/
def fnExactPlaceOfUptoRow : OpenClaim := { program := "ytnldnnhfbaffkaa", sum := "9d76288f0149201b38f23f3e2052d450d22f3ec8cbde7f57bc821a17a179d6af", func := "loop.example/g01250/laws.FnExactPlaceOf", spec := "fnExactPlaceOf", unfollowed := true, recurses := true, apart := false, narrowed := true }
def FnExactPlaceOfUptoSaid : Prop := fnExactPlaceOfUptoRow.holds Try.pinned (OpenSpec.upto fnExactPlaceOfSpec)

/-- 'laws.FnExactIsPolygonal', WHERE WHAT IT READS IS OF BULK AT MOST 1048576: true; the input reads as it did. -/
def fnExactIsPolygonalUptoRow : OpenClaim := { program := "ytnldnnhfbaffkaa", sum := "9d76288f0149201b38f23f3e2052d450d22f3ec8cbde7f57bc821a17a179d6af", func := "loop.example/g01250/laws.FnExactIsPolygonal", spec := "fnExactIsPolygonal", unfollowed := true, recurses := true, apart := false, narrowed := true }
def FnExactIsPolygonalUptoSaid : Prop := fnExactIsPolygonalUptoRow.holds Try.pinned (OpenSpec.upto fnExactIsPolygonalSpec)

/-- 'laws.FnExactGnomonOf', WHERE WHAT IT READS IS OF BULK AT MOST 1048576: true; the input reads as it did. -/
def fnExactGnomonOfUptoRow : OpenClaim := { program := "ytnldnnhfbaffkaa", sum := "9d76288f0149201b38f23f3e2052d450d22f3ec8cbde7f57bc821a17a179d6af", func := "loop.example/g01250/laws.FnExactGnomonOf", spec := "fnExactGnomonOf", apart := false, narrowed := true }
def FnExactGnomonOfUptoSaid : Prop := fnExactGnomonOfUptoRow.holds Try.pinned (OpenSpec.upto fnExactGnomonOfSpec)

/-- 'laws.FnExactNextPolygonal', WHERE WHAT IT READS IS OF BULK AT MOST 1048576: true; the input reads as it did. -/
def fnExactNextPolygonalUptoRow : OpenClaim := { program := "ytnldnnhfbaffkaa", sum := "9d76288f0149201b38f23f3e2052d450d22f3ec8cbde7f57bc821a17a179d6af", func := "loop.example/g01250/laws.FnExactNextPolygonal", spec := "fnExactNextPolygonal", unfollowed := true, recurses := true, apart := false, narrowed := true }
def FnExactNextPolygonalUptoSaid : Prop := fnExactNextPolygonalUptoRow.holds Try.pinned (OpenSpec.upto fnExactNextPolygonalSpec)

/-- 'laws.FnExactCountUpTo', WHERE WHAT IT READS IS OF BULK AT MOST 1048576: true; the input reads as it did. -/
def fnExactCountUpToUptoRow : OpenClaim := { program := "ytnldnnhfbaffkaa", sum := "9d76288f0149201b38f23f3e2052d450d22f3ec8cbde7f57bc821a17a179d6af", func := "loop.example/g01250/laws.FnExactCountUpTo", spec := "fnExactCountUpTo", unfollowed := true, recurses := true, apart := false, narrowed := true }
def FnExactCountUpToUptoSaid : Prop := fnExactCountUpToUptoRow.holds Try.pinned (OpenSpec.upto fnExactCountUpToSpec)

/-- 'laws.FnExactPolygonalUpTo', WHERE WHAT IT READS IS OF BULK AT MOST 1048576: true; the input reads as it did. -/
def fnExactPolygonalUpToUptoRow : OpenClaim := { program := "ytnldnnhfbaffkaa", sum := "9d76288f0149201b38f23f3e2052d450d22f3ec8cbde7f57bc821a17a179d6af", func := "loop.example/g01250/laws.FnExactPolygonalUpTo", spec := "fnExactPolygonalUpTo", apart := false, narrowed := true }
def FnExactPolygonalUpToUptoSaid : Prop := fnExactPolygonalUpToUptoRow.holds Try.pinned (OpenSpec.upto fnExactPolygonalUpToSpec)

/-- 'laws.FnExactWideNumber', WHERE WHAT IT READS IS OF BULK AT MOST 1048576: true; the input reads as it did. -/
def fnExactWideNumberUptoRow : OpenClaim := { program := "ytnldnnhfbaffkaa", sum := "9d76288f0149201b38f23f3e2052d450d22f3ec8cbde7f57bc821a17a179d6af", func := "loop.example/g01250/laws.FnExactWideNumber", spec := "fnExactWideNumber", apart := false, narrowed := true }
def FnExactWideNumberUptoSaid : Prop := fnExactWideNumberUptoRow.holds Try.pinned (OpenSpec.upto fnExactWideNumberSpec)

/-- 'laws.FnExactWidePlace', WHERE WHAT IT READS IS OF BULK AT MOST 1048576: true; the input reads as it did. -/
def fnExactWidePlaceUptoRow : OpenClaim := { program := "ytnldnnhfbaffkaa", sum := "9d76288f0149201b38f23f3e2052d450d22f3ec8cbde7f57bc821a17a179d6af", func := "loop.example/g01250/laws.FnExactWidePlace", spec := "fnExactWidePlace", unfollowed := true, recurses := true, apart := false, narrowed := true }
def FnExactWidePlaceUptoSaid : Prop := fnExactWidePlaceUptoRow.holds Try.pinned (OpenSpec.upto fnExactWidePlaceSpec)

/-- 'laws.FnExactCentredNumber', WHERE WHAT IT READS IS OF BULK AT MOST 1048576: true; the input reads as it did. -/
def fnExactCentredNumberUptoRow : OpenClaim := { program := "ytnldnnhfbaffkaa", sum := "9d76288f0149201b38f23f3e2052d450d22f3ec8cbde7f57bc821a17a179d6af", func := "loop.example/g01250/laws.FnExactCentredNumber", spec := "fnExactCentredNumber", apart := false, narrowed := true }
def FnExactCentredNumberUptoSaid : Prop := fnExactCentredNumberUptoRow.holds Try.pinned (OpenSpec.upto fnExactCentredNumberSpec)

/-- 'laws.FnExactCentredPlace', WHERE WHAT IT READS IS OF BULK AT MOST 1048576: true; the input reads as it did. -/
def fnExactCentredPlaceUptoRow : OpenClaim := { program := "ytnldnnhfbaffkaa", sum := "9d76288f0149201b38f23f3e2052d450d22f3ec8cbde7f57bc821a17a179d6af", func := "loop.example/g01250/laws.FnExactCentredPlace", spec := "fnExactCentredPlace", unfollowed := true, recurses := true, apart := false, narrowed := true }
def FnExactCentredPlaceUptoSaid : Prop := fnExactCentredPlaceUptoRow.holds Try.pinned (OpenSpec.upto fnExactCentredPlaceSpec)

/-- 'laws.FnExactShapesOf', WHERE WHAT IT READS IS OF BULK AT MOST 1048576: true; the input reads as it did. -/
def fnExactShapesOfUptoRow : OpenClaim := { program := "ytnldnnhfbaffkaa", sum := "9d76288f0149201b38f23f3e2052d450d22f3ec8cbde7f57bc821a17a179d6af", func := "loop.example/g01250/laws.FnExactShapesOf", spec := "fnExactShapesOf", unfollowed := true, recurses := true, apart := false, narrowed := true }
def FnExactShapesOfUptoSaid : Prop := fnExactShapesOfUptoRow.holds Try.pinned (OpenSpec.upto fnExactShapesOfSpec)

/-- 'laws.FnExactSquareTest', WHERE WHAT IT READS IS OF BULK AT MOST 1048576: true; the input reads as it did. -/
def fnExactSquareTestUptoRow : OpenClaim := { program := "ytnldnnhfbaffkaa", sum := "9d76288f0149201b38f23f3e2052d450d22f3ec8cbde7f57bc821a17a179d6af", func := "loop.example/g01250/laws.FnExactSquareTest", spec := "fnExactSquareTest", apart := false, narrowed := true }
def FnExactSquareTestUptoSaid : Prop := fnExactSquareTestUptoRow.holds Try.pinned (OpenSpec.upto fnExactSquareTestSpec)

/-- 'laws.FnExactRootOf', WHERE WHAT IT READS IS OF BULK AT MOST 1048576: true; the input reads as it did. -/
def fnExactRootOfUptoRow : OpenClaim := { program := "ytnldnnhfbaffkaa", sum := "9d76288f0149201b38f23f3e2052d450d22f3ec8cbde7f57bc821a17a179d6af", func := "loop.example/g01250/laws.FnExactRootOf", spec := "fnExactRootOf", unfollowed := true, recurses := true, apart := false, narrowed := true }
def FnExactRootOfUptoSaid : Prop := fnExactRootOfUptoRow.holds Try.pinned (OpenSpec.upto fnExactRootOfSpec)

end Rows
end Go.Proofs.Ytnldnnhfbaffkaa
