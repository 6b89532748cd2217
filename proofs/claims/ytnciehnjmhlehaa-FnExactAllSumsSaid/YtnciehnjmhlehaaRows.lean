/-
  No cell of these rows narrows 'for every input' (looked for: loops, veiled, ifaces, maps, wideKeys, modest, calm, conditions, laid).
  DERIVED. THE GIVEN ROWS OF THIS SEAT. 10 by the template 'for every input the law returns true; each argument reads behind the call as it read before'; 0 by the template 'total and deterministic' (their statements: YtnciehnjmhlehaaTotals.lean).
  GIVEN WITH THE SEED: the statements are not yours to turn. If you find one false, say at which input.
  Laid BY PROGRAM, IN A SANDBOX (cutbox-rows.mjs): the forced cells as the released guide's own fill.sh prints them over the translation f045cb15df9e6c28… (all of the seat's roots in one cut). By AI agents, Wed Nov 11 2026. No macro, syntax, notation, axiom, sorry.
-/
import Derived.Test.YtnciehnjmhlehaaChecked
import GoSem.Claim
import GoSem.ClaimJoined
import GoSem.ClaimMapViews
import Derived.JoinedTies
import Derived.KernelRfl
namespace Go.Proofs.Ytnciehnjmhlehaa
/- THE CELL 'sum', in the pinned program and in every row, IS THE sha256 OF THE DUMP (.gsa) THAT YtnciehnjmhlehaaProg.lean LOADS. Nothing in Lean hashes anything: it is a label: what it is worth is what the hold of that sum in a sandbox is worth. -/
noncomputable def Try.pinned : Pinned := { name := "ytnciehnjmhlehaa", sum := "f045cb15df9e6c285e2cf59bc0dc8cf0387ff46ec38b80bc1fa2752fff92543e", checked := Try.checked }
namespace Rows
def none {H : Type} : Left H := { results := [], args := [] }

/-- 'laws.FnExactPlaceOf': WHATEVER THE INPUT: true; the input reads as it did. -/
def fnExactPlaceOfSpec : ChangeSpec := { name := "fnExactPlaceOf", fn := fun _ => fun
  | [d1, d2] => { results := [.lit (.bool true)], args := [d1, d2] }
  | _ => none }
def fnExactPlaceOfRow : OpenClaim := { program := "ytnciehnjmhlehaa", sum := "f045cb15df9e6c285e2cf59bc0dc8cf0387ff46ec38b80bc1fa2752fff92543e", func := "loop.example/g01250/laws.FnExactPlaceOf", spec := "fnExactPlaceOf", unfollowed := true, recurses := true, apart := false }
def FnExactPlaceOfSaid : Prop := fnExactPlaceOfRow.holds Try.pinned (OpenSpec.ofChange fnExactPlaceOfSpec)

/-- ITS FALSE NEIGHBOUR: 'it returns false'. Refute it at one input. -/
def fnExactPlaceOfWrong : ChangeSpec := { name := "fnExactPlaceOf", fn := fun _ => fun
  | [d1, d2] => { results := [.lit (.bool false)], args := [d1, d2] }
  | _ => none }
def FnExactPlaceOfWrongFalsely : Prop := fnExactPlaceOfRow.holds Try.pinned (OpenSpec.ofChange fnExactPlaceOfWrong)

/-- 'laws.FnExactIsPolygonal': WHATEVER THE INPUT: true; the input reads as it did. -/
def fnExactIsPolygonalSpec : ChangeSpec := { name := "fnExactIsPolygonal", fn := fun _ => fun
  | [d1, d2] => { results := [.lit (.bool true)], args := [d1, d2] }
  | _ => none }
def fnExactIsPolygonalRow : OpenClaim := { program := "ytnciehnjmhlehaa", sum := "f045cb15df9e6c285e2cf59bc0dc8cf0387ff46ec38b80bc1fa2752fff92543e", func := "loop.example/g01250/laws.FnExactIsPolygonal", spec := "fnExactIsPolygonal", unfollowed := true, recurses := true, apart := false }
def FnExactIsPolygonalSaid : Prop := fnExactIsPolygonalRow.holds Try.pinned (OpenSpec.ofChange fnExactIsPolygonalSpec)

/-- ITS FALSE NEIGHBOUR: 'it returns false'. Refute it at one input. -/
def fnExactIsPolygonalWrong : ChangeSpec := { name := "fnExactIsPolygonal", fn := fun _ => fun
  | [d1, d2] => { results := [.lit (.bool false)], args := [d1, d2] }
  | _ => none }
def FnExactIsPolygonalWrongFalsely : Prop := fnExactIsPolygonalRow.holds Try.pinned (OpenSpec.ofChange fnExactIsPolygonalWrong)

/-- 'laws.FnExactWidePlace': WHATEVER THE INPUT: true; the input reads as it did. -/
def fnExactWidePlaceSpec : ChangeSpec := { name := "fnExactWidePlace", fn := fun _ => fun
  | [d1, d2] => { results := [.lit (.bool true)], args := [d1, d2] }
  | _ => none }
def fnExactWidePlaceRow : OpenClaim := { program := "ytnciehnjmhlehaa", sum := "f045cb15df9e6c285e2cf59bc0dc8cf0387ff46ec38b80bc1fa2752fff92543e", func := "loop.example/g01250/laws.FnExactWidePlace", spec := "fnExactWidePlace", unfollowed := true, recurses := true, apart := false }
def FnExactWidePlaceSaid : Prop := fnExactWidePlaceRow.holds Try.pinned (OpenSpec.ofChange fnExactWidePlaceSpec)

/-- ITS FALSE NEIGHBOUR: 'it returns false'. Refute it at one input. -/
def fnExactWidePlaceWrong : ChangeSpec := { name := "fnExactWidePlace", fn := fun _ => fun
  | [d1, d2] => { results := [.lit (.bool false)], args := [d1, d2] }
  | _ => none }
def FnExactWidePlaceWrongFalsely : Prop := fnExactWidePlaceRow.holds Try.pinned (OpenSpec.ofChange fnExactWidePlaceWrong)

/-- 'laws.FnExactCentredPlace': WHATEVER THE INPUT: true; the input reads as it did. -/
def fnExactCentredPlaceSpec : ChangeSpec := { name := "fnExactCentredPlace", fn := fun _ => fun
  | [d1, d2] => { results := [.lit (.bool true)], args := [d1, d2] }
  | _ => none }
def fnExactCentredPlaceRow : OpenClaim := { program := "ytnciehnjmhlehaa", sum := "f045cb15df9e6c285e2cf59bc0dc8cf0387ff46ec38b80bc1fa2752fff92543e", func := "loop.example/g01250/laws.FnExactCentredPlace", spec := "fnExactCentredPlace", unfollowed := true, recurses := true, apart := false }
def FnExactCentredPlaceSaid : Prop := fnExactCentredPlaceRow.holds Try.pinned (OpenSpec.ofChange fnExactCentredPlaceSpec)

/-- ITS FALSE NEIGHBOUR: 'it returns false'. Refute it at one input. -/
def fnExactCentredPlaceWrong : ChangeSpec := { name := "fnExactCentredPlace", fn := fun _ => fun
  | [d1, d2] => { results := [.lit (.bool false)], args := [d1, d2] }
  | _ => none }
def FnExactCentredPlaceWrongFalsely : Prop := fnExactCentredPlaceRow.holds Try.pinned (OpenSpec.ofChange fnExactCentredPlaceWrong)

/-- 'laws.FnExactShapesOf': WHATEVER THE INPUT: true; the input reads as it did. -/
def fnExactShapesOfSpec : ChangeSpec := { name := "fnExactShapesOf", fn := fun _ => fun
  | [d] => { results := [.lit (.bool true)], args := [d] }
  | _ => none }
def fnExactShapesOfRow : OpenClaim := { program := "ytnciehnjmhlehaa", sum := "f045cb15df9e6c285e2cf59bc0dc8cf0387ff46ec38b80bc1fa2752fff92543e", func := "loop.example/g01250/laws.FnExactShapesOf", spec := "fnExactShapesOf", unfollowed := true, recurses := true, apart := false }
def FnExactShapesOfSaid : Prop := fnExactShapesOfRow.holds Try.pinned (OpenSpec.ofChange fnExactShapesOfSpec)

/-- ITS FALSE NEIGHBOUR: 'it returns false'. Refute it at one input. -/
def fnExactShapesOfWrong : ChangeSpec := { name := "fnExactShapesOf", fn := fun _ => fun
  | [d] => { results := [.lit (.bool false)], args := [d] }
  | _ => none }
def FnExactShapesOfWrongFalsely : Prop := fnExactShapesOfRow.holds Try.pinned (OpenSpec.ofChange fnExactShapesOfWrong)

/-- 'laws.FnExactTwoShapes': WHATEVER THE INPUT: true; the input reads as it did. -/
def fnExactTwoShapesSpec : ChangeSpec := { name := "fnExactTwoShapes", fn := fun _ => fun
  | [d1, d2, d3] => { results := [.lit (.bool true)], args := [d1, d2, d3] }
  | _ => none }
def fnExactTwoShapesRow : OpenClaim := { program := "ytnciehnjmhlehaa", sum := "f045cb15df9e6c285e2cf59bc0dc8cf0387ff46ec38b80bc1fa2752fff92543e", func := "loop.example/g01250/laws.FnExactTwoShapes", spec := "fnExactTwoShapes", unfollowed := true, recurses := true, apart := false }
def FnExactTwoShapesSaid : Prop := fnExactTwoShapesRow.holds Try.pinned (OpenSpec.ofChange fnExactTwoShapesSpec)

/-- ITS FALSE NEIGHBOUR: 'it returns false'. Refute it at one input. -/
def fnExactTwoShapesWrong : ChangeSpec := { name := "fnExactTwoShapes", fn := fun _ => fun
  | [d1, d2, d3] => { results := [.lit (.bool false)], args := [d1, d2, d3] }
  | _ => none }
def FnExactTwoShapesWrongFalsely : Prop := fnExactTwoShapesRow.holds Try.pinned (OpenSpec.ofChange fnExactTwoShapesWrong)

/-- 'laws.FnExactCountTwoShapes': WHATEVER THE INPUT: true; the input reads as it did. -/
def fnExactCountTwoShapesSpec : ChangeSpec := { name := "fnExactCountTwoShapes", fn := fun _ => fun
  | [d1, d2, d3] => { results := [.lit (.bool true)], args := [d1, d2, d3] }
  | _ => none }
def fnExactCountTwoShapesRow : OpenClaim := { program := "ytnciehnjmhlehaa", sum := "f045cb15df9e6c285e2cf59bc0dc8cf0387ff46ec38b80bc1fa2752fff92543e", func := "loop.example/g01250/laws.FnExactCountTwoShapes", spec := "fnExactCountTwoShapes", unfollowed := true, recurses := true, apart := false }
def FnExactCountTwoShapesSaid : Prop := fnExactCountTwoShapesRow.holds Try.pinned (OpenSpec.ofChange fnExactCountTwoShapesSpec)

/-- ITS FALSE NEIGHBOUR: 'it returns false'. Refute it at one input. -/
def fnExactCountTwoShapesWrong : ChangeSpec := { name := "fnExactCountTwoShapes", fn := fun _ => fun
  | [d1, d2, d3] => { results := [.lit (.bool false)], args := [d1, d2, d3] }
  | _ => none }
def FnExactCountTwoShapesWrongFalsely : Prop := fnExactCountTwoShapesRow.holds Try.pinned (OpenSpec.ofChange fnExactCountTwoShapesWrong)

/-- 'laws.FnExactCountSums': WHATEVER THE INPUT: true; the input reads as it did. -/
def fnExactCountSumsSpec : ChangeSpec := { name := "fnExactCountSums", fn := fun _ => fun
  | [d1, d2, d3] => { results := [.lit (.bool true)], args := [d1, d2, d3] }
  | _ => none }
def fnExactCountSumsRow : OpenClaim := { program := "ytnciehnjmhlehaa", sum := "f045cb15df9e6c285e2cf59bc0dc8cf0387ff46ec38b80bc1fa2752fff92543e", func := "loop.example/g01250/laws.FnExactCountSums", spec := "fnExactCountSums", apart := false }
def FnExactCountSumsSaid : Prop := fnExactCountSumsRow.holds Try.pinned (OpenSpec.ofChange fnExactCountSumsSpec)

/-- ITS FALSE NEIGHBOUR: 'it returns false'. Refute it at one input. -/
def fnExactCountSumsWrong : ChangeSpec := { name := "fnExactCountSums", fn := fun _ => fun
  | [d1, d2, d3] => { results := [.lit (.bool false)], args := [d1, d2, d3] }
  | _ => none }
def FnExactCountSumsWrongFalsely : Prop := fnExactCountSumsRow.holds Try.pinned (OpenSpec.ofChange fnExactCountSumsWrong)

/-- 'laws.FnExactCountThreeTriangles': WHATEVER THE INPUT: true; the input reads as it did. -/
def fnExactCountThreeTrianglesSpec : ChangeSpec := { name := "fnExactCountThreeTriangles", fn := fun _ => fun
  | [d] => { results := [.lit (.bool true)], args := [d] }
  | _ => none }
def fnExactCountThreeTrianglesRow : OpenClaim := { program := "ytnciehnjmhlehaa", sum := "f045cb15df9e6c285e2cf59bc0dc8cf0387ff46ec38b80bc1fa2752fff92543e", func := "loop.example/g01250/laws.FnExactCountThreeTriangles", spec := "fnExactCountThreeTriangles", apart := false }
def FnExactCountThreeTrianglesSaid : Prop := fnExactCountThreeTrianglesRow.holds Try.pinned (OpenSpec.ofChange fnExactCountThreeTrianglesSpec)

/-- ITS FALSE NEIGHBOUR: 'it returns false'. Refute it at one input. -/
def fnExactCountThreeTrianglesWrong : ChangeSpec := { name := "fnExactCountThreeTriangles", fn := fun _ => fun
  | [d] => { results := [.lit (.bool false)], args := [d] }
  | _ => none }
def FnExactCountThreeTrianglesWrongFalsely : Prop := fnExactCountThreeTrianglesRow.holds Try.pinned (OpenSpec.ofChange fnExactCountThreeTrianglesWrong)

/-- 'laws.FnExactAllSums': WHATEVER THE INPUT: true; the input reads as it did. -/
def fnExactAllSumsSpec : ChangeSpec := { name := "fnExactAllSums", fn := fun _ => fun
  | [d1, d2, d3] => { results := [.lit (.bool true)], args := [d1, d2, d3] }
  | _ => none }
def fnExactAllSumsRow : OpenClaim := { program := "ytnciehnjmhlehaa", sum := "f045cb15df9e6c285e2cf59bc0dc8cf0387ff46ec38b80bc1fa2752fff92543e", func := "loop.example/g01250/laws.FnExactAllSums", spec := "fnExactAllSums", recurses := true, apart := false }
def FnExactAllSumsSaid : Prop := fnExactAllSumsRow.holds Try.pinned (OpenSpec.ofChange fnExactAllSumsSpec)

/-- ITS FALSE NEIGHBOUR: 'it returns false'. Refute it at one input. -/
def fnExactAllSumsWrong : ChangeSpec := { name := "fnExactAllSums", fn := fun _ => fun
  | [d1, d2, d3] => { results := [.lit (.bool false)], args := [d1, d2, d3] }
  | _ => none }
def FnExactAllSumsWrongFalsely : Prop := fnExactAllSumsRow.holds Try.pinned (OpenSpec.ofChange fnExactAllSumsWrong)

/- THE SECOND FORM. 'bulk': how many values and letters a reading holds, each counted each time it is reached (what is shared counts as often as it is met; a slice's spare places count too). A statement '..UptoSaid' is the law's where the arguments, and the package variables that the reading takes, are together of bulk at most 1048576: NARROWER than '..Said'. Prove '..Said' where nothing that the law and all that it calls make is longer than what came in: it says more and counts as full. Else prove '..UptoSaid'. A law counts once. -/
mutual
def uptoBulk {H : Type} : DataW H → Nat
  | .lit (.string bytes) => bytes.length + 1
  | .lit _ => 1
  | .nil => 1
  | .ptr d => uptoBulk d + 1
  | .slice elems spare => uptoBulkAll elems + uptoBulkAll spare + 1
  | .agg parts => uptoBulkAll parts + 1
  | .iface _ d => uptoBulk d + 1
  | .map entries => uptoBulkEntries entries + 1
  | .held _ => 1
def uptoBulkAll {H : Type} : List (DataW H) → Nat
  | [] => 0
  | d :: r => uptoBulk d + uptoBulkAll r
def uptoBulkEntries {H : Type} : List (Lit × DataW H) → Nat
  | [] => 0
  | x :: r => uptoBulkEntry x + uptoBulkEntries r
def uptoBulkEntry {H : Type} : Lit × DataW H → Nat
  | (.string bytes, d) => bytes.length + uptoBulk d + 1
  | (_, d) => uptoBulk d + 1
 end
def uptoSmall : (H : Type) → List (DataW H) → Bool := fun _ ds => decide (uptoBulkAll ds ≤ 1048576)
def OpenSpec.upto (s : _root_.Go.ChangeSpec) : _root_.Go.OpenSpec := { _root_.Go.OpenSpec.ofChange s with cond := some uptoSmall }

/-- 'laws.FnExactPlaceOf', WHERE WHAT IT READS IS OF BULK AT MOST 1048576: true; the input reads as it did. -/
def fnExactPlaceOfUptoRow : OpenClaim := { program := "ytnciehnjmhlehaa", sum := "f045cb15df9e6c285e2cf59bc0dc8cf0387ff46ec38b80bc1fa2752fff92543e", func := "loop.example/g01250/laws.FnExactPlaceOf", spec := "fnExactPlaceOf", unfollowed := true, recurses := true, apart := false, narrowed := true }
def FnExactPlaceOfUptoSaid : Prop := fnExactPlaceOfUptoRow.holds Try.pinned (OpenSpec.upto fnExactPlaceOfSpec)

/-- 'laws.FnExactIsPolygonal', WHERE WHAT IT READS IS OF BULK AT MOST 1048576: true; the input reads as it did. -/
def fnExactIsPolygonalUptoRow : OpenClaim := { program := "ytnciehnjmhlehaa", sum := "f045cb15df9e6c285e2cf59bc0dc8cf0387ff46ec38b80bc1fa2752fff92543e", func := "loop.example/g01250/laws.FnExactIsPolygonal", spec := "fnExactIsPolygonal", unfollowed := true, recurses := true, apart := false, narrowed := true }
def FnExactIsPolygonalUptoSaid : Prop := fnExactIsPolygonalUptoRow.holds Try.pinned (OpenSpec.upto fnExactIsPolygonalSpec)

/-- 'laws.FnExactWidePlace', WHERE WHAT IT READS IS OF BULK AT MOST 1048576: true; the input reads as it did. -/
def fnExactWidePlaceUptoRow : OpenClaim := { program := "ytnciehnjmhlehaa", sum := "f045cb15df9e6c285e2cf59bc0dc8cf0387ff46ec38b80bc1fa2752fff92543e", func := "loop.example/g01250/laws.FnExactWidePlace", spec := "fnExactWidePlace", unfollowed := true, recurses := true, apart := false, narrowed := true }
def FnExactWidePlaceUptoSaid : Prop := fnExactWidePlaceUptoRow.holds Try.pinned (OpenSpec.upto fnExactWidePlaceSpec)

/-- 'laws.FnExactCentredPlace', WHERE WHAT IT READS IS OF BULK AT MOST 1048576: true; the input reads as it did. -/
def fnExactCentredPlaceUptoRow : OpenClaim := { program := "ytnciehnjmhlehaa", sum := "f045cb15df9e6c285e2cf59bc0dc8cf0387ff46ec38b80bc1fa2752fff92543e", func := "loop.example/g01250/laws.FnExactCentredPlace", spec := "fnExactCentredPlace", unfollowed := true, recurses := true, apart := false, narrowed := true }
def FnExactCentredPlaceUptoSaid : Prop := fnExactCentredPlaceUptoRow.holds Try.pinned (OpenSpec.upto fnExactCentredPlaceSpec)

/-- 'laws.FnExactShapesOf', WHERE WHAT IT READS IS OF BULK AT MOST 1048576: true; the input reads as it did. -/
def fnExactShapesOfUptoRow : OpenClaim := { program := "ytnciehnjmhlehaa", sum := "f045cb15df9e6c285e2cf59bc0dc8cf0387ff46ec38b80bc1fa2752fff92543e", func := "loop.example/g01250/laws.FnExactShapesOf", spec := "fnExactShapesOf", unfollowed := true, recurses := true, apart := false, narrowed := true }
def FnExactShapesOfUptoSaid : Prop := fnExactShapesOfUptoRow.holds Try.pinned (OpenSpec.upto fnExactShapesOfSpec)

/-- 'laws.FnExactTwoShapes', WHERE WHAT IT READS IS OF BULK AT MOST 1048576: true; the input reads as it did. -/
def fnExactTwoShapesUptoRow : OpenClaim := { program := "ytnciehnjmhlehaa", sum := "f045cb15df9e6c285e2cf59bc0dc8cf0387ff46ec38b80bc1fa2752fff92543e", func := "loop.example/g01250/laws.FnExactTwoShapes", spec := "fnExactTwoShapes", unfollowed := true, recurses := true, apart := false, narrowed := true }
def FnExactTwoShapesUptoSaid : Prop := fnExactTwoShapesUptoRow.holds Try.pinned (OpenSpec.upto fnExactTwoShapesSpec)

/-- 'laws.FnExactCountTwoShapes', WHERE WHAT IT READS IS OF BULK AT MOST 1048576: true; the input reads as it did. -/
def fnExactCountTwoShapesUptoRow : OpenClaim := { program := "ytnciehnjmhlehaa", sum := "f045cb15df9e6c285e2cf59bc0dc8cf0387ff46ec38b80bc1fa2752fff92543e", func := "loop.example/g01250/laws.FnExactCountTwoShapes", spec := "fnExactCountTwoShapes", unfollowed := true, recurses := true, apart := false, narrowed := true }
def FnExactCountTwoShapesUptoSaid : Prop := fnExactCountTwoShapesUptoRow.holds Try.pinned (OpenSpec.upto fnExactCountTwoShapesSpec)

/-- 'laws.FnExactCountSums', WHERE WHAT IT READS IS OF BULK AT MOST 1048576: true; the input reads as it did. -/
def fnExactCountSumsUptoRow : OpenClaim := { program := "ytnciehnjmhlehaa", sum := "f045cb15df9e6c285e2cf59bc0dc8cf0387ff46ec38b80bc1fa2752fff92543e", func := "loop.example/g01250/laws.FnExactCountSums", spec := "fnExactCountSums", apart := false, narrowed := true }
def FnExactCountSumsUptoSaid : Prop := fnExactCountSumsUptoRow.holds Try.pinned (OpenSpec.upto fnExactCountSumsSpec)

/-- 'laws.FnExactCountThreeTriangles', WHERE WHAT IT READS IS OF BULK AT MOST 1048576: true; the input reads as it did. -/
def fnExactCountThreeTrianglesUptoRow : OpenClaim := { program := "ytnciehnjmhlehaa", sum := "f045cb15df9e6c285e2cf59bc0dc8cf0387ff46ec38b80bc1fa2752fff92543e", func := "loop.example/g01250/laws.FnExactCountThreeTriangles", spec := "fnExactCountThreeTriangles", apart := false, narrowed := true }
def FnExactCountThreeTrianglesUptoSaid : Prop := fnExactCountThreeTrianglesUptoRow.holds Try.pinned (OpenSpec.upto fnExactCountThreeTrianglesSpec)

/-- 'laws.FnExactAllSums', WHERE WHAT IT READS IS OF BULK AT MOST 1048576: true; the input reads as it did. -/
def fnExactAllSumsUptoRow : OpenClaim := { program := "ytnciehnjmhlehaa", sum := "f045cb15df9e6c285e2cf59bc0dc8cf0387ff46ec38b80bc1fa2752fff92543e", func := "loop.example/g01250/laws.FnExactAllSums", spec := "fnExactAllSums", recurses := true, apart := false, narrowed := true }
def FnExactAllSumsUptoSaid : Prop := fnExactAllSumsUptoRow.holds Try.pinned (OpenSpec.upto fnExactAllSumsSpec)

end Rows
end Go.Proofs.Ytnciehnjmhlehaa
