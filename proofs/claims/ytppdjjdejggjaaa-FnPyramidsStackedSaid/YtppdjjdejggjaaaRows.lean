/-
  No cell of these rows narrows 'for every input' (looked for: loops, veiled, ifaces, maps, wideKeys, modest, calm, conditions, laid).
  DERIVED. THE GIVEN ROWS OF THIS SEAT. 11 by the template 'for every input the law returns true; each argument reads behind the call as it read before'; 0 by the template 'total and deterministic' (their statements: YtppdjjdejggjaaaTotals.lean).
  GIVEN WITH THE SEED: the statements are not yours to turn. If you find one false, say at which input.
  Laid BY PROGRAM, IN A SANDBOX (cutbox-rows.mjs): the forced cells as the released guide's own fill.sh prints them over the translation d8950837f34aff5d… (all of the seat's roots in one cut). By AI agents, Wed Nov 11 2026. No macro, syntax, notation, axiom, sorry.
-/
import Derived.Test.YtppdjjdejggjaaaChecked
import GoSem.Claim
import GoSem.ClaimJoined
import GoSem.ClaimMapViews
import Derived.JoinedTies
import Derived.KernelRfl
namespace Go.Proofs.Ytppdjjdejggjaaa
/- THE CELL 'sum', in the pinned program and in every row, IS THE sha256 OF THE DUMP (.gsa) THAT YtppdjjdejggjaaaProg.lean LOADS. Nothing in Lean hashes anything: it is a label: what it is worth is what the hold of that sum in a sandbox is worth. -/
noncomputable def Try.pinned : Pinned := { name := "ytppdjjdejggjaaa", sum := "d8950837f34aff5db18d9387688734dc3e7598338c4e8c6f592d765fac13696d", checked := Try.checked }
namespace Rows
def none {H : Type} : Left H := { results := [], args := [] }

/-- 'laws.FnExactFirstDesk': WHATEVER THE INPUT: true; the input reads as it did. -/
def fnExactFirstDeskSpec : ChangeSpec := { name := "fnExactFirstDesk", fn := fun _ => fun
  | [] => { results := [.lit (.bool true)], args := [] }
  | _ => none }
def fnExactFirstDeskRow : OpenClaim := { program := "ytppdjjdejggjaaa", sum := "d8950837f34aff5db18d9387688734dc3e7598338c4e8c6f592d765fac13696d", func := "loop.example/g01250/laws.FnExactFirstDesk", spec := "fnExactFirstDesk", apart := false }
def FnExactFirstDeskSaid : Prop := fnExactFirstDeskRow.holds Try.pinned (OpenSpec.ofChange fnExactFirstDeskSpec)

/-- ITS FALSE NEIGHBOUR: 'it returns false'. Refute it at one input. -/
def fnExactFirstDeskWrong : ChangeSpec := { name := "fnExactFirstDesk", fn := fun _ => fun
  | [] => { results := [.lit (.bool false)], args := [] }
  | _ => none }
def FnExactFirstDeskWrongFalsely : Prop := fnExactFirstDeskRow.holds Try.pinned (OpenSpec.ofChange fnExactFirstDeskWrong)

/-- 'laws.FnPlacesFoundOfAll': WHATEVER THE INPUT: true; the input reads as it did. -/
def fnPlacesFoundOfAllSpec : ChangeSpec := { name := "fnPlacesFoundOfAll", fn := fun _ => fun
  | [d1, d2, d3, d4, d5] => { results := [.lit (.bool true)], args := [d1, d2, d3, d4, d5] }
  | _ => none }
def fnPlacesFoundOfAllRow : OpenClaim := { program := "ytppdjjdejggjaaa", sum := "d8950837f34aff5db18d9387688734dc3e7598338c4e8c6f592d765fac13696d", func := "loop.example/g01250/laws.FnPlacesFoundOfAll", spec := "fnPlacesFoundOfAll", unfollowed := true, recurses := true, apart := false }
def FnPlacesFoundOfAllSaid : Prop := fnPlacesFoundOfAllRow.holds Try.pinned (OpenSpec.ofChange fnPlacesFoundOfAllSpec)

/-- ITS FALSE NEIGHBOUR: 'it returns false'. Refute it at one input. -/
def fnPlacesFoundOfAllWrong : ChangeSpec := { name := "fnPlacesFoundOfAll", fn := fun _ => fun
  | [d1, d2, d3, d4, d5] => { results := [.lit (.bool false)], args := [d1, d2, d3, d4, d5] }
  | _ => none }
def FnPlacesFoundOfAllWrongFalsely : Prop := fnPlacesFoundOfAllRow.holds Try.pinned (OpenSpec.ofChange fnPlacesFoundOfAllWrong)

/-- 'laws.FnPlacesFound': WHATEVER THE INPUT: true; the input reads as it did. -/
def fnPlacesFoundSpec : ChangeSpec := { name := "fnPlacesFound", fn := fun _ => fun
  | [d1, d2] => { results := [.lit (.bool true)], args := [d1, d2] }
  | _ => none }
def fnPlacesFoundRow : OpenClaim := { program := "ytppdjjdejggjaaa", sum := "d8950837f34aff5db18d9387688734dc3e7598338c4e8c6f592d765fac13696d", func := "loop.example/g01250/laws.FnPlacesFound", spec := "fnPlacesFound", unfollowed := true, recurses := true, apart := false }
def FnPlacesFoundSaid : Prop := fnPlacesFoundRow.holds Try.pinned (OpenSpec.ofChange fnPlacesFoundSpec)

/-- ITS FALSE NEIGHBOUR: 'it returns false'. Refute it at one input. -/
def fnPlacesFoundWrong : ChangeSpec := { name := "fnPlacesFound", fn := fun _ => fun
  | [d1, d2] => { results := [.lit (.bool false)], args := [d1, d2] }
  | _ => none }
def FnPlacesFoundWrongFalsely : Prop := fnPlacesFoundRow.holds Try.pinned (OpenSpec.ofChange fnPlacesFoundWrong)

/-- 'laws.FnSolidsJoinedOfAll': WHATEVER THE INPUT: true; the input reads as it did. -/
def fnSolidsJoinedOfAllSpec : ChangeSpec := { name := "fnSolidsJoinedOfAll", fn := fun _ => fun
  | [d1, d2, d3, d4, d5] => { results := [.lit (.bool true)], args := [d1, d2, d3, d4, d5] }
  | _ => none }
def fnSolidsJoinedOfAllRow : OpenClaim := { program := "ytppdjjdejggjaaa", sum := "d8950837f34aff5db18d9387688734dc3e7598338c4e8c6f592d765fac13696d", func := "loop.example/g01250/laws.FnSolidsJoinedOfAll", spec := "fnSolidsJoinedOfAll", unfollowed := true, recurses := true, apart := false }
def FnSolidsJoinedOfAllSaid : Prop := fnSolidsJoinedOfAllRow.holds Try.pinned (OpenSpec.ofChange fnSolidsJoinedOfAllSpec)

/-- ITS FALSE NEIGHBOUR: 'it returns false'. Refute it at one input. -/
def fnSolidsJoinedOfAllWrong : ChangeSpec := { name := "fnSolidsJoinedOfAll", fn := fun _ => fun
  | [d1, d2, d3, d4, d5] => { results := [.lit (.bool false)], args := [d1, d2, d3, d4, d5] }
  | _ => none }
def FnSolidsJoinedOfAllWrongFalsely : Prop := fnSolidsJoinedOfAllRow.holds Try.pinned (OpenSpec.ofChange fnSolidsJoinedOfAllWrong)

/-- 'laws.FnSolidsJoined': WHATEVER THE INPUT: true; the input reads as it did. -/
def fnSolidsJoinedSpec : ChangeSpec := { name := "fnSolidsJoined", fn := fun _ => fun
  | [d1, d2] => { results := [.lit (.bool true)], args := [d1, d2] }
  | _ => none }
def fnSolidsJoinedRow : OpenClaim := { program := "ytppdjjdejggjaaa", sum := "d8950837f34aff5db18d9387688734dc3e7598338c4e8c6f592d765fac13696d", func := "loop.example/g01250/laws.FnSolidsJoined", spec := "fnSolidsJoined", unfollowed := true, recurses := true, apart := false }
def FnSolidsJoinedSaid : Prop := fnSolidsJoinedRow.holds Try.pinned (OpenSpec.ofChange fnSolidsJoinedSpec)

/-- ITS FALSE NEIGHBOUR: 'it returns false'. Refute it at one input. -/
def fnSolidsJoinedWrong : ChangeSpec := { name := "fnSolidsJoined", fn := fun _ => fun
  | [d1, d2] => { results := [.lit (.bool false)], args := [d1, d2] }
  | _ => none }
def FnSolidsJoinedWrongFalsely : Prop := fnSolidsJoinedRow.holds Try.pinned (OpenSpec.ofChange fnSolidsJoinedWrong)

/-- 'laws.FnPyramidsStackedOfAll': WHATEVER THE INPUT: true; the input reads as it did. -/
def fnPyramidsStackedOfAllSpec : ChangeSpec := { name := "fnPyramidsStackedOfAll", fn := fun _ => fun
  | [d1, d2, d3, d4, d5, d6, d7, d8, d9, d10, d11, d12] => { results := [.lit (.bool true)], args := [d1, d2, d3, d4, d5, d6, d7, d8, d9, d10, d11, d12] }
  | _ => none }
def fnPyramidsStackedOfAllRow : OpenClaim := { program := "ytppdjjdejggjaaa", sum := "d8950837f34aff5db18d9387688734dc3e7598338c4e8c6f592d765fac13696d", func := "loop.example/g01250/laws.FnPyramidsStackedOfAll", spec := "fnPyramidsStackedOfAll", unfollowed := true, recurses := true, apart := false }
def FnPyramidsStackedOfAllSaid : Prop := fnPyramidsStackedOfAllRow.holds Try.pinned (OpenSpec.ofChange fnPyramidsStackedOfAllSpec)

/-- ITS FALSE NEIGHBOUR: 'it returns false'. Refute it at one input. -/
def fnPyramidsStackedOfAllWrong : ChangeSpec := { name := "fnPyramidsStackedOfAll", fn := fun _ => fun
  | [d1, d2, d3, d4, d5, d6, d7, d8, d9, d10, d11, d12] => { results := [.lit (.bool false)], args := [d1, d2, d3, d4, d5, d6, d7, d8, d9, d10, d11, d12] }
  | _ => none }
def FnPyramidsStackedOfAllWrongFalsely : Prop := fnPyramidsStackedOfAllRow.holds Try.pinned (OpenSpec.ofChange fnPyramidsStackedOfAllWrong)

/-- 'laws.FnPyramidsStacked': WHATEVER THE INPUT: true; the input reads as it did. -/
def fnPyramidsStackedSpec : ChangeSpec := { name := "fnPyramidsStacked", fn := fun _ => fun
  | [d1, d2] => { results := [.lit (.bool true)], args := [d1, d2] }
  | _ => none }
def fnPyramidsStackedRow : OpenClaim := { program := "ytppdjjdejggjaaa", sum := "d8950837f34aff5db18d9387688734dc3e7598338c4e8c6f592d765fac13696d", func := "loop.example/g01250/laws.FnPyramidsStacked", spec := "fnPyramidsStacked", unfollowed := true, recurses := true, apart := false }
def FnPyramidsStackedSaid : Prop := fnPyramidsStackedRow.holds Try.pinned (OpenSpec.ofChange fnPyramidsStackedSpec)

/-- ITS FALSE NEIGHBOUR: 'it returns false'. Refute it at one input. -/
def fnPyramidsStackedWrong : ChangeSpec := { name := "fnPyramidsStacked", fn := fun _ => fun
  | [d1, d2] => { results := [.lit (.bool false)], args := [d1, d2] }
  | _ => none }
def FnPyramidsStackedWrongFalsely : Prop := fnPyramidsStackedRow.holds Try.pinned (OpenSpec.ofChange fnPyramidsStackedWrong)

/-- 'laws.FnPairsRecurOfAll': WHATEVER THE INPUT: true; the input reads as it did. -/
def fnPairsRecurOfAllSpec : ChangeSpec := { name := "fnPairsRecurOfAll", fn := fun _ => fun
  | [d1, d2, d3, d4, d5, d6, d7, d8, d9] => { results := [.lit (.bool true)], args := [d1, d2, d3, d4, d5, d6, d7, d8, d9] }
  | _ => none }
def fnPairsRecurOfAllRow : OpenClaim := { program := "ytppdjjdejggjaaa", sum := "d8950837f34aff5db18d9387688734dc3e7598338c4e8c6f592d765fac13696d", func := "loop.example/g01250/laws.FnPairsRecurOfAll", spec := "fnPairsRecurOfAll", unfollowed := true, recurses := true, apart := false }
def FnPairsRecurOfAllSaid : Prop := fnPairsRecurOfAllRow.holds Try.pinned (OpenSpec.ofChange fnPairsRecurOfAllSpec)

/-- ITS FALSE NEIGHBOUR: 'it returns false'. Refute it at one input. -/
def fnPairsRecurOfAllWrong : ChangeSpec := { name := "fnPairsRecurOfAll", fn := fun _ => fun
  | [d1, d2, d3, d4, d5, d6, d7, d8, d9] => { results := [.lit (.bool false)], args := [d1, d2, d3, d4, d5, d6, d7, d8, d9] }
  | _ => none }
def FnPairsRecurOfAllWrongFalsely : Prop := fnPairsRecurOfAllRow.holds Try.pinned (OpenSpec.ofChange fnPairsRecurOfAllWrong)

/-- 'laws.FnPairsRecur': WHATEVER THE INPUT: true; the input reads as it did. -/
def fnPairsRecurSpec : ChangeSpec := { name := "fnPairsRecur", fn := fun _ => fun
  | [d1, d2] => { results := [.lit (.bool true)], args := [d1, d2] }
  | _ => none }
def fnPairsRecurRow : OpenClaim := { program := "ytppdjjdejggjaaa", sum := "d8950837f34aff5db18d9387688734dc3e7598338c4e8c6f592d765fac13696d", func := "loop.example/g01250/laws.FnPairsRecur", spec := "fnPairsRecur", unfollowed := true, recurses := true, apart := false }
def FnPairsRecurSaid : Prop := fnPairsRecurRow.holds Try.pinned (OpenSpec.ofChange fnPairsRecurSpec)

/-- ITS FALSE NEIGHBOUR: 'it returns false'. Refute it at one input. -/
def fnPairsRecurWrong : ChangeSpec := { name := "fnPairsRecur", fn := fun _ => fun
  | [d1, d2] => { results := [.lit (.bool false)], args := [d1, d2] }
  | _ => none }
def FnPairsRecurWrongFalsely : Prop := fnPairsRecurRow.holds Try.pinned (OpenSpec.ofChange fnPairsRecurWrong)

/-- 'laws.FnSquaresApartOfAll': WHATEVER THE INPUT: true; the input reads as it did. -/
def fnSquaresApartOfAllSpec : ChangeSpec := { name := "fnSquaresApartOfAll", fn := fun _ => fun
  | [d1, d2, d3, d4] => { results := [.lit (.bool true)], args := [d1, d2, d3, d4] }
  | _ => none }
def fnSquaresApartOfAllRow : OpenClaim := { program := "ytppdjjdejggjaaa", sum := "d8950837f34aff5db18d9387688734dc3e7598338c4e8c6f592d765fac13696d", func := "loop.example/g01250/laws.FnSquaresApartOfAll", spec := "fnSquaresApartOfAll", unfollowed := true, recurses := true, apart := false }
def FnSquaresApartOfAllSaid : Prop := fnSquaresApartOfAllRow.holds Try.pinned (OpenSpec.ofChange fnSquaresApartOfAllSpec)

/-- ITS FALSE NEIGHBOUR: 'it returns false'. Refute it at one input. -/
def fnSquaresApartOfAllWrong : ChangeSpec := { name := "fnSquaresApartOfAll", fn := fun _ => fun
  | [d1, d2, d3, d4] => { results := [.lit (.bool false)], args := [d1, d2, d3, d4] }
  | _ => none }
def FnSquaresApartOfAllWrongFalsely : Prop := fnSquaresApartOfAllRow.holds Try.pinned (OpenSpec.ofChange fnSquaresApartOfAllWrong)

/-- 'laws.FnSquaresApart': WHATEVER THE INPUT: true; the input reads as it did. -/
def fnSquaresApartSpec : ChangeSpec := { name := "fnSquaresApart", fn := fun _ => fun
  | [d1, d2] => { results := [.lit (.bool true)], args := [d1, d2] }
  | _ => none }
def fnSquaresApartRow : OpenClaim := { program := "ytppdjjdejggjaaa", sum := "d8950837f34aff5db18d9387688734dc3e7598338c4e8c6f592d765fac13696d", func := "loop.example/g01250/laws.FnSquaresApart", spec := "fnSquaresApart", unfollowed := true, recurses := true, apart := false }
def FnSquaresApartSaid : Prop := fnSquaresApartRow.holds Try.pinned (OpenSpec.ofChange fnSquaresApartSpec)

/-- ITS FALSE NEIGHBOUR: 'it returns false'. Refute it at one input. -/
def fnSquaresApartWrong : ChangeSpec := { name := "fnSquaresApart", fn := fun _ => fun
  | [d1, d2] => { results := [.lit (.bool false)], args := [d1, d2] }
  | _ => none }
def FnSquaresApartWrongFalsely : Prop := fnSquaresApartRow.holds Try.pinned (OpenSpec.ofChange fnSquaresApartWrong)

/- THE SECOND FORM. 'bulk': how many values and letters a reading holds, each counted each time it is reached (what is shared counts as often as it is met; a slice's spare places count too). A statement '..UptoSaid' is the law's where the arguments, and the package variables that the reading takes, are together of bulk at most 1048576: NARROWER than '..Said'. Prove '..Said' where nothing that the law and all that it calls make is longer than what came in: it says more and counts as full. Else prove '..UptoSaid'. A law counts once. -/
mutual
def uptoBulk {H : Type} : DataW H → Nat
  | .lit (.string bytes) => bytes.length + 1
  | .lit _ => 1
  | .nil => 1
  | .ptr d => uptoBulk d + 1
  | .slice elems spare => uptoBulkAll elems + uptoBulkAll spare + 1
  | .agg parts => uptoBulkAll parts + 1
  | .iface _ d => uptoBulk d + 1
  | .map entries => uptoBulkEntries entries + 1
  | .held _ => 1
def uptoBulkAll {H : Type} : List (DataW H) → Nat
  | [] => 0
  | d :: r => uptoBulk d + uptoBulkAll r
def uptoBulkEntries {H : Type} : List (Lit × DataW H) → Nat
  | [] => 0
  | x :: r => uptoBulkEntry x + uptoBulkEntries r
def uptoBulkEntry {H : Type} : Lit × DataW H → Nat
  | (.string bytes, d) => bytes.length + uptoBulk d + 1
  | (_, d) => uptoBulk d + 1
 end
def uptoSmall : (H : Type) → List (DataW H) → Bool := fun _ ds => decide (uptoBulkAll ds ≤ 1048576)
def OpenSpec.upto (s : _root_.Go.ChangeSpec) : _root_.Go.OpenSpec := { _root_.Go.OpenSpec.ofChange s with cond := some uptoSmall }

/-- 'laws.FnExactFirstDesk', WHERE WHAT IT READS IS OF BULK AT MOST 1048576: true; the input reads as it did. -/
def fnExactFirstDeskUptoRow : OpenClaim := { program := "ytppdjjdejggjaaa", sum := "d8950837f34aff5db18d9387688734dc3e7598338c4e8c6f592d765fac13696d", func := "loop.example/g01250/laws.FnExactFirstDesk", spec := "fnExactFirstDesk", apart := false, narrowed := true }
def FnExactFirstDeskUptoSaid : Prop := fnExactFirstDeskUptoRow.holds Try.pinned (OpenSpec.upto fnExactFirstDeskSpec)

/-- 'laws.FnPlacesFoundOfAll', WHERE WHAT IT READS IS OF BULK AT MOST 1048576: true; the input reads as it did. -/
def fnPlacesFoundOfAllUptoRow : OpenClaim := { program := "ytppdjjdejggjaaa", sum := "d8950837f34aff5db18d9387688734dc3e7598338c4e8c6f592d765fac13696d", func := "loop.example/g01250/laws.FnPlacesFoundOfAll", spec := "fnPlacesFoundOfAll", unfollowed := true, recurses := true, apart := false, narrowed := true }
def FnPlacesFoundOfAllUptoSaid : Prop := fnPlacesFoundOfAllUptoRow.holds Try.pinned (OpenSpec.upto fnPlacesFoundOfAllSpec)

/-- 'laws.FnPlacesFound', WHERE WHAT IT READS IS OF BULK AT MOST 1048576: true; the input reads as it did. -/
def fnPlacesFoundUptoRow : OpenClaim := { program := "ytppdjjdejggjaaa", sum := "d8950837f34aff5db18d9387688734dc3e7598338c4e8c6f592d765fac13696d", func := "loop.example/g01250/laws.FnPlacesFound", spec := "fnPlacesFound", unfollowed := true, recurses := true, apart := false, narrowed := true }
def FnPlacesFoundUptoSaid : Prop := fnPlacesFoundUptoRow.holds Try.pinned (OpenSpec.upto fnPlacesFoundSpec)

/-- 'laws.FnSolidsJoinedOfAll', WHERE WHAT IT READS IS OF BULK AT MOST 1048576: true; the input reads as it did. -/
def fnSolidsJoinedOfAllUptoRow : OpenClaim := { program := "ytppdjjdejggjaaa", sum := "d8950837f34aff5db18d9387688734dc3e7598338c4e8c6f592d765fac13696d", func := "loop.example/g01250/laws.FnSolidsJoinedOfAll", spec := "fnSolidsJoinedOfAll", unfollowed := true, recurses := true, apart := false, narrowed := true }
def FnSolidsJoinedOfAllUptoSaid : Prop := fnSolidsJoinedOfAllUptoRow.holds Try.pinned (OpenSpec.upto fnSolidsJoinedOfAllSpec)

/-- 'laws.FnSolidsJoined', WHERE WHAT IT READS IS OF BULK AT MOST 1048576: true; the input reads as it did. -/
def fnSolidsJoinedUptoRow : OpenClaim := { program := "ytppdjjdejggjaaa", sum := "d8950837f34aff5db18d9387688734dc3e7598338c4e8c6f592d765fac13696d", func := "loop.example/g01250/laws.FnSolidsJoined", spec := "fnSolidsJoined", unfollowed := true, recurses := true, apart := false, narrowed := true }
def FnSolidsJoinedUptoSaid : Prop := fnSolidsJoinedUptoRow.holds Try.pinned (OpenSpec.upto fnSolidsJoinedSpec)

/-- 'laws.FnPyramidsStackedOfAll', WHERE WHAT IT READS IS OF BULK AT MOST 1048576: true; the input reads as it did. -/
def fnPyramidsStackedOfAllUptoRow : OpenClaim := { program := "ytppdjjdejggjaaa", sum := "d8950837f34aff5db18d9387688734dc3e7598338c4e8c6f592d765fac13696d", func := "loop.example/g01250/laws.FnPyramidsStackedOfAll", spec := "fnPyramidsStackedOfAll", unfollowed := true, recurses := true, apart := false, narrowed := true }
def FnPyramidsStackedOfAllUptoSaid : Prop := fnPyramidsStackedOfAllUptoRow.holds Try.pinned (OpenSpec.upto fnPyramidsStackedOfAllSpec)

/-- 'laws.FnPyramidsStacked', WHERE WHAT IT READS IS OF BULK AT MOST 1048576: true; the input reads as it did. -/
def fnPyramidsStackedUptoRow : OpenClaim := { program := "ytppdjjdejggjaaa", sum := "d8950837f34aff5db18d9387688734dc3e7598338c4e8c6f592d765fac13696d", func := "loop.example/g01250/laws.FnPyramidsStacked", spec := "fnPyramidsStacked", unfollowed := true, recurses := true, apart := false, narrowed := true }
def FnPyramidsStackedUptoSaid : Prop := fnPyramidsStackedUptoRow.holds Try.pinned (OpenSpec.upto fnPyramidsStackedSpec)

/-- 'laws.FnPairsRecurOfAll', WHERE WHAT IT READS IS OF BULK AT MOST 1048576: true; the input reads as it did. -/
def fnPairsRecurOfAllUptoRow : OpenClaim := { program := "ytppdjjdejggjaaa", sum := "d8950837f34aff5db18d9387688734dc3e7598338c4e8c6f592d765fac13696d", func := "loop.example/g01250/laws.FnPairsRecurOfAll", spec := "fnPairsRecurOfAll", unfollowed := true, recurses := true, apart := false, narrowed := true }
def FnPairsRecurOfAllUptoSaid : Prop := fnPairsRecurOfAllUptoRow.holds Try.pinned (OpenSpec.upto fnPairsRecurOfAllSpec)

/-- 'laws.FnPairsRecur', WHERE WHAT IT READS IS OF BULK AT MOST 1048576: true; the input reads as it did. -/
def fnPairsRecurUptoRow : OpenClaim := { program := "ytppdjjdejggjaaa", sum := "d8950837f34aff5db18d9387688734dc3e7598338c4e8c6f592d765fac13696d", func := "loop.example/g01250/laws.FnPairsRecur", spec := "fnPairsRecur", unfollowed := true, recurses := true, apart := false, narrowed := true }
def FnPairsRecurUptoSaid : Prop := fnPairsRecurUptoRow.holds Try.pinned (OpenSpec.upto fnPairsRecurSpec)

/-- 'laws.FnSquaresApartOfAll', WHERE WHAT IT READS IS OF BULK AT MOST 1048576: true; the input reads as it did. -/
def fnSquaresApartOfAllUptoRow : OpenClaim := { program := "ytppdjjdejggjaaa", sum := "d8950837f34aff5db18d9387688734dc3e7598338c4e8c6f592d765fac13696d", func := "loop.example/g01250/laws.FnSquaresApartOfAll", spec := "fnSquaresApartOfAll", unfollowed := true, recurses := true, apart := false, narrowed := true }
def FnSquaresApartOfAllUptoSaid : Prop := fnSquaresApartOfAllUptoRow.holds Try.pinned (OpenSpec.upto fnSquaresApartOfAllSpec)

/-- 'laws.FnSquaresApart', WHERE WHAT IT READS IS OF BULK AT MOST 1048576: true; the input reads as it did. -/
def fnSquaresApartUptoRow : OpenClaim := { program := "ytppdjjdejggjaaa", sum := "d8950837f34aff5db18d9387688734dc3e7598338c4e8c6f592d765fac13696d", func := "loop.example/g01250/laws.FnSquaresApart", spec := "fnSquaresApart", unfollowed := true, recurses := true, apart := false, narrowed := true }
def FnSquaresApartUptoSaid : Prop := fnSquaresApartUptoRow.holds Try.pinned (OpenSpec.upto fnSquaresApartSpec)

end Rows
end Go.Proofs.Ytppdjjdejggjaaa
