/-
  No cell of these rows narrows 'for every input' (looked for: loops, veiled, ifaces, maps, wideKeys, modest, calm, conditions, laid).
  DERIVED. THE GIVEN ROWS OF THIS SEAT. 14 by the template 'for every input the law returns true; each argument reads behind the call as it read before'; 0 by the template 'total and deterministic' (their statements: YtleofigjgjblkaaTotals.lean).
  GIVEN WITH THE SEED: the statements are not yours to turn. If you find one false, say at which input.
  Laid BY PROGRAM, IN A SANDBOX (cutbox-rows.mjs): the forced cells as the released guide's own fill.sh prints them over the translation 3f725bfd91641e38… (all of the seat's roots in one cut). By AI agents, Wed Nov 11 2026. No macro, syntax, notation, axiom, sorry.
-/
import Derived.Test.YtleofigjgjblkaaChecked
import GoSem.Claim
import GoSem.ClaimJoined
import GoSem.ClaimMapViews
import Derived.JoinedTies
import Derived.KernelRfl
namespace Go.Proofs.Ytleofigjgjblkaa
/- THE CELL 'sum', in the pinned program and in every row, IS THE sha256 OF THE DUMP (.gsa) THAT YtleofigjgjblkaaProg.lean LOADS. Nothing in Lean hashes anything: it is a label: what it is worth is what the hold of that sum in a sandbox is worth. -/
noncomputable def Try.pinned : Pinned := { name := "ytleofigjgjblkaa", sum := "3f725bfd91641e384e5c9decfbe04fa6a5e0becd73b889ae19cca78a5a475456", checked := Try.checked }
namespace Rows
def none {H : Type} : Left H := { results := [], args := [] }

/-- 'laws.FnExactSharedUpTo': WHATEVER THE INPUT: true; the input reads as it did. -/
def fnExactSharedUpToSpec : ChangeSpec := { name := "fnExactSharedUpTo", fn := fun _ => fun
  | [d1, d2, d3] => { results := [.lit (.bool true)], args := [d1, d2, d3] }
  | _ => none }
def fnExactSharedUpToRow : OpenClaim := { program := "ytleofigjgjblkaa", sum := "3f725bfd91641e384e5c9decfbe04fa6a5e0becd73b889ae19cca78a5a475456", func := "loop.example/g01250/laws.FnExactSharedUpTo", spec := "fnExactSharedUpTo", unfollowed := true, recurses := true, apart := false }
def FnExactSharedUpToSaid : Prop := fnExactSharedUpToRow.holds Try.pinned (OpenSpec.ofChange fnExactSharedUpToSpec)

/-- ITS FALSE NEIGHBOUR: 'it returns false'. Refute it at one input. -/
def fnExactSharedUpToWrong : ChangeSpec := { name := "fnExactSharedUpTo", fn := fun _ => fun
  | [d1, d2, d3] => { results := [.lit (.bool false)], args := [d1, d2, d3] }
  | _ => none }
def FnExactSharedUpToWrongFalsely : Prop := fnExactSharedUpToRow.holds Try.pinned (OpenSpec.ofChange fnExactSharedUpToWrong)

/-- 'laws.FnExactNextShared': WHATEVER THE INPUT: true; the input reads as it did. -/
def fnExactNextSharedSpec : ChangeSpec := { name := "fnExactNextShared", fn := fun _ => fun
  | [d1, d2, d3] => { results := [.lit (.bool true)], args := [d1, d2, d3] }
  | _ => none }
def fnExactNextSharedRow : OpenClaim := { program := "ytleofigjgjblkaa", sum := "3f725bfd91641e384e5c9decfbe04fa6a5e0becd73b889ae19cca78a5a475456", func := "loop.example/g01250/laws.FnExactNextShared", spec := "fnExactNextShared", unfollowed := true, recurses := true, apart := false }
def FnExactNextSharedSaid : Prop := fnExactNextSharedRow.holds Try.pinned (OpenSpec.ofChange fnExactNextSharedSpec)

/-- ITS FALSE NEIGHBOUR: 'it returns false'. Refute it at one input. -/
def fnExactNextSharedWrong : ChangeSpec := { name := "fnExactNextShared", fn := fun _ => fun
  | [d1, d2, d3] => { results := [.lit (.bool false)], args := [d1, d2, d3] }
  | _ => none }
def FnExactNextSharedWrongFalsely : Prop := fnExactNextSharedRow.holds Try.pinned (OpenSpec.ofChange fnExactNextSharedWrong)

/-- 'laws.FnExactIsShared': WHATEVER THE INPUT: true; the input reads as it did. -/
def fnExactIsSharedSpec : ChangeSpec := { name := "fnExactIsShared", fn := fun _ => fun
  | [d1, d2, d3] => { results := [.lit (.bool true)], args := [d1, d2, d3] }
  | _ => none }
def fnExactIsSharedRow : OpenClaim := { program := "ytleofigjgjblkaa", sum := "3f725bfd91641e384e5c9decfbe04fa6a5e0becd73b889ae19cca78a5a475456", func := "loop.example/g01250/laws.FnExactIsShared", spec := "fnExactIsShared", unfollowed := true, recurses := true, apart := false }
def FnExactIsSharedSaid : Prop := fnExactIsSharedRow.holds Try.pinned (OpenSpec.ofChange fnExactIsSharedSpec)

/-- ITS FALSE NEIGHBOUR: 'it returns false'. Refute it at one input. -/
def fnExactIsSharedWrong : ChangeSpec := { name := "fnExactIsShared", fn := fun _ => fun
  | [d1, d2, d3] => { results := [.lit (.bool false)], args := [d1, d2, d3] }
  | _ => none }
def FnExactIsSharedWrongFalsely : Prop := fnExactIsSharedRow.holds Try.pinned (OpenSpec.ofChange fnExactIsSharedWrong)

/-- 'laws.FnExactPlacesShared': WHATEVER THE INPUT: true; the input reads as it did. -/
def fnExactPlacesSharedSpec : ChangeSpec := { name := "fnExactPlacesShared", fn := fun _ => fun
  | [d1, d2, d3] => { results := [.lit (.bool true)], args := [d1, d2, d3] }
  | _ => none }
def fnExactPlacesSharedRow : OpenClaim := { program := "ytleofigjgjblkaa", sum := "3f725bfd91641e384e5c9decfbe04fa6a5e0becd73b889ae19cca78a5a475456", func := "loop.example/g01250/laws.FnExactPlacesShared", spec := "fnExactPlacesShared", unfollowed := true, recurses := true, apart := false }
def FnExactPlacesSharedSaid : Prop := fnExactPlacesSharedRow.holds Try.pinned (OpenSpec.ofChange fnExactPlacesSharedSpec)

/-- ITS FALSE NEIGHBOUR: 'it returns false'. Refute it at one input. -/
def fnExactPlacesSharedWrong : ChangeSpec := { name := "fnExactPlacesShared", fn := fun _ => fun
  | [d1, d2, d3] => { results := [.lit (.bool false)], args := [d1, d2, d3] }
  | _ => none }
def FnExactPlacesSharedWrongFalsely : Prop := fnExactPlacesSharedRow.holds Try.pinned (OpenSpec.ofChange fnExactPlacesSharedWrong)

/-- 'laws.FnExactSharedByThree': WHATEVER THE INPUT: true; the input reads as it did. -/
def fnExactSharedByThreeSpec : ChangeSpec := { name := "fnExactSharedByThree", fn := fun _ => fun
  | [d1, d2, d3, d4] => { results := [.lit (.bool true)], args := [d1, d2, d3, d4] }
  | _ => none }
def fnExactSharedByThreeRow : OpenClaim := { program := "ytleofigjgjblkaa", sum := "3f725bfd91641e384e5c9decfbe04fa6a5e0becd73b889ae19cca78a5a475456", func := "loop.example/g01250/laws.FnExactSharedByThree", spec := "fnExactSharedByThree", unfollowed := true, recurses := true, apart := false }
def FnExactSharedByThreeSaid : Prop := fnExactSharedByThreeRow.holds Try.pinned (OpenSpec.ofChange fnExactSharedByThreeSpec)

/-- ITS FALSE NEIGHBOUR: 'it returns false'. Refute it at one input. -/
def fnExactSharedByThreeWrong : ChangeSpec := { name := "fnExactSharedByThree", fn := fun _ => fun
  | [d1, d2, d3, d4] => { results := [.lit (.bool false)], args := [d1, d2, d3, d4] }
  | _ => none }
def FnExactSharedByThreeWrongFalsely : Prop := fnExactSharedByThreeRow.holds Try.pinned (OpenSpec.ofChange fnExactSharedByThreeWrong)

/-- 'laws.FnExactTwicePair': WHATEVER THE INPUT: true; the input reads as it did. -/
def fnExactTwicePairSpec : ChangeSpec := { name := "fnExactTwicePair", fn := fun _ => fun
  | [d] => { results := [.lit (.bool true)], args := [d] }
  | _ => none }
def fnExactTwicePairRow : OpenClaim := { program := "ytleofigjgjblkaa", sum := "3f725bfd91641e384e5c9decfbe04fa6a5e0becd73b889ae19cca78a5a475456", func := "loop.example/g01250/laws.FnExactTwicePair", spec := "fnExactTwicePair", unfollowed := true, recurses := true, apart := false }
def FnExactTwicePairSaid : Prop := fnExactTwicePairRow.holds Try.pinned (OpenSpec.ofChange fnExactTwicePairSpec)

/-- ITS FALSE NEIGHBOUR: 'it returns false'. Refute it at one input. -/
def fnExactTwicePairWrong : ChangeSpec := { name := "fnExactTwicePair", fn := fun _ => fun
  | [d] => { results := [.lit (.bool false)], args := [d] }
  | _ => none }
def FnExactTwicePairWrongFalsely : Prop := fnExactTwicePairRow.holds Try.pinned (OpenSpec.ofChange fnExactTwicePairWrong)

/-- 'laws.FnExactTriangleSquare': WHATEVER THE INPUT: true; the input reads as it did. -/
def fnExactTriangleSquareSpec : ChangeSpec := { name := "fnExactTriangleSquare", fn := fun _ => fun
  | [d] => { results := [.lit (.bool true)], args := [d] }
  | _ => none }
def fnExactTriangleSquareRow : OpenClaim := { program := "ytleofigjgjblkaa", sum := "3f725bfd91641e384e5c9decfbe04fa6a5e0becd73b889ae19cca78a5a475456", func := "loop.example/g01250/laws.FnExactTriangleSquare", spec := "fnExactTriangleSquare", unfollowed := true, recurses := true, apart := false }
def FnExactTriangleSquareSaid : Prop := fnExactTriangleSquareRow.holds Try.pinned (OpenSpec.ofChange fnExactTriangleSquareSpec)

/-- ITS FALSE NEIGHBOUR: 'it returns false'. Refute it at one input. -/
def fnExactTriangleSquareWrong : ChangeSpec := { name := "fnExactTriangleSquare", fn := fun _ => fun
  | [d] => { results := [.lit (.bool false)], args := [d] }
  | _ => none }
def FnExactTriangleSquareWrongFalsely : Prop := fnExactTriangleSquareRow.holds Try.pinned (OpenSpec.ofChange fnExactTriangleSquareWrong)

/-- 'laws.FnExactTriangleSquarePlaces': WHATEVER THE INPUT: true; the input reads as it did. -/
def fnExactTriangleSquarePlacesSpec : ChangeSpec := { name := "fnExactTriangleSquarePlaces", fn := fun _ => fun
  | [d] => { results := [.lit (.bool true)], args := [d] }
  | _ => none }
def fnExactTriangleSquarePlacesRow : OpenClaim := { program := "ytleofigjgjblkaa", sum := "3f725bfd91641e384e5c9decfbe04fa6a5e0becd73b889ae19cca78a5a475456", func := "loop.example/g01250/laws.FnExactTriangleSquarePlaces", spec := "fnExactTriangleSquarePlaces", unfollowed := true, recurses := true, apart := false }
def FnExactTriangleSquarePlacesSaid : Prop := fnExactTriangleSquarePlacesRow.holds Try.pinned (OpenSpec.ofChange fnExactTriangleSquarePlacesSpec)

/-- ITS FALSE NEIGHBOUR: 'it returns false'. Refute it at one input. -/
def fnExactTriangleSquarePlacesWrong : ChangeSpec := { name := "fnExactTriangleSquarePlaces", fn := fun _ => fun
  | [d] => { results := [.lit (.bool false)], args := [d] }
  | _ => none }
def FnExactTriangleSquarePlacesWrongFalsely : Prop := fnExactTriangleSquarePlacesRow.holds Try.pinned (OpenSpec.ofChange fnExactTriangleSquarePlacesWrong)

/-- 'laws.FnExactTwiceTriangle': WHATEVER THE INPUT: true; the input reads as it did. -/
def fnExactTwiceTriangleSpec : ChangeSpec := { name := "fnExactTwiceTriangle", fn := fun _ => fun
  | [d] => { results := [.lit (.bool true)], args := [d] }
  | _ => none }
def fnExactTwiceTriangleRow : OpenClaim := { program := "ytleofigjgjblkaa", sum := "3f725bfd91641e384e5c9decfbe04fa6a5e0becd73b889ae19cca78a5a475456", func := "loop.example/g01250/laws.FnExactTwiceTriangle", spec := "fnExactTwiceTriangle", unfollowed := true, recurses := true, apart := false }
def FnExactTwiceTriangleSaid : Prop := fnExactTwiceTriangleRow.holds Try.pinned (OpenSpec.ofChange fnExactTwiceTriangleSpec)

/-- ITS FALSE NEIGHBOUR: 'it returns false'. Refute it at one input. -/
def fnExactTwiceTriangleWrong : ChangeSpec := { name := "fnExactTwiceTriangle", fn := fun _ => fun
  | [d] => { results := [.lit (.bool false)], args := [d] }
  | _ => none }
def FnExactTwiceTriangleWrongFalsely : Prop := fnExactTwiceTriangleRow.holds Try.pinned (OpenSpec.ofChange fnExactTwiceTriangleWrong)

/-- 'laws.FnExactNearRight': WHATEVER THE INPUT: true; the input reads as it did. -/
def fnExactNearRightSpec : ChangeSpec := { name := "fnExactNearRight", fn := fun _ => fun
  | [d] => { results := [.lit (.bool true)], args := [d] }
  | _ => none }
def fnExactNearRightRow : OpenClaim := { program := "ytleofigjgjblkaa", sum := "3f725bfd91641e384e5c9decfbe04fa6a5e0becd73b889ae19cca78a5a475456", func := "loop.example/g01250/laws.FnExactNearRight", spec := "fnExactNearRight", unfollowed := true, recurses := true, apart := false }
def FnExactNearRightSaid : Prop := fnExactNearRightRow.holds Try.pinned (OpenSpec.ofChange fnExactNearRightSpec)

/-- ITS FALSE NEIGHBOUR: 'it returns false'. Refute it at one input. -/
def fnExactNearRightWrong : ChangeSpec := { name := "fnExactNearRight", fn := fun _ => fun
  | [d] => { results := [.lit (.bool false)], args := [d] }
  | _ => none }
def FnExactNearRightWrongFalsely : Prop := fnExactNearRightRow.holds Try.pinned (OpenSpec.ofChange fnExactNearRightWrong)

/-- 'laws.FnExactRecurrenceOf': WHATEVER THE INPUT: true; the input reads as it did. -/
def fnExactRecurrenceOfSpec : ChangeSpec := { name := "fnExactRecurrenceOf", fn := fun _ => fun
  | [d] => { results := [.lit (.bool true)], args := [d] }
  | _ => none }
def fnExactRecurrenceOfRow : OpenClaim := { program := "ytleofigjgjblkaa", sum := "3f725bfd91641e384e5c9decfbe04fa6a5e0becd73b889ae19cca78a5a475456", func := "loop.example/g01250/laws.FnExactRecurrenceOf", spec := "fnExactRecurrenceOf", apart := false }
def FnExactRecurrenceOfSaid : Prop := fnExactRecurrenceOfRow.holds Try.pinned (OpenSpec.ofChange fnExactRecurrenceOfSpec)

/-- ITS FALSE NEIGHBOUR: 'it returns false'. Refute it at one input. -/
def fnExactRecurrenceOfWrong : ChangeSpec := { name := "fnExactRecurrenceOf", fn := fun _ => fun
  | [d] => { results := [.lit (.bool false)], args := [d] }
  | _ => none }
def FnExactRecurrenceOfWrongFalsely : Prop := fnExactRecurrenceOfRow.holds Try.pinned (OpenSpec.ofChange fnExactRecurrenceOfWrong)

/-- 'laws.FnExactGoOnBy': WHATEVER THE INPUT: true; the input reads as it did. -/
def fnExactGoOnBySpec : ChangeSpec := { name := "fnExactGoOnBy", fn := fun _ => fun
  | [d1, d2, d3, d4, d5] => { results := [.lit (.bool true)], args := [d1, d2, d3, d4, d5] }
  | _ => none }
def fnExactGoOnByRow : OpenClaim := { program := "ytleofigjgjblkaa", sum := "3f725bfd91641e384e5c9decfbe04fa6a5e0becd73b889ae19cca78a5a475456", func := "loop.example/g01250/laws.FnExactGoOnBy", spec := "fnExactGoOnBy", unfollowed := true, recurses := true, apart := false }
def FnExactGoOnBySaid : Prop := fnExactGoOnByRow.holds Try.pinned (OpenSpec.ofChange fnExactGoOnBySpec)

/-- ITS FALSE NEIGHBOUR: 'it returns false'. Refute it at one input. -/
def fnExactGoOnByWrong : ChangeSpec := { name := "fnExactGoOnBy", fn := fun _ => fun
  | [d1, d2, d3, d4, d5] => { results := [.lit (.bool false)], args := [d1, d2, d3, d4, d5] }
  | _ => none }
def FnExactGoOnByWrongFalsely : Prop := fnExactGoOnByRow.holds Try.pinned (OpenSpec.ofChange fnExactGoOnByWrong)

/-- 'laws.FnExactHexagonsAre': WHATEVER THE INPUT: true; the input reads as it did. -/
def fnExactHexagonsAreSpec : ChangeSpec := { name := "fnExactHexagonsAre", fn := fun _ => fun
  | [d] => { results := [.lit (.bool true)], args := [d] }
  | _ => none }
def fnExactHexagonsAreRow : OpenClaim := { program := "ytleofigjgjblkaa", sum := "3f725bfd91641e384e5c9decfbe04fa6a5e0becd73b889ae19cca78a5a475456", func := "loop.example/g01250/laws.FnExactHexagonsAre", spec := "fnExactHexagonsAre", apart := false }
def FnExactHexagonsAreSaid : Prop := fnExactHexagonsAreRow.holds Try.pinned (OpenSpec.ofChange fnExactHexagonsAreSpec)

/-- ITS FALSE NEIGHBOUR: 'it returns false'. Refute it at one input. -/
def fnExactHexagonsAreWrong : ChangeSpec := { name := "fnExactHexagonsAre", fn := fun _ => fun
  | [d] => { results := [.lit (.bool false)], args := [d] }
  | _ => none }
def FnExactHexagonsAreWrongFalsely : Prop := fnExactHexagonsAreRow.holds Try.pinned (OpenSpec.ofChange fnExactHexagonsAreWrong)

/-- 'laws.FnExactSquareOfOdd': WHATEVER THE INPUT: true; the input reads as it did. -/
def fnExactSquareOfOddSpec : ChangeSpec := { name := "fnExactSquareOfOdd", fn := fun _ => fun
  | [d] => { results := [.lit (.bool true)], args := [d] }
  | _ => none }
def fnExactSquareOfOddRow : OpenClaim := { program := "ytleofigjgjblkaa", sum := "3f725bfd91641e384e5c9decfbe04fa6a5e0becd73b889ae19cca78a5a475456", func := "loop.example/g01250/laws.FnExactSquareOfOdd", spec := "fnExactSquareOfOdd", apart := false }
def FnExactSquareOfOddSaid : Prop := fnExactSquareOfOddRow.holds Try.pinned (OpenSpec.ofChange fnExactSquareOfOddSpec)

/-- ITS FALSE NEIGHBOUR: 'it returns false'. Refute it at one input. -/
def fnExactSquareOfOddWrong : ChangeSpec := { name := "fnExactSquareOfOdd", fn := fun _ => fun
  | [d] => { results := [.lit (.bool false)], args := [d] }
  | _ => none }
def FnExactSquareOfOddWrongFalsely : Prop := fnExactSquareOfOddRow.holds Try.pinned (OpenSpec.ofChange fnExactSquareOfOddWrong)

/- THE SECOND FORM. 'bulk': how many values and letters a reading holds, each counted each time it is reached (what is shared counts as often as it is met; a slice's spare places count too). A statement '..UptoSaid' is the law's where the arguments, and the package variables that the reading takes, are together of bulk at most 1048576: NARROWER than '..Said'. Prove '..Said' where nothing that the law and all that it calls make is longer than what came in: it says more and counts as full. Else prove '..UptoSaid'. A law counts once. -/
mutual
def uptoBulk {H : Type} : DataW H → Nat
  | .lit (.string bytes) => bytes.length + 1
  | .lit _ => 1
  | .nil => 1
  | .ptr d => uptoBulk d + 1
  | .slice elems spare => uptoBulkAll elems + uptoBulkAll spare + 1
  | .agg parts => uptoBulkAll parts + 1
  | .iface _ d => uptoBulk d + 1
  | .map entries => uptoBulkEntries entries + 1
  | .held _ => 1
def uptoBulkAll {H : Type} : List (DataW H) → Nat
  | [] => 0
  | d :: r => uptoBulk d + uptoBulkAll r
def uptoBulkEntries {H : Type} : List (Lit × DataW H) → Nat
  | [] => 0
  | x :: r => uptoBulkEntry x + uptoBulkEntries r
def uptoBulkEntry {H : Type} : Lit × DataW H → Nat
  | (.string bytes, d) => bytes.length + uptoBulk d + 1
  | (_, d) => uptoBulk d + 1
 end
def uptoSmall : (H : Type) → List (DataW H) → Bool := fun _ ds => decide (uptoBulkAll ds ≤ 1048576)
def OpenSpec.upto (s : _root_.Go.ChangeSpec) : _root_.Go.OpenSpec := { _root_.Go.OpenSpec.ofChange s with cond := some uptoSmall }

/-- 'laws.FnExactSharedUpTo', WHERE WHAT IT READS IS OF BULK AT MOST 1048576: true; the input reads as it did. -/
def fnExactSharedUpToUptoRow : OpenClaim := { program := "ytleofigjgjblkaa", sum := "3f725bfd91641e384e5c9decfbe04fa6a5e0becd73b889ae19cca78a5a475456", func := "loop.example/g01250/laws.FnExactSharedUpTo", spec := "fnExactSharedUpTo", unfollowed := true, recurses := true, apart := false, narrowed := true }
def FnExactSharedUpToUptoSaid : Prop := fnExactSharedUpToUptoRow.holds Try.pinned (OpenSpec.upto fnExactSharedUpToSpec)

/-- 'laws.FnExactNextShared', WHERE WHAT IT READS IS OF BULK AT MOST 1048576: true; the input reads as it did. -/
def fnExactNextSharedUptoRow : OpenClaim := { program := "ytleofigjgjblkaa", sum := "3f725bfd91641e384e5c9decfbe04fa6a5e0becd73b889ae19cca78a5a475456", func := "loop.example/g01250/laws.FnExactNextShared", spec := "fnExactNextShared", unfollowed := true, recurses := true, apart := false, narrowed := true }
def FnExactNextSharedUptoSaid : Prop := fnExactNextSharedUptoRow.holds Try.pinned (OpenSpec.upto fnExactNextSharedSpec)

/-- 'laws.FnExactIsShared', WHERE WHAT IT READS IS OF BULK AT MOST 1048576: true; the input reads as it did. -/
def fnExactIsSharedUptoRow : OpenClaim := { program := "ytleofigjgjblkaa", sum := "3f725bfd91641e384e5c9decfbe04fa6a5e0becd73b889ae19cca78a5a475456", func := "loop.example/g01250/laws.FnExactIsShared", spec := "fnExactIsShared", unfollowed := true, recurses := true, apart := false, narrowed := true }
def FnExactIsSharedUptoSaid : Prop := fnExactIsSharedUptoRow.holds Try.pinned (OpenSpec.upto fnExactIsSharedSpec)

/-- 'laws.FnExactPlacesShared', WHERE WHAT IT READS IS OF BULK AT MOST 1048576: true; the input reads as it did. -/
def fnExactPlacesSharedUptoRow : OpenClaim := { program := "ytleofigjgjblkaa", sum := "3f725bfd91641e384e5c9decfbe04fa6a5e0becd73b889ae19cca78a5a475456", func := "loop.example/g01250/laws.FnExactPlacesShared", spec := "fnExactPlacesShared", unfollowed := true, recurses := true, apart := false, narrowed := true }
def FnExactPlacesSharedUptoSaid : Prop := fnExactPlacesSharedUptoRow.holds Try.pinned (OpenSpec.upto fnExactPlacesSharedSpec)

/-- 'laws.FnExactSharedByThree', WHERE WHAT IT READS IS OF BULK AT MOST 1048576: true; the input reads as it did. -/
def fnExactSharedByThreeUptoRow : OpenClaim := { program := "ytleofigjgjblkaa", sum := "3f725bfd91641e384e5c9decfbe04fa6a5e0becd73b889ae19cca78a5a475456", func := "loop.example/g01250/laws.FnExactSharedByThree", spec := "fnExactSharedByThree", unfollowed := true, recurses := true, apart := false, narrowed := true }
def FnExactSharedByThreeUptoSaid : Prop := fnExactSharedByThreeUptoRow.holds Try.pinned (OpenSpec.upto fnExactSharedByThreeSpec)

/-- 'laws.FnExactTwicePair', WHERE WHAT IT READS IS OF BULK AT MOST 1048576: true; the input reads as it did. -/
def fnExactTwicePairUptoRow : OpenClaim := { program := "ytleofigjgjblkaa", sum := "3f725bfd91641e384e5c9decfbe04fa6a5e0becd73b889ae19cca78a5a475456", func := "loop.example/g01250/laws.FnExactTwicePair", spec := "fnExactTwicePair", unfollowed := true, recurses := true, apart := false, narrowed := true }
def FnExactTwicePairUptoSaid : Prop := fnExactTwicePairUptoRow.holds Try.pinned (OpenSpec.upto fnExactTwicePairSpec)

/-- 'laws.FnExactTriangleSquare', WHERE WHAT IT READS IS OF BULK AT MOST 1048576: true; the input reads as it did. -/
def fnExactTriangleSquareUptoRow : OpenClaim := { program := "ytleofigjgjblkaa", sum := "3f725bfd91641e384e5c9decfbe04fa6a5e0becd73b889ae19cca78a5a475456", func := "loop.example/g01250/laws.FnExactTriangleSquare", spec := "fnExactTriangleSquare", unfollowed := true, recurses := true, apart := false, narrowed := true }
def FnExactTriangleSquareUptoSaid : Prop := fnExactTriangleSquareUptoRow.holds Try.pinned (OpenSpec.upto fnExactTriangleSquareSpec)

/-- 'laws.FnExactTriangleSquarePlaces', WHERE WHAT IT READS IS OF BULK AT MOST 1048576: true; the input reads as it did. -/
def fnExactTriangleSquarePlacesUptoRow : OpenClaim := { program := "ytleofigjgjblkaa", sum := "3f725bfd91641e384e5c9decfbe04fa6a5e0becd73b889ae19cca78a5a475456", func := "loop.example/g01250/laws.FnExactTriangleSquarePlaces", spec := "fnExactTriangleSquarePlaces", unfollowed := true, recurses := true, apart := false, narrowed := true }
def FnExactTriangleSquarePlacesUptoSaid : Prop := fnExactTriangleSquarePlacesUptoRow.holds Try.pinned (OpenSpec.upto fnExactTriangleSquarePlacesSpec)

/-- 'laws.FnExactTwiceTriangle', WHERE WHAT IT READS IS OF BULK AT MOST 1048576: true; the input reads as it did. -/
def fnExactTwiceTriangleUptoRow : OpenClaim := { program := "ytleofigjgjblkaa", sum := "3f725bfd91641e384e5c9decfbe04fa6a5e0becd73b889ae19cca78a5a475456", func := "loop.example/g01250/laws.FnExactTwiceTriangle", spec := "fnExactTwiceTriangle", unfollowed := true, recurses := true, apart := false, narrowed := true }
def FnExactTwiceTriangleUptoSaid : Prop := fnExactTwiceTriangleUptoRow.holds Try.pinned (OpenSpec.upto fnExactTwiceTriangleSpec)

/-- 'laws.FnExactNearRight', WHERE WHAT IT READS IS OF BULK AT MOST 1048576: true; the input reads as it did. -/
def fnExactNearRightUptoRow : OpenClaim := { program := "ytleofigjgjblkaa", sum := "3f725bfd91641e384e5c9decfbe04fa6a5e0becd73b889ae19cca78a5a475456", func := "loop.example/g01250/laws.FnExactNearRight", spec := "fnExactNearRight", unfollowed := true, recurses := true, apart := false, narrowed := true }
def FnExactNearRightUptoSaid : Prop := fnExactNearRightUptoRow.holds Try.pinned (OpenSpec.upto fnExactNearRightSpec)

/-- 'laws.FnExactRecurrenceOf', WHERE WHAT IT READS IS OF BULK AT MOST 1048576: true; the input reads as it did. -/
def fnExactRecurrenceOfUptoRow : OpenClaim := { program := "ytleofigjgjblkaa", sum := "3f725bfd91641e384e5c9decfbe04fa6a5e0becd73b889ae19cca78a5a475456", func := "loop.example/g01250/laws.FnExactRecurrenceOf", spec := "fnExactRecurrenceOf", apart := false, narrowed := true }
def FnExactRecurrenceOfUptoSaid : Prop := fnExactRecurrenceOfUptoRow.holds Try.pinned (OpenSpec.upto fnExactRecurrenceOfSpec)

/-- 'laws.FnExactGoOnBy', WHERE WHAT IT READS IS OF BULK AT MOST 1048576: true; the input reads as it did. -/
def fnExactGoOnByUptoRow : OpenClaim := { program := "ytleofigjgjblkaa", sum := "3f725bfd91641e384e5c9decfbe04fa6a5e0becd73b889ae19cca78a5a475456", func := "loop.example/g01250/laws.FnExactGoOnBy", spec := "fnExactGoOnBy", unfollowed := true, recurses := true, apart := false, narrowed := true }
def FnExactGoOnByUptoSaid : Prop := fnExactGoOnByUptoRow.holds Try.pinned (OpenSpec.upto fnExactGoOnBySpec)

/-- 'laws.FnExactHexagonsAre', WHERE WHAT IT READS IS OF BULK AT MOST 1048576: true; the input reads as it did. -/
def fnExactHexagonsAreUptoRow : OpenClaim := { program := "ytleofigjgjblkaa", sum := "3f725bfd91641e384e5c9decfbe04fa6a5e0becd73b889ae19cca78a5a475456", func := "loop.example/g01250/laws.FnExactHexagonsAre", spec := "fnExactHexagonsAre", apart := false, narrowed := true }
def FnExactHexagonsAreUptoSaid : Prop := fnExactHexagonsAreUptoRow.holds Try.pinned (OpenSpec.upto fnExactHexagonsAreSpec)

/-- 'laws.FnExactSquareOfOdd', WHERE WHAT IT READS IS OF BULK AT MOST 1048576: true; the input reads as it did. -/
def fnExactSquareOfOddUptoRow : OpenClaim := { program := "ytleofigjgjblkaa", sum := "3f725bfd91641e384e5c9decfbe04fa6a5e0becd73b889ae19cca78a5a475456", func := "loop.example/g01250/laws.FnExactSquareOfOdd", spec := "fnExactSquareOfOdd", apart := false, narrowed := true }
def FnExactSquareOfOddUptoSaid : Prop := fnExactSquareOfOddUptoRow.holds Try.pinned (OpenSpec.upto fnExactSquareOfOddSpec)

end Rows
end Go.Proofs.Ytleofigjgjblkaa
