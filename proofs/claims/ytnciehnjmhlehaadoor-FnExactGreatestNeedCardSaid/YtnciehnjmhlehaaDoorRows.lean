/-
  NARROWER THAN 'FOR EVERY INPUT', by the rows' own cells (each row's printed sentence says how): FnExactFewestParts: laid · FnExactFirstFewest: laid · FnExactAsManyAsSides: laid · FnExactThreeTriangles: laid · FnExactNeedMost: laid · FnExactGreatestNeed: laid.
  DERIVED. THE GIVEN ROWS OF THIS SEAT. 6 by the template 'for every input the law returns true; each argument reads behind the call as it read before'; 0 by the template 'total and deterministic' (their statements: YtnciehnjmhlehaaDoorTotals.lean).
  GIVEN WITH THE SEED: the statements are not yours to turn. If you find one false, say at which input.
  Laid BY PROGRAM, IN A SANDBOX (cutbox-rows.mjs): the forced cells as the released guide's own fill.sh prints them over the translation e141b0a8da6e728e… (all of the seat's roots in one cut). By AI agents, Wed Nov 11 2026. No macro, syntax, notation, axiom, sorry.
-/
import Derived.Test.YtnciehnjmhlehaaDoorChecked
import GoSem.Claim
import GoSem.ClaimJoined
import GoSem.ClaimMapViews
import Derived.JoinedTies
import Derived.KernelRfl
namespace Go.Proofs.YtnciehnjmhlehaaDoor
/- THE CELL 'sum', in the pinned program and in every row, IS THE sha256 OF THE DUMP (.gsa) THAT YtnciehnjmhlehaaDoorProg.lean LOADS. Nothing in Lean hashes anything: it is a label: what it is worth is what the hold of that sum in a sandbox is worth. -/
noncomputable def Tryd.pinned : Pinned := { name := "ytnciehnjmhlehaadoor", sum := "e141b0a8da6e728e2a9c86273bdb9ea768cf2d7c849e6cb5d70622c6b9bc69fb", checked := Tryd.checked }
namespace Rows
def none {H : Type} : Left H := { results := [], args := [] }

/- WHAT THE LISTED PACKAGE-LEVEL VARIABLES READ AS WHEN THE CALL BEGINS. Each datum BY PROGRAM (the guide's laid-datum.mjs) off the statement by which the dump's own 'gosem.cut.vars' lays the variable. In a bare row this is a premise. The card (YtnciehnjmhlehaaDoorCards.lean) ties it to the program's text. -/
def laid_math_bits_deBruijn32tab {H : Type} : DataW H := .agg [.lit (.int .u8 0), .lit (.int .u8 1), .lit (.int .u8 28), .lit (.int .u8 2), .lit (.int .u8 29), .lit (.int .u8 14), .lit (.int .u8 24), .lit (.int .u8 3), .lit (.int .u8 30), .lit (.int .u8 22), .lit (.int .u8 20), .lit (.int .u8 15), .lit (.int .u8 25), .lit (.int .u8 17), .lit (.int .u8 4), .lit (.int .u8 8), .lit (.int .u8 31), .lit (.int .u8 27), .lit (.int .u8 13), .lit (.int .u8 23), .lit (.int .u8 21), .lit (.int .u8 19), .lit (.int .u8 16), .lit (.int .u8 7), .lit (.int .u8 26), .lit (.int .u8 12), .lit (.int .u8 18), .lit (.int .u8 6), .lit (.int .u8 11), .lit (.int .u8 5), .lit (.int .u8 10), .lit (.int .u8 9)]

/-- 'laws.FnExactFewestParts': WHATEVER THE INPUT: true; the input reads as it did. -/
def fnExactFewestPartsSpec : ChangeSpec := { name := "fnExactFewestParts", fn := fun _ => fun
  | [d1, d2] => { results := [.lit (.bool true)], args := [d1, d2] }
  | _ => none }
def fnExactFewestPartsRow : OpenClaim := { program := "ytnciehnjmhlehaadoor", sum := "e141b0a8da6e728e2a9c86273bdb9ea768cf2d7c849e6cb5d70622c6b9bc69fb", func := "loop.example/g01250/laws.FnExactFewestParts", spec := "fnExactFewestParts", named := ["math/bits.deBruijn32tab"], apart := false, laid := [("math/bits.deBruijn32tab", laid_math_bits_deBruijn32tab)] }
def FnExactFewestPartsSaid : Prop := fnExactFewestPartsRow.holds Tryd.pinned (OpenSpec.ofChange fnExactFewestPartsSpec)

/-- ITS FALSE NEIGHBOUR: 'it returns false'. Refute it at one input. -/
def fnExactFewestPartsWrong : ChangeSpec := { name := "fnExactFewestParts", fn := fun _ => fun
  | [d1, d2] => { results := [.lit (.bool false)], args := [d1, d2] }
  | _ => none }
def FnExactFewestPartsWrongFalsely : Prop := fnExactFewestPartsRow.holds Tryd.pinned (OpenSpec.ofChange fnExactFewestPartsWrong)

/-- 'laws.FnExactFirstFewest': WHATEVER THE INPUT: true; the input reads as it did. -/
def fnExactFirstFewestSpec : ChangeSpec := { name := "fnExactFirstFewest", fn := fun _ => fun
  | [d1, d2] => { results := [.lit (.bool true)], args := [d1, d2] }
  | _ => none }
def fnExactFirstFewestRow : OpenClaim := { program := "ytnciehnjmhlehaadoor", sum := "e141b0a8da6e728e2a9c86273bdb9ea768cf2d7c849e6cb5d70622c6b9bc69fb", func := "loop.example/g01250/laws.FnExactFirstFewest", spec := "fnExactFirstFewest", recurses := true, named := ["math/bits.deBruijn32tab"], apart := false, laid := [("math/bits.deBruijn32tab", laid_math_bits_deBruijn32tab)] }
def FnExactFirstFewestSaid : Prop := fnExactFirstFewestRow.holds Tryd.pinned (OpenSpec.ofChange fnExactFirstFewestSpec)

/-- ITS FALSE NEIGHBOUR: 'it returns false'. Refute it at one input. -/
def fnExactFirstFewestWrong : ChangeSpec := { name := "fnExactFirstFewest", fn := fun _ => fun
  | [d1, d2] => { results := [.lit (.bool false)], args := [d1, d2] }
  | _ => none }
def FnExactFirstFewestWrongFalsely : Prop := fnExactFirstFewestRow.holds Tryd.pinned (OpenSpec.ofChange fnExactFirstFewestWrong)

/-- 'laws.FnExactAsManyAsSides': WHATEVER THE INPUT: true; the input reads as it did. -/
def fnExactAsManyAsSidesSpec : ChangeSpec := { name := "fnExactAsManyAsSides", fn := fun _ => fun
  | [d1, d2] => { results := [.lit (.bool true)], args := [d1, d2] }
  | _ => none }
def fnExactAsManyAsSidesRow : OpenClaim := { program := "ytnciehnjmhlehaadoor", sum := "e141b0a8da6e728e2a9c86273bdb9ea768cf2d7c849e6cb5d70622c6b9bc69fb", func := "loop.example/g01250/laws.FnExactAsManyAsSides", spec := "fnExactAsManyAsSides", recurses := true, named := ["math/bits.deBruijn32tab"], apart := false, laid := [("math/bits.deBruijn32tab", laid_math_bits_deBruijn32tab)] }
def FnExactAsManyAsSidesSaid : Prop := fnExactAsManyAsSidesRow.holds Tryd.pinned (OpenSpec.ofChange fnExactAsManyAsSidesSpec)

/-- ITS FALSE NEIGHBOUR: 'it returns false'. Refute it at one input. -/
def fnExactAsManyAsSidesWrong : ChangeSpec := { name := "fnExactAsManyAsSides", fn := fun _ => fun
  | [d1, d2] => { results := [.lit (.bool false)], args := [d1, d2] }
  | _ => none }
def FnExactAsManyAsSidesWrongFalsely : Prop := fnExactAsManyAsSidesRow.holds Tryd.pinned (OpenSpec.ofChange fnExactAsManyAsSidesWrong)

/-- 'laws.FnExactThreeTriangles': WHATEVER THE INPUT: true; the input reads as it did. -/
def fnExactThreeTrianglesSpec : ChangeSpec := { name := "fnExactThreeTriangles", fn := fun _ => fun
  | [d] => { results := [.lit (.bool true)], args := [d] }
  | _ => none }
def fnExactThreeTrianglesRow : OpenClaim := { program := "ytnciehnjmhlehaadoor", sum := "e141b0a8da6e728e2a9c86273bdb9ea768cf2d7c849e6cb5d70622c6b9bc69fb", func := "loop.example/g01250/laws.FnExactThreeTriangles", spec := "fnExactThreeTriangles", named := ["math/bits.deBruijn32tab"], apart := false, laid := [("math/bits.deBruijn32tab", laid_math_bits_deBruijn32tab)] }
def FnExactThreeTrianglesSaid : Prop := fnExactThreeTrianglesRow.holds Tryd.pinned (OpenSpec.ofChange fnExactThreeTrianglesSpec)

/-- ITS FALSE NEIGHBOUR: 'it returns false'. Refute it at one input. -/
def fnExactThreeTrianglesWrong : ChangeSpec := { name := "fnExactThreeTriangles", fn := fun _ => fun
  | [d] => { results := [.lit (.bool false)], args := [d] }
  | _ => none }
def FnExactThreeTrianglesWrongFalsely : Prop := fnExactThreeTrianglesRow.holds Tryd.pinned (OpenSpec.ofChange fnExactThreeTrianglesWrong)

/-- 'laws.FnExactNeedMost': WHATEVER THE INPUT: true; the input reads as it did. -/
def fnExactNeedMostSpec : ChangeSpec := { name := "fnExactNeedMost", fn := fun _ => fun
  | [d1, d2] => { results := [.lit (.bool true)], args := [d1, d2] }
  | _ => none }
def fnExactNeedMostRow : OpenClaim := { program := "ytnciehnjmhlehaadoor", sum := "e141b0a8da6e728e2a9c86273bdb9ea768cf2d7c849e6cb5d70622c6b9bc69fb", func := "loop.example/g01250/laws.FnExactNeedMost", spec := "fnExactNeedMost", named := ["math/bits.deBruijn32tab"], apart := false, laid := [("math/bits.deBruijn32tab", laid_math_bits_deBruijn32tab)] }
def FnExactNeedMostSaid : Prop := fnExactNeedMostRow.holds Tryd.pinned (OpenSpec.ofChange fnExactNeedMostSpec)

/-- ITS FALSE NEIGHBOUR: 'it returns false'. Refute it at one input. -/
def fnExactNeedMostWrong : ChangeSpec := { name := "fnExactNeedMost", fn := fun _ => fun
  | [d1, d2] => { results := [.lit (.bool false)], args := [d1, d2] }
  | _ => none }
def FnExactNeedMostWrongFalsely : Prop := fnExactNeedMostRow.holds Tryd.pinned (OpenSpec.ofChange fnExactNeedMostWrong)

/-- 'laws.FnExactGreatestNeed': WHATEVER THE INPUT: true; the input reads as it did. -/
def fnExactGreatestNeedSpec : ChangeSpec := { name := "fnExactGreatestNeed", fn := fun _ => fun
  | [d1, d2] => { results := [.lit (.bool true)], args := [d1, d2] }
  | _ => none }
def fnExactGreatestNeedRow : OpenClaim := { program := "ytnciehnjmhlehaadoor", sum := "e141b0a8da6e728e2a9c86273bdb9ea768cf2d7c849e6cb5d70622c6b9bc69fb", func := "loop.example/g01250/laws.FnExactGreatestNeed", spec := "fnExactGreatestNeed", named := ["math/bits.deBruijn32tab"], apart := false, laid := [("math/bits.deBruijn32tab", laid_math_bits_deBruijn32tab)] }
def FnExactGreatestNeedSaid : Prop := fnExactGreatestNeedRow.holds Tryd.pinned (OpenSpec.ofChange fnExactGreatestNeedSpec)

/-- ITS FALSE NEIGHBOUR: 'it returns false'. Refute it at one input. -/
def fnExactGreatestNeedWrong : ChangeSpec := { name := "fnExactGreatestNeed", fn := fun _ => fun
  | [d1, d2] => { results := [.lit (.bool false)], args := [d1, d2] }
  | _ => none }
def FnExactGreatestNeedWrongFalsely : Prop := fnExactGreatestNeedRow.holds Tryd.pinned (OpenSpec.ofChange fnExactGreatestNeedWrong)

/- THE SECOND FORM. 'bulk': how many values and letters a reading holds, each counted each time it is reached (what is shared counts as often as it is met; a slice's spare places count too). A statement '..UptoSaid' is the law's where the arguments, and the package variables that the reading takes, are together of bulk at most 1048576: NARROWER than '..Said'. Prove '..Said' where nothing that the law and all that it calls make is longer than what came in: it says more and counts as full. Else prove '..UptoSaid'. A law counts once. -/
mutual
def uptoBulk {H : Type} : DataW H → Nat
  | .lit (.string bytes) => bytes.length + 1
  | .lit _ => 1
  | .nil => 1
  | .ptr d => uptoBulk d + 1
  | .slice elems spare => uptoBulkAll elems + uptoBulkAll spare + 1
  | .agg parts => uptoBulkAll parts + 1
  | .iface _ d => uptoBulk d + 1
  | .map entries => uptoBulkEntries entries + 1
  | .held _ => 1
def uptoBulkAll {H : Type} : List (DataW H) → Nat
  | [] => 0
  | d :: r => uptoBulk d + uptoBulkAll r
def uptoBulkEntries {H : Type} : List (Lit × DataW H) → Nat
  | [] => 0
  | x :: r => uptoBulkEntry x + uptoBulkEntries r
def uptoBulkEntry {H : Type} : Lit × DataW H → Nat
  | (.string bytes, d) => bytes.length + uptoBulk d + 1
  | (_, d) => uptoBulk d + 1
 end
def uptoSmall : (H : Type) → List (DataW H) → Bool := fun _ ds => decide (uptoBulkAll ds ≤ 1048576)
def OpenSpec.upto (s : _root_.Go.ChangeSpec) : _root_.Go.OpenSpec := { _root_.Go.OpenSpec.ofChange s with cond := some uptoSmall }

/-- 'laws.FnExactFewestParts', WHERE WHAT IT READS IS OF BULK AT MOST 1048576: true; the input reads as it did. -/
def fnExactFewestPartsUptoRow : OpenClaim := { program := "ytnciehnjmhlehaadoor", sum := "e141b0a8da6e728e2a9c86273bdb9ea768cf2d7c849e6cb5d70622c6b9bc69fb", func := "loop.example/g01250/laws.FnExactFewestParts", spec := "fnExactFewestParts", named := ["math/bits.deBruijn32tab"], apart := false, laid := [("math/bits.deBruijn32tab", laid_math_bits_deBruijn32tab)], narrowed := true }
def FnExactFewestPartsUptoSaid : Prop := fnExactFewestPartsUptoRow.holds Tryd.pinned (OpenSpec.upto fnExactFewestPartsSpec)

/-- 'laws.FnExactFirstFewest', WHERE WHAT IT READS IS OF BULK AT MOST 1048576: true; the input reads as it did. -/
def fnExactFirstFewestUptoRow : OpenClaim := { program := "ytnciehnjmhlehaadoor", sum := "e141b0a8da6e728e2a9c86273bdb9ea768cf2d7c849e6cb5d70622c6b9bc69fb", func := "loop.example/g01250/laws.FnExactFirstFewest", spec := "fnExactFirstFewest", recurses := true, named := ["math/bits.deBruijn32tab"], apart := false, laid := [("math/bits.deBruijn32tab", laid_math_bits_deBruijn32tab)], narrowed := true }
def FnExactFirstFewestUptoSaid : Prop := fnExactFirstFewestUptoRow.holds Tryd.pinned (OpenSpec.upto fnExactFirstFewestSpec)

/-- 'laws.FnExactAsManyAsSides', WHERE WHAT IT READS IS OF BULK AT MOST 1048576: true; the input reads as it did. -/
def fnExactAsManyAsSidesUptoRow : OpenClaim := { program := "ytnciehnjmhlehaadoor", sum := "e141b0a8da6e728e2a9c86273bdb9ea768cf2d7c849e6cb5d70622c6b9bc69fb", func := "loop.example/g01250/laws.FnExactAsManyAsSides", spec := "fnExactAsManyAsSides", recurses := true, named := ["math/bits.deBruijn32tab"], apart := false, laid := [("math/bits.deBruijn32tab", laid_math_bits_deBruijn32tab)], narrowed := true }
def FnExactAsManyAsSidesUptoSaid : Prop := fnExactAsManyAsSidesUptoRow.holds Tryd.pinned (OpenSpec.upto fnExactAsManyAsSidesSpec)

/-- 'laws.FnExactThreeTriangles', WHERE WHAT IT READS IS OF BULK AT MOST 1048576: true; the input reads as it did. -/
def fnExactThreeTrianglesUptoRow : OpenClaim := { program := "ytnciehnjmhlehaadoor", sum := "e141b0a8da6e728e2a9c86273bdb9ea768cf2d7c849e6cb5d70622c6b9bc69fb", func := "loop.example/g01250/laws.FnExactThreeTriangles", spec := "fnExactThreeTriangles", named := ["math/bits.deBruijn32tab"], apart := false, laid := [("math/bits.deBruijn32tab", laid_math_bits_deBruijn32tab)], narrowed := true }
def FnExactThreeTrianglesUptoSaid : Prop := fnExactThreeTrianglesUptoRow.holds Tryd.pinned (OpenSpec.upto fnExactThreeTrianglesSpec)

/-- 'laws.FnExactNeedMost', WHERE WHAT IT READS IS OF BULK AT MOST 1048576: true; the input reads as it did. -/
def fnExactNeedMostUptoRow : OpenClaim := { program := "ytnciehnjmhlehaadoor", sum := "e141b0a8da6e728e2a9c86273bdb9ea768cf2d7c849e6cb5d70622c6b9bc69fb", func := "loop.example/g01250/laws.FnExactNeedMost", spec := "fnExactNeedMost", named := ["math/bits.deBruijn32tab"], apart := false, laid := [("math/bits.deBruijn32tab", laid_math_bits_deBruijn32tab)], narrowed := true }
def FnExactNeedMostUptoSaid : Prop := fnExactNeedMostUptoRow.holds Tryd.pinned (OpenSpec.upto fnExactNeedMostSpec)

/-- 'laws.FnExactGreatestNeed', WHERE WHAT IT READS IS OF BULK AT MOST 1048576: true; the input reads as it did. -/
def fnExactGreatestNeedUptoRow : OpenClaim := { program := "ytnciehnjmhlehaadoor", sum := "e141b0a8da6e728e2a9c86273bdb9ea768cf2d7c849e6cb5d70622c6b9bc69fb", func := "loop.example/g01250/laws.FnExactGreatestNeed", spec := "fnExactGreatestNeed", named := ["math/bits.deBruijn32tab"], apart := false, laid := [("math/bits.deBruijn32tab", laid_math_bits_deBruijn32tab)], narrowed := true }
def FnExactGreatestNeedUptoSaid : Prop := fnExactGreatestNeedUptoRow.holds Tryd.pinned (OpenSpec.upto fnExactGreatestNeedSpec)

end Rows
end Go.Proofs.YtnciehnjmhlehaaDoor
