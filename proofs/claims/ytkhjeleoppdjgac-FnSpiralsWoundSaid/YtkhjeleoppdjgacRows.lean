/-
  No cell of these rows narrows 'for every input' (looked for: loops, veiled, ifaces, maps, wideKeys, modest, calm, conditions, laid).
  DERIVED. THE GIVEN ROWS OF THIS SEAT. 4 by the template 'for every input the law returns true; each argument reads behind the call as it read before'; 0 by the template 'total and deterministic' (their statements: YtkhjeleoppdjgacTotals.lean).
  GIVEN WITH THE SEED: the statements are not yours to turn. If you find one false, say at which input.
  Laid BY PROGRAM, IN A SANDBOX (cutbox-rows.mjs): the forced cells as the released guide's own fill.sh prints them over the translation 5e61c9dd02c8962c… (all of the seat's roots in one cut). By AI agents, Wed Nov 11 2026. No macro, syntax, notation, axiom, sorry.
-/
import Derived.Test.YtkhjeleoppdjgacChecked
import GoSem.Claim
import GoSem.ClaimJoined
import GoSem.ClaimMapViews
import Derived.JoinedTies
import Derived.KernelRfl
namespace Go.Proofs.Ytkhjeleoppdjgac
/- THE CELL 'sum', in the pinned program and in every row, IS THE sha256 OF THE DUMP (.gsa) THAT YtkhjeleoppdjgacProg.lean LOADS. Nothing in Lean hashes anything: it is a label: what it is worth is what the hold of that sum in a sandbox is worth. -/
noncomputable def Try.pinned : Pinned := { name := "ytkhjeleoppdjgac", sum := "5e61c9dd02c8962c57bd262cdeb2401ab63601f79e19ef2e88c91c67525f5626", checked := Try.checked }
namespace Rows
def none {H : Type} : Left H := { results := [], args := [] }

/-- 'laws.FnSpiralsWound': WHATEVER THE INPUT: true; the input reads as it did. -/
def fnSpiralsWoundSpec : ChangeSpec := { name := "fnSpiralsWound", fn := fun _ => fun
  | [d1, d2] => { results := [.lit (.bool true)], args := [d1, d2] }
  | _ => none }
def fnSpiralsWoundRow : OpenClaim := { program := "ytkhjeleoppdjgac", sum := "5e61c9dd02c8962c57bd262cdeb2401ab63601f79e19ef2e88c91c67525f5626", func := "loop.example/g01250/laws.FnSpiralsWound", spec := "fnSpiralsWound", unfollowed := true, recurses := true, apart := false }
def FnSpiralsWoundSaid : Prop := fnSpiralsWoundRow.holds Try.pinned (OpenSpec.ofChange fnSpiralsWoundSpec)

/-- ITS FALSE NEIGHBOUR: 'it returns false'. Refute it at one input. -/
def fnSpiralsWoundWrong : ChangeSpec := { name := "fnSpiralsWound", fn := fun _ => fun
  | [d1, d2] => { results := [.lit (.bool false)], args := [d1, d2] }
  | _ => none }
def FnSpiralsWoundWrongFalsely : Prop := fnSpiralsWoundRow.holds Try.pinned (OpenSpec.ofChange fnSpiralsWoundWrong)

/-- 'laws.FnOtherSpiralsOfAll': WHATEVER THE INPUT: true; the input reads as it did. -/
def fnOtherSpiralsOfAllSpec : ChangeSpec := { name := "fnOtherSpiralsOfAll", fn := fun _ => fun
  | [d1, d2, d3, d4, d5, d6, d7, d8] => { results := [.lit (.bool true)], args := [d1, d2, d3, d4, d5, d6, d7, d8] }
  | _ => none }
def fnOtherSpiralsOfAllRow : OpenClaim := { program := "ytkhjeleoppdjgac", sum := "5e61c9dd02c8962c57bd262cdeb2401ab63601f79e19ef2e88c91c67525f5626", func := "loop.example/g01250/laws.FnOtherSpiralsOfAll", spec := "fnOtherSpiralsOfAll", unfollowed := true, recurses := true, apart := false }
def FnOtherSpiralsOfAllSaid : Prop := fnOtherSpiralsOfAllRow.holds Try.pinned (OpenSpec.ofChange fnOtherSpiralsOfAllSpec)

/-- ITS FALSE NEIGHBOUR: 'it returns false'. Refute it at one input. -/
def fnOtherSpiralsOfAllWrong : ChangeSpec := { name := "fnOtherSpiralsOfAll", fn := fun _ => fun
  | [d1, d2, d3, d4, d5, d6, d7, d8] => { results := [.lit (.bool false)], args := [d1, d2, d3, d4, d5, d6, d7, d8] }
  | _ => none }
def FnOtherSpiralsOfAllWrongFalsely : Prop := fnOtherSpiralsOfAllRow.holds Try.pinned (OpenSpec.ofChange fnOtherSpiralsOfAllWrong)

/-- 'laws.FnOtherSpirals': WHATEVER THE INPUT: true; the input reads as it did. -/
def fnOtherSpiralsSpec : ChangeSpec := { name := "fnOtherSpirals", fn := fun _ => fun
  | [d1, d2] => { results := [.lit (.bool true)], args := [d1, d2] }
  | _ => none }
def fnOtherSpiralsRow : OpenClaim := { program := "ytkhjeleoppdjgac", sum := "5e61c9dd02c8962c57bd262cdeb2401ab63601f79e19ef2e88c91c67525f5626", func := "loop.example/g01250/laws.FnOtherSpirals", spec := "fnOtherSpirals", unfollowed := true, recurses := true, apart := false }
def FnOtherSpiralsSaid : Prop := fnOtherSpiralsRow.holds Try.pinned (OpenSpec.ofChange fnOtherSpiralsSpec)

/-- ITS FALSE NEIGHBOUR: 'it returns false'. Refute it at one input. -/
def fnOtherSpiralsWrong : ChangeSpec := { name := "fnOtherSpirals", fn := fun _ => fun
  | [d1, d2] => { results := [.lit (.bool false)], args := [d1, d2] }
  | _ => none }
def FnOtherSpiralsWrongFalsely : Prop := fnOtherSpiralsRow.holds Try.pinned (OpenSpec.ofChange fnOtherSpiralsWrong)

/-- 'laws.FnFormsChangeOfAll': WHATEVER THE INPUT: true; the input reads as it did. -/
def fnFormsChangeOfAllSpec : ChangeSpec := { name := "fnFormsChangeOfAll", fn := fun _ => fun
  | [d1, d2, d3, d4, d5, d6] => { results := [.lit (.bool true)], args := [d1, d2, d3, d4, d5, d6] }
  | _ => none }
def fnFormsChangeOfAllRow : OpenClaim := { program := "ytkhjeleoppdjgac", sum := "5e61c9dd02c8962c57bd262cdeb2401ab63601f79e19ef2e88c91c67525f5626", func := "loop.example/g01250/laws.FnFormsChangeOfAll", spec := "fnFormsChangeOfAll", inPlace := ["math/bits.Add64", "math/bits.Sub64"], unfollowed := true, recurses := true, apart := false }
def FnFormsChangeOfAllSaid : Prop := fnFormsChangeOfAllRow.holds Try.pinned (OpenSpec.ofChange fnFormsChangeOfAllSpec)

/-- ITS FALSE NEIGHBOUR: 'it returns false'. Refute it at one input. -/
def fnFormsChangeOfAllWrong : ChangeSpec := { name := "fnFormsChangeOfAll", fn := fun _ => fun
  | [d1, d2, d3, d4, d5, d6] => { results := [.lit (.bool false)], args := [d1, d2, d3, d4, d5, d6] }
  | _ => none }
def FnFormsChangeOfAllWrongFalsely : Prop := fnFormsChangeOfAllRow.holds Try.pinned (OpenSpec.ofChange fnFormsChangeOfAllWrong)

/- THE SECOND FORM. 'bulk': how many values and letters a reading holds, each counted each time it is reached (what is shared counts as often as it is met; a slice's spare places count too). A statement '..UptoSaid' is the law's where the arguments, and the package variables that the reading takes, are together of bulk at most 1048576: NARROWER than '..Said'. Prove '..Said' where nothing that the law and all that it calls make is longer than what came in: it says more and counts as full. Else prove '..UptoSaid'. A law counts once. -/
mutual
def uptoBulk {H : Type} : DataW H → Nat
  | .lit (.string bytes) => bytes.length + 1
  | .lit _ => 1
  | .nil => 1
  | .ptr d => uptoBulk d + 1
  | .slice elems spare => uptoBulkAll elems + uptoBulkAll spare + 1
  | .agg parts => uptoBulkAll parts + 1
  | .iface _ d => uptoBulk d + 1
  | .map entries => uptoBulkEntries entries + 1
  | .held _ => 1
def uptoBulkAll {H : Type} : List (DataW H) → Nat
  | [] => 0
  | d :: r => uptoBulk d + uptoBulkAll r
def uptoBulkEntries {H : Type} : List (Lit × DataW H) → Nat
  | [] => 0
  | x :: r => uptoBulkEntry x + uptoBulkEntries r
def uptoBulkEntry {H : Type} : Lit × DataW H → Nat
  | (.string bytes, d) => bytes.length + uptoBulk d + 1
  | (_, d) => uptoBulk d + 1
 end
def uptoSmall : (H : Type) → List (DataW H) → Bool := fun _ ds => decide (uptoBulkAll ds ≤ 1048576)
def OpenSpec.upto (s : _root_.Go.ChangeSpec) : _root_.Go.OpenSpec := { _root_.Go.OpenSpec.ofChange s with cond := some uptoSmall }

/-- 'laws.FnSpiralsWound', WHERE WHAT IT READS IS OF BULK AT MOST 1048576: true; the input reads as it did. -/
def fnSpiralsWoundUptoRow : OpenClaim := { program := "ytkhjeleoppdjgac", sum := "5e61c9dd02c8962c57bd262cdeb2401ab63601f79e19ef2e88c91c67525f5626", func := "loop.example/g01250/laws.FnSpiralsWound", spec := "fnSpiralsWound", unfollowed := true, recurses := true, apart := false, narrowed := true }
def FnSpiralsWoundUptoSaid : Prop := fnSpiralsWoundUptoRow.holds Try.pinned (OpenSpec.upto fnSpiralsWoundSpec)

/-- 'laws.FnOtherSpiralsOfAll', WHERE WHAT IT READS IS OF BULK AT MOST 1048576: true; the input reads as it did. -/
def fnOtherSpiralsOfAllUptoRow : OpenClaim := { program := "ytkhjeleoppdjgac", sum := "5e61c9dd02c8962c57bd262cdeb2401ab63601f79e19ef2e88c91c67525f5626", func := "loop.example/g01250/laws.FnOtherSpiralsOfAll", spec := "fnOtherSpiralsOfAll", unfollowed := true, recurses := true, apart := false, narrowed := true }
def FnOtherSpiralsOfAllUptoSaid : Prop := fnOtherSpiralsOfAllUptoRow.holds Try.pinned (OpenSpec.upto fnOtherSpiralsOfAllSpec)

/-- 'laws.FnOtherSpirals', WHERE WHAT IT READS IS OF BULK AT MOST 1048576: true; the input reads as it did. -/
def fnOtherSpiralsUptoRow : OpenClaim := { program := "ytkhjeleoppdjgac", sum := "5e61c9dd02c8962c57bd262cdeb2401ab63601f79e19ef2e88c91c67525f5626", func := "loop.example/g01250/laws.FnOtherSpirals", spec := "fnOtherSpirals", unfollowed := true, recurses := true, apart := false, narrowed := true }
def FnOtherSpiralsUptoSaid : Prop := fnOtherSpiralsUptoRow.holds Try.pinned (OpenSpec.upto fnOtherSpiralsSpec)

/-- 'laws.FnFormsChangeOfAll', WHERE WHAT IT READS IS OF BULK AT MOST 1048576: true; the input reads as it did. -/
def fnFormsChangeOfAllUptoRow : OpenClaim := { program := "ytkhjeleoppdjgac", sum := "5e61c9dd02c8962c57bd262cdeb2401ab63601f79e19ef2e88c91c67525f5626", func := "loop.example/g01250/laws.FnFormsChangeOfAll", spec := "fnFormsChangeOfAll", inPlace := ["math/bits.Add64", "math/bits.Sub64"], unfollowed := true, recurses := true, apart := false, narrowed := true }
def FnFormsChangeOfAllUptoSaid : Prop := fnFormsChangeOfAllUptoRow.holds Try.pinned (OpenSpec.upto fnFormsChangeOfAllSpec)

end Rows
end Go.Proofs.Ytkhjeleoppdjgac
