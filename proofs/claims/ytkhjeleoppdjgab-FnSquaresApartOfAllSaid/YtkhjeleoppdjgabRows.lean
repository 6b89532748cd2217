/-
  No cell of these rows narrows 'for every input' (looked for: loops, veiled, ifaces, maps, wideKeys, modest, calm, conditions, laid).
  DERIVED. THE GIVEN ROWS OF THIS SEAT. 4 by the template 'for every input the law returns true; each argument reads behind the call as it read before'; 0 by the template 'total and deterministic' (their statements: YtkhjeleoppdjgabTotals.lean).
  GIVEN WITH THE SEED: the statements are not yours to turn. If you find one false, say at which input.
  Laid BY PROGRAM, IN A SANDBOX (cutbox-rows.mjs): the forced cells as the released guide's own fill.sh prints them over the translation 1f1ae9ee78e2a761… (all of the seat's roots in one cut). By AI agents, Wed Nov 11 2026. No macro, syntax, notation, axiom, sorry.
-/
import Derived.Test.YtkhjeleoppdjgabChecked
import GoSem.Claim
import GoSem.ClaimJoined
import GoSem.ClaimMapViews
import Derived.JoinedTies
import Derived.KernelRfl
namespace Go.Proofs.Ytkhjeleoppdjgab
/- THE CELL 'sum', in the pinned program and in every row, IS THE sha256 OF THE DUMP (.gsa) THAT YtkhjeleoppdjgabProg.lean LOADS. Nothing in Lean hashes anything: it is a label: what it is worth is what the hold of that sum in a sandbox is worth. -/
noncomputable def Try.pinned : Pinned := { name := "ytkhjeleoppdjgab", sum := "1f1ae9ee78e2a7619b31b7e02625b50f3a54eaeebe9207065c891c370f8e4016", checked := Try.checked }
namespace Rows
def none {H : Type} : Left H := { results := [], args := [] }

/-- 'laws.FnSquaresApartOfAll': WHATEVER THE INPUT: true; the input reads as it did. -/
def fnSquaresApartOfAllSpec : ChangeSpec := { name := "fnSquaresApartOfAll", fn := fun _ => fun
  | [d1, d2, d3, d4] => { results := [.lit (.bool true)], args := [d1, d2, d3, d4] }
  | _ => none }
def fnSquaresApartOfAllRow : OpenClaim := { program := "ytkhjeleoppdjgab", sum := "1f1ae9ee78e2a7619b31b7e02625b50f3a54eaeebe9207065c891c370f8e4016", func := "loop.example/g01250/laws.FnSquaresApartOfAll", spec := "fnSquaresApartOfAll", unfollowed := true, recurses := true, apart := false }
def FnSquaresApartOfAllSaid : Prop := fnSquaresApartOfAllRow.holds Try.pinned (OpenSpec.ofChange fnSquaresApartOfAllSpec)

/-- ITS FALSE NEIGHBOUR: 'it returns false'. Refute it at one input. -/
def fnSquaresApartOfAllWrong : ChangeSpec := { name := "fnSquaresApartOfAll", fn := fun _ => fun
  | [d1, d2, d3, d4] => { results := [.lit (.bool false)], args := [d1, d2, d3, d4] }
  | _ => none }
def FnSquaresApartOfAllWrongFalsely : Prop := fnSquaresApartOfAllRow.holds Try.pinned (OpenSpec.ofChange fnSquaresApartOfAllWrong)

/-- 'laws.FnSquaresApart': WHATEVER THE INPUT: true; the input reads as it did. -/
def fnSquaresApartSpec : ChangeSpec := { name := "fnSquaresApart", fn := fun _ => fun
  | [d1, d2] => { results := [.lit (.bool true)], args := [d1, d2] }
  | _ => none }
def fnSquaresApartRow : OpenClaim := { program := "ytkhjeleoppdjgab", sum := "1f1ae9ee78e2a7619b31b7e02625b50f3a54eaeebe9207065c891c370f8e4016", func := "loop.example/g01250/laws.FnSquaresApart", spec := "fnSquaresApart", unfollowed := true, recurses := true, apart := false }
def FnSquaresApartSaid : Prop := fnSquaresApartRow.holds Try.pinned (OpenSpec.ofChange fnSquaresApartSpec)

/-- ITS FALSE NEIGHBOUR: 'it returns false'. Refute it at one input. -/
def fnSquaresApartWrong : ChangeSpec := { name := "fnSquaresApart", fn := fun _ => fun
  | [d1, d2] => { results := [.lit (.bool false)], args := [d1, d2] }
  | _ => none }
def FnSquaresApartWrongFalsely : Prop := fnSquaresApartRow.holds Try.pinned (OpenSpec.ofChange fnSquaresApartWrong)

/-- 'laws.FnPlacesFound': WHATEVER THE INPUT: true; the input reads as it did. -/
def fnPlacesFoundSpec : ChangeSpec := { name := "fnPlacesFound", fn := fun _ => fun
  | [d1, d2] => { results := [.lit (.bool true)], args := [d1, d2] }
  | _ => none }
def fnPlacesFoundRow : OpenClaim := { program := "ytkhjeleoppdjgab", sum := "1f1ae9ee78e2a7619b31b7e02625b50f3a54eaeebe9207065c891c370f8e4016", func := "loop.example/g01250/laws.FnPlacesFound", spec := "fnPlacesFound", unfollowed := true, recurses := true, apart := false }
def FnPlacesFoundSaid : Prop := fnPlacesFoundRow.holds Try.pinned (OpenSpec.ofChange fnPlacesFoundSpec)

/-- ITS FALSE NEIGHBOUR: 'it returns false'. Refute it at one input. -/
def fnPlacesFoundWrong : ChangeSpec := { name := "fnPlacesFound", fn := fun _ => fun
  | [d1, d2] => { results := [.lit (.bool false)], args := [d1, d2] }
  | _ => none }
def FnPlacesFoundWrongFalsely : Prop := fnPlacesFoundRow.holds Try.pinned (OpenSpec.ofChange fnPlacesFoundWrong)

/-- 'laws.FnSpiralsWoundOfAll': WHATEVER THE INPUT: true; the input reads as it did. -/
def fnSpiralsWoundOfAllSpec : ChangeSpec := { name := "fnSpiralsWoundOfAll", fn := fun _ => fun
  | [d1, d2, d3, d4, d5, d6, d7, d8, d9, d10, d11] => { results := [.lit (.bool true)], args := [d1, d2, d3, d4, d5, d6, d7, d8, d9, d10, d11] }
  | _ => none }
def fnSpiralsWoundOfAllRow : OpenClaim := { program := "ytkhjeleoppdjgab", sum := "1f1ae9ee78e2a7619b31b7e02625b50f3a54eaeebe9207065c891c370f8e4016", func := "loop.example/g01250/laws.FnSpiralsWoundOfAll", spec := "fnSpiralsWoundOfAll", unfollowed := true, recurses := true, apart := false }
def FnSpiralsWoundOfAllSaid : Prop := fnSpiralsWoundOfAllRow.holds Try.pinned (OpenSpec.ofChange fnSpiralsWoundOfAllSpec)

/-- ITS FALSE NEIGHBOUR: 'it returns false'. Refute it at one input. -/
def fnSpiralsWoundOfAllWrong : ChangeSpec := { name := "fnSpiralsWoundOfAll", fn := fun _ => fun
  | [d1, d2, d3, d4, d5, d6, d7, d8, d9, d10, d11] => { results := [.lit (.bool false)], args := [d1, d2, d3, d4, d5, d6, d7, d8, d9, d10, d11] }
  | _ => none }
def FnSpiralsWoundOfAllWrongFalsely : Prop := fnSpiralsWoundOfAllRow.holds Try.pinned (OpenSpec.ofChange fnSpiralsWoundOfAllWrong)

/- THE SECOND FORM. 'bulk': how many values and letters a reading holds, each counted each time it is reached (what is shared counts as often as it is met; a slice's spare places count too). A statement '..UptoSaid' is the law's where the arguments, and the package variables that the reading takes, are together of bulk at most 1048576: NARROWER than '..Said'. Prove '..Said' where nothing that the law and all that it calls make is longer than what came in: it says more and counts as full. Else prove '..UptoSaid'. A law counts once. -/
mutual
def uptoBulk {H : Type} : DataW H → Nat
  | .lit (.string bytes) => bytes.length + 1
  | .lit _ => 1
  | .nil => 1
  | .ptr d => uptoBulk d + 1
  | .slice elems spare => uptoBulkAll elems + uptoBulkAll spare + 1
  | .agg parts => uptoBulkAll parts + 1
  | .iface _ d => uptoBulk d + 1
  | .map entries => uptoBulkEntries entries + 1
  | .held _ => 1
def uptoBulkAll {H : Type} : List (DataW H) → Nat
  | [] => 0
  | d :: r => uptoBulk d + uptoBulkAll r
def uptoBulkEntries {H : Type} : List (Lit × DataW H) → Nat
  | [] => 0
  | x :: r => uptoBulkEntry x + uptoBulkEntries r
def uptoBulkEntry {H : Type} : Lit × DataW H → Nat
  | (.string bytes, d) => bytes.length + uptoBulk d + 1
  | (_, d) => uptoBulk d + 1
 end
def uptoSmall : (H : Type) → List (DataW H) → Bool := fun _ ds => decide (uptoBulkAll ds ≤ 1048576)
def OpenSpec.upto (s : _root_.Go.ChangeSpec) : _root_.Go.OpenSpec := { _root_.Go.OpenSpec.ofChange s with cond := some uptoSmall }

/-- 'laws.FnSquaresApartOfAll', WHERE WHAT IT READS IS OF BULK AT MOST 1048576: true; the input reads as it did. -/
def fnSquaresApartOfAllUptoRow : OpenClaim := { program := "ytkhjeleoppdjgab", sum := "1f1ae9ee78e2a7619b31b7e02625b50f3a54eaeebe9207065c891c370f8e4016", func := "loop.example/g01250/laws.FnSquaresApartOfAll", spec := "fnSquaresApartOfAll", unfollowed := true, recurses := true, apart := false, narrowed := true }
def FnSquaresApartOfAllUptoSaid : Prop := fnSquaresApartOfAllUptoRow.holds Try.pinned (OpenSpec.upto fnSquaresApartOfAllSpec)

/-- 'laws.FnSquaresApart', WHERE WHAT IT READS IS OF BULK AT MOST 1048576: true; the input reads as it did. -/
def fnSquaresApartUptoRow : OpenClaim := { program := "ytkhjeleoppdjgab", sum := "1f1ae9ee78e2a7619b31b7e02625b50f3a54eaeebe9207065c891c370f8e4016", func := "loop.example/g01250/laws.FnSquaresApart", spec := "fnSquaresApart", unfollowed := true, recurses := true, apart := false, narrowed := true }
def FnSquaresApartUptoSaid : Prop := fnSquaresApartUptoRow.holds Try.pinned (OpenSpec.upto fnSquaresApartSpec)

/-- 'laws.FnPlacesFound', WHERE WHAT IT READS IS OF BULK AT MOST 1048576: true; the input reads as it did. -/
def fnPlacesFoundUptoRow : OpenClaim := { program := "ytkhjeleoppdjgab", sum := "1f1ae9ee78e2a7619b31b7e02625b50f3a54eaeebe9207065c891c370f8e4016", func := "loop.example/g01250/laws.FnPlacesFound", spec := "fnPlacesFound", unfollowed := true, recurses := true, apart := false, narrowed := true }
def FnPlacesFoundUptoSaid : Prop := fnPlacesFoundUptoRow.holds Try.pinned (OpenSpec.upto fnPlacesFoundSpec)

/-- 'laws.FnSpiralsWoundOfAll', WHERE WHAT IT READS IS OF BULK AT MOST 1048576: true; the input reads as it did. -/
def fnSpiralsWoundOfAllUptoRow : OpenClaim := { program := "ytkhjeleoppdjgab", sum := "1f1ae9ee78e2a7619b31b7e02625b50f3a54eaeebe9207065c891c370f8e4016", func := "loop.example/g01250/laws.FnSpiralsWoundOfAll", spec := "fnSpiralsWoundOfAll", unfollowed := true, recurses := true, apart := false, narrowed := true }
def FnSpiralsWoundOfAllUptoSaid : Prop := fnSpiralsWoundOfAllUptoRow.holds Try.pinned (OpenSpec.upto fnSpiralsWoundOfAllSpec)

end Rows
end Go.Proofs.Ytkhjeleoppdjgab
