/-
  No cell of these rows narrows 'for every input' (looked for: loops, veiled, ifaces, maps, wideKeys, modest, calm, conditions, laid).
  DERIVED. THE GIVEN ROWS OF THIS SEAT. 2 by the template 'for every input the law returns true; each argument reads behind the call as it read before'; 0 by the template 'total and deterministic' (their statements: YtjfpnecnmdclfaaTotals.lean).
  GIVEN WITH THE SEED: the statements are not yours to turn. If you find one false, say at which input.
  Laid BY PROGRAM, IN A SANDBOX (cutbox-rows.mjs): the forced cells as the released guide's own fill.sh prints them over the translation 550f0ef62cdcf3a3… (all of the seat's roots in one cut). By AI agents, Wed Nov 11 2026. No macro, syntax, notation, axiom, sorry.
-/
import Derived.Test.YtjfpnecnmdclfaaChecked
import GoSem.Claim
import GoSem.ClaimJoined
import GoSem.ClaimMapViews
import Derived.JoinedTies
import Derived.KernelRfl
namespace Go.Proofs.Ytjfpnecnmdclfaa
/- THE CELL 'sum', in the pinned program and in every row, IS THE sha256 OF THE DUMP (.gsa) THAT YtjfpnecnmdclfaaProg.lean LOADS. Nothing in Lean hashes anything: it is a label: what it is worth is what the hold of that sum in a sandbox is worth. -/
noncomputable def Try.pinned : Pinned := { name := "ytjfpnecnmdclfaa", sum := "550f0ef62cdcf3a399c3dbca27dc137eea3ed285823fe7d2d543e0f038ecd094", checked := Try.checked }
namespace Rows
def none {H : Type} : Left H := { results := [], args := [] }

/-- 'laws.FnFormsChange': WHATEVER THE INPUT: true; the input reads as it did. -/
def fnFormsChangeSpec : ChangeSpec := { name := "fnFormsChange", fn := fun _ => fun
  | [d1, d2] => { results := [.lit (.bool true)], args := [d1, d2] }
  | _ => none }
def fnFormsChangeRow : OpenClaim := { program := "ytjfpnecnmdclfaa", sum := "550f0ef62cdcf3a399c3dbca27dc137eea3ed285823fe7d2d543e0f038ecd094", func := "loop.example/g01250/laws.FnFormsChange", spec := "fnFormsChange", inPlace := ["math/bits.Add64", "math/bits.Sub64"], unfollowed := true, recurses := true, apart := false }
def FnFormsChangeSaid : Prop := fnFormsChangeRow.holds Try.pinned (OpenSpec.ofChange fnFormsChangeSpec)

/-- ITS FALSE NEIGHBOUR: 'it returns false'. Refute it at one input. -/
def fnFormsChangeWrong : ChangeSpec := { name := "fnFormsChange", fn := fun _ => fun
  | [d1, d2] => { results := [.lit (.bool false)], args := [d1, d2] }
  | _ => none }
def FnFormsChangeWrongFalsely : Prop := fnFormsChangeRow.holds Try.pinned (OpenSpec.ofChange fnFormsChangeWrong)

/-- 'laws.FnFormsChangeOfAll': WHATEVER THE INPUT: true; the input reads as it did. -/
def fnFormsChangeOfAllSpec : ChangeSpec := { name := "fnFormsChangeOfAll", fn := fun _ => fun
  | [d1, d2, d3, d4, d5, d6] => { results := [.lit (.bool true)], args := [d1, d2, d3, d4, d5, d6] }
  | _ => none }
def fnFormsChangeOfAllRow : OpenClaim := { program := "ytjfpnecnmdclfaa", sum := "550f0ef62cdcf3a399c3dbca27dc137eea3ed285823fe7d2d543e0f038ecd094", func := "loop.example/g01250/laws.FnFormsChangeOfAll", spec := "fnFormsChangeOfAll", inPlace := ["math/bits.Add64", "math/bits.Sub64"], unfollowed := true, recurses := true, apart := false }
def FnFormsChangeOfAllSaid : Prop := fnFormsChangeOfAllRow.holds Try.pinned (OpenSpec.ofChange fnFormsChangeOfAllSpec)

/-- ITS FALSE NEIGHBOUR: 'it returns false'. Refute it at one input. -/
def fnFormsChangeOfAllWrong : ChangeSpec := { name := "fnFormsChangeOfAll", fn := fun _ => fun
  | [d1, d2, d3, d4, d5, d6] => { results := [.lit (.bool false)], args := [d1, d2, d3, d4, d5, d6] }
  | _ => none }
def FnFormsChangeOfAllWrongFalsely : Prop := fnFormsChangeOfAllRow.holds Try.pinned (OpenSpec.ofChange fnFormsChangeOfAllWrong)

/- THE SECOND FORM. 'bulk': how many values and letters a reading holds, each counted each time it is reached (what is shared counts as often as it is met; a slice's spare places count too). A statement '..UptoSaid' is the law's where the arguments, and the package variables that the reading takes, are together of bulk at most 1048576: NARROWER than '..Said'. Prove '..Said' where nothing that the law and all that it calls make is longer than what came in: it says more and counts as full. Else prove '..UptoSaid'. A law counts once. -/
mutual
def uptoBulk {H : Type} : DataW H → Nat
  | .lit (.string bytes) => bytes.length + 1
  | .lit _ => 1
  | .nil => 1
  | .ptr d => uptoBulk d + 1
  | .slice elems spare => uptoBulkAll elems + uptoBulkAll spare + 1
  | .agg parts => uptoBulkAll parts + 1
  | .iface _ d => uptoBulk d + 1
  | .map entries => uptoBulkEntries entries + 1
  | .held _ => 1
def uptoBulkAll {H : Type} : List (DataW H) → Nat
  | [] => 0
  | d :: r => uptoBulk d + uptoBulkAll r
def uptoBulkEntries {H : Type} : List (Lit × DataW H) → Nat
  | [] => 0
  | x :: r => uptoBulkEntry x + uptoBulkEntries r
def uptoBulkEntry {H : Type} : Lit × DataW H → Nat
  | (.string bytes, d) => bytes.length + uptoBulk d + 1
  | (_, d) => uptoBulk d + 1
 end
def uptoSmall : (H : Type) → List (DataW H) → Bool := fun _ ds => decide (uptoBulkAll ds ≤ 1048576)
def OpenSpec.upto (s : _root_.Go.ChangeSpec) : _root_.Go.OpenSpec := { _root_.Go.OpenSpec.ofChange s with cond := some uptoSmall }

/-- 'laws.FnFormsChange', WHERE WHAT IT READS IS OF BULK AT MOST 1048576: true; the input reads as it did. -/
def fnFormsChangeUptoRow : OpenClaim := { program := "ytjfpnecnmdclfaa", sum := "550f0ef62cdcf3a399c3dbca27dc137eea3ed285823fe7d2d543e0f038ecd094", func := "loop.example/g01250/laws.FnFormsChange", spec := "fnFormsChange", inPlace := ["math/bits.Add64", "math/bits.Sub64"], unfollowed := true, recurses := true, apart := false, narrowed := true }
def FnFormsChangeUptoSaid : Prop := fnFormsChangeUptoRow.holds Try.pinned (OpenSpec.upto fnFormsChangeSpec)

/-- 'laws.FnFormsChangeOfAll', WHERE WHAT IT READS IS OF BULK AT MOST 1048576: true; the input reads as it did. -/
def fnFormsChangeOfAllUptoRow : OpenClaim := { program := "ytjfpnecnmdclfaa", sum := "550f0ef62cdcf3a399c3dbca27dc137eea3ed285823fe7d2d543e0f038ecd094", func := "loop.example/g01250/laws.FnFormsChangeOfAll", spec := "fnFormsChangeOfAll", inPlace := ["math/bits.Add64", "math/bits.Sub64"], unfollowed := true, recurses := true, apart := false, narrowed := true }
def FnFormsChangeOfAllUptoSaid : Prop := fnFormsChangeOfAllUptoRow.holds Try.pinned (OpenSpec.upto fnFormsChangeOfAllSpec)

end Rows
end Go.Proofs.Ytjfpnecnmdclfaa
