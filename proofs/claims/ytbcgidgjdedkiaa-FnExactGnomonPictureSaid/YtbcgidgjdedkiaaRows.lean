/-
  No cell of these rows narrows 'for every input' (looked for: loops, veiled, ifaces, maps, wideKeys, modest, calm, conditions, laid).
  DERIVED. THE GIVEN ROWS OF THIS SEAT. 5 by the template 'for every input the law returns true; each argument reads behind the call as it read before'; 0 by the template 'total and deterministic' (their statements: YtbcgidgjdedkiaaTotals.lean).
  GIVEN WITH THE SEED: the statements are not yours to turn. If you find one false, say at which input.
  Laid BY PROGRAM, IN A SANDBOX (cutbox-rows.mjs): the forced cells as the released guide's own fill.sh prints them over the translation c9949a72c6f28743… (all of the seat's roots in one cut). By AI agents, Wed Nov 11 2026. No macro, syntax, notation, axiom, sorry.
-/
import Derived.Test.YtbcgidgjdedkiaaChecked
import GoSem.Claim
import GoSem.ClaimJoined
import GoSem.ClaimMapViews
import Derived.JoinedTies
import Derived.KernelRfl
namespace Go.Proofs.Ytbcgidgjdedkiaa
/- THE CELL 'sum', in the pinned program and in every row, IS THE sha256 OF THE DUMP (.gsa) THAT YtbcgidgjdedkiaaProg.lean LOADS. Nothing in Lean hashes anything: it is a label: what it is worth is what the hold of that sum in a sandbox is worth. -/
noncomputable def Try.pinned : Pinned := { name := "ytbcgidgjdedkiaa", sum := "c9949a72c6f28743d65b104e459e5dd8f3c88b58474e1954e898c4a7c4282184", checked := Try.checked }
namespace Rows
def none {H : Type} : Left H := { results := [], args := [] }

/-- 'laws.FnExactTrianglePicture': WHATEVER THE INPUT: true; the input reads as it did. -/
def fnExactTrianglePictureSpec : ChangeSpec := { name := "fnExactTrianglePicture", fn := fun _ => fun
  | [d] => { results := [.lit (.bool true)], args := [d] }
  | _ => none }
def fnExactTrianglePictureRow : OpenClaim := { program := "ytbcgidgjdedkiaa", sum := "c9949a72c6f28743d65b104e459e5dd8f3c88b58474e1954e898c4a7c4282184", func := "loop.example/g01250/laws.FnExactTrianglePicture", spec := "fnExactTrianglePicture", inPlace := ["internal/abi.NoEscape"], unfollowed := true, recurses := true, plainKeys := false, apart := false }
def FnExactTrianglePictureSaid : Prop := fnExactTrianglePictureRow.holds Try.pinned (OpenSpec.ofChange fnExactTrianglePictureSpec)

/-- ITS FALSE NEIGHBOUR: 'it returns false'. Refute it at one input. -/
def fnExactTrianglePictureWrong : ChangeSpec := { name := "fnExactTrianglePicture", fn := fun _ => fun
  | [d] => { results := [.lit (.bool false)], args := [d] }
  | _ => none }
def FnExactTrianglePictureWrongFalsely : Prop := fnExactTrianglePictureRow.holds Try.pinned (OpenSpec.ofChange fnExactTrianglePictureWrong)

/-- 'laws.FnExactSquarePicture': WHATEVER THE INPUT: true; the input reads as it did. -/
def fnExactSquarePictureSpec : ChangeSpec := { name := "fnExactSquarePicture", fn := fun _ => fun
  | [d] => { results := [.lit (.bool true)], args := [d] }
  | _ => none }
def fnExactSquarePictureRow : OpenClaim := { program := "ytbcgidgjdedkiaa", sum := "c9949a72c6f28743d65b104e459e5dd8f3c88b58474e1954e898c4a7c4282184", func := "loop.example/g01250/laws.FnExactSquarePicture", spec := "fnExactSquarePicture", inPlace := ["internal/abi.NoEscape"], unfollowed := true, recurses := true, plainKeys := false, apart := false }
def FnExactSquarePictureSaid : Prop := fnExactSquarePictureRow.holds Try.pinned (OpenSpec.ofChange fnExactSquarePictureSpec)

/-- ITS FALSE NEIGHBOUR: 'it returns false'. Refute it at one input. -/
def fnExactSquarePictureWrong : ChangeSpec := { name := "fnExactSquarePicture", fn := fun _ => fun
  | [d] => { results := [.lit (.bool false)], args := [d] }
  | _ => none }
def FnExactSquarePictureWrongFalsely : Prop := fnExactSquarePictureRow.holds Try.pinned (OpenSpec.ofChange fnExactSquarePictureWrong)

/-- 'laws.FnExactDiamondPicture': WHATEVER THE INPUT: true; the input reads as it did. -/
def fnExactDiamondPictureSpec : ChangeSpec := { name := "fnExactDiamondPicture", fn := fun _ => fun
  | [d] => { results := [.lit (.bool true)], args := [d] }
  | _ => none }
def fnExactDiamondPictureRow : OpenClaim := { program := "ytbcgidgjdedkiaa", sum := "c9949a72c6f28743d65b104e459e5dd8f3c88b58474e1954e898c4a7c4282184", func := "loop.example/g01250/laws.FnExactDiamondPicture", spec := "fnExactDiamondPicture", inPlace := ["internal/abi.NoEscape"], unfollowed := true, recurses := true, plainKeys := false, apart := false }
def FnExactDiamondPictureSaid : Prop := fnExactDiamondPictureRow.holds Try.pinned (OpenSpec.ofChange fnExactDiamondPictureSpec)

/-- ITS FALSE NEIGHBOUR: 'it returns false'. Refute it at one input. -/
def fnExactDiamondPictureWrong : ChangeSpec := { name := "fnExactDiamondPicture", fn := fun _ => fun
  | [d] => { results := [.lit (.bool false)], args := [d] }
  | _ => none }
def FnExactDiamondPictureWrongFalsely : Prop := fnExactDiamondPictureRow.holds Try.pinned (OpenSpec.ofChange fnExactDiamondPictureWrong)

/-- 'laws.FnExactHexagonPicture': WHATEVER THE INPUT: true; the input reads as it did. -/
def fnExactHexagonPictureSpec : ChangeSpec := { name := "fnExactHexagonPicture", fn := fun _ => fun
  | [d] => { results := [.lit (.bool true)], args := [d] }
  | _ => none }
def fnExactHexagonPictureRow : OpenClaim := { program := "ytbcgidgjdedkiaa", sum := "c9949a72c6f28743d65b104e459e5dd8f3c88b58474e1954e898c4a7c4282184", func := "loop.example/g01250/laws.FnExactHexagonPicture", spec := "fnExactHexagonPicture", inPlace := ["internal/abi.NoEscape"], unfollowed := true, recurses := true, plainKeys := false, apart := false }
def FnExactHexagonPictureSaid : Prop := fnExactHexagonPictureRow.holds Try.pinned (OpenSpec.ofChange fnExactHexagonPictureSpec)

/-- ITS FALSE NEIGHBOUR: 'it returns false'. Refute it at one input. -/
def fnExactHexagonPictureWrong : ChangeSpec := { name := "fnExactHexagonPicture", fn := fun _ => fun
  | [d] => { results := [.lit (.bool false)], args := [d] }
  | _ => none }
def FnExactHexagonPictureWrongFalsely : Prop := fnExactHexagonPictureRow.holds Try.pinned (OpenSpec.ofChange fnExactHexagonPictureWrong)

/-- 'laws.FnExactGnomonPicture': WHATEVER THE INPUT: true; the input reads as it did. -/
def fnExactGnomonPictureSpec : ChangeSpec := { name := "fnExactGnomonPicture", fn := fun _ => fun
  | [d] => { results := [.lit (.bool true)], args := [d] }
  | _ => none }
def fnExactGnomonPictureRow : OpenClaim := { program := "ytbcgidgjdedkiaa", sum := "c9949a72c6f28743d65b104e459e5dd8f3c88b58474e1954e898c4a7c4282184", func := "loop.example/g01250/laws.FnExactGnomonPicture", spec := "fnExactGnomonPicture", inPlace := ["internal/abi.NoEscape"], unfollowed := true, recurses := true, plainKeys := false, apart := false }
def FnExactGnomonPictureSaid : Prop := fnExactGnomonPictureRow.holds Try.pinned (OpenSpec.ofChange fnExactGnomonPictureSpec)

/-- ITS FALSE NEIGHBOUR: 'it returns false'. Refute it at one input. -/
def fnExactGnomonPictureWrong : ChangeSpec := { name := "fnExactGnomonPicture", fn := fun _ => fun
  | [d] => { results := [.lit (.bool false)], args := [d] }
  | _ => none }
def FnExactGnomonPictureWrongFalsely : Prop := fnExactGnomonPictureRow.holds Try.pinned (OpenSpec.ofChange fnExactGnomonPictureWrong)

/- THE SECOND FORM. 'bulk': how many values and letters a reading holds, each counted each time it is reached (what is shared counts as often as it is met; a slice's spare places count too). A statement '..UptoSaid' is the law's where the arguments, and the package variables that the reading takes, are together of bulk at most 1048576: NARROWER than '..Said'. Prove '..Said' where nothing that the law and all that it calls make is longer than what came in: it says more and counts as full. Else prove '..UptoSaid'. A law counts once. -/
mutual
def uptoBulk {H : Type} : DataW H → Nat
  | .lit (.string bytes) => bytes.length + 1
  | .lit _ => 1
  | .nil => 1
  | .ptr d => uptoBulk d + 1
  | .slice elems spare => uptoBulkAll elems + uptoBulkAll spare + 1
  | .agg parts => uptoBulkAll parts + 1
  | .iface _ d => uptoBulk d + 1
  | .map entries => uptoBulkEntries entries + 1
  | .held _ => 1
def uptoBulkAll {H : Type} : List (DataW H) → Nat
  | [] => 0
  | d :: r => uptoBulk d + uptoBulkAll r
def uptoBulkEntries {H : Type} : List (Lit × DataW H) → Nat
  | [] => 0
  | x :: r => uptoBulkEntry x + uptoBulkEntries r
def uptoBulkEntry {H : Type} : Lit × DataW H → Nat
  | (.string bytes, d) => bytes.length + uptoBulk d + 1
  | (_, d) => uptoBulk d + 1
 end
def uptoSmall : (H : Type) → List (DataW H) → Bool := fun _ ds => decide (uptoBulkAll ds ≤ 1048576)
def OpenSpec.upto (s : _root_.Go.ChangeSpec) : _root_.Go.OpenSpec := { _root_.Go.OpenSpec.ofChange s with cond := some uptoSmall }

/-- 'laws.FnExactTrianglePicture', WHERE WHAT IT READS IS OF BULK AT MOST 1048576: true; the input reads as it did. -/
def fnExactTrianglePictureUptoRow : OpenClaim := { program := "ytbcgidgjdedkiaa", sum := "c9949a72c6f28743d65b104e459e5dd8f3c88b58474e1954e898c4a7c4282184", func := "loop.example/g01250/laws.FnExactTrianglePicture", spec := "fnExactTrianglePicture", inPlace := ["internal/abi.NoEscape"], unfollowed := true, recurses := true, plainKeys := false, apart := false, narrowed := true }
def FnExactTrianglePictureUptoSaid : Prop := fnExactTrianglePictureUptoRow.holds Try.pinned (OpenSpec.upto fnExactTrianglePictureSpec)

/-- 'laws.FnExactSquarePicture', WHERE WHAT IT READS IS OF BULK AT MOST 1048576: true; the input reads as it did. -/
def fnExactSquarePictureUptoRow : OpenClaim := { program := "ytbcgidgjdedkiaa", sum := "c9949a72c6f28743d65b104e459e5dd8f3c88b58474e1954e898c4a7c4282184", func := "loop.example/g01250/laws.FnExactSquarePicture", spec := "fnExactSquarePicture", inPlace := ["internal/abi.NoEscape"], unfollowed := true, recurses := true, plainKeys := false, apart := false, narrowed := true }
def FnExactSquarePictureUptoSaid : Prop := fnExactSquarePictureUptoRow.holds Try.pinned (OpenSpec.upto fnExactSquarePictureSpec)

/-- 'laws.FnExactDiamondPicture', WHERE WHAT IT READS IS OF BULK AT MOST 1048576: true; the input reads as it did. -/
def fnExactDiamondPictureUptoRow : OpenClaim := { program := "ytbcgidgjdedkiaa", sum := "c9949a72c6f28743d65b104e459e5dd8f3c88b58474e1954e898c4a7c4282184", func := "loop.example/g01250/laws.FnExactDiamondPicture", spec := "fnExactDiamondPicture", inPlace := ["internal/abi.NoEscape"], unfollowed := true, recurses := true, plainKeys := false, apart := false, narrowed := true }
def FnExactDiamondPictureUptoSaid : Prop := fnExactDiamondPictureUptoRow.holds Try.pinned (OpenSpec.upto fnExactDiamondPictureSpec)

/-- 'laws.FnExactHexagonPicture', WHERE WHAT IT READS IS OF BULK AT MOST 1048576: true; the input reads as it did. -/
def fnExactHexagonPictureUptoRow : OpenClaim := { program := "ytbcgidgjdedkiaa", sum := "c9949a72c6f28743d65b104e459e5dd8f3c88b58474e1954e898c4a7c4282184", func := "loop.example/g01250/laws.FnExactHexagonPicture", spec := "fnExactHexagonPicture", inPlace := ["internal/abi.NoEscape"], unfollowed := true, recurses := true, plainKeys := false, apart := false, narrowed := true }
def FnExactHexagonPictureUptoSaid : Prop := fnExactHexagonPictureUptoRow.holds Try.pinned (OpenSpec.upto fnExactHexagonPictureSpec)

/-- 'laws.FnExactGnomonPicture', WHERE WHAT IT READS IS OF BULK AT MOST 1048576: true; the input reads as it did. -/
def fnExactGnomonPictureUptoRow : OpenClaim := { program := "ytbcgidgjdedkiaa", sum := "c9949a72c6f28743d65b104e459e5dd8f3c88b58474e1954e898c4a7c4282184", func := "loop.example/g01250/laws.FnExactGnomonPicture", spec := "fnExactGnomonPicture", inPlace := ["internal/abi.NoEscape"], unfollowed := true, recurses := true, plainKeys := false, apart := false, narrowed := true }
def FnExactGnomonPictureUptoSaid : Prop := fnExactGnomonPictureUptoRow.holds Try.pinned (OpenSpec.upto fnExactGnomonPictureSpec)

end Rows
end Go.Proofs.Ytbcgidgjdedkiaa
