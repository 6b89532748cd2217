/-
  DERIVED. GIVEN WITH THE SEED: THE CARDS: each row of YtaefmlngnfgkhaaDoorRows.lean that lists a variable, with what it lists TIED to the program's text (the seventh form; the later family's looks); each row that meets fmt, with fmt's text TOLD by the authors' own Lean function (tested against real Go, not proved from fmt's source: count such statements apart). THE CARD IS WHAT COUNTS. Prove the row's statement (the work); the ties are given (YtaefmlngnfgkhaaDoorTie.lean); close each card by the builder's one call (the guide's Derived/Test/ToyasCard.lean, 'card_holds'). Laid BY PROGRAM, IN A SANDBOX (cutbox-door.mjs). By AI agents, Wed Nov 11 2026. No macro, syntax, notation, axiom, sorry.
-/
import Derived.Test.YtaefmlngnfgkhaaDoorRows
import GoSem.ClaimSeven
namespace Go.Proofs.YtaefmlngnfgkhaaDoor
namespace Rows

/-- THE TIED CARD OF 'laws.FnExactFewestTetrahedra'. -/
def fnExactFewestTetrahedraCard : Claim7 := { stood := { row := fnExactFewestTetrahedraRow, standIns := [], harness := (true, "91df4ab433d51890f4583d6c9188f9e3a60249a515b951c8ea752fefd6da28aa"), looks := false }, kinds := [], alts := [], laidByText := true, laidKinds := [.data], laidTests := true, laidLooks := .later }
def FnExactFewestTetrahedraCardSaid : Prop := Claim7.holds Tryd.pinned (.plain (OpenSpec.ofChange fnExactFewestTetrahedraSpec)) fnExactFewestTetrahedraCard

/-- THE TIED CARD OF 'laws.FnExactFirstTetrahedra'. -/
def fnExactFirstTetrahedraCard : Claim7 := { stood := { row := fnExactFirstTetrahedraRow, standIns := [], harness := (true, "91df4ab433d51890f4583d6c9188f9e3a60249a515b951c8ea752fefd6da28aa"), looks := false }, kinds := [], alts := [], laidByText := true, laidKinds := [.data], laidTests := true, laidLooks := .later }
def FnExactFirstTetrahedraCardSaid : Prop := Claim7.holds Tryd.pinned (.plain (OpenSpec.ofChange fnExactFirstTetrahedraSpec)) fnExactFirstTetrahedraCard

/-- THE SECOND FORM's CARD OF 'laws.FnExactFewestTetrahedra'. -/
def fnExactFewestTetrahedraUptoCard : Claim7 := { stood := { row := fnExactFewestTetrahedraUptoRow, standIns := [], harness := (true, "91df4ab433d51890f4583d6c9188f9e3a60249a515b951c8ea752fefd6da28aa"), looks := false }, kinds := [], alts := [], laidByText := true, laidKinds := [.data], laidTests := true, laidLooks := .later }
def FnExactFewestTetrahedraUptoCardSaid : Prop := Claim7.holds Tryd.pinned (.plain (OpenSpec.upto fnExactFewestTetrahedraSpec)) fnExactFewestTetrahedraUptoCard

/-- THE SECOND FORM's CARD OF 'laws.FnExactFirstTetrahedra'. -/
def fnExactFirstTetrahedraUptoCard : Claim7 := { stood := { row := fnExactFirstTetrahedraUptoRow, standIns := [], harness := (true, "91df4ab433d51890f4583d6c9188f9e3a60249a515b951c8ea752fefd6da28aa"), looks := false }, kinds := [], alts := [], laidByText := true, laidKinds := [.data], laidTests := true, laidLooks := .later }
def FnExactFirstTetrahedraUptoCardSaid : Prop := Claim7.holds Tryd.pinned (.plain (OpenSpec.upto fnExactFirstTetrahedraSpec)) fnExactFirstTetrahedraUptoCard
end Rows
end Go.Proofs.YtaefmlngnfgkhaaDoor
