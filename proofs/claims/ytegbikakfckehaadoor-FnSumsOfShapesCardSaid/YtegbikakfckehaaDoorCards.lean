/-
  DERIVED. GIVEN WITH THE SEED: THE CARDS: each row of YtegbikakfckehaaDoorRows.lean that lists a variable, with what it lists TIED to the program's text (the seventh form; the later family's looks); each row that meets fmt, with fmt's text TOLD by the authors' own Lean function (tested against real Go, not proved from fmt's source: count such statements apart). THE CARD IS WHAT COUNTS. Prove the row's statement (the work); the ties are given (YtegbikakfckehaaDoorTie.lean); close each card by the builder's one call (the guide's Derived/Test/ToyasCard.lean, 'card_holds'). Laid BY PROGRAM, IN A SANDBOX (cutbox-door.mjs). By AI agents, Wed Nov 11 2026. No macro, syntax, notation, axiom, sorry.
-/
import Derived.Test.YtegbikakfckehaaDoorRows
import GoSem.ClaimSeven
namespace Go.Proofs.YtegbikakfckehaaDoor
namespace Rows

/-- THE TIED CARD OF 'laws.FnSumsOfShapes'. -/
def fnSumsOfShapesCard : Claim7 := { stood := { row := fnSumsOfShapesRow, standIns := [], harness := (true, "af6e09804a825d1f18f0c1040e61cccde65d8f2d4fa299454132f48be17d7f61"), looks := false }, kinds := [], alts := [], laidByText := true, laidKinds := [.data], laidTests := true, laidLooks := .later }
def FnSumsOfShapesCardSaid : Prop := Claim7.holds Tryd.pinned (.plain (OpenSpec.ofChange fnSumsOfShapesSpec)) fnSumsOfShapesCard

/-- THE TIED CARD OF 'laws.FnSumsOfShapesOfAll'. -/
def fnSumsOfShapesOfAllCard : Claim7 := { stood := { row := fnSumsOfShapesOfAllRow, standIns := [], harness := (true, "af6e09804a825d1f18f0c1040e61cccde65d8f2d4fa299454132f48be17d7f61"), looks := false }, kinds := [], alts := [], laidByText := true, laidKinds := [.data], laidTests := true, laidLooks := .later }
def FnSumsOfShapesOfAllCardSaid : Prop := Claim7.holds Tryd.pinned (.plain (OpenSpec.ofChange fnSumsOfShapesOfAllSpec)) fnSumsOfShapesOfAllCard

/-- THE SECOND FORM's CARD OF 'laws.FnSumsOfShapes'. -/
def fnSumsOfShapesUptoCard : Claim7 := { stood := { row := fnSumsOfShapesUptoRow, standIns := [], harness := (true, "af6e09804a825d1f18f0c1040e61cccde65d8f2d4fa299454132f48be17d7f61"), looks := false }, kinds := [], alts := [], laidByText := true, laidKinds := [.data], laidTests := true, laidLooks := .later }
def FnSumsOfShapesUptoCardSaid : Prop := Claim7.holds Tryd.pinned (.plain (OpenSpec.upto fnSumsOfShapesSpec)) fnSumsOfShapesUptoCard

/-- THE SECOND FORM's CARD OF 'laws.FnSumsOfShapesOfAll'. -/
def fnSumsOfShapesOfAllUptoCard : Claim7 := { stood := { row := fnSumsOfShapesOfAllUptoRow, standIns := [], harness := (true, "af6e09804a825d1f18f0c1040e61cccde65d8f2d4fa299454132f48be17d7f61"), looks := false }, kinds := [], alts := [], laidByText := true, laidKinds := [.data], laidTests := true, laidLooks := .later }
def FnSumsOfShapesOfAllUptoCardSaid : Prop := Claim7.holds Tryd.pinned (.plain (OpenSpec.upto fnSumsOfShapesOfAllSpec)) fnSumsOfShapesOfAllUptoCard
end Rows
end Go.Proofs.YtegbikakfckehaaDoor
