/-
  DERIVED. GIVEN WITH THE SEED: THE CARDS: each row of YtkjibcnddknbjaaDoorRows.lean that lists a variable, with what it lists TIED to the program's text (the seventh form; the later family's looks); each row that meets fmt, with fmt's text TOLD by the authors' own Lean function (tested against real Go, not proved from fmt's source: count such statements apart). THE CARD IS WHAT COUNTS. Prove the row's statement (the work); the ties are given (YtkjibcnddknbjaaDoorTie.lean); close each card by the builder's one call (the guide's Derived/Test/ToyasCard.lean, 'card_holds'). Laid BY PROGRAM, IN A SANDBOX (cutbox-door.mjs). By AI agents, Wed Nov 11 2026. No macro, syntax, notation, axiom, sorry.
-/
import Derived.Test.YtkjibcnddknbjaaDoorRows
import GoSem.ClaimSeven
namespace Go.Proofs.YtkjibcnddknbjaaDoor
namespace Rows

/-- THE TIED CARD OF 'laws.FnExactLeastPicture'. -/
def fnExactLeastPictureCard : Claim7 := { stood := { row := fnExactLeastPictureRow, standIns := [], harness := (true, "d8700aad8436b8590a9e812250a0c28b63290c0acf17f386c65d12a9dfe9a878"), looks := false }, kinds := [], alts := [], laidByText := true, laidKinds := [.data, .pinned], laidTests := true, laidLooks := .later }
def FnExactLeastPictureCardSaid : Prop := Claim7.holds Tryd.pinned (.plain (OpenSpec.ofChange fnExactLeastPictureSpec)) fnExactLeastPictureCard

/-- THE SECOND FORM's CARD OF 'laws.FnExactLeastPicture'. -/
def fnExactLeastPictureUptoCard : Claim7 := { stood := { row := fnExactLeastPictureUptoRow, standIns := [], harness := (true, "d8700aad8436b8590a9e812250a0c28b63290c0acf17f386c65d12a9dfe9a878"), looks := false }, kinds := [], alts := [], laidByText := true, laidKinds := [.data, .pinned], laidTests := true, laidLooks := .later }
def FnExactLeastPictureUptoCardSaid : Prop := Claim7.holds Tryd.pinned (.plain (OpenSpec.upto fnExactLeastPictureSpec)) fnExactLeastPictureUptoCard
end Rows
end Go.Proofs.YtkjibcnddknbjaaDoor
