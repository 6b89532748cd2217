/-
  DERIVED. GIVEN WITH THE SEED: THE CARDS: each row of YtbcgidgjdedkiaaDoorRows.lean that lists a variable, with what it lists TIED to the program's text (the seventh form; the later family's looks); each row that meets fmt, with fmt's text TOLD by the authors' own Lean function (tested against real Go, not proved from fmt's source: count such statements apart). THE CARD IS WHAT COUNTS. Prove the row's statement (the work); the ties are given (YtbcgidgjdedkiaaDoorTie.lean); close each card by the builder's one call (the guide's Derived/Test/ToyasCard.lean, 'card_holds'). Laid BY PROGRAM, IN A SANDBOX (cutbox-door.mjs). By AI agents, Wed Nov 11 2026. No macro, syntax, notation, axiom, sorry.
-/
import Derived.Test.YtbcgidgjdedkiaaDoorRows
import GoSem.ClaimSeven
namespace Go.Proofs.YtbcgidgjdedkiaaDoor
namespace Rows

/-- THE TIED CARD OF 'laws.FnExactIsPicture'. -/
def fnExactIsPictureCard : Claim7 := { stood := { row := fnExactIsPictureRow, standIns := [], harness := (true, "efde7db524eaca9b3b518fb0833c026877d0903e1c5e9cb361a5e57d56dde46e"), looks := true }, kinds := [], alts := [], laidByText := true, laidKinds := [.data, .pinned], laidTests := true, laidLooks := .later }
def FnExactIsPictureCardSaid : Prop := Claim7.holds Tryd.pinned (.plain (OpenSpec.ofChange fnExactIsPictureSpec)) fnExactIsPictureCard

/-- THE TIED CARD OF 'laws.FnExactCountDots'. -/
def fnExactCountDotsCard : Claim7 := { stood := { row := fnExactCountDotsRow, standIns := [], harness := (true, "efde7db524eaca9b3b518fb0833c026877d0903e1c5e9cb361a5e57d56dde46e"), looks := true }, kinds := [], alts := [], laidByText := true, laidKinds := [.data, .pinned], laidTests := true, laidLooks := .later }
def FnExactCountDotsCardSaid : Prop := Claim7.holds Tryd.pinned (.plain (OpenSpec.ofChange fnExactCountDotsSpec)) fnExactCountDotsCard

/-- THE TIED CARD OF 'laws.FnExactSizeOfPicture'. -/
def fnExactSizeOfPictureCard : Claim7 := { stood := { row := fnExactSizeOfPictureRow, standIns := [], harness := (true, "efde7db524eaca9b3b518fb0833c026877d0903e1c5e9cb361a5e57d56dde46e"), looks := true }, kinds := [], alts := [], laidByText := true, laidKinds := [.data, .pinned], laidTests := true, laidLooks := .later }
def FnExactSizeOfPictureCardSaid : Prop := Claim7.holds Tryd.pinned (.plain (OpenSpec.ofChange fnExactSizeOfPictureSpec)) fnExactSizeOfPictureCard

/-- THE TIED CARD OF 'laws.FnExactTurnPicture'. -/
def fnExactTurnPictureCard : Claim7 := { stood := { row := fnExactTurnPictureRow, standIns := [], harness := (true, "efde7db524eaca9b3b518fb0833c026877d0903e1c5e9cb361a5e57d56dde46e"), looks := true }, kinds := [], alts := [], laidByText := true, laidKinds := [.data, .pinned], laidTests := true, laidLooks := .later }
def FnExactTurnPictureCardSaid : Prop := Claim7.holds Tryd.pinned (.plain (OpenSpec.ofChange fnExactTurnPictureSpec)) fnExactTurnPictureCard

/-- THE TIED CARD OF 'laws.FnExactMirrorPicture'. -/
def fnExactMirrorPictureCard : Claim7 := { stood := { row := fnExactMirrorPictureRow, standIns := [], harness := (true, "efde7db524eaca9b3b518fb0833c026877d0903e1c5e9cb361a5e57d56dde46e"), looks := true }, kinds := [], alts := [], laidByText := true, laidKinds := [.data, .pinned], laidTests := true, laidLooks := .later }
def FnExactMirrorPictureCardSaid : Prop := Claim7.holds Tryd.pinned (.plain (OpenSpec.ofChange fnExactMirrorPictureSpec)) fnExactMirrorPictureCard

/-- THE TIED CARD OF 'laws.FnExactBesidePicture'. -/
def fnExactBesidePictureCard : Claim7 := { stood := { row := fnExactBesidePictureRow, standIns := [], harness := (true, "efde7db524eaca9b3b518fb0833c026877d0903e1c5e9cb361a5e57d56dde46e"), looks := true }, kinds := [], alts := [], laidByText := true, laidKinds := [.data, .pinned], laidTests := true, laidLooks := .later }
def FnExactBesidePictureCardSaid : Prop := Claim7.holds Tryd.pinned (.plain (OpenSpec.ofChange fnExactBesidePictureSpec)) fnExactBesidePictureCard

/-- THE TIED CARD OF 'laws.FnExactBelowPicture'. -/
def fnExactBelowPictureCard : Claim7 := { stood := { row := fnExactBelowPictureRow, standIns := [], harness := (true, "efde7db524eaca9b3b518fb0833c026877d0903e1c5e9cb361a5e57d56dde46e"), looks := true }, kinds := [], alts := [], laidByText := true, laidKinds := [.data, .pinned], laidTests := true, laidLooks := .later }
def FnExactBelowPictureCardSaid : Prop := Claim7.holds Tryd.pinned (.plain (OpenSpec.ofChange fnExactBelowPictureSpec)) fnExactBelowPictureCard

/-- THE TIED CARD OF 'laws.FnExactOtherDots'. -/
def fnExactOtherDotsCard : Claim7 := { stood := { row := fnExactOtherDotsRow, standIns := [], harness := (true, "efde7db524eaca9b3b518fb0833c026877d0903e1c5e9cb361a5e57d56dde46e"), looks := true }, kinds := [], alts := [], laidByText := true, laidKinds := [.data, .pinned], laidTests := true, laidLooks := .later }
def FnExactOtherDotsCardSaid : Prop := Claim7.holds Tryd.pinned (.plain (OpenSpec.ofChange fnExactOtherDotsSpec)) fnExactOtherDotsCard

/-- THE TIED CARD OF 'laws.FnExactPiecesOfPicture'. -/
def fnExactPiecesOfPictureCard : Claim7 := { stood := { row := fnExactPiecesOfPictureRow, standIns := [], harness := (true, "efde7db524eaca9b3b518fb0833c026877d0903e1c5e9cb361a5e57d56dde46e"), looks := true }, kinds := [], alts := [], laidByText := true, laidKinds := [.data, .pinned], laidTests := true, laidLooks := .later }
def FnExactPiecesOfPictureCardSaid : Prop := Claim7.holds Tryd.pinned (.plain (OpenSpec.ofChange fnExactPiecesOfPictureSpec)) fnExactPiecesOfPictureCard

/-- THE TIED CARD OF 'laws.FnExactBorderDots'. -/
def fnExactBorderDotsCard : Claim7 := { stood := { row := fnExactBorderDotsRow, standIns := [], harness := (true, "efde7db524eaca9b3b518fb0833c026877d0903e1c5e9cb361a5e57d56dde46e"), looks := true }, kinds := [], alts := [], laidByText := true, laidKinds := [.data, .pinned], laidTests := true, laidLooks := .later }
def FnExactBorderDotsCardSaid : Prop := Claim7.holds Tryd.pinned (.plain (OpenSpec.ofChange fnExactBorderDotsSpec)) fnExactBorderDotsCard

/-- THE TIED CARD OF 'laws.FnExactTakeBorder'. -/
def fnExactTakeBorderCard : Claim7 := { stood := { row := fnExactTakeBorderRow, standIns := [], harness := (true, "efde7db524eaca9b3b518fb0833c026877d0903e1c5e9cb361a5e57d56dde46e"), looks := true }, kinds := [], alts := [], laidByText := true, laidKinds := [.data, .pinned], laidTests := true, laidLooks := .later }
def FnExactTakeBorderCardSaid : Prop := Claim7.holds Tryd.pinned (.plain (OpenSpec.ofChange fnExactTakeBorderSpec)) fnExactTakeBorderCard

/-- THE TIED CARD OF 'laws.FnExactLayersOfPicture'. -/
def fnExactLayersOfPictureCard : Claim7 := { stood := { row := fnExactLayersOfPictureRow, standIns := [], harness := (true, "efde7db524eaca9b3b518fb0833c026877d0903e1c5e9cb361a5e57d56dde46e"), looks := true }, kinds := [], alts := [], laidByText := true, laidKinds := [.data, .pinned], laidTests := true, laidLooks := .later }
def FnExactLayersOfPictureCardSaid : Prop := Claim7.holds Tryd.pinned (.plain (OpenSpec.ofChange fnExactLayersOfPictureSpec)) fnExactLayersOfPictureCard

/-- THE SECOND FORM's CARD OF 'laws.FnExactIsPicture'. -/
def fnExactIsPictureUptoCard : Claim7 := { stood := { row := fnExactIsPictureUptoRow, standIns := [], harness := (true, "efde7db524eaca9b3b518fb0833c026877d0903e1c5e9cb361a5e57d56dde46e"), looks := true }, kinds := [], alts := [], laidByText := true, laidKinds := [.data, .pinned], laidTests := true, laidLooks := .later }
def FnExactIsPictureUptoCardSaid : Prop := Claim7.holds Tryd.pinned (.plain (OpenSpec.upto fnExactIsPictureSpec)) fnExactIsPictureUptoCard

/-- THE SECOND FORM's CARD OF 'laws.FnExactCountDots'. -/
def fnExactCountDotsUptoCard : Claim7 := { stood := { row := fnExactCountDotsUptoRow, standIns := [], harness := (true, "efde7db524eaca9b3b518fb0833c026877d0903e1c5e9cb361a5e57d56dde46e"), looks := true }, kinds := [], alts := [], laidByText := true, laidKinds := [.data, .pinned], laidTests := true, laidLooks := .later }
def FnExactCountDotsUptoCardSaid : Prop := Claim7.holds Tryd.pinned (.plain (OpenSpec.upto fnExactCountDotsSpec)) fnExactCountDotsUptoCard

/-- THE SECOND FORM's CARD OF 'laws.FnExactSizeOfPicture'. -/
def fnExactSizeOfPictureUptoCard : Claim7 := { stood := { row := fnExactSizeOfPictureUptoRow, standIns := [], harness := (true, "efde7db524eaca9b3b518fb0833c026877d0903e1c5e9cb361a5e57d56dde46e"), looks := true }, kinds := [], alts := [], laidByText := true, laidKinds := [.data, .pinned], laidTests := true, laidLooks := .later }
def FnExactSizeOfPictureUptoCardSaid : Prop := Claim7.holds Tryd.pinned (.plain (OpenSpec.upto fnExactSizeOfPictureSpec)) fnExactSizeOfPictureUptoCard

/-- THE SECOND FORM's CARD OF 'laws.FnExactTurnPicture'. -/
def fnExactTurnPictureUptoCard : Claim7 := { stood := { row := fnExactTurnPictureUptoRow, standIns := [], harness := (true, "efde7db524eaca9b3b518fb0833c026877d0903e1c5e9cb361a5e57d56dde46e"), looks := true }, kinds := [], alts := [], laidByText := true, laidKinds := [.data, .pinned], laidTests := true, laidLooks := .later }
def FnExactTurnPictureUptoCardSaid : Prop := Claim7.holds Tryd.pinned (.plain (OpenSpec.upto fnExactTurnPictureSpec)) fnExactTurnPictureUptoCard

/-- THE SECOND FORM's CARD OF 'laws.FnExactMirrorPicture'. -/
def fnExactMirrorPictureUptoCard : Claim7 := { stood := { row := fnExactMirrorPictureUptoRow, standIns := [], harness := (true, "efde7db524eaca9b3b518fb0833c026877d0903e1c5e9cb361a5e57d56dde46e"), looks := true }, kinds := [], alts := [], laidByText := true, laidKinds := [.data, .pinned], laidTests := true, laidLooks := .later }
def FnExactMirrorPictureUptoCardSaid : Prop := Claim7.holds Tryd.pinned (.plain (OpenSpec.upto fnExactMirrorPictureSpec)) fnExactMirrorPictureUptoCard

/-- THE SECOND FORM's CARD OF 'laws.FnExactBesidePicture'. -/
def fnExactBesidePictureUptoCard : Claim7 := { stood := { row := fnExactBesidePictureUptoRow, standIns := [], harness := (true, "efde7db524eaca9b3b518fb0833c026877d0903e1c5e9cb361a5e57d56dde46e"), looks := true }, kinds := [], alts := [], laidByText := true, laidKinds := [.data, .pinned], laidTests := true, laidLooks := .later }
def FnExactBesidePictureUptoCardSaid : Prop := Claim7.holds Tryd.pinned (.plain (OpenSpec.upto fnExactBesidePictureSpec)) fnExactBesidePictureUptoCard

/-- THE SECOND FORM's CARD OF 'laws.FnExactBelowPicture'. -/
def fnExactBelowPictureUptoCard : Claim7 := { stood := { row := fnExactBelowPictureUptoRow, standIns := [], harness := (true, "efde7db524eaca9b3b518fb0833c026877d0903e1c5e9cb361a5e57d56dde46e"), looks := true }, kinds := [], alts := [], laidByText := true, laidKinds := [.data, .pinned], laidTests := true, laidLooks := .later }
def FnExactBelowPictureUptoCardSaid : Prop := Claim7.holds Tryd.pinned (.plain (OpenSpec.upto fnExactBelowPictureSpec)) fnExactBelowPictureUptoCard

/-- THE SECOND FORM's CARD OF 'laws.FnExactOtherDots'. -/
def fnExactOtherDotsUptoCard : Claim7 := { stood := { row := fnExactOtherDotsUptoRow, standIns := [], harness := (true, "efde7db524eaca9b3b518fb0833c026877d0903e1c5e9cb361a5e57d56dde46e"), looks := true }, kinds := [], alts := [], laidByText := true, laidKinds := [.data, .pinned], laidTests := true, laidLooks := .later }
def FnExactOtherDotsUptoCardSaid : Prop := Claim7.holds Tryd.pinned (.plain (OpenSpec.upto fnExactOtherDotsSpec)) fnExactOtherDotsUptoCard

/-- THE SECOND FORM's CARD OF 'laws.FnExactPiecesOfPicture'. -/
def fnExactPiecesOfPictureUptoCard : Claim7 := { stood := { row := fnExactPiecesOfPictureUptoRow, standIns := [], harness := (true, "efde7db524eaca9b3b518fb0833c026877d0903e1c5e9cb361a5e57d56dde46e"), looks := true }, kinds := [], alts := [], laidByText := true, laidKinds := [.data, .pinned], laidTests := true, laidLooks := .later }
def FnExactPiecesOfPictureUptoCardSaid : Prop := Claim7.holds Tryd.pinned (.plain (OpenSpec.upto fnExactPiecesOfPictureSpec)) fnExactPiecesOfPictureUptoCard

/-- THE SECOND FORM's CARD OF 'laws.FnExactBorderDots'. -/
def fnExactBorderDotsUptoCard : Claim7 := { stood := { row := fnExactBorderDotsUptoRow, standIns := [], harness := (true, "efde7db524eaca9b3b518fb0833c026877d0903e1c5e9cb361a5e57d56dde46e"), looks := true }, kinds := [], alts := [], laidByText := true, laidKinds := [.data, .pinned], laidTests := true, laidLooks := .later }
def FnExactBorderDotsUptoCardSaid : Prop := Claim7.holds Tryd.pinned (.plain (OpenSpec.upto fnExactBorderDotsSpec)) fnExactBorderDotsUptoCard

/-- THE SECOND FORM's CARD OF 'laws.FnExactTakeBorder'. -/
def fnExactTakeBorderUptoCard : Claim7 := { stood := { row := fnExactTakeBorderUptoRow, standIns := [], harness := (true, "efde7db524eaca9b3b518fb0833c026877d0903e1c5e9cb361a5e57d56dde46e"), looks := true }, kinds := [], alts := [], laidByText := true, laidKinds := [.data, .pinned], laidTests := true, laidLooks := .later }
def FnExactTakeBorderUptoCardSaid : Prop := Claim7.holds Tryd.pinned (.plain (OpenSpec.upto fnExactTakeBorderSpec)) fnExactTakeBorderUptoCard

/-- THE SECOND FORM's CARD OF 'laws.FnExactLayersOfPicture'. -/
def fnExactLayersOfPictureUptoCard : Claim7 := { stood := { row := fnExactLayersOfPictureUptoRow, standIns := [], harness := (true, "efde7db524eaca9b3b518fb0833c026877d0903e1c5e9cb361a5e57d56dde46e"), looks := true }, kinds := [], alts := [], laidByText := true, laidKinds := [.data, .pinned], laidTests := true, laidLooks := .later }
def FnExactLayersOfPictureUptoCardSaid : Prop := Claim7.holds Tryd.pinned (.plain (OpenSpec.upto fnExactLayersOfPictureSpec)) fnExactLayersOfPictureUptoCard
end Rows
end Go.Proofs.YtbcgidgjdedkiaaDoor
