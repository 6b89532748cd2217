/-
  DERIVED. GIVEN WITH THE SEED: THE CARDS: each row of YtbabkcjnfdpafaaGreatDoorRows.lean that lists a variable, with what it lists TIED to the program's text (the seventh form; the later family's looks); each row that meets fmt, with fmt's text TOLD by the authors' own Lean function (tested against real Go, not proved from fmt's source: count such statements apart). THE CARD IS WHAT COUNTS. Prove the row's statement (the work); the ties are given (YtbabkcjnfdpafaaGreatDoorTie.lean); close each card by the builder's one call (the guide's Derived/Test/ToyasCard.lean, 'card_holds'). Laid BY PROGRAM, IN A SANDBOX (cutbox-door.mjs). By AI agents, Wed Nov 11 2026. No macro, syntax, notation, axiom, sorry.
-/
import Derived.Test.YtbabkcjnfdpafaaGreatDoorRows
import GoSem.ClaimSeven
namespace Go.Proofs.YtbabkcjnfdpafaaGreatDoor
namespace Rows

/-- THE TIED CARD OF 'laws.FnPicturesDrawn'. -/
def fnPicturesDrawnCard : Claim7 := { stood := { row := fnPicturesDrawnRow, standIns := [], harness := (true, "de4ee64a604439501ada545a028ac37c98b3808c7ac427d782335199e7f89173"), looks := true }, kinds := [], alts := [], laidByText := true, laidKinds := [.data, .pinned], laidTests := true, laidLooks := .later }
def FnPicturesDrawnCardSaid : Prop := Claim7.holds Tryz.pinned (.plain (OpenSpec.ofChange fnPicturesDrawnSpec)) fnPicturesDrawnCard

/-- THE TIED CARD OF 'laws.FnPicturesDrawnOfAll'. -/
def fnPicturesDrawnOfAllCard : Claim7 := { stood := { row := fnPicturesDrawnOfAllRow, standIns := [], harness := (true, "de4ee64a604439501ada545a028ac37c98b3808c7ac427d782335199e7f89173"), looks := true }, kinds := [], alts := [], laidByText := true, laidKinds := [.data, .pinned], laidTests := true, laidLooks := .later }
def FnPicturesDrawnOfAllCardSaid : Prop := Claim7.holds Tryz.pinned (.plain (OpenSpec.ofChange fnPicturesDrawnOfAllSpec)) fnPicturesDrawnOfAllCard

/-- THE SECOND FORM's CARD OF 'laws.FnPicturesDrawn'. -/
def fnPicturesDrawnUptoCard : Claim7 := { stood := { row := fnPicturesDrawnUptoRow, standIns := [], harness := (true, "de4ee64a604439501ada545a028ac37c98b3808c7ac427d782335199e7f89173"), looks := true }, kinds := [], alts := [], laidByText := true, laidKinds := [.data, .pinned], laidTests := true, laidLooks := .later }
def FnPicturesDrawnUptoCardSaid : Prop := Claim7.holds Tryz.pinned (.plain (OpenSpec.upto fnPicturesDrawnSpec)) fnPicturesDrawnUptoCard

/-- THE SECOND FORM's CARD OF 'laws.FnPicturesDrawnOfAll'. -/
def fnPicturesDrawnOfAllUptoCard : Claim7 := { stood := { row := fnPicturesDrawnOfAllUptoRow, standIns := [], harness := (true, "de4ee64a604439501ada545a028ac37c98b3808c7ac427d782335199e7f89173"), looks := true }, kinds := [], alts := [], laidByText := true, laidKinds := [.data, .pinned], laidTests := true, laidLooks := .later }
def FnPicturesDrawnOfAllUptoCardSaid : Prop := Claim7.holds Tryz.pinned (.plain (OpenSpec.upto fnPicturesDrawnOfAllSpec)) fnPicturesDrawnOfAllUptoCard
end Rows
end Go.Proofs.YtbabkcjnfdpafaaGreatDoor
