/-
  DERIVED. GIVEN WITH THE SEED: THE CARDS: each row of YtmcdmacpgjkelaaDoorRows.lean that lists a variable, with what it lists TIED to the program's text (the seventh form; the later family's looks); each row that meets fmt, with fmt's text TOLD by the authors' own Lean function (tested against real Go, not proved from fmt's source: count such statements apart). THE CARD IS WHAT COUNTS. Prove the row's statement (the work); the ties are given (YtmcdmacpgjkelaaDoorTie.lean); close each card by the builder's one call (the guide's Derived/Test/ToyasCard.lean, 'card_holds'). Laid BY PROGRAM, IN A SANDBOX (cutbox-door.mjs). By AI agents, Wed Nov 11 2026. No macro, syntax, notation, axiom, sorry.
-/
import Derived.Test.YtmcdmacpgjkelaaDoorRows
import GoSem.ClaimSeven
namespace Go.Proofs.YtmcdmacpgjkelaaDoor
namespace Rows

/-- THE TIED CARD OF 'laws.FnPicturesTurned'. -/
def fnPicturesTurnedCard : Claim7 := { stood := { row := fnPicturesTurnedRow, standIns := [], harness := (true, "7c464f019e64a39ea998e939a1cf6c8cf21bd7e5dff6df98c485198d6c1d84d2"), looks := false }, kinds := [], alts := [], laidByText := true, laidKinds := [.data, .pinned], laidTests := true, laidLooks := .later }
def FnPicturesTurnedCardSaid : Prop := Claim7.holds Tryd.pinned (.plain (OpenSpec.ofChange fnPicturesTurnedSpec)) fnPicturesTurnedCard

/-- THE TIED CARD OF 'laws.FnPicturesTurnedOfAll'. -/
def fnPicturesTurnedOfAllCard : Claim7 := { stood := { row := fnPicturesTurnedOfAllRow, standIns := [], harness := (true, "7c464f019e64a39ea998e939a1cf6c8cf21bd7e5dff6df98c485198d6c1d84d2"), looks := false }, kinds := [], alts := [], laidByText := true, laidKinds := [.data, .pinned], laidTests := true, laidLooks := .later }
def FnPicturesTurnedOfAllCardSaid : Prop := Claim7.holds Tryd.pinned (.plain (OpenSpec.ofChange fnPicturesTurnedOfAllSpec)) fnPicturesTurnedOfAllCard

/-- THE SECOND FORM's CARD OF 'laws.FnPicturesTurned'. -/
def fnPicturesTurnedUptoCard : Claim7 := { stood := { row := fnPicturesTurnedUptoRow, standIns := [], harness := (true, "7c464f019e64a39ea998e939a1cf6c8cf21bd7e5dff6df98c485198d6c1d84d2"), looks := false }, kinds := [], alts := [], laidByText := true, laidKinds := [.data, .pinned], laidTests := true, laidLooks := .later }
def FnPicturesTurnedUptoCardSaid : Prop := Claim7.holds Tryd.pinned (.plain (OpenSpec.upto fnPicturesTurnedSpec)) fnPicturesTurnedUptoCard

/-- THE SECOND FORM's CARD OF 'laws.FnPicturesTurnedOfAll'. -/
def fnPicturesTurnedOfAllUptoCard : Claim7 := { stood := { row := fnPicturesTurnedOfAllUptoRow, standIns := [], harness := (true, "7c464f019e64a39ea998e939a1cf6c8cf21bd7e5dff6df98c485198d6c1d84d2"), looks := false }, kinds := [], alts := [], laidByText := true, laidKinds := [.data, .pinned], laidTests := true, laidLooks := .later }
def FnPicturesTurnedOfAllUptoCardSaid : Prop := Claim7.holds Tryd.pinned (.plain (OpenSpec.upto fnPicturesTurnedOfAllSpec)) fnPicturesTurnedOfAllUptoCard
end Rows
end Go.Proofs.YtmcdmacpgjkelaaDoor
