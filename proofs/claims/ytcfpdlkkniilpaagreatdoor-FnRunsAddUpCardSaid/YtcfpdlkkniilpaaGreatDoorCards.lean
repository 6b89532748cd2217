/-
  DERIVED. GIVEN WITH THE SEED: THE CARDS: each row of YtcfpdlkkniilpaaGreatDoorRows.lean that lists a variable, with what it lists TIED to the program's text (the seventh form; the later family's looks); each row that meets fmt, with fmt's text TOLD by the authors' own Lean function (tested against real Go, not proved from fmt's source: count such statements apart). THE CARD IS WHAT COUNTS. Prove the row's statement (the work); the ties are given (YtcfpdlkkniilpaaGreatDoorTie.lean); close each card by the builder's one call (the guide's Derived/Test/ToyasCard.lean, 'card_holds'). Laid BY PROGRAM, IN A SANDBOX (cutbox-door.mjs). By AI agents, Wed Nov 11 2026. No macro, syntax, notation, axiom, sorry.
-/
import Derived.Test.YtcfpdlkkniilpaaGreatDoorRows
import GoSem.ClaimSeven
namespace Go.Proofs.YtcfpdlkkniilpaaGreatDoor
namespace Rows

/-- THE TIED CARD OF 'laws.FnRunsAddUp'. -/
def fnRunsAddUpCard : Claim7 := { stood := { row := fnRunsAddUpRow, standIns := [], harness := (true, "9944e2dff20a6623b71889b17ac2cc0c267a04494481fb24b7d1f9e2b4d3dd94"), looks := false }, kinds := [], alts := [], laidByText := true, laidKinds := [.data, .data, .data], laidTests := true, laidLooks := .later }
def FnRunsAddUpCardSaid : Prop := Claim7.holds Tryz.pinned (.plain (OpenSpec.ofChange fnRunsAddUpSpec)) fnRunsAddUpCard

/-- THE SECOND FORM's CARD OF 'laws.FnRunsAddUp'. -/
def fnRunsAddUpUptoCard : Claim7 := { stood := { row := fnRunsAddUpUptoRow, standIns := [], harness := (true, "9944e2dff20a6623b71889b17ac2cc0c267a04494481fb24b7d1f9e2b4d3dd94"), looks := false }, kinds := [], alts := [], laidByText := true, laidKinds := [.data, .data, .data], laidTests := true, laidLooks := .later }
def FnRunsAddUpUptoCardSaid : Prop := Claim7.holds Tryz.pinned (.plain (OpenSpec.upto fnRunsAddUpSpec)) fnRunsAddUpUptoCard
end Rows
end Go.Proofs.YtcfpdlkkniilpaaGreatDoor
