/-
  DERIVED. GIVEN WITH THE SEED: THE CARDS: each row of YtcfpdlkkniilpaaDoorRows.lean that lists a variable, with what it lists TIED to the program's text (the seventh form; the later family's looks); each row that meets fmt, with fmt's text TOLD by the authors' own Lean function (tested against real Go, not proved from fmt's source: count such statements apart). THE CARD IS WHAT COUNTS. Prove the row's statement (the work); the ties are given (YtcfpdlkkniilpaaDoorTie.lean); close each card by the builder's one call (the guide's Derived/Test/ToyasCard.lean, 'card_holds'). Laid BY PROGRAM, IN A SANDBOX (cutbox-door.mjs). By AI agents, Wed Nov 11 2026. No macro, syntax, notation, axiom, sorry.
-/
import Derived.Test.YtcfpdlkkniilpaaDoorRows
import GoSem.ClaimSeven
namespace Go.Proofs.YtcfpdlkkniilpaaDoor
namespace Rows

/-- THE TIED CARD OF 'laws.FnRunsAddUpOfAll'. -/
def fnRunsAddUpOfAllCard : Claim7 := { stood := { row := fnRunsAddUpOfAllRow, standIns := [], harness := (true, "8b29a5d9999e2504dd0f775094dfd7d8841af86bc6dcfc47b4119bf6a53883b1"), looks := false }, kinds := [], alts := [], laidByText := true, laidKinds := [.data, .data, .data], laidTests := true, laidLooks := .later }
def FnRunsAddUpOfAllCardSaid : Prop := Claim7.holds Tryd.pinned (.plain (OpenSpec.ofChange fnRunsAddUpOfAllSpec)) fnRunsAddUpOfAllCard

/-- THE SECOND FORM's CARD OF 'laws.FnRunsAddUpOfAll'. -/
def fnRunsAddUpOfAllUptoCard : Claim7 := { stood := { row := fnRunsAddUpOfAllUptoRow, standIns := [], harness := (true, "8b29a5d9999e2504dd0f775094dfd7d8841af86bc6dcfc47b4119bf6a53883b1"), looks := false }, kinds := [], alts := [], laidByText := true, laidKinds := [.data, .data, .data], laidTests := true, laidLooks := .later }
def FnRunsAddUpOfAllUptoCardSaid : Prop := Claim7.holds Tryd.pinned (.plain (OpenSpec.upto fnRunsAddUpOfAllSpec)) fnRunsAddUpOfAllUptoCard
end Rows
end Go.Proofs.YtcfpdlkkniilpaaDoor
