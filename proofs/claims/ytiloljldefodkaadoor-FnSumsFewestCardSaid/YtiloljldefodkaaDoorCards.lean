/-
  DERIVED. GIVEN WITH THE SEED: THE CARDS: each row of YtiloljldefodkaaDoorRows.lean that lists a variable, with what it lists TIED to the program's text (the seventh form; the later family's looks); each row that meets fmt, with fmt's text TOLD by the authors' own Lean function (tested against real Go, not proved from fmt's source: count such statements apart). THE CARD IS WHAT COUNTS. Prove the row's statement (the work); the ties are given (YtiloljldefodkaaDoorTie.lean); close each card by the builder's one call (the guide's Derived/Test/ToyasCard.lean, 'card_holds'). Laid BY PROGRAM, IN A SANDBOX (cutbox-door.mjs). By AI agents, Wed Nov 11 2026. No macro, syntax, notation, axiom, sorry.
-/
import Derived.Test.YtiloljldefodkaaDoorRows
import GoSem.ClaimSeven
namespace Go.Proofs.YtiloljldefodkaaDoor
namespace Rows

/-- THE TIED CARD OF 'laws.FnSumsFewest'. -/
def fnSumsFewestCard : Claim7 := { stood := { row := fnSumsFewestRow, standIns := [], harness := (true, "c430ab02a5293d525bbce444b17cc8919db0b6a8903f15d16d3d3b69038d1096"), looks := false }, kinds := [], alts := [], laidByText := true, laidKinds := [.data], laidTests := true, laidLooks := .later }
def FnSumsFewestCardSaid : Prop := Claim7.holds Tryd.pinned (.plain (OpenSpec.ofChange fnSumsFewestSpec)) fnSumsFewestCard

/-- THE TIED CARD OF 'laws.FnSumsFewestOfAll'. -/
def fnSumsFewestOfAllCard : Claim7 := { stood := { row := fnSumsFewestOfAllRow, standIns := [], harness := (true, "c430ab02a5293d525bbce444b17cc8919db0b6a8903f15d16d3d3b69038d1096"), looks := false }, kinds := [], alts := [], laidByText := true, laidKinds := [.data], laidTests := true, laidLooks := .later }
def FnSumsFewestOfAllCardSaid : Prop := Claim7.holds Tryd.pinned (.plain (OpenSpec.ofChange fnSumsFewestOfAllSpec)) fnSumsFewestOfAllCard

/-- THE SECOND FORM's CARD OF 'laws.FnSumsFewest'. -/
def fnSumsFewestUptoCard : Claim7 := { stood := { row := fnSumsFewestUptoRow, standIns := [], harness := (true, "c430ab02a5293d525bbce444b17cc8919db0b6a8903f15d16d3d3b69038d1096"), looks := false }, kinds := [], alts := [], laidByText := true, laidKinds := [.data], laidTests := true, laidLooks := .later }
def FnSumsFewestUptoCardSaid : Prop := Claim7.holds Tryd.pinned (.plain (OpenSpec.upto fnSumsFewestSpec)) fnSumsFewestUptoCard

/-- THE SECOND FORM's CARD OF 'laws.FnSumsFewestOfAll'. -/
def fnSumsFewestOfAllUptoCard : Claim7 := { stood := { row := fnSumsFewestOfAllUptoRow, standIns := [], harness := (true, "c430ab02a5293d525bbce444b17cc8919db0b6a8903f15d16d3d3b69038d1096"), looks := false }, kinds := [], alts := [], laidByText := true, laidKinds := [.data], laidTests := true, laidLooks := .later }
def FnSumsFewestOfAllUptoCardSaid : Prop := Claim7.holds Tryd.pinned (.plain (OpenSpec.upto fnSumsFewestOfAllSpec)) fnSumsFewestOfAllUptoCard
end Rows
end Go.Proofs.YtiloljldefodkaaDoor
