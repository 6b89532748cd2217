/-
  DERIVED. GIVEN WITH THE SEED: THE CARDS: each row of YtejjgpmdnnogbaaDoorRows.lean that lists a variable, with what it lists TIED to the program's text (the seventh form; the later family's looks); each row that meets fmt, with fmt's text TOLD by the authors' own Lean function (tested against real Go, not proved from fmt's source: count such statements apart). THE CARD IS WHAT COUNTS. Prove the row's statement (the work); the ties are given (YtejjgpmdnnogbaaDoorTie.lean); close each card by the builder's one call (the guide's Derived/Test/ToyasCard.lean, 'card_holds'). Laid BY PROGRAM, IN A SANDBOX (cutbox-door.mjs). By AI agents, Wed Nov 11 2026. No macro, syntax, notation, axiom, sorry.
-/
import Derived.Test.YtejjgpmdnnogbaaDoorRows
import GoSem.ClaimSeven
namespace Go.Proofs.YtejjgpmdnnogbaaDoor
namespace Rows

/-- THE TIED CARD OF 'laws.FnTetrahedraSplit'. -/
def fnTetrahedraSplitCard : Claim7 := { stood := { row := fnTetrahedraSplitRow, standIns := [], harness := (true, "9179676c9b2ffd6be2a72192b8e46d507652ff3f421b3ca09d681ca1c1faf1ee"), looks := false }, kinds := [], alts := [], laidByText := true, laidKinds := [.data], laidTests := true, laidLooks := .later }
def FnTetrahedraSplitCardSaid : Prop := Claim7.holds Tryd.pinned (.plain (OpenSpec.ofChange fnTetrahedraSplitSpec)) fnTetrahedraSplitCard

/-- THE TIED CARD OF 'laws.FnTetrahedraSplitOfAll'. -/
def fnTetrahedraSplitOfAllCard : Claim7 := { stood := { row := fnTetrahedraSplitOfAllRow, standIns := [], harness := (true, "9179676c9b2ffd6be2a72192b8e46d507652ff3f421b3ca09d681ca1c1faf1ee"), looks := false }, kinds := [], alts := [], laidByText := true, laidKinds := [.data], laidTests := true, laidLooks := .later }
def FnTetrahedraSplitOfAllCardSaid : Prop := Claim7.holds Tryd.pinned (.plain (OpenSpec.ofChange fnTetrahedraSplitOfAllSpec)) fnTetrahedraSplitOfAllCard

/-- THE SECOND FORM's CARD OF 'laws.FnTetrahedraSplit'. -/
def fnTetrahedraSplitUptoCard : Claim7 := { stood := { row := fnTetrahedraSplitUptoRow, standIns := [], harness := (true, "9179676c9b2ffd6be2a72192b8e46d507652ff3f421b3ca09d681ca1c1faf1ee"), looks := false }, kinds := [], alts := [], laidByText := true, laidKinds := [.data], laidTests := true, laidLooks := .later }
def FnTetrahedraSplitUptoCardSaid : Prop := Claim7.holds Tryd.pinned (.plain (OpenSpec.upto fnTetrahedraSplitSpec)) fnTetrahedraSplitUptoCard

/-- THE SECOND FORM's CARD OF 'laws.FnTetrahedraSplitOfAll'. -/
def fnTetrahedraSplitOfAllUptoCard : Claim7 := { stood := { row := fnTetrahedraSplitOfAllUptoRow, standIns := [], harness := (true, "9179676c9b2ffd6be2a72192b8e46d507652ff3f421b3ca09d681ca1c1faf1ee"), looks := false }, kinds := [], alts := [], laidByText := true, laidKinds := [.data], laidTests := true, laidLooks := .later }
def FnTetrahedraSplitOfAllUptoCardSaid : Prop := Claim7.holds Tryd.pinned (.plain (OpenSpec.upto fnTetrahedraSplitOfAllSpec)) fnTetrahedraSplitOfAllUptoCard
end Rows
end Go.Proofs.YtejjgpmdnnogbaaDoor
