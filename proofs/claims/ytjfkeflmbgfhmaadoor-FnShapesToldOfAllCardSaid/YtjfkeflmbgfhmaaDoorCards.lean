/-
  DERIVED. GIVEN WITH THE SEED: THE CARDS: each row of YtjfkeflmbgfhmaaDoorRows.lean that lists a variable, with what it lists TIED to the program's text (the seventh form; the later family's looks); each row that meets fmt, with fmt's text TOLD by the authors' own Lean function (tested against real Go, not proved from fmt's source: count such statements apart). THE CARD IS WHAT COUNTS. Prove the row's statement (the work); the ties are given (YtjfkeflmbgfhmaaDoorTie.lean); close each card by the builder's one call (the guide's Derived/Test/ToyasCard.lean, 'card_holds'). Laid BY PROGRAM, IN A SANDBOX (cutbox-door.mjs). By AI agents, Wed Nov 11 2026. No macro, syntax, notation, axiom, sorry.
-/
import Derived.Test.YtjfkeflmbgfhmaaDoorRows
import GoSem.ClaimSeven
namespace Go.Proofs.YtjfkeflmbgfhmaaDoor
namespace Rows

/-- THE TIED CARD OF 'laws.FnShapesToldOfAll'. -/
def fnShapesToldOfAllCard : Claim7 := { stood := { row := fnShapesToldOfAllRow, standIns := [], harness := (true, "b1a58a750d435d35124d0368e8e676ac917562b6f2df3c293d3aa1bf7d2e2fd9"), looks := true }, kinds := [], alts := [], laidByText := true, laidKinds := [.data, .data, .data, .sentinel, .sentinel], laidTests := true, laidLooks := .later }
def FnShapesToldOfAllCardSaid : Prop := Claim7.holds Tryd.pinned (.plain (OpenSpec.ofChange fnShapesToldOfAllSpec)) fnShapesToldOfAllCard

/-- THE SECOND FORM's CARD OF 'laws.FnShapesToldOfAll'. -/
def fnShapesToldOfAllUptoCard : Claim7 := { stood := { row := fnShapesToldOfAllUptoRow, standIns := [], harness := (true, "b1a58a750d435d35124d0368e8e676ac917562b6f2df3c293d3aa1bf7d2e2fd9"), looks := true }, kinds := [], alts := [], laidByText := true, laidKinds := [.data, .data, .data, .sentinel, .sentinel], laidTests := true, laidLooks := .later }
def FnShapesToldOfAllUptoCardSaid : Prop := Claim7.holds Tryd.pinned (.plain (OpenSpec.upto fnShapesToldOfAllSpec)) fnShapesToldOfAllUptoCard
end Rows
end Go.Proofs.YtjfkeflmbgfhmaaDoor
