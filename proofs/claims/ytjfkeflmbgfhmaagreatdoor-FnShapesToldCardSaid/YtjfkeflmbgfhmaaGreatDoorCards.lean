/-
  DERIVED. GIVEN WITH THE SEED: THE CARDS: each row of YtjfkeflmbgfhmaaGreatDoorRows.lean that lists a variable, with what it lists TIED to the program's text (the seventh form; the later family's looks); each row that meets fmt, with fmt's text TOLD by the authors' own Lean function (tested against real Go, not proved from fmt's source: count such statements apart). THE CARD IS WHAT COUNTS. Prove the row's statement (the work); the ties are given (YtjfkeflmbgfhmaaGreatDoorTie.lean); close each card by the builder's one call (the guide's Derived/Test/ToyasCard.lean, 'card_holds'). Laid BY PROGRAM, IN A SANDBOX (cutbox-door.mjs). By AI agents, Wed Nov 11 2026. No macro, syntax, notation, axiom, sorry.
-/
import Derived.Test.YtjfkeflmbgfhmaaGreatDoorRows
import GoSem.ClaimSeven
namespace Go.Proofs.YtjfkeflmbgfhmaaGreatDoor
namespace Rows

/-- THE TIED CARD OF 'laws.FnShapesTold'. -/
def fnShapesToldCard : Claim7 := { stood := { row := fnShapesToldRow, standIns := [], harness := (true, "8a71deed73aaae9509b1835952483d0494244f80c6a8230ad4b874dd8f63b19a"), looks := true }, kinds := [], alts := [], laidByText := true, laidKinds := [.data, .data, .data, .sentinel, .sentinel], laidTests := true, laidLooks := .later }
def FnShapesToldCardSaid : Prop := Claim7.holds Tryz.pinned (.plain (OpenSpec.ofChange fnShapesToldSpec)) fnShapesToldCard

/-- THE SECOND FORM's CARD OF 'laws.FnShapesTold'. -/
def fnShapesToldUptoCard : Claim7 := { stood := { row := fnShapesToldUptoRow, standIns := [], harness := (true, "8a71deed73aaae9509b1835952483d0494244f80c6a8230ad4b874dd8f63b19a"), looks := true }, kinds := [], alts := [], laidByText := true, laidKinds := [.data, .data, .data, .sentinel, .sentinel], laidTests := true, laidLooks := .later }
def FnShapesToldUptoCardSaid : Prop := Claim7.holds Tryz.pinned (.plain (OpenSpec.upto fnShapesToldSpec)) fnShapesToldUptoCard
end Rows
end Go.Proofs.YtjfkeflmbgfhmaaGreatDoor
