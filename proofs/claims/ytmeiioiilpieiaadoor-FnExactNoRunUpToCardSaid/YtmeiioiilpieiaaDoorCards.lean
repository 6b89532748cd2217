/-
  DERIVED. GIVEN WITH THE SEED: THE CARDS: each row of YtmeiioiilpieiaaDoorRows.lean that lists a variable, with what it lists TIED to the program's text (the seventh form; the later family's looks); each row that meets fmt, with fmt's text TOLD by the authors' own Lean function (tested against real Go, not proved from fmt's source: count such statements apart). THE CARD IS WHAT COUNTS. Prove the row's statement (the work); the ties are given (YtmeiioiilpieiaaDoorTie.lean); close each card by the builder's one call (the guide's Derived/Test/ToyasCard.lean, 'card_holds'). Laid BY PROGRAM, IN A SANDBOX (cutbox-door.mjs). By AI agents, Wed Nov 11 2026. No macro, syntax, notation, axiom, sorry.
-/
import Derived.Test.YtmeiioiilpieiaaDoorRows
import GoSem.ClaimSeven
namespace Go.Proofs.YtmeiioiilpieiaaDoor
namespace Rows

/-- THE TIED CARD OF 'laws.FnExactNoRunUpTo'. -/
def fnExactNoRunUpToCard : Claim7 := { stood := { row := fnExactNoRunUpToRow, standIns := [], harness := (true, "dc5e0500609e67d59f480467a3d43630d0a1e3f16f7f6d75fdc580698b629cb4"), looks := false }, kinds := [], alts := [], laidByText := true, laidKinds := [.data, .data, .data], laidTests := true, laidLooks := .later }
def FnExactNoRunUpToCardSaid : Prop := Claim7.holds Tryd.pinned (.plain (OpenSpec.ofChange fnExactNoRunUpToSpec)) fnExactNoRunUpToCard

/-- THE SECOND FORM's CARD OF 'laws.FnExactNoRunUpTo'. -/
def fnExactNoRunUpToUptoCard : Claim7 := { stood := { row := fnExactNoRunUpToUptoRow, standIns := [], harness := (true, "dc5e0500609e67d59f480467a3d43630d0a1e3f16f7f6d75fdc580698b629cb4"), looks := false }, kinds := [], alts := [], laidByText := true, laidKinds := [.data, .data, .data], laidTests := true, laidLooks := .later }
def FnExactNoRunUpToUptoCardSaid : Prop := Claim7.holds Tryd.pinned (.plain (OpenSpec.upto fnExactNoRunUpToSpec)) fnExactNoRunUpToUptoCard
end Rows
end Go.Proofs.YtmeiioiilpieiaaDoor
