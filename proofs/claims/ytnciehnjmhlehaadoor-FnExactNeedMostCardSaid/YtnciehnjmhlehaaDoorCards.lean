/-
  DERIVED. GIVEN WITH THE SEED: THE CARDS: each row of YtnciehnjmhlehaaDoorRows.lean that lists a variable, with what it lists TIED to the program's text (the seventh form; the later family's looks); each row that meets fmt, with fmt's text TOLD by the authors' own Lean function (tested against real Go, not proved from fmt's source: count such statements apart). THE CARD IS WHAT COUNTS. Prove the row's statement (the work); the ties are given (YtnciehnjmhlehaaDoorTie.lean); close each card by the builder's one call (the guide's Derived/Test/ToyasCard.lean, 'card_holds'). Laid BY PROGRAM, IN A SANDBOX (cutbox-door.mjs). By AI agents, Wed Nov 11 2026. No macro, syntax, notation, axiom, sorry.
-/
import Derived.Test.YtnciehnjmhlehaaDoorRows
import GoSem.ClaimSeven
namespace Go.Proofs.YtnciehnjmhlehaaDoor
namespace Rows

/-- THE TIED CARD OF 'laws.FnExactFewestParts'. -/
def fnExactFewestPartsCard : Claim7 := { stood := { row := fnExactFewestPartsRow, standIns := [], harness := (true, "0a715d52a159503096b8e01ee534a18705f4096801486769f04b963dbb5851a4"), looks := false }, kinds := [], alts := [], laidByText := true, laidKinds := [.data], laidTests := true, laidLooks := .later }
def FnExactFewestPartsCardSaid : Prop := Claim7.holds Tryd.pinned (.plain (OpenSpec.ofChange fnExactFewestPartsSpec)) fnExactFewestPartsCard

/-- THE TIED CARD OF 'laws.FnExactFirstFewest'. -/
def fnExactFirstFewestCard : Claim7 := { stood := { row := fnExactFirstFewestRow, standIns := [], harness := (true, "0a715d52a159503096b8e01ee534a18705f4096801486769f04b963dbb5851a4"), looks := false }, kinds := [], alts := [], laidByText := true, laidKinds := [.data], laidTests := true, laidLooks := .later }
def FnExactFirstFewestCardSaid : Prop := Claim7.holds Tryd.pinned (.plain (OpenSpec.ofChange fnExactFirstFewestSpec)) fnExactFirstFewestCard

/-- THE TIED CARD OF 'laws.FnExactAsManyAsSides'. -/
def fnExactAsManyAsSidesCard : Claim7 := { stood := { row := fnExactAsManyAsSidesRow, standIns := [], harness := (true, "0a715d52a159503096b8e01ee534a18705f4096801486769f04b963dbb5851a4"), looks := false }, kinds := [], alts := [], laidByText := true, laidKinds := [.data], laidTests := true, laidLooks := .later }
def FnExactAsManyAsSidesCardSaid : Prop := Claim7.holds Tryd.pinned (.plain (OpenSpec.ofChange fnExactAsManyAsSidesSpec)) fnExactAsManyAsSidesCard

/-- THE TIED CARD OF 'laws.FnExactThreeTriangles'. -/
def fnExactThreeTrianglesCard : Claim7 := { stood := { row := fnExactThreeTrianglesRow, standIns := [], harness := (true, "0a715d52a159503096b8e01ee534a18705f4096801486769f04b963dbb5851a4"), looks := false }, kinds := [], alts := [], laidByText := true, laidKinds := [.data], laidTests := true, laidLooks := .later }
def FnExactThreeTrianglesCardSaid : Prop := Claim7.holds Tryd.pinned (.plain (OpenSpec.ofChange fnExactThreeTrianglesSpec)) fnExactThreeTrianglesCard

/-- THE TIED CARD OF 'laws.FnExactNeedMost'. -/
def fnExactNeedMostCard : Claim7 := { stood := { row := fnExactNeedMostRow, standIns := [], harness := (true, "0a715d52a159503096b8e01ee534a18705f4096801486769f04b963dbb5851a4"), looks := false }, kinds := [], alts := [], laidByText := true, laidKinds := [.data], laidTests := true, laidLooks := .later }
def FnExactNeedMostCardSaid : Prop := Claim7.holds Tryd.pinned (.plain (OpenSpec.ofChange fnExactNeedMostSpec)) fnExactNeedMostCard

/-- THE TIED CARD OF 'laws.FnExactGreatestNeed'. -/
def fnExactGreatestNeedCard : Claim7 := { stood := { row := fnExactGreatestNeedRow, standIns := [], harness := (true, "0a715d52a159503096b8e01ee534a18705f4096801486769f04b963dbb5851a4"), looks := false }, kinds := [], alts := [], laidByText := true, laidKinds := [.data], laidTests := true, laidLooks := .later }
def FnExactGreatestNeedCardSaid : Prop := Claim7.holds Tryd.pinned (.plain (OpenSpec.ofChange fnExactGreatestNeedSpec)) fnExactGreatestNeedCard

/-- THE SECOND FORM's CARD OF 'laws.FnExactFewestParts'. -/
def fnExactFewestPartsUptoCard : Claim7 := { stood := { row := fnExactFewestPartsUptoRow, standIns := [], harness := (true, "0a715d52a159503096b8e01ee534a18705f4096801486769f04b963dbb5851a4"), looks := false }, kinds := [], alts := [], laidByText := true, laidKinds := [.data], laidTests := true, laidLooks := .later }
def FnExactFewestPartsUptoCardSaid : Prop := Claim7.holds Tryd.pinned (.plain (OpenSpec.upto fnExactFewestPartsSpec)) fnExactFewestPartsUptoCard

/-- THE SECOND FORM's CARD OF 'laws.FnExactFirstFewest'. -/
def fnExactFirstFewestUptoCard : Claim7 := { stood := { row := fnExactFirstFewestUptoRow, standIns := [], harness := (true, "0a715d52a159503096b8e01ee534a18705f4096801486769f04b963dbb5851a4"), looks := false }, kinds := [], alts := [], laidByText := true, laidKinds := [.data], laidTests := true, laidLooks := .later }
def FnExactFirstFewestUptoCardSaid : Prop := Claim7.holds Tryd.pinned (.plain (OpenSpec.upto fnExactFirstFewestSpec)) fnExactFirstFewestUptoCard

/-- THE SECOND FORM's CARD OF 'laws.FnExactAsManyAsSides'. -/
def fnExactAsManyAsSidesUptoCard : Claim7 := { stood := { row := fnExactAsManyAsSidesUptoRow, standIns := [], harness := (true, "0a715d52a159503096b8e01ee534a18705f4096801486769f04b963dbb5851a4"), looks := false }, kinds := [], alts := [], laidByText := true, laidKinds := [.data], laidTests := true, laidLooks := .later }
def FnExactAsManyAsSidesUptoCardSaid : Prop := Claim7.holds Tryd.pinned (.plain (OpenSpec.upto fnExactAsManyAsSidesSpec)) fnExactAsManyAsSidesUptoCard

/-- THE SECOND FORM's CARD OF 'laws.FnExactThreeTriangles'. -/
def fnExactThreeTrianglesUptoCard : Claim7 := { stood := { row := fnExactThreeTrianglesUptoRow, standIns := [], harness := (true, "0a715d52a159503096b8e01ee534a18705f4096801486769f04b963dbb5851a4"), looks := false }, kinds := [], alts := [], laidByText := true, laidKinds := [.data], laidTests := true, laidLooks := .later }
def FnExactThreeTrianglesUptoCardSaid : Prop := Claim7.holds Tryd.pinned (.plain (OpenSpec.upto fnExactThreeTrianglesSpec)) fnExactThreeTrianglesUptoCard

/-- THE SECOND FORM's CARD OF 'laws.FnExactNeedMost'. -/
def fnExactNeedMostUptoCard : Claim7 := { stood := { row := fnExactNeedMostUptoRow, standIns := [], harness := (true, "0a715d52a159503096b8e01ee534a18705f4096801486769f04b963dbb5851a4"), looks := false }, kinds := [], alts := [], laidByText := true, laidKinds := [.data], laidTests := true, laidLooks := .later }
def FnExactNeedMostUptoCardSaid : Prop := Claim7.holds Tryd.pinned (.plain (OpenSpec.upto fnExactNeedMostSpec)) fnExactNeedMostUptoCard

/-- THE SECOND FORM's CARD OF 'laws.FnExactGreatestNeed'. -/
def fnExactGreatestNeedUptoCard : Claim7 := { stood := { row := fnExactGreatestNeedUptoRow, standIns := [], harness := (true, "0a715d52a159503096b8e01ee534a18705f4096801486769f04b963dbb5851a4"), looks := false }, kinds := [], alts := [], laidByText := true, laidKinds := [.data], laidTests := true, laidLooks := .later }
def FnExactGreatestNeedUptoCardSaid : Prop := Claim7.holds Tryd.pinned (.plain (OpenSpec.upto fnExactGreatestNeedSpec)) fnExactGreatestNeedUptoCard
end Rows
end Go.Proofs.YtnciehnjmhlehaaDoor
