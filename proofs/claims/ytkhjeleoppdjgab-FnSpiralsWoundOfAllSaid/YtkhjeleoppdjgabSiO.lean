/- Chapter 6: the specification's sides: HexSpotOf, HexNumberAt, HexDistance, HexBeside. -/
import Derived.Test.YtkhjeleoppdjgabSiL
import Derived.OwnWalk
namespace Go.Proofs.Ytkhjeleoppdjgab
open Go.ChangeShapes Go.WideShapes Go.ChangeAt Go.RowKit

theorem hp_600 (n : Int) (h0 : 0 ≤ n) (h1 : n ≤ 1003000) : -600 ≤ (hp n).1 ∧ (hp n).1 ≤ 600 ∧ -600 ≤ (hp n).2 ∧ (hp n).2 ≤ 600 := by
  have := hp_bds n h0
  have := hx_le n h0 h1
  omega
/-- Whether there is a spot of the hexagon spiral. -/
def isHexSpot (x y : Int) : Bool := isSpot x y && betr (x + y) (-400) 400
theorem isHexSpot_bds {x y : Int} (h : isHexSpot x y = true) : -400 ≤ x ∧ x ≤ 400 ∧ -400 ≤ y ∧ y ≤ 400 ∧ hsz x y ≤ 600 ∧ isSpot x y = true ∧ betr (x + y) (-400) 400 = true := by
  have g : isSpot x y = true ∧ betr (x + y) (-400) 400 = true := by simpa [isHexSpot] using h
  have g1 := g.1
  have g2 := g.2
  simp [isSpot, betr] at g1 g2
  refine ⟨by omega, by omega, by omega, by omega, ?_, g.1, g.2⟩
  unfold hsz ab
  omega
/-- The fewest steps between two numbers. -/
noncomputable def hdst (a b : Int) : Int := hsz ((hp a).1 - (hp b).1) ((hp a).2 - (hp b).2)
end Go.Proofs.Ytkhjeleoppdjgab
