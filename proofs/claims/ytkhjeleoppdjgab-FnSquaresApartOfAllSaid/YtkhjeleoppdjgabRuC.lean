/- Chapter 5: two runs of one sum; the laws SumOfRun, CubeAsOdds, PowerAsOdds, SameSums. -/
import Derived.Test.YtkhjeleoppdjgabRuB
import Derived.BigRegion
namespace Go.Proofs.Ytkhjeleoppdjgab
open Go.ChangeShapes Go.WideShapes Go.ChangeAt Go.RowKit

/-- What SameSums asks of its length. -/
structure SameB (l : Int) : Prop where
  l1 : 1 ≤ l
  l2 : l ≤ 1000
  p0 : 0 ≤ l * l
  p1 : l * l ≤ 1000000
theorem same_b (l : Int) (h1 : 1 ≤ l) (h2 : l ≤ 1000) : SameB l := ⟨h1, h2, sq_nn l, sq_le l 1000 (by omega) h2⟩
theorem set_four {W : World} {R T : Nat} {u v x y : Value} (hRT : R ≠ T) (p q r s : Value) (c0 : W.cell? ⟨R, 0, none⟩ = some u) (c1 : W.cell? ⟨R, 1, none⟩ = some v) (d0 : W.cell? ⟨T, 0, none⟩ = some x) (d1 : W.cell? ⟨T, 1, none⟩ = some y) :
    ((((W.setCell ⟨R, 0, none⟩ p).setCell ⟨R, 1, none⟩ q).setCell ⟨T, 0, none⟩ r).setCell ⟨T, 1, none⟩ s).cell? ⟨R, 0, none⟩ = some p ∧
    ((((W.setCell ⟨R, 0, none⟩ p).setCell ⟨R, 1, none⟩ q).setCell ⟨T, 0, none⟩ r).setCell ⟨T, 1, none⟩ s).cell? ⟨R, 1, none⟩ = some q ∧
    ((((W.setCell ⟨R, 0, none⟩ p).setCell ⟨R, 1, none⟩ q).setCell ⟨T, 0, none⟩ r).setCell ⟨T, 1, none⟩ s).cell? ⟨T, 0, none⟩ = some r ∧
    ((((W.setCell ⟨R, 0, none⟩ p).setCell ⟨R, 1, none⟩ q).setCell ⟨T, 0, none⟩ r).setCell ⟨T, 1, none⟩ s).cell? ⟨T, 1, none⟩ = some s := by
  have ne : ∀ (V : World) (a b : Addr) (z : Value), (a.block ≠ b.block ∨ a.off ≠ b.off) → (V.setCell b z).cell? a = V.cell? a := fun V a b z h => World.cell?_setCell_other V _ _ _ (by intro e; subst e; simp at h)
  refine ⟨?_, ?_, ?_, ?_⟩
  · rw [ne _ _ _ _ (.inl hRT), ne _ _ _ _ (.inl hRT), ne _ _ _ _ (.inr (by simp))]
    exact World.cell?_setCell_same _ _ _ c0
  · rw [ne _ _ _ _ (.inl hRT), ne _ _ _ _ (.inl hRT)]
    exact World.cell?_setCell_same _ _ _ ((ne _ _ _ _ (.inr (by simp))).trans c1)
  · rw [ne _ _ _ _ (.inr (by simp))]
    exact World.cell?_setCell_same _ _ _ (((ne _ _ _ _ (.inl hRT.symm)).trans (ne _ _ _ _ (.inl hRT.symm))).trans d0)
  · exact World.cell?_setCell_same _ _ _ ((((ne _ _ _ _ (.inr (by simp))).trans (ne _ _ _ _ (.inl hRT.symm))).trans (ne _ _ _ _ (.inl hRT.symm))).trans d1)
end Go.Proofs.Ytkhjeleoppdjgab
