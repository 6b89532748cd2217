/- Chapter 4: pairs and rules of arithmetic: what the program hands back, and the laws. -/
import Derived.Test.YtljleceepghfjaaDoorSdB
import Derived.Test.YtljleceepghfjaaDoorImC
import Derived.BigQuiet
namespace Go.Proofs.YtljleceepghfjaaDoor
open Go.ChangeShapes Go.WideShapes Go.ChangeAt Go.RowKit

theorem tx_odd (k : Nat) : tx k % 2 = 1 := by
  induction k with
  | zero => decide
  | succ k ih => rw [tx_succ]; omega
theorem ty_par (k : Nat) : ty (2 * k) % 2 = 0 ∧ ty (2 * k + 1) % 2 = 1 := by
  induction k with
  | zero => decide
  | succ k ih =>
    have h1 := tx_odd (2 * k + 1)
    have h2 := tx_odd (2 * k + 1 + 1)
    have e : 2 * (k + 1) = 2 * k + 1 + 1 := by omega
    rw [e, ty_succ (2 * k + 1 + 1), ty_succ (2 * k + 1)]
    omega
/-- Two cells of a box that are written. -/
theorem set_two {W : World} {R : Nat} {u v : Value} (p q : Value) (c0 : W.cell? ⟨R, 0, none⟩ = some u) (c1 : W.cell? ⟨R, 1, none⟩ = some v) :
    ((W.setCell ⟨R, 0, none⟩ p).setCell ⟨R, 1, none⟩ q).cell? ⟨R, 0, none⟩ = some p ∧ ((W.setCell ⟨R, 0, none⟩ p).setCell ⟨R, 1, none⟩ q).cell? ⟨R, 1, none⟩ = some q := by
  refine ⟨?_, ?_⟩
  · rw [World.cell?_setCell_other _ _ _ _ (by intro e; simp only [Addr.mk.injEq] at e; omega)]
    exact World.cell?_setCell_same W _ _ c0
  · exact World.cell?_setCell_same _ _ _ ((World.cell?_setCell_other W _ _ _ (by intro e; simp only [Addr.mk.injEq] at e; omega)).trans c1)
theorem set_two_far {W : World} {R Q : Nat} (o : Nat) (p q : Value) (h : Q ≠ R) : ((W.setCell ⟨R, 0, none⟩ p).setCell ⟨R, 1, none⟩ q).cell? ⟨Q, o, none⟩ = W.cell? ⟨Q, o, none⟩ := by
  rw [World.cell?_setCell_other _ _ _ _ (by intro e; simp only [Addr.mk.injEq] at e; omega), World.cell?_setCell_other _ _ _ _ (by intro e; simp only [Addr.mk.injEq] at e; omega)]
end Go.Proofs.YtljleceepghfjaaDoor
