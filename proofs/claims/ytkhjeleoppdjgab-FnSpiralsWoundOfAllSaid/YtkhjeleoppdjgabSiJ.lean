/- Chapter 6: the specification's numbers in the triangle and in the zigzag. -/
import Derived.Test.YtkhjeleoppdjgabSiI
namespace Go.Proofs.Ytkhjeleoppdjgab
open Go.ChangeShapes Go.WideShapes Go.ChangeAt Go.RowKit

theorem num3_b (k : Int) (h0 : 0 ≤ k) (h1 : k ≤ 800) : 0 ≤ num 3 k ∧ num 3 k ≤ 400000 := by
  have a := num_nn 3 k (by omega)
  have t := num_twice 3 k
  have s := sq_le k 800 (by omega) h1
  have e : (3 - 2) * k * k - (3 - 4) * k = k * k + k := by grind
  omega
def triOk (x y : Int) : Bool := betr y 0 400 && betr x 0 y
theorem triOk_bds {x y : Int} (h : triOk x y = true) : 0 ≤ y ∧ y ≤ 400 ∧ 0 ≤ x ∧ x ≤ y := by
  simp [triOk, betr] at h
  omega
def zzOk (x y : Int) : Bool := betr x 0 400 && betr y 0 400
theorem zzOk_bds {x y : Int} (h : zzOk x y = true) : 0 ≤ x ∧ x ≤ 400 ∧ 0 ≤ y ∧ y ≤ 400 := by
  simp [zzOk, betr] at h
  omega
end Go.Proofs.Ytkhjeleoppdjgab
