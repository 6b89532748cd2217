/- Chapter 5: odd runs whose sums are powers, two runs of one sum, and the laws SumOfRun, CubeAsOdds, PowerAsOdds, SameSums. -/
import Derived.Test.YtcfpdlkkniilpaaGreatDoorRuA
namespace Go.Proofs.YtcfpdlkkniilpaaGreatDoor
open Go.ChangeShapes Go.WideShapes Go.ChangeAt Go.RowKit

theorem pw_le (k B : Int) (h1 : 1 ≤ k) (h2 : k ≤ B) (j : Nat) : 1 ≤ k ^ j ∧ k ^ j ≤ B ^ j := by
  induction j with
  | zero => simp
  | succ j ih =>
    rw [Int.pow_succ, Int.pow_succ]
    have a := Int.mul_le_mul ih.2 h2 (by omega) (by omega)
    have b := Int.mul_le_mul ih.1 h1 (by omega) (by omega)
    omega
/-- The powers up to the exponent E are not too great. -/
def PwB (k : Int) (E : Nat) : Prop := ∀ j, j ≤ E → 1 ≤ k ^ j ∧ k ^ j ≤ 10000000000
theorem pwB_cube (k : Int) (h1 : 1 ≤ k) (h2 : k ≤ 1000) : PwB k 2 := fun j hj => by
  have h := pw_le k 1000 h1 h2 j
  refine ⟨h.1, Int.le_trans h.2 ?_⟩
  match j, hj with
  | 0, _ => decide
  | 1, _ => decide
  | 2, _ => decide
theorem pwB_power (k : Int) (E : Nat) (h1 : 1 ≤ k) (h2 : k ≤ 100) (h3 : E ≤ 5) : PwB k E := fun j hj => by
  have h := pw_le k 100 h1 h2 j
  refine ⟨h.1, Int.le_trans h.2 ?_⟩
  have hj5 : j ≤ 5 := by omega
  clear hj h
  match j, hj5 with
  | 0, _ => decide
  | 1, _ => decide
  | 2, _ => decide
  | 3, _ => decide
  | 4, _ => decide
  | 5, _ => decide

end Go.Proofs.YtcfpdlkkniilpaaGreatDoor
