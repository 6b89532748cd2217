/- Chapter 6: walks of the laws. -/
import Derived.Test.YthnjjpiofgbngaaSjD
import Derived.Test.YthnjjpiofgbngaaSiQ
namespace Go.Proofs.Ythnjjpiofgbngaa
open Go.ChangeShapes Go.WideShapes Go.ChangeAt Go.RowKit

theorem walk_NumberAt (x y : Int) (w : World) : Calls Try.prog 4 #[.agg #[.int .i64 x, .int .i64 y]] w fun e w' => e = .returned (.bool true) ∧ Below w.heap.size w w' := by
  cases h : isSpot x y with
  | false => exact lawN_NumberAt x y false 0 (fun w => spec_NumberAt_no x y w h) (fun w => impl_NumberAt_no x y w h) w
  | true => exact lawN_NumberAt x y true _ (fun w => spec_NumberAt_yes x y w h) (fun w => impl_NumberAt_yes x y w h) w
theorem walk_DistanceOf (a b : Int) (w : World) : Calls Try.prog 9 #[.int .i64 a, .int .i64 b] w fun e w' => e = .returned (.bool true) ∧ Below w.heap.size w w' := by
  by_cases h : (a < 0 ∨ 1000000 < a) ∨ (b < 0 ∨ 1000000 < b)
  · exact lawN_DistanceOf a b false 0 (fun w => spec_DistanceOf_no a b w h) (fun w => impl_DistanceOf_no a b w h) w
  · exact lawN_DistanceOf a b true _ (fun w => spec_DistanceOf_yes a b w (by omega) (by omega) (by omega) (by omega)) (fun w => impl_DistanceOf_yes a b w (by omega) (by omega) (by omega) (by omega)) w
end Go.Proofs.Ythnjjpiofgbngaa
