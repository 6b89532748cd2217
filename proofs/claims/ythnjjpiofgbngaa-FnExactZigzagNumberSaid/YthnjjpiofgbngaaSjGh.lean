/- Chapter 6: walks of the laws. -/
import Derived.Test.YthnjjpiofgbngaaSjE
import Derived.Test.YthnjjpiofgbngaaSiQ
namespace Go.Proofs.Ythnjjpiofgbngaa
open Go.ChangeShapes Go.WideShapes Go.ChangeAt Go.RowKit

theorem walk_TriangleSpot (n : Int) (w : World) : Calls Try.prog 17 #[.int .i64 n] w fun e w' => e = .returned (.bool true) ∧ Below w.heap.size w w' := by
  by_cases h : n < 0 ∨ 1000000 < n
  · exact lawS_TriangleSpot n false 0 0 (fun w => spec_TriangleSpot_no n w h) (fun w => impl_TriangleSpot_no n w h) w
  · exact lawS_TriangleSpot n true _ _ (fun w => spec_TriangleSpot_yes n w (by omega) (by omega)) (fun w => impl_TriangleSpot_yes n w (by omega) (by omega)) w
theorem walk_TriangleNumber (x y : Int) (w : World) : Calls Try.prog 18 #[.agg #[.int .i64 x, .int .i64 y]] w fun e w' => e = .returned (.bool true) ∧ Below w.heap.size w w' := by
  cases h : triOk x y with
  | false => exact lawN_TriangleNumber x y false 0 (fun w => spec_TriangleNumber_no x y w h) (fun w => impl_TriangleNumber_no x y w h) w
  | true => exact lawN_TriangleNumber x y true _ (fun w => spec_TriangleNumber_yes x y w h) (fun w => impl_TriangleNumber_yes x y w h) w
theorem walk_ZigzagNumber (x y : Int) (w : World) : Calls Try.prog 19 #[.agg #[.int .i64 x, .int .i64 y]] w fun e w' => e = .returned (.bool true) ∧ Below w.heap.size w w' := by
  cases h : zzOk x y with
  | false => exact lawN_ZigzagNumber x y false 0 (fun w => spec_ZigzagNumber_no x y w h) (fun w => impl_ZigzagNumber_no x y w h) w
  | true => exact lawN_ZigzagNumber x y true _ (fun w => spec_ZigzagNumber_yes x y w h) (fun w => impl_ZigzagNumber_yes x y w h) w
end Go.Proofs.Ythnjjpiofgbngaa
