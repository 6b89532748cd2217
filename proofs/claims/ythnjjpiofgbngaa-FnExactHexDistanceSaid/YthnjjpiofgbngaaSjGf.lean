/- Chapter 6: walks of the laws. -/
import Derived.Test.YthnjjpiofgbngaaSjCh
import Derived.Test.YthnjjpiofgbngaaSjDh
import Derived.Test.YthnjjpiofgbngaaSiQ
namespace Go.Proofs.Ythnjjpiofgbngaa
open Go.ChangeShapes Go.WideShapes Go.ChangeAt Go.RowKit

theorem walk_HexSpotOf (n : Int) (w : World) : Calls Try.prog 12 #[.int .i64 n] w fun e w' => e = .returned (.bool true) ∧ Below w.heap.size w w' := by
  by_cases h : n < 0 ∨ 1000000 < n
  · exact lawS_HexSpotOf n false 0 0 (fun w => spec_HexSpotOf_no n w h) (fun w => impl_HexSpotOf_no n w h) w
  · exact lawS_HexSpotOf n true _ _ (fun w => spec_HexSpotOf_yes n w (by omega) (by omega)) (fun w => impl_HexSpotOf_yes n w (by omega) (by omega)) w
theorem walk_HexRingOf (n : Int) (w : World) : Calls Try.prog 14 #[.int .i64 n] w fun e w' => e = .returned (.bool true) ∧ Below w.heap.size w w' := by
  by_cases h : n < 0 ∨ 1000000 < n
  · exact lawN_HexRingOf n false 0 (fun w => spec_HexRingOf_no n w h) (fun w => impl_HexRingOf_no n w h) w
  · exact lawN_HexRingOf n true _ (fun w => spec_HexRingOf_yes n w (by omega) (by omega)) (fun w => impl_HexRingOf_yes n w (by omega) (by omega)) w
theorem walk_HexNumberAt (x y : Int) (w : World) : Calls Try.prog 13 #[.agg #[.int .i64 x, .int .i64 y]] w fun e w' => e = .returned (.bool true) ∧ Below w.heap.size w w' := by
  cases h : isHexSpot x y with
  | false => exact lawN_HexNumberAt x y false 0 (fun w => spec_HexNumberAt_no x y w h) (fun w => impl_HexNumberAt_no x y w h) w
  | true => exact lawN_HexNumberAt x y true _ (fun w => spec_HexNumberAt_yes x y w h) (fun w => impl_HexNumberAt_yes x y w h) w
theorem walk_HexDistance (a b : Int) (w : World) : Calls Try.prog 16 #[.int .i64 a, .int .i64 b] w fun e w' => e = .returned (.bool true) ∧ Below w.heap.size w w' := by
  by_cases h : (a < 0 ∨ 1000000 < a) ∨ (b < 0 ∨ 1000000 < b)
  · exact lawN_HexDistance a b false 0 (fun w => spec_HexDistance_no a b w h) (fun w => impl_HexDistance_no a b w h) w
  · exact lawN_HexDistance a b true _ (fun w => spec_HexDistance_yes a b w (by omega) (by omega) (by omega) (by omega)) (fun w => impl_HexDistance_yes a b w (by omega) (by omega) (by omega) (by omega)) w
end Go.Proofs.Ythnjjpiofgbngaa
