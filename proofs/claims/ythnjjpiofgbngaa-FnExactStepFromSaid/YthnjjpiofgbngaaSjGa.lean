/- Chapter 6: walks of the laws. -/
import Derived.Test.YthnjjpiofgbngaaSjC
import Derived.Test.YthnjjpiofgbngaaSiQ
namespace Go.Proofs.Ythnjjpiofgbngaa
open Go.ChangeShapes Go.WideShapes Go.ChangeAt Go.RowKit

theorem walk_SpotOf (n : Int) (w : World) : Calls Try.prog 3 #[.int .i64 n] w fun e w' => e = .returned (.bool true) ∧ Below w.heap.size w w' := by
  by_cases h : n < 0 ∨ 1000000 < n
  · exact lawS_SpotOf n false 0 0 (fun w => spec_SpotOf_no n w h) (fun w => impl_SpotOf_no n w h) w
  · exact lawS_SpotOf n true _ _ (fun w => spec_SpotOf_yes n w (by omega) (by omega)) (fun w => impl_SpotOf_yes n w (by omega) (by omega)) w
theorem walk_StepFrom (n : Int) (w : World) : Calls Try.prog 7 #[.int .i64 n] w fun e w' => e = .returned (.bool true) ∧ Below w.heap.size w w' := by
  by_cases h : n < 0 ∨ 1000000 < n
  · exact lawS_StepFrom n false 0 0 (fun w => spec_StepFrom_no n w h) (fun w => impl_StepFrom_no n w h) w
  · exact lawS_StepFrom n true _ _ (fun w => spec_StepFrom_yes n w (by omega) (by omega)) (fun w => impl_StepFrom_yes n w (by omega) (by omega)) w
theorem walk_RingOf (n : Int) (w : World) : Calls Try.prog 5 #[.int .i64 n] w fun e w' => e = .returned (.bool true) ∧ Below w.heap.size w w' := by
  by_cases h : n < 0 ∨ 1000000 < n
  · exact lawN_RingOf n false 0 (fun w => spec_RingOf_no n w h) (fun w => impl_RingOf_no n w h) w
  · exact lawN_RingOf n true _ (fun w => spec_RingOf_yes n w (by omega) (by omega)) (fun w => impl_RingOf_yes n w (by omega) (by omega)) w
theorem walk_RingNumbers (n : Int) (w : World) : Calls Try.prog 6 #[.int .i64 n] w fun e w' => e = .returned (.bool true) ∧ Below w.heap.size w w' := by
  by_cases h : n < 0 ∨ 499 < n
  · exact lawN_RingNumbers n false 0 0 (fun w => spec_RingNumbers_no n w h) (fun w => impl_RingNumbers_no n w h) w
  · exact lawN_RingNumbers n true _ _ (fun w => spec_RingNumbers_yes n w (by omega) (by omega)) (fun w => impl_RingNumbers_yes n w (by omega) (by omega)) w
end Go.Proofs.Ythnjjpiofgbngaa
