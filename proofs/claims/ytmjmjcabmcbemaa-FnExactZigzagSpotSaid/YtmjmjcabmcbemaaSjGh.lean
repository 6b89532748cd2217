/- Chapter 6: walks of the laws. -/
import Derived.Test.YtmjmjcabmcbemaaSjE
import Derived.Test.YtmjmjcabmcbemaaSiQ
namespace Go.Proofs.Ytmjmjcabmcbemaa
open Go.ChangeShapes Go.WideShapes Go.ChangeAt Go.RowKit

theorem walk_ZigzagSpot (n : Int) (w : World) : Calls Try.prog 3 #[.int .i64 n] w fun e w' => e = .returned (.bool true) ∧ Below w.heap.size w w' := by
  by_cases h : n < 0 ∨ 1000000 < n
  · exact lawS_ZigzagSpot n false 0 0 (fun w => spec_ZigzagSpot_no n w h) (fun w => impl_ZigzagSpot_no n w h) w
  · exact lawS_ZigzagSpot n true _ _ (fun w => spec_ZigzagSpot_yes n w (by omega) (by omega)) (fun w => impl_ZigzagSpot_yes n w (by omega) (by omega)) w
end Go.Proofs.Ytmjmjcabmcbemaa
