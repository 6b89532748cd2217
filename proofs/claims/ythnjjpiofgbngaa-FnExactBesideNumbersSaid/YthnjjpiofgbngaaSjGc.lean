/- Chapter 6: walks of the laws. -/
import Derived.Test.YthnjjpiofgbngaaSjCb
import Derived.Test.YthnjjpiofgbngaaSiQ
namespace Go.Proofs.Ythnjjpiofgbngaa
open Go.ChangeShapes Go.WideShapes Go.ChangeAt Go.RowKit

theorem walk_BesideNumbers (n : Int) (w : World) : Calls Try.prog 8 #[.int .i64 n] w fun e w' => e = .returned (.bool true) ∧ Below w.heap.size w w' := by
  by_cases h : n < 0 ∨ 1000000 < n
  · exact lawI_BesideNumbers n false [] (by simp) (fun w => spec_BesideNumbers_no n w h) (fun w => impl_BesideNumbers_no n w h) w
  · exact lawI_BesideNumbers n true (bes (sp n).1 (sp n).2) (by simp [bes]) (fun w => spec_BesideNumbers_yes n w (by omega) (by omega)) (fun w => impl_BesideNumbers_yes n w (by omega) (by omega)) w
end Go.Proofs.Ythnjjpiofgbngaa
