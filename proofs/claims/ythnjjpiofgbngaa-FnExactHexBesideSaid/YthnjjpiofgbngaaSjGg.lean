/- Chapter 6: walks of the laws. -/
import Derived.Test.YthnjjpiofgbngaaSjCx
import Derived.Test.YthnjjpiofgbngaaSiQ
namespace Go.Proofs.Ythnjjpiofgbngaa
open Go.ChangeShapes Go.WideShapes Go.ChangeAt Go.RowKit

theorem walk_HexBeside (n : Int) (w : World) : Calls Try.prog 15 #[.int .i64 n] w fun e w' => e = .returned (.bool true) ∧ Below w.heap.size w w' := by
  by_cases h : n < 0 ∨ 1000000 < n
  · exact lawI_HexBeside n false [] (by simp) (fun w => spec_HexBeside_no n w h) (fun w => impl_HexBeside_no n w h) w
  · exact lawI_HexBeside n true (hbe (hp n).1 (hp n).2 6) (by rw [hbe_len _ _ 6 (by omega)]; omega) (fun w => spec_HexBeside_yes n w (by omega) (by omega)) (fun w => impl_HexBeside_yes n w (by omega) (by omega)) w
end Go.Proofs.Ythnjjpiofgbngaa
