/- Chapter 6: walks of the laws. -/
import Derived.Test.YthnjjpiofgbngaaSjDd
import Derived.Test.YthnjjpiofgbngaaSiQ
namespace Go.Proofs.Ythnjjpiofgbngaa
open Go.ChangeShapes Go.WideShapes Go.ChangeAt Go.RowKit

theorem walk_DiagonalOf (dx dy n : Int) (w : World) : Calls Try.prog 10 #[.int .i64 dx, .int .i64 dy, .int .i64 n] w fun e w' => e = .returned (.bool true) ∧ Below w.heap.size w w' := by
  cases h : dgOk dx dy n with
  | false => exact lawI_DiagonalOf dx dy n false [] (by simp) (fun w => spec_DiagonalOf_no dx dy n w h) (fun w => impl_DiagonalOf_no dx dy n w h) w
  | true => exact lawI_DiagonalOf dx dy n true (dgs dx dy n.toNat) (by rw [dgs_len]; have := dgOk_bds h; omega) (fun w => spec_DiagonalOf_yes dx dy n w h) (fun w => impl_DiagonalOf_yes dx dy n w h) w
end Go.Proofs.Ythnjjpiofgbngaa
