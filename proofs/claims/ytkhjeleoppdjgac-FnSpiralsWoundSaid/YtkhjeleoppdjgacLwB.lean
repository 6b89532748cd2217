/- The laws FnExactPlaceOf, FnExactIsPolygonal, FnExactNextPolygonal, FnExactCountUpTo: the program's answer is the specification's, whatever the arguments. No condition. -/
import Derived.Test.YtkhjeleoppdjgacBase
import Derived.Test.YtkhjeleoppdjgacSpA
import Derived.Test.YtkhjeleoppdjgacMg
import Derived.Test.YtkhjeleoppdjgacLwA
namespace Go.Proofs.Ytkhjeleoppdjgac
open Go.ChangeShapes Go.WideShapes Go.ChangeAt Go.RowKit

theorem poly_fits (s n : Int) (h1 : 3 ≤ s) (h2 : s ≤ 24) (h3 : 0 ≤ n) (h4 : n ≤ 1000000000000) : Fits 0 (4 - s) (s - 2) n (pl s n) (num s) :=
  ⟨fun k h5 h6 => polyRule_bds s k h1 h2 (by omega) (by omega), pl_nn s n h1 h3, by have := pl_le s n h1 h3 h4; omega, fun k h5 _ => fits_iff s n k h1 h3 (by omega)⟩
end Go.Proofs.Ytkhjeleoppdjgac
