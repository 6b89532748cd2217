/- The laws FnExactCountDifferentSums and FnExactNoDifferentSum: the program counts sums of different places as the specification does, whatever the arguments. No condition. -/
import Derived.Test.YtiloljldefodkaaDoorMb
namespace Go.Proofs.YtiloljldefodkaaDoor
open Go.ChangeShapes Go.WideShapes Go.ChangeAt Go.RowKit

/-- The numbers below n at which f is 0. -/
def zl (f : Nat → Int) (n : Nat) : List Int := ((List.range n).filter fun m => f m == 0).map fun (m : Nat) => (m : Int)
theorem zl_zero (f : Nat → Int) : zl f 0 = [] := rfl
theorem zl_hit (f : Nat → Int) (k : Nat) (h : f k = 0) : zl f (k + 1) = zl f k ++ [(k : Int)] := by
  simp [zl, List.range_succ, List.filter_append, h]
theorem zl_miss (f : Nat → Int) (k : Nat) (h : f k ≠ 0) : zl f (k + 1) = zl f k := by
  simp [zl, List.range_succ, List.filter_append, h]
theorem zl_len (f : Nat → Int) (n : Nat) : (zl f n).length ≤ n := by
  unfold zl
  rw [List.length_map]
  refine Nat.le_trans (List.length_filter_le _ _) ?_
  simp

end Go.Proofs.YtiloljldefodkaaDoor
