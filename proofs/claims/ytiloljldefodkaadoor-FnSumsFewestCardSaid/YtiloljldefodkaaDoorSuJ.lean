/- The law FnExactFirstDifferentSum: the program's first sum of different places is the specification's, whatever the arguments. No condition. -/
import Derived.Test.YtiloljldefodkaaDoorSuI
namespace Go.Proofs.YtiloljldefodkaaDoor
open Go.ChangeShapes Go.WideShapes Go.ChangeAt Go.RowKit

theorem ufd_small (s : Int) (N : Nat) (h1 : 3 ≤ s) (hN : N ≤ 3000) : (ufd s (pl s N).toNat N).length ≤ 1000000000 := by
  have p1 := pl_77 s N h1 (by omega) (by omega)
  have h := fd_len s (pl s N).toNat N
  unfold ufd
  split
  · omega
  · simp
end Go.Proofs.YtiloljldefodkaaDoor
