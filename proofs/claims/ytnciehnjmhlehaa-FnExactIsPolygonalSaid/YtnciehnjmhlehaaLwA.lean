/- The laws FnExactPolygonNumber, FnExactWideNumber, FnExactGnomonOf, FnExactSquareTest: the program's number is the specification's, whatever the arguments. No condition. -/
import Derived.Test.YtnciehnjmhlehaaBase
import Derived.Test.YtnciehnjmhlehaaSpA
import Derived.Test.YtnciehnjmhlehaaImC
namespace Go.Proofs.Ytnciehnjmhlehaa
open Go.ChangeShapes Go.WideShapes Go.ChangeAt Go.RowKit

theorem polyRule_bds (s k : Int) (h1 : 3 ≤ s) (h2 : s ≤ 24) (h3 : -3000000 ≤ k) (h4 : k ≤ 3000000) : RuleBds 0 (4 - s) (s - 2) k (num s k) := by
  obtain ⟨a0, a1, b0, b1, c0, c1, d0⟩ := num_bds s k h1 h2 h3 h4
  have e1 := num_twice s k
  have e2 : (4 - s) * k = -((s - 4) * k) := by grind
  constructor <;> omega

theorem gnomon (s p : Int) : num s p - num s (p - 1) = (s - 2) * (p - 1) + 1 := by
  have := num_succ s (p - 1)
  rw [show p - 1 + 1 = p from by omega] at this
  omega
end Go.Proofs.Ytnciehnjmhlehaa
