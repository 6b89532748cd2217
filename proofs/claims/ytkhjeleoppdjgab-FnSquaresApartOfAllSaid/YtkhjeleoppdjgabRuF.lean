/- Chapter 5: the laws RunsOf, CountRuns, LongestRun. -/
import Derived.Test.YtkhjeleoppdjgabRuE
import Derived.Test.YtkhjeleoppdjgabRuC
import Derived.Test.YtkhjeleoppdjgabOwL
namespace Go.Proofs.Ytkhjeleoppdjgab
open Go.ChangeShapes Go.WideShapes Go.ChangeAt Go.RowKit

/-! ### how many -/
end Go.Proofs.Ytkhjeleoppdjgab
