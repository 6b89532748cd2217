/- Chapter 5: the specification's list of runs; the laws RunsOf, CountRuns. -/
import Derived.Test.YtkhjeleoppdjgabRuD
namespace Go.Proofs.Ytkhjeleoppdjgab
open Go.ChangeShapes Go.WideShapes Go.ChangeAt Go.RowKit

end Go.Proofs.Ytkhjeleoppdjgab
