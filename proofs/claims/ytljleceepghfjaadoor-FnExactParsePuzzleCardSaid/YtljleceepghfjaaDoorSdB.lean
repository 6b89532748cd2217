/- Chapter 4: pairs and rules of arithmetic: what the specification hands back, and the laws' frames. -/
import Derived.Test.YtljleceepghfjaaDoorSdA
import Derived.Test.YtljleceepghfjaaDoorSuP
import Derived.OwnWalk
namespace Go.Proofs.YtljleceepghfjaaDoor
open Go.ChangeShapes Go.WideShapes Go.ChangeAt Go.RowKit

def nrt (K : Nat) : List Int := [(tx (2 * K + 1) - 1) / 2, (tx (2 * K + 1) - 1) / 2 + 1, ty (2 * K + 1)]
end Go.Proofs.YtljleceepghfjaaDoor
