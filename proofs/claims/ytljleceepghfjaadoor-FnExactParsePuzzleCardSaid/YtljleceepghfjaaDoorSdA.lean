/- Chapter 4: what the specification's functions hand back. -/
import Derived.Test.YtljleceepghfjaaDoorMa
import Derived.Test.YtljleceepghfjaaDoorSdN
namespace Go.Proofs.YtljleceepghfjaaDoor
open Go.ChangeShapes Go.WideShapes Go.ChangeAt Go.RowKit

end Go.Proofs.YtljleceepghfjaaDoor
