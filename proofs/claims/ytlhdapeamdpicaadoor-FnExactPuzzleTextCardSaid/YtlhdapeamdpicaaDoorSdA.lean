/- Chapter 4: what the specification's functions hand back. -/
import Derived.Test.YtlhdapeamdpicaaDoorBase
import Derived.Test.YtlhdapeamdpicaaDoorSpA
import Derived.Test.YtlhdapeamdpicaaDoorSdN
namespace Go.Proofs.YtlhdapeamdpicaaDoor
open Go.ChangeShapes Go.WideShapes Go.ChangeAt Go.RowKit

end Go.Proofs.YtlhdapeamdpicaaDoor
