/- Chapter 7: the program's pictures without borders; texts changed. -/
import Derived.Test.YtppdjjdejggjaaaDoorDuU
import Derived.Test.YtppdjjdejggjaaaDoorDuO
import Derived.Test.YtppdjjdejggjaaaDoorDuS
namespace Go.Proofs.YtppdjjdejggjaaaDoor
open Go.ChangeShapes Go.WideShapes Go.ChangeAt Go.RowKit Go.Maps

end Go.Proofs.YtppdjjdejggjaaaDoor
