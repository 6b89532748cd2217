/- Chapter 7: the border of the program's sets of dots. -/
import Derived.Test.YtppdjjdejggjaaaDoorDuD
namespace Go.Proofs.YtppdjjdejggjaaaDoor
open Go.ChangeShapes Go.WideShapes Go.ChangeAt Go.RowKit Go.Maps

end Go.Proofs.YtppdjjdejggjaaaDoor
