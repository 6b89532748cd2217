/- Chapter 7: the program's pictures with other dots, without borders. -/
import Derived.Test.YtppdjjdejggjaaaDoorDuT
import Derived.Shelf.SlMaps.Clone
namespace Go.Proofs.YtppdjjdejggjaaaDoor
open Go.ChangeShapes Go.WideShapes Go.ChangeAt Go.RowKit Go.Maps

end Go.Proofs.YtppdjjdejggjaaaDoor
