/- Chapter 7: the program's pictures without borders; texts changed. -/
import Derived.Test.YtmcdmacpgjkelaaDoorDuU
import Derived.Test.YtmcdmacpgjkelaaDoorDuO
import Derived.Test.YtmcdmacpgjkelaaDoorDuS
namespace Go.Proofs.YtmcdmacpgjkelaaDoor
open Go.ChangeShapes Go.WideShapes Go.ChangeAt Go.RowKit Go.Maps

end Go.Proofs.YtmcdmacpgjkelaaDoor
