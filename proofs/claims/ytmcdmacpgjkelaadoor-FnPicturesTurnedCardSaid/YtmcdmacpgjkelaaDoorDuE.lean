/- Chapter 7: the border of the program's sets of dots. -/
import Derived.Test.YtmcdmacpgjkelaaDoorDuD
namespace Go.Proofs.YtmcdmacpgjkelaaDoor
open Go.ChangeShapes Go.WideShapes Go.ChangeAt Go.RowKit Go.Maps

end Go.Proofs.YtmcdmacpgjkelaaDoor
