/- Chapter 7: the frames of the laws. -/
import Derived.Test.YtmcdmacpgjkelaaDoorMc
import Derived.BigRegion
namespace Go.Proofs.YtmcdmacpgjkelaaDoor
open Go.ChangeShapes Go.WideShapes Go.ChangeAt Go.RowKit

end Go.Proofs.YtmcdmacpgjkelaaDoor
