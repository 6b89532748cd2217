/- Chapter 7: slices of texts that are alike. -/
import Derived.Test.YtmcdmacpgjkelaaDoorDtY
import Derived.BigRegion
namespace Go.Proofs.YtmcdmacpgjkelaaDoor
open Go.ChangeShapes Go.WideShapes Go.ChangeAt Go.RowKit

end Go.Proofs.YtmcdmacpgjkelaaDoor
