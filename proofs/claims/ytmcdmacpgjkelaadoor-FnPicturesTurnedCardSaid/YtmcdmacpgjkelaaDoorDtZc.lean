/- Chapter 7: the frame of the law of PiecesOfPicture. -/
import Derived.Test.YtmcdmacpgjkelaaDoorDtZb
import Derived.BigRegion
namespace Go.Proofs.YtmcdmacpgjkelaaDoor
open Go.ChangeShapes Go.WideShapes Go.ChangeAt Go.RowKit

end Go.Proofs.YtmcdmacpgjkelaaDoor
