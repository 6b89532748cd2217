/- Chapter 7: slices of texts that are alike. -/
import Derived.Test.YtbabkcjnfdpafaaGreatDoorDtY
import Derived.BigRegion
namespace Go.Proofs.YtbabkcjnfdpafaaGreatDoor
open Go.ChangeShapes Go.WideShapes Go.ChangeAt Go.RowKit

end Go.Proofs.YtbabkcjnfdpafaaGreatDoor
