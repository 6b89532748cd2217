/- Chapter 7: the frames of the laws. -/
import Derived.Test.YtbabkcjnfdpafaaGreatDoorMc
import Derived.BigRegion
namespace Go.Proofs.YtbabkcjnfdpafaaGreatDoor
open Go.ChangeShapes Go.WideShapes Go.ChangeAt Go.RowKit

end Go.Proofs.YtbabkcjnfdpafaaGreatDoor
