/- Chapter 7: the frame of the law of PiecesOfPicture. -/
import Derived.Test.YtbabkcjnfdpafaaGreatDoorDtZb
import Derived.BigRegion
namespace Go.Proofs.YtbabkcjnfdpafaaGreatDoor
open Go.ChangeShapes Go.WideShapes Go.ChangeAt Go.RowKit

end Go.Proofs.YtbabkcjnfdpafaaGreatDoor
