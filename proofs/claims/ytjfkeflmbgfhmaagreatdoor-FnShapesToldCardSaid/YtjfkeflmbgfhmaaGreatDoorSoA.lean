/- Guards of chapter 3, and the contracts of its rules of arithmetic. -/
import Derived.Test.YtjfkeflmbgfhmaaGreatDoorBase
import Derived.Test.YtjfkeflmbgfhmaaGreatDoorSpA
import Derived.Test.YtjfkeflmbgfhmaaGreatDoorImB
import Derived.Test.YtjfkeflmbgfhmaaGreatDoorSeq
namespace Go.Proofs.YtjfkeflmbgfhmaaGreatDoor
open Go.ChangeShapes Go.WideShapes Go.ChangeAt Go.RowKit


end Go.Proofs.YtjfkeflmbgfhmaaGreatDoor
