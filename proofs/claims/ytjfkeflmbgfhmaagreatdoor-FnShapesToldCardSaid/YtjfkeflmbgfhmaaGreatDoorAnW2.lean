/- Rows and runs compared, said by 'no old memory changes'. No condition. -/
import Derived.Test.YtjfkeflmbgfhmaaGreatDoorAnW
import Derived.Test.YtjfkeflmbgfhmaaGreatDoorAnY
namespace Go.Proofs.YtjfkeflmbgfhmaaGreatDoor
open Go.RowKit
end Go.Proofs.YtjfkeflmbgfhmaaGreatDoor
