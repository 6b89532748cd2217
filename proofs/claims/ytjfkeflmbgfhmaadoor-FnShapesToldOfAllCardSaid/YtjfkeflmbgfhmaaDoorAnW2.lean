/- Rows and runs compared, said by 'no old memory changes'. No condition. -/
import Derived.Test.YtjfkeflmbgfhmaaDoorAnW
import Derived.Test.YtjfkeflmbgfhmaaDoorAnY
namespace Go.Proofs.YtjfkeflmbgfhmaaDoor
open Go.RowKit
end Go.Proofs.YtjfkeflmbgfhmaaDoor
