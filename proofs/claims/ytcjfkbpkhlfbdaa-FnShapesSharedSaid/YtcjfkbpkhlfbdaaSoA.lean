/- Guards of chapter 3, and the contracts of its rules of arithmetic. -/
import Derived.Test.YtcjfkbpkhlfbdaaBase
import Derived.Test.YtcjfkbpkhlfbdaaSpA
import Derived.Test.YtcjfkbpkhlfbdaaImB
import Derived.Test.YtcjfkbpkhlfbdaaSeq
namespace Go.Proofs.Ytcjfkbpkhlfbdaa
open Go.ChangeShapes Go.WideShapes Go.ChangeAt Go.RowKit


end Go.Proofs.Ytcjfkbpkhlfbdaa
