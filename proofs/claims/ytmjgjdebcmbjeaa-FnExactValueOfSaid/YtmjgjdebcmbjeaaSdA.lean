/- Chapter 4: what the specification's functions hand back. -/
import Derived.Test.YtmjgjdebcmbjeaaBase
import Derived.Test.YtmjgjdebcmbjeaaSpA
import Derived.Test.YtmjgjdebcmbjeaaSdN
namespace Go.Proofs.Ytmjgjdebcmbjeaa
open Go.ChangeShapes Go.WideShapes Go.ChangeAt Go.RowKit

end Go.Proofs.Ytmjgjdebcmbjeaa
