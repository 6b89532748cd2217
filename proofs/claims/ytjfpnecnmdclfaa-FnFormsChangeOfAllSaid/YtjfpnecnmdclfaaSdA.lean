/- Chapter 4: what the specification's functions hand back. -/
import Derived.Test.YtjfpnecnmdclfaaBase
import Derived.Test.YtjfpnecnmdclfaaSpA
import Derived.Test.YtjfpnecnmdclfaaSdN
namespace Go.Proofs.Ytjfpnecnmdclfaa
open Go.ChangeShapes Go.WideShapes Go.ChangeAt Go.RowKit

end Go.Proofs.Ytjfpnecnmdclfaa
