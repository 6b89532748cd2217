/- Guards of chapter 3, and the contracts of its rules of arithmetic. -/
import Derived.Test.YtmpeembnjpgcgaaBase
import Derived.Test.YtmpeembnjpgcgaaSpA
import Derived.Test.YtmpeembnjpgcgaaImB
import Derived.Test.YtmpeembnjpgcgaaSeq
namespace Go.Proofs.Ytmpeembnjpgcgaa
open Go.ChangeShapes Go.WideShapes Go.ChangeAt Go.RowKit


end Go.Proofs.Ytmpeembnjpgcgaa
