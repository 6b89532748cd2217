/- Chapter 4: what the specification's functions hand back. -/
import Derived.Test.YtmpajeldfbchhaaBase
import Derived.Test.YtmpajeldfbchhaaSpA
import Derived.Test.YtmpajeldfbchhaaSdN
namespace Go.Proofs.Ytmpajeldfbchhaa
open Go.ChangeShapes Go.WideShapes Go.ChangeAt Go.RowKit

end Go.Proofs.Ytmpajeldfbchhaa
