/- Contracts of the program's functions of chapter 1, 3: the last place up to a number, and the place of a number. -/
import Derived.Test.YtlcmlfodhjmdiaaDoorImB
namespace Go.Proofs.YtlcmlfodhjmdiaaDoor
open Go.RowKit

end Go.Proofs.YtlcmlfodhjmdiaaDoor
