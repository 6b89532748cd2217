/- Chapter 6: the way between two numbers, by the program. -/
import Derived.Test.YtmjmjcabmcbemaaSiY
namespace Go.Proofs.Ytmjmjcabmcbemaa
open Go.ChangeShapes Go.WideShapes Go.ChangeAt Go.RowKit

end Go.Proofs.Ytmjmjcabmcbemaa
