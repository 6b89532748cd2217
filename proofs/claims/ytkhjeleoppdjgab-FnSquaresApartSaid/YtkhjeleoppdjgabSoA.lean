/- Guards of chapter 3, and the contracts of its rules of arithmetic. -/
import Derived.Test.YtkhjeleoppdjgabBase
import Derived.Test.YtkhjeleoppdjgabSpA
import Derived.Test.YtkhjeleoppdjgabImB
import Derived.Test.YtkhjeleoppdjgabSeq
namespace Go.Proofs.Ytkhjeleoppdjgab
open Go.ChangeShapes Go.WideShapes Go.ChangeAt Go.RowKit


end Go.Proofs.Ytkhjeleoppdjgab
