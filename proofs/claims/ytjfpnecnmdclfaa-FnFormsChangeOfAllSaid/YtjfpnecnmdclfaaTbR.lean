/- Chapter 8: the frames of the laws FormOfShape and ChooseOf. -/
import Derived.Test.YtjfpnecnmdclfaaMb
namespace Go.Proofs.Ytjfpnecnmdclfaa
open Go.ChangeShapes Go.WideShapes Go.ChangeAt Go.RowKit

end Go.Proofs.Ytjfpnecnmdclfaa
