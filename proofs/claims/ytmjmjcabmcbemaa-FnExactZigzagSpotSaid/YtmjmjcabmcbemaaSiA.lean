/- Chapter 6: the specification's rings, spots and numbers. -/
import Derived.Test.YtmjmjcabmcbemaaRuA
import Derived.Test.YtmjmjcabmcbemaaSiN
import Derived.BigQuiet
namespace Go.Proofs.Ytmjmjcabmcbemaa
open Go.ChangeShapes Go.WideShapes Go.ChangeAt Go.RowKit

theorem spGood_any (n : Int) (w : World) : Calls Try.prog 7 #[.int .i64 n] w fun e w' => e = .returned (.bool (betr n 0 1000000)) ∧ w = w' := by
  go_enter Try.func7, Try.ntmps7
  go_wp2_with (go_at_call 13; refine (rin_any _ _ _ _).mono ?_; rintro e w' ⟨rfl, rfl⟩)
  go_ret
  exact ⟨rfl, rfl⟩
/-- Whether there is a spot. -/
def isSpot (x y : Int) : Bool := betr x (-400) 400 && betr y (-400) 400
end Go.Proofs.Ytmjmjcabmcbemaa
