/- The law FnPlacesFoundOfAll, walked: whatever the arguments it answers true. No condition. -/
import Derived.Test.YtkhjeleoppdjgabBase
import Derived.Test.YtkhjeleoppdjgabAnA
import Derived.Test.YtkhjeleoppdjgabAnB
import Derived.Lib.Hide
import Derived.Deep.Cut
namespace Go.Proofs.Ytkhjeleoppdjgab
open Go.ChangeShapes Go.WideShapes Go.ChangeAt Go.RowKit

def ab (n : Int) : Int := if n < 0 then -n else n
theorem ab_pos {n : Int} (h : 0 ≤ n) : ab n = n := by unfold ab; rw [if_neg (by omega)]
theorem ab_neg {n : Int} (h : n < 0) : ab n = -n := by unfold ab; rw [if_pos h]
theorem oAbs_any (n : Int) (w : World) (h1 : -9000000000000000000 ≤ n) (h2 : n ≤ 9000000000000000000) :
    Calls Try.prog 43 #[.int .i64 n] w fun e w' => e = .returned (.int .i64 (ab n)) ∧ w = w' := by
  rcases Int.lt_or_le n 0 with h | h
  · have H := Lib.hid (ab_neg h)
    go_enter Try.func43, Try.ntmps43
    go_wp2
    go_ret
    exact ⟨ret_int H.out.symm, rfl⟩
  · have H := Lib.hid (ab_pos h)
    go_enter Try.func43, Try.ntmps43
    go_wp2
    go_ret
    exact ⟨ret_int H.out.symm, rfl⟩

end Go.Proofs.Ytkhjeleoppdjgab
