/- What the laws of promises ask of rows, of runs, of a number in a list, of a number's size. No condition. -/
import Derived.Test.YtjfkeflmbgfhmaaDoorAnH
import Derived.Test.YtjfkeflmbgfhmaaDoorOwL
import Derived.Test.YtjfkeflmbgfhmaaDoorOwS
import Derived.Test.YtjfkeflmbgfhmaaDoorSiM
import Derived.Lib.Hide
import Derived.Deep.QuietTactic
namespace Go.Proofs.YtjfkeflmbgfhmaaDoor
open Go.RowKit

theorem oAbs6_any (x : Int) (w : World) (h0 : -4000000000000000000 ≤ x) (h1 : x ≤ 4000000000000000000) : Calls Tryd.prog 24 #[.int .i64 x] w fun e w' => e = .returned (.int .i64 (ab x)) ∧ w = w' := by
  by_cases h : x < 0
  · have e : ab x = -x := by unfold ab; omega
    rw [e]
    go_enter Tryd.func24, Tryd.ntmps24
    go_wp2
    go_ret
    exact ⟨rfl, rfl⟩
  · have e : ab x = x := by unfold ab; omega
    rw [e]
    go_enter Tryd.func24, Tryd.ntmps24
    go_wp2
    go_ret
    exact ⟨rfl, rfl⟩
end Go.Proofs.YtjfkeflmbgfhmaaDoor
