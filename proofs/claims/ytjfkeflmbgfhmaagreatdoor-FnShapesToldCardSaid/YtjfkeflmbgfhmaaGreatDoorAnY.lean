/- What the laws of promises ask of rows, of runs, of a number in a list, of a number's size. No condition. -/
import Derived.Test.YtjfkeflmbgfhmaaGreatDoorAnH
import Derived.Test.YtjfkeflmbgfhmaaGreatDoorOwL
import Derived.Test.YtjfkeflmbgfhmaaGreatDoorOwS
import Derived.Test.YtjfkeflmbgfhmaaGreatDoorSiM
import Derived.Lib.Hide
import Derived.Deep.QuietTactic
namespace Go.Proofs.YtjfkeflmbgfhmaaGreatDoor
open Go.RowKit

theorem oAbs6_any (x : Int) (w : World) (h0 : -4000000000000000000 ≤ x) (h1 : x ≤ 4000000000000000000) : Calls Tryz.prog 32 #[.int .i64 x] w fun e w' => e = .returned (.int .i64 (ab x)) ∧ w = w' := by
  by_cases h : x < 0
  · have e : ab x = -x := by unfold ab; omega
    rw [e]
    go_enter Tryz.func32, Tryz.ntmps32
    go_wp2
    go_ret
    exact ⟨rfl, rfl⟩
  · have e : ab x = x := by unfold ab; omega
    rw [e]
    go_enter Tryz.func32, Tryz.ntmps32
    go_wp2
    go_ret
    exact ⟨rfl, rfl⟩
end Go.Proofs.YtjfkeflmbgfhmaaGreatDoor
