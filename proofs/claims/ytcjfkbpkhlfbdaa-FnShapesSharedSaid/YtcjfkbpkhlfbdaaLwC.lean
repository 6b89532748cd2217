/- The laws FnExactCentredNumber, FnExactCentredPlace, FnExactWidePlace, FnExactRootOf: the program's answer is the specification's, whatever the arguments. No condition. -/
import Derived.Test.YtcjfkbpkhlfbdaaBase
import Derived.Test.YtcjfkbpkhlfbdaaSpA
import Derived.Test.YtcjfkbpkhlfbdaaImC
import Derived.Test.YtcjfkbpkhlfbdaaLwB
import Derived.Test.YtcjfkbpkhlfbdaaNuB
namespace Go.Proofs.Ytcjfkbpkhlfbdaa
open Go.ChangeShapes Go.WideShapes Go.ChangeAt Go.RowKit

theorem cenRule_bds (s k : Int) (h1 : 3 ≤ s) (h2 : s ≤ 24) (h3 : 0 ≤ k) (h4 : k ≤ 3000000) : RuleBds 2 (-s) s k (cen s k) := by
  obtain ⟨a0, a1, b0, b1⟩ := cen_bds s k h1 h2 h3 h4
  have e1 := cen_twice s k
  have e2 : s * (k * (k - 1)) = s * k * k - s * k := by grind
  have e3 : s * k * (k - 1) = s * k * k - s * k := by grind
  have e4 : -s * k = -(s * k) := by grind
  constructor <;> omega
theorem cen_fits (s n : Int) (h1 : 3 ≤ s) (h2 : s ≤ 24) (h3 : 0 ≤ n) (h4 : n ≤ 1000000000000) : Fits 2 (-s) s n (cpl s n) (cen s) :=
  ⟨fun k h5 h6 => cenRule_bds s k h1 h2 h5 (by omega), cpl_nn s n h1 h3, by have := cpl_le s n h1 h3 h4; omega, fun k h5 _ => cfits_iff s n k h1 h3 h5⟩
end Go.Proofs.Ytcjfkbpkhlfbdaa
