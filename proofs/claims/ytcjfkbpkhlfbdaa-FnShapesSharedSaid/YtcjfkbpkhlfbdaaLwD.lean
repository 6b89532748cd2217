/- The laws FnExactWidePlace, FnExactRootOf: the program's answer is the specification's, whatever the arguments. No condition. -/
import Derived.Test.YtcjfkbpkhlfbdaaBase
import Derived.Test.YtcjfkbpkhlfbdaaSpA
import Derived.Test.YtcjfkbpkhlfbdaaLwC
import Derived.Deep.QuietTactic
import Derived.BigQuiet
namespace Go.Proofs.Ytcjfkbpkhlfbdaa
open Go.ChangeShapes Go.WideShapes Go.ChangeAt Go.RowKit

theorem belRule_bds (s k : Int) (h1 : 3 ≤ s) (h2 : s ≤ 24) (h3 : 0 ≤ k) (h4 : k ≤ 3000000) : RuleBds 0 (s - 4) (s - 2) k (num s (-k)) := by
  obtain ⟨a0, a1, b0, b1, c0, c1, d0⟩ := num_bds s k h1 h2 (by omega) h4
  have e1 := neg_twice s k
  have e2 := num_nn s (-k) h1
  constructor <;> omega
theorem bel_fits (s n : Int) (h1 : 3 ≤ s) (h2 : s ≤ 24) (h3 : 0 ≤ n) (h4 : n ≤ 1000000000000) : Fits 0 (s - 4) (s - 2) n (wl s n) (fun k => num s (-k)) :=
  ⟨fun k h5 h6 => belRule_bds s k h1 h2 h5 (by omega), wl_nn s n h1 h3, by have := wl_le s n h1 h3 h4; omega, fun k h5 _ => wfits_iff s n k h1 h3 (by omega)⟩

end Go.Proofs.Ytcjfkbpkhlfbdaa
