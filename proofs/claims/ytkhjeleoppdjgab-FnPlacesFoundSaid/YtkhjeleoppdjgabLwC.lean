/- The laws FnExactCentredNumber, FnExactCentredPlace, FnExactWidePlace, FnExactRootOf: the program's answer is the specification's, whatever the arguments. No condition. -/
import Derived.Test.YtkhjeleoppdjgabBase
import Derived.Test.YtkhjeleoppdjgabSpA
import Derived.Test.YtkhjeleoppdjgabImC
import Derived.Test.YtkhjeleoppdjgabLwB
import Derived.Test.YtkhjeleoppdjgabNuB
namespace Go.Proofs.Ytkhjeleoppdjgab
open Go.ChangeShapes Go.WideShapes Go.ChangeAt Go.RowKit

theorem centredRule_any (s : Int) (w : World) (h1 : 3 ≤ s) (h2 : s ≤ 24) :
    Calls Try.prog 148 #[.int .i64 s] w fun e w' => e = .returned (.agg #[.int .i64 2, .int .i64 (-s), .int .i64 s]) ∧ Below w.heap.size w w' := by
  go_enter Try.func148, Try.ntmps148
  go_wp2
  exact bodyPost_ret (v := .agg #[.int .i64 2, .int .i64 (-s), .int .i64 s]) (by simp [results, Try.results148, go_sem]) rfl ⟨rfl, (Below.refl _ _).alloc (Nat.le_refl _) _⟩
theorem cenRule_bds (s k : Int) (h1 : 3 ≤ s) (h2 : s ≤ 24) (h3 : 0 ≤ k) (h4 : k ≤ 3000000) : RuleBds 2 (-s) s k (cen s k) := by
  obtain ⟨a0, a1, b0, b1⟩ := cen_bds s k h1 h2 h3 h4
  have e1 := cen_twice s k
  have e2 : s * (k * (k - 1)) = s * k * k - s * k := by grind
  have e3 : s * k * (k - 1) = s * k * k - s * k := by grind
  have e4 : -s * k = -(s * k) := by grind
  constructor <;> omega
theorem cen_fits (s n : Int) (h1 : 3 ≤ s) (h2 : s ≤ 24) (h3 : 0 ≤ n) (h4 : n ≤ 1000000000000) : Fits 2 (-s) s n (cpl s n) (cen s) :=
  ⟨fun k h5 h6 => cenRule_bds s k h1 h2 h5 (by omega), cpl_nn s n h1 h3, by have := cpl_le s n h1 h3 h4; omega, fun k h5 _ => cfits_iff s n k h1 h3 h5⟩
end Go.Proofs.Ytkhjeleoppdjgab
