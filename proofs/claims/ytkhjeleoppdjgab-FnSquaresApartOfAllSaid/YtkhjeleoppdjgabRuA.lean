/- Chapter 5: bounds, a run's last number, the sums of runs. -/
import Derived.Test.YtkhjeleoppdjgabBase
import Derived.Test.YtkhjeleoppdjgabSpA
import Derived.Test.YtkhjeleoppdjgabImA
import Derived.Test.YtkhjeleoppdjgabRuN
import Derived.Test.YtkhjeleoppdjgabOwS
namespace Go.Proofs.Ytkhjeleoppdjgab
open Go.ChangeShapes Go.WideShapes Go.ChangeAt Go.RowKit

def betr (x lo hi : Int) : Bool := decide (lo ≤ x ∧ x ≤ hi)
theorem betr_yes {x lo hi : Int} (h1 : lo ≤ x) (h2 : x ≤ hi) : betr x lo hi = true := decide_eq_true ⟨h1, h2⟩
theorem betr_no {x lo hi : Int} (h : x < lo ∨ hi < x) : betr x lo hi = false := decide_eq_false (by omega)
theorem rin_any (x lo hi : Int) (w : World) : Calls Try.prog 81 #[.int .i64 x, .int .i64 lo, .int .i64 hi] w fun e w' => e = .returned (.bool (betr x lo hi)) ∧ w = w' := by
  by_cases h : x < lo ∨ hi < x
  · rw [betr_no h]; exact in_no _ _ _ _ h
  · rw [betr_yes (x := x) (lo := lo) (hi := hi) (by omega) (by omega)]; exact in_yes _ _ _ _ (by omega) (by omega)
theorem rwithin_any (x lo hi : Int) (w : World) : Calls Try.prog 79 #[.int .i64 x, .int .i64 lo, .int .i64 hi] w fun e w' => e = .returned (.bool (betr x lo hi)) ∧ w = w' := by
  by_cases h : x < lo ∨ hi < x
  · rw [betr_no h]; exact within_no _ _ _ _ h
  · rw [betr_yes (x := x) (lo := lo) (hi := hi) (by omega) (by omega)]; exact within_yes _ _ _ _ (by omega) (by omega)
theorem rofSize_any (x g : Int) (w : World) (h1 : 0 ≤ g) (h2 : g ≤ 1000000000000000) : Calls Try.prog 123 #[.int .i64 x, .int .i64 g] w fun e w' => e = .returned (.bool (betr x (-g) g)) ∧ w = w' := by
  go_enter Try.func123, Try.ntmps123
  go_wp2_with (go_at_call 79; refine (rwithin_any _ _ _ _).mono ?_; rintro e w' ⟨rfl, rfl⟩)
  go_ret
  exact ⟨rfl, rfl⟩
theorem isRunned_any (n : Int) (w : World) : Calls Try.prog 70 #[.int .i64 n] w fun e w' => e = .returned (.bool (betr n 1 1000000)) ∧ w = w' := by
  go_enter Try.func70, Try.ntmps70
  go_wp2_with (go_at_call 79; refine (rwithin_any _ _ _ _).mono ?_; rintro e w' ⟨rfl, rfl⟩)
  go_ret
  exact ⟨rfl, rfl⟩
theorem ruGood_any (n : Int) (w : World) : Calls Try.prog 74 #[.int .i64 n] w fun e w' => e = .returned (.bool (betr n 1 1000000)) ∧ w = w' := by
  go_enter Try.func74, Try.ntmps74
  go_wp2_with (go_at_call 81; refine (rin_any _ _ _ _).mono ?_; rintro e w' ⟨rfl, rfl⟩)
  go_ret
  exact ⟨rfl, rfl⟩

theorem apart_any (a b : Int) (w : World) (a1 : 0 ≤ a) (a2 : a ≤ 100000000000000) (b1 : 0 ≤ b) (b2 : b ≤ 100000000000000) :
    Calls Try.prog 72 #[.agg #[.int .i64 a, .int .i64 b]] w fun e w' => e = .returned (.int .i64 (b - a)) ∧ w' = w.alloc (.cells #[.int .i64 a, .int .i64 b] 66) := by
  go_enter Try.func72, Try.ntmps72
  go_wp2
  go_ret
  exact ⟨rfl, rfl⟩
theorem ret_bool {a b : Bool} (h : a = b) : Ending.returned (.bool a) = .returned (.bool b) := by rw [h]
theorem areAlike_any (a b : Int) (w : World) (a1 : 0 ≤ a) (a2 : a ≤ b) (b2 : b ≤ 100000000000000) :
    Calls Try.prog 127 #[.agg #[.int .i64 a, .int .i64 b]] w fun e w' => e = .returned (.bool (alikeB (a, b))) ∧ Below w.heap.size w w' := by
  have H : Hid (alikeB (a, b) = ((b - a) % 2 == 0)) := Lib.hid (by unfold alikeB; by_cases h : (b - a) % 2 = 0 <;> simp [h])
  go_enter Try.func127, Try.ntmps127
  go_wp2_with (go_at_call 72; refine (apart_any _ _ _ (by omega) (by omega) (by omega) (by omega)).mono ?_; rintro e w' ⟨rfl, rfl⟩)
  go_ret
  exact ⟨ret_bool H.out.symm, ((Below.refl _ _).alloc (Nat.le_refl _) _).alloc (by simp) _⟩

/-! ### sums of runs -/
/-- What the walks over a run's sum ask. -/
structure SumBds (f l : Int) : Prop where
  f0 : -1000000 ≤ f
  f1 : f ≤ 1000000
  l0 : 0 ≤ l
  l1 : l ≤ 1000000
  p0 : -3000000000000 ≤ l * f
  p1 : l * f ≤ 3000000000000
  q0 : 0 ≤ l * (l - 1)
  q1 : l * (l - 1) ≤ 3000000000000
  r0 : -6000000000000 ≤ l * (f + (f + l - 1))
  r1 : l * (f + (f + l - 1)) ≤ 6000000000000
  s : (l * (f + (f + l - 1))).tdiv 2 = l * f + l * (l - 1) / 2
theorem sum_bds' (f l : Int) (f0 : -1000000 ≤ f) (f1 : f ≤ 1000000) (l0 : 0 ≤ l) (l1 : l ≤ 1000000) : SumBds f l := by
  have a1 := Int.mul_nonneg (a := l) (b := 1000000 - f) l0 (by omega)
  have a2 := Int.mul_nonneg (a := l) (b := 1000000 + f) l0 (by omega)
  have e1 : l * (1000000 - f) = 1000000 * l - l * f := by grind
  have e2 : l * (1000000 + f) = 1000000 * l + l * f := by grind
  have b1 := pr_nn l
  have b2 := Int.mul_nonneg (a := l) (b := 1000000 - l) l0 (by omega)
  have e3 : l * (1000000 - l) = 1000000 * l - l * (l - 1) - l := by grind
  have e4 : l * (f + (f + l - 1)) = 2 * (l * f) + l * (l - 1) := by grind
  have ev := even_pr l
  have e5 : (l * (f + (f + l - 1))).tdiv 2 = (l * (f + (f + l - 1))) / 2 := tdiv2 _ (by omega)
  refine ⟨f0, f1, l0, l1, by omega, by omega, by omega, by omega, by omega, by omega, ?_⟩
  rw [e5]
  omega
end Go.Proofs.Ytkhjeleoppdjgab
