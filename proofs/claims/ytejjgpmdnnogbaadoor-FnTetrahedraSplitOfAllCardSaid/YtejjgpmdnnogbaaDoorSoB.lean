/- The laws of chapter 3 that are one rule of arithmetic: the program's number is the specification's, whatever the arguments. No condition. -/
import Derived.Test.YtejjgpmdnnogbaaDoorSoA
namespace Go.Proofs.YtejjgpmdnnogbaaDoor
open Go.ChangeShapes Go.WideShapes Go.ChangeAt Go.RowKit

theorem so_rule_bds (s k : Int) (h1 : 3 ≤ s) (h2 : s ≤ 24) (h3 : -3000000 ≤ k) (h4 : k ≤ 3000000) : RuleBds 0 (4 - s) (s - 2) k (num s k) := by
  obtain ⟨a0, a1, b0, b1, c0, c1, d0⟩ := num_bds s k h1 h2 h3 h4
  have e1 := num_twice s k
  have e2 : (4 - s) * k = -((s - 4) * k) := by grind
  constructor <;> omega
/-- Bounds of the powers of k. -/
theorem pow_bds (k : Int) (h3 : 0 ≤ k) (h4 : k ≤ 2000) : 0 ≤ k * k ∧ k * k ≤ 4000000 ∧ 0 ≤ k * k * k ∧ k * k * k ≤ 8000000000 := by
  have a0 : 0 ≤ k * k := Int.mul_nonneg h3 h3
  have a1 : k * k ≤ 2000 * 2000 := Int.mul_le_mul h4 h4 h3 (by omega)
  have b0 : 0 ≤ k * k * k := Int.mul_nonneg a0 h3
  have b1 : k * k * k ≤ 4000000 * 2000 := Int.mul_le_mul (by omega) h4 h3 (by omega)
  omega

theorem impl_PyramidNumber_no (s k : Int) (w : World) (h : (s < 3 ∨ 24 < s) ∨ (k < 0 ∨ 2000 < k)) :
    Calls Tryd.prog 12 #[.int .i64 s, .int .i64 k] w fun e w' => e = .returned (.tuple #[.int .i64 0, .bool false]) ∧ Below w.heap.size w w' := by
  have H : Hid ((s < 3 ∨ 24 < s) ∨ (k < 0 ∨ 2000 < k)) := Lib.hid (by omega)
  clear h
  go_enter Tryd.func12, Tryd.ntmps12
  go_wp2_with (first
    | (go_at_call 23; refine (asal_no _ _ _ H.out).mono ?_; rintro e w' ⟨rfl, rfl⟩))
  go_ret2
  exact ⟨rfl, Below.refl _ _⟩
theorem impl_PyramidNumber_yes (s k : Int) (w : World) (h1 : 3 ≤ s) (h2 : s ≤ 24) (h3 : 0 ≤ k) (h4 : k ≤ 2000) :
    Calls Tryd.prog 12 #[.int .i64 s, .int .i64 k] w fun e w' => e = .returned (.tuple #[.int .i64 (pyr s k), .bool true]) ∧ Below w.heap.size w w' := by
  go_enter Tryd.func12, Tryd.ntmps12
  go_wp2_with (first
    | (go_at_call 23; refine (asal_yes _ _ _ h1 h2 h3 h4).mono ?_; rintro e w' ⟨rfl, rfl⟩)
    | (go_at_call 24; refine (pyramidOf_any _ _ _ h1 h2 h3 (by omega)).mono ?_; rintro e w' ⟨rfl, rfl⟩))
  go_ret2
  exact ⟨rfl, Below.refl _ _⟩
end Go.Proofs.YtejjgpmdnnogbaaDoor
