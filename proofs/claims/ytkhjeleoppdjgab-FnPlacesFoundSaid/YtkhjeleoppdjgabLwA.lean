/- The laws FnExactPolygonNumber, FnExactWideNumber, FnExactGnomonOf, FnExactSquareTest: the program's number is the specification's, whatever the arguments. No condition. -/
import Derived.Test.YtkhjeleoppdjgabBase
import Derived.Test.YtkhjeleoppdjgabSpA
import Derived.Test.YtkhjeleoppdjgabImC
namespace Go.Proofs.Ytkhjeleoppdjgab
open Go.ChangeShapes Go.WideShapes Go.ChangeAt Go.RowKit

theorem polyRule_bds (s k : Int) (h1 : 3 ≤ s) (h2 : s ≤ 24) (h3 : -3000000 ≤ k) (h4 : k ≤ 3000000) : RuleBds 0 (4 - s) (s - 2) k (num s k) := by
  obtain ⟨a0, a1, b0, b1, c0, c1, d0⟩ := num_bds s k h1 h2 h3 h4
  have e1 := num_twice s k
  have e2 : (4 - s) * k = -((s - 4) * k) := by grind
  constructor <;> omega

theorem spec_PolygonNumber_no (s p : Int) (w : World) (h : (s < 3 ∨ 24 < s) ∨ (p < 0 ∨ 100000 < p)) :
    Calls Try.prog 47 #[.int .i64 s, .int .i64 p] w fun e w' => e = .returned (.tuple #[.int .i64 0, .bool false]) ∧ w = w' := by
  have H := Lib.hid h
  clear h
  go_enter Try.func47, Try.ntmps47
  go_wp2_with (first | (go_at_call 102; refine (shPlace_no _ _ _ H.out).mono ?_; rintro e w' ⟨rfl, rfl⟩))
  go_ret2
  exact ⟨rfl, rfl⟩
theorem impl_PolygonNumber_no (s p : Int) (w : World) (h : (s < 3 ∨ 24 < s) ∨ (p < 0 ∨ 100000 < p)) :
    Calls Try.prog 41 #[.int .i64 s, .int .i64 p] w fun e w' => e = .returned (.tuple #[.int .i64 0, .bool false]) ∧ w = w' := by
  have H := Lib.hid h
  clear h
  go_enter Try.func41, Try.ntmps41
  go_wp2_with (first | (go_at_call 100; refine (asap_no _ _ _ _ H.out).mono ?_; rintro e w' ⟨rfl, rfl⟩))
  go_ret2
  exact ⟨rfl, rfl⟩
theorem spec_PolygonNumber_yes (s p : Int) (w : World) (h1 : 3 ≤ s) (h2 : s ≤ 24) (h3 : 0 ≤ p) (h4 : p ≤ 100000) :
    Calls Try.prog 47 #[.int .i64 s, .int .i64 p] w fun e w' => e = .returned (.tuple #[.int .i64 (num s p), .bool true]) ∧ w = w' := by
  go_enter Try.func47, Try.ntmps47
  go_wp2_with (first
    | (go_at_call 102; refine (shPlace_yes _ _ _ h1 h2 h3 h4).mono ?_; rintro e w' ⟨rfl, rfl⟩)
    | (go_at_call 92; refine (shNumber_any _ _ _ h1 h2 (by omega) (by omega)).mono ?_; rintro e w' ⟨rfl, rfl⟩))
  go_ret2
  exact ⟨rfl, rfl⟩
theorem impl_PolygonNumber_yes (s p : Int) (w : World) (h1 : 3 ≤ s) (h2 : s ≤ 24) (h3 : 0 ≤ p) (h4 : p ≤ 100000) :
    Calls Try.prog 41 #[.int .i64 s, .int .i64 p] w fun e w' => e = .returned (.tuple #[.int .i64 (num s p), .bool true]) ∧ Below w.heap.size w w' := by
  go_enter Try.func41, Try.ntmps41
  go_wp2_with (first
    | (go_at_call 100; refine (asap_yes _ _ _ _ h1 h2 h3 h4).mono ?_; rintro e w' ⟨rfl, rfl⟩)
    | (go_at_call 89; refine (polygonRule_any _ _ h1 h2).mono ?_; rintro e w1 ⟨rfl, hb1⟩)
    | (go_at_call 94; refine (numberAt_any _ _ _ _ _ _ (polyRule_bds s p h1 h2 (by omega) (by omega))).mono ?_; rintro e w2 ⟨rfl, hb2⟩))
  go_ret2
  exact ⟨rfl, hb1.trans (hb2.mono hb1.size)⟩
theorem impl_WideNumber_no (s p : Int) (w : World) (h : (s < 3 ∨ 24 < s) ∨ (p < -100000 ∨ 100000 < p)) :
    Calls Try.prog 42 #[.int .i64 s, .int .i64 p] w fun e w' => e = .returned (.tuple #[.int .i64 0, .bool false]) ∧ w = w' := by
  have H := Lib.hid h
  clear h
  go_enter Try.func42, Try.ntmps42
  go_wp2_with (first | (go_at_call 100; refine (asap_no _ _ _ _ H.out).mono ?_; rintro e w' ⟨rfl, rfl⟩))
  go_ret2
  exact ⟨rfl, rfl⟩
theorem impl_WideNumber_yes (s p : Int) (w : World) (h1 : 3 ≤ s) (h2 : s ≤ 24) (h3 : -100000 ≤ p) (h4 : p ≤ 100000) :
    Calls Try.prog 42 #[.int .i64 s, .int .i64 p] w fun e w' => e = .returned (.tuple #[.int .i64 (num s p), .bool true]) ∧ Below w.heap.size w w' := by
  go_enter Try.func42, Try.ntmps42
  go_wp2_with (first
    | (go_at_call 100; refine (asap_yes _ _ _ _ h1 h2 h3 h4).mono ?_; rintro e w' ⟨rfl, rfl⟩)
    | (go_at_call 89; refine (polygonRule_any _ _ h1 h2).mono ?_; rintro e w1 ⟨rfl, hb1⟩)
    | (go_at_call 94; refine (numberAt_any _ _ _ _ _ _ (polyRule_bds s p h1 h2 (by omega) (by omega))).mono ?_; rintro e w2 ⟨rfl, hb2⟩))
  go_ret2
  exact ⟨rfl, hb1.trans (hb2.mono hb1.size)⟩
theorem spec_GnomonOf_no (s p : Int) (w : World) (h : (s < 3 ∨ 24 < s) ∨ (p < 1 ∨ 100000 < p)) :
    Calls Try.prog 46 #[.int .i64 s, .int .i64 p] w fun e w' => e = .returned (.tuple #[.int .i64 0, .bool false]) ∧ w = w' := by
  by_cases hs : (s < 3 ∨ 24 < s) ∨ (p < 0 ∨ 100000 < p)
  · have H := Lib.hid hs
    clear h hs
    go_enter Try.func46, Try.ntmps46
    go_wp2_with (go_at_call 102; refine (shPlace_no _ _ _ H.out).mono ?_; rintro e w' ⟨rfl, rfl⟩)
    go_ret2
    exact ⟨rfl, rfl⟩
  · have h1 : 3 ≤ s := by omega
    have h2 : s ≤ 24 := by omega
    obtain rfl : p = 0 := by omega
    clear h hs
    go_enter Try.func46, Try.ntmps46
    go_wp2_with (go_at_call 102; refine (shPlace_yes _ _ _ h1 h2 (by omega) (by omega)).mono ?_; rintro e w' ⟨rfl, rfl⟩)
    go_ret2
    exact ⟨rfl, rfl⟩
theorem impl_GnomonOf_no (s p : Int) (w : World) (h : (s < 3 ∨ 24 < s) ∨ (p < 1 ∨ 100000 < p)) :
    Calls Try.prog 45 #[.int .i64 s, .int .i64 p] w fun e w' => e = .returned (.tuple #[.int .i64 0, .bool false]) ∧ w = w' := by
  have H := Lib.hid h
  clear h
  go_enter Try.func45, Try.ntmps45
  go_wp2_with (first | (go_at_call 100; refine (asap_no _ _ _ _ H.out).mono ?_; rintro e w' ⟨rfl, rfl⟩))
  go_ret2
  exact ⟨rfl, rfl⟩
theorem gnomon (s p : Int) : num s p - num s (p - 1) = (s - 2) * (p - 1) + 1 := by
  have := num_succ s (p - 1)
  rw [show p - 1 + 1 = p from by omega] at this
  omega
theorem spec_GnomonOf_yes (s p : Int) (w : World) (h1 : 3 ≤ s) (h2 : s ≤ 24) (h3 : 1 ≤ p) (h4 : p ≤ 100000) :
    Calls Try.prog 46 #[.int .i64 s, .int .i64 p] w fun e w' => e = .returned (.tuple #[.int .i64 ((s - 2) * (p - 1) + 1), .bool true]) ∧ w = w' := by
  obtain ⟨a0, a1, b0, b1, c0, c1, d0⟩ := num_bds s (p - 1) h1 h2 (by omega) (by omega)
  have n0 := num_nn s p h1
  have n1 := num_nn s (p - 1) h1
  have nb : num s p ≤ 400000000000000 := by
    obtain ⟨x0, x1, y0, y1, z0, z1, u0⟩ := num_bds s p h1 h2 (by omega) (by omega)
    have := num_twice s p
    omega
  have nb1 : num s (p - 1) ≤ 400000000000000 := by
    have := num_twice s (p - 1)
    omega
  have ng := gnomon s p
  have HG := Lib.hid ng
  clear ng
  go_enter Try.func46, Try.ntmps46
  go_wp2_with (first
    | (go_at_call 102; refine (shPlace_yes _ _ _ h1 h2 (by omega) h4).mono ?_; rintro e w' ⟨rfl, rfl⟩)
    | (go_at_call 92; refine (shNumber_any _ _ _ h1 h2 (by omega) (by omega)).mono ?_; rintro e w' ⟨rfl, rfl⟩))
  go_ret2
  exact ⟨by rw [← HG.out]; rfl, rfl⟩
theorem impl_GnomonOf_yes (s p : Int) (w : World) (h1 : 3 ≤ s) (h2 : s ≤ 24) (h3 : 1 ≤ p) (h4 : p ≤ 100000) :
    Calls Try.prog 45 #[.int .i64 s, .int .i64 p] w fun e w' => e = .returned (.tuple #[.int .i64 ((s - 2) * (p - 1) + 1), .bool true]) ∧ Below w.heap.size w w' := by
  obtain ⟨a0, a1, b0, b1, c0, c1, d0⟩ := num_bds s (p - 1) h1 h2 (by omega) (by omega)
  go_enter Try.func45, Try.ntmps45
  go_wp2_with (first
    | (go_at_call 100; refine (asap_yes _ _ _ _ h1 h2 h3 h4).mono ?_; rintro e w' ⟨rfl, rfl⟩))
  go_ret2
  exact ⟨rfl, Below.refl _ _⟩
theorem spec_SquareTest_no (s p : Int) (w : World) (h : (s < 3 ∨ 24 < s) ∨ (p < 0 ∨ 1000000000000 < p)) :
    Calls Try.prog 37 #[.int .i64 s, .int .i64 p] w fun e w' => e = .returned (.tuple #[.int .i64 0, .bool false]) ∧ w = w' := by
  have H := Lib.hid h
  clear h
  go_enter Try.func37, Try.ntmps37
  go_wp2_with (first | (go_at_call 91; refine (shTested_no _ _ _ H.out).mono ?_; rintro e w' ⟨rfl, rfl⟩))
  go_ret2
  exact ⟨rfl, rfl⟩
theorem impl_SquareTest_no (s p : Int) (w : World) (h : (s < 3 ∨ 24 < s) ∨ (p < 0 ∨ 1000000000000 < p)) :
    Calls Try.prog 36 #[.int .i64 s, .int .i64 p] w fun e w' => e = .returned (.tuple #[.int .i64 0, .bool false]) ∧ w = w' := by
  have H := Lib.hid h
  clear h
  go_enter Try.func36, Try.ntmps36
  go_wp2_with (first | (go_at_call 88; refine (asat_no _ _ _ H.out).mono ?_; rintro e w' ⟨rfl, rfl⟩))
  go_ret2
  exact ⟨rfl, rfl⟩
theorem spec_SquareTest_yes (s p : Int) (w : World) (h1 : 3 ≤ s) (h2 : s ≤ 24) (h3 : 0 ≤ p) (h4 : p ≤ 1000000000000) :
    Calls Try.prog 37 #[.int .i64 s, .int .i64 p] w fun e w' => e = .returned (.tuple #[.int .i64 (8 * (s - 2) * p + (s - 4) * (s - 4)), .bool true]) ∧ w = w' := by
  have b0 : 0 ≤ 8 * (s - 2) * p := Int.mul_nonneg (by omega) h3
  have b1 : 8 * (s - 2) * p ≤ 176000000000000 := by
    have e1 := Int.mul_nonneg (a := 8 * (s - 2)) (b := 1000000000000 - p) (by omega) (by omega)
    have e2 : 8 * (s - 2) * (1000000000000 - p) = 8000000000000 * (s - 2) - 8 * (s - 2) * p := by grind
    omega
  have c0 : 0 ≤ (s - 4) * (s - 4) := sq_nn _
  have c1 : (s - 4) * (s - 4) ≤ 400 := sq_le (s - 4) 20 (by omega) (by omega)
  go_enter Try.func37, Try.ntmps37
  go_wp2_with (first
    | (go_at_call 91; refine (shTested_yes _ _ _ h1 h2 h3 h4).mono ?_; rintro e w' ⟨rfl, rfl⟩))
  go_ret2
  exact ⟨rfl, rfl⟩
theorem impl_SquareTest_yes (s p : Int) (w : World) (h1 : 3 ≤ s) (h2 : s ≤ 24) (h3 : 0 ≤ p) (h4 : p ≤ 1000000000000) :
    Calls Try.prog 36 #[.int .i64 s, .int .i64 p] w fun e w' => e = .returned (.tuple #[.int .i64 (8 * (s - 2) * p + (s - 4) * (s - 4)), .bool true]) ∧ Below w.heap.size w w' := by
  have b0 : 0 ≤ 8 * (s - 2) * p := Int.mul_nonneg (by omega) h3
  have b1 : 8 * (s - 2) * p ≤ 176000000000000 := by
    have e1 := Int.mul_nonneg (a := 8 * (s - 2)) (b := 1000000000000 - p) (by omega) (by omega)
    have e2 : 8 * (s - 2) * (1000000000000 - p) = 8000000000000 * (s - 2) - 8 * (s - 2) * p := by grind
    omega
  have c0 : 0 ≤ (s - 4) * (s - 4) := sq_nn _
  have c1 : (s - 4) * (s - 4) ≤ 400 := sq_le (s - 4) 20 (by omega) (by omega)
  go_enter Try.func36, Try.ntmps36
  go_wp2_with (first
    | (go_at_call 88; refine (asat_yes _ _ _ h1 h2 h3 h4).mono ?_; rintro e w' ⟨rfl, rfl⟩))
  go_ret2
  exact ⟨rfl, Below.refl _ _⟩
end Go.Proofs.Ytkhjeleoppdjgab
