/- The laws of chapter 3 that are one rule of arithmetic: the program's number is the specification's, whatever the arguments. No condition. -/
import Derived.Test.YtppdjjdejggjaaaSoA
namespace Go.Proofs.Ytppdjjdejggjaaa
open Go.ChangeShapes Go.WideShapes Go.ChangeAt Go.RowKit

theorem so_rule_bds (s k : Int) (h1 : 3 ≤ s) (h2 : s ≤ 24) (h3 : -3000000 ≤ k) (h4 : k ≤ 3000000) : RuleBds 0 (4 - s) (s - 2) k (num s k) := by
  obtain ⟨a0, a1, b0, b1, c0, c1, d0⟩ := num_bds s k h1 h2 h3 h4
  have e1 := num_twice s k
  have e2 : (4 - s) * k = -((s - 4) * k) := by grind
  constructor <;> omega
/-- Bounds of the powers of k. -/
theorem pow_bds (k : Int) (h3 : 0 ≤ k) (h4 : k ≤ 2000) : 0 ≤ k * k ∧ k * k ≤ 4000000 ∧ 0 ≤ k * k * k ∧ k * k * k ≤ 8000000000 := by
  have a0 : 0 ≤ k * k := Int.mul_nonneg h3 h3
  have a1 : k * k ≤ 2000 * 2000 := Int.mul_le_mul h4 h4 h3 (by omega)
  have b0 : 0 ≤ k * k * k := Int.mul_nonneg a0 h3
  have b1 : k * k * k ≤ 4000000 * 2000 := Int.mul_le_mul (by omega) h4 h3 (by omega)
  omega

theorem spec_PyramidNumber_no (s k : Int) (w : World) (h : (s < 3 ∨ 24 < s) ∨ (k < 0 ∨ 2000 < k)) :
    Calls Try.prog 61 #[.int .i64 s, .int .i64 k] w fun e w' => e = .returned (.tuple #[.int .i64 0, .bool false]) ∧ Below w.heap.size w w' := by
  by_cases hs : s < 3 ∨ 24 < s
  · have H : Hid (s < 3 ∨ 24 < s) := Lib.hid hs
    clear h hs
    go_enter Try.func61, Try.ntmps61
    go_wp2_with (first
      | (go_at_call 160; refine (shSides_no _ _ H.out).mono ?_; rintro e w' ⟨rfl, rfl⟩))
    go_ret2
    exact ⟨rfl, Below.refl _ _⟩
  · skip
    have h1 : 3 ≤ s := by omega
    have h2 : s ≤ 24 := by omega
    have h' := h
    clear h
    have h : k < 0 ∨ 2000 < k := by omega
    clear h' hs
    have H : Hid (k < 0 ∨ 2000 < k) := Lib.hid (by omega)
    clear h
    go_enter Try.func61, Try.ntmps61
    go_wp2_with (first
      | (go_at_call 160; refine (shSides_yes _ _ h1 h2).mono ?_; rintro e w' ⟨rfl, rfl⟩)
      | (go_at_call 147; refine (soLayers_no _ _ H.out).mono ?_; rintro e w' ⟨rfl, rfl⟩))
    go_ret2
    exact ⟨rfl, Below.refl _ _⟩
theorem impl_PyramidNumber_no (s k : Int) (w : World) (h : (s < 3 ∨ 24 < s) ∨ (k < 0 ∨ 2000 < k)) :
    Calls Try.prog 53 #[.int .i64 s, .int .i64 k] w fun e w' => e = .returned (.tuple #[.int .i64 0, .bool false]) ∧ Below w.heap.size w w' := by
  have H : Hid ((s < 3 ∨ 24 < s) ∨ (k < 0 ∨ 2000 < k)) := Lib.hid (by omega)
  clear h
  go_enter Try.func53, Try.ntmps53
  go_wp2_with (first
    | (go_at_call 149; refine (asal_no _ _ _ H.out).mono ?_; rintro e w' ⟨rfl, rfl⟩))
  go_ret2
  exact ⟨rfl, Below.refl _ _⟩
theorem spec_PyramidNumber_yes (s k : Int) (w : World) (h1 : 3 ≤ s) (h2 : s ≤ 24) (h3 : 0 ≤ k) (h4 : k ≤ 2000) :
    Calls Try.prog 61 #[.int .i64 s, .int .i64 k] w fun e w' => e = .returned (.tuple #[.int .i64 (pyr s k), .bool true]) ∧ Below w.heap.size w w' := by
  go_enter Try.func61, Try.ntmps61
  go_wp2_with (first
    | (go_at_call 160; refine (shSides_yes _ _ h1 h2).mono ?_; rintro e w' ⟨rfl, rfl⟩)
    | (go_at_call 147; refine (soLayers_yes _ _ h3 h4).mono ?_; rintro e w' ⟨rfl, rfl⟩)
    | (go_at_call 148; refine (soPyramid_any _ _ _ h1 h2 h3 (by omega)).mono ?_; rintro e w' ⟨rfl, rfl⟩))
  go_ret2
  exact ⟨rfl, Below.refl _ _⟩
theorem impl_PyramidNumber_yes (s k : Int) (w : World) (h1 : 3 ≤ s) (h2 : s ≤ 24) (h3 : 0 ≤ k) (h4 : k ≤ 2000) :
    Calls Try.prog 53 #[.int .i64 s, .int .i64 k] w fun e w' => e = .returned (.tuple #[.int .i64 (pyr s k), .bool true]) ∧ Below w.heap.size w w' := by
  go_enter Try.func53, Try.ntmps53
  go_wp2_with (first
    | (go_at_call 149; refine (asal_yes _ _ _ h1 h2 h3 h4).mono ?_; rintro e w' ⟨rfl, rfl⟩)
    | (go_at_call 150; refine (pyramidOf_any _ _ _ h1 h2 h3 (by omega)).mono ?_; rintro e w' ⟨rfl, rfl⟩))
  go_ret2
  exact ⟨rfl, Below.refl _ _⟩
theorem spec_OctahedronNumber_no (k : Int) (w : World) (h : k < 0 ∨ 2000 < k) :
    Calls Try.prog 42 #[.int .i64 k] w fun e w' => e = .returned (.tuple #[.int .i64 0, .bool false]) ∧ Below w.heap.size w w' := by
  have H : Hid (k < 0 ∨ 2000 < k) := Lib.hid (by omega)
  clear h
  go_enter Try.func42, Try.ntmps42
  go_wp2_with (first
    | (go_at_call 147; refine (soLayers_no _ _ H.out).mono ?_; rintro e w' ⟨rfl, rfl⟩))
  go_ret2
  exact ⟨rfl, Below.refl _ _⟩
theorem impl_OctahedronNumber_no (k : Int) (w : World) (h : k < 0 ∨ 2000 < k) :
    Calls Try.prog 41 #[.int .i64 k] w fun e w' => e = .returned (.tuple #[.int .i64 0, .bool false]) ∧ Below w.heap.size w w' := by
  have H : Hid (k < 0 ∨ 2000 < k) := Lib.hid (by omega)
  clear h
  go_enter Try.func41, Try.ntmps41
  go_wp2_with (first
    | (go_at_call 146; refine (areLayers_no _ _ _ H.out).mono ?_; rintro e w' ⟨rfl, rfl⟩))
  go_ret2
  exact ⟨rfl, Below.refl _ _⟩
theorem spec_OctahedronNumber_yes (k : Int) (w : World) (h3 : 0 ≤ k) (h4 : k ≤ 2000) :
    Calls Try.prog 42 #[.int .i64 k] w fun e w' => e = .returned (.tuple #[.int .i64 (k * (2 * k * k + 1) / 3), .bool true]) ∧ Below w.heap.size w w' := by
  obtain ⟨p0, p1, q0, q1⟩ := pow_bds k (by omega) h4
  have e1 : 2 * k * k = 2 * (k * k) := by grind
  have e2 : k * (2 * k * k + 1) = 2 * (k * k * k) + k := by grind
  have e3 : 0 ≤ k * (2 * k * k + 1) := by omega
  have e4 : k * (2 * k * k + 1) ≤ 100000000000 := by omega
  have e5 : 0 ≤ 2 * k * k := by omega
  have e6 : 2 * k * k ≤ 8000000 := by omega
  clear e1 e2
  go_enter Try.func42, Try.ntmps42
  go_wp2_with (first
    | (go_at_call 147; refine (soLayers_yes _ _ (by omega) h4).mono ?_; rintro e w' ⟨rfl, rfl⟩))
  go_ret2
  exact ⟨rfl, Below.refl _ _⟩
theorem impl_OctahedronNumber_yes (k : Int) (w : World) (h3 : 0 ≤ k) (h4 : k ≤ 2000) :
    Calls Try.prog 41 #[.int .i64 k] w fun e w' => e = .returned (.tuple #[.int .i64 (k * (2 * k * k + 1) / 3), .bool true]) ∧ Below w.heap.size w w' := by
  obtain ⟨p0, p1, q0, q1⟩ := pow_bds k (by omega) h4
  have e1 : 2 * k * k = 2 * (k * k) := by grind
  have e2 : k * (2 * k * k + 1) = 2 * (k * k * k) + k := by grind
  have e3 : 0 ≤ k * (2 * k * k + 1) := by omega
  have e4 : k * (2 * k * k + 1) ≤ 100000000000 := by omega
  have e5 : 0 ≤ 2 * k * k := by omega
  have e6 : 2 * k * k ≤ 8000000 := by omega
  clear e1 e2
  go_enter Try.func41, Try.ntmps41
  go_wp2_with (first
    | (go_at_call 146; refine (areLayers_yes _ _ _ h3 h4).mono ?_; rintro e w' ⟨rfl, rfl⟩))
  go_ret2
  exact ⟨rfl, Below.refl _ _⟩
theorem spec_CubeNumber_no (k : Int) (w : World) (h : k < 0 ∨ 2000 < k) :
    Calls Try.prog 44 #[.int .i64 k] w fun e w' => e = .returned (.tuple #[.int .i64 0, .bool false]) ∧ Below w.heap.size w w' := by
  have H : Hid (k < 0 ∨ 2000 < k) := Lib.hid (by omega)
  clear h
  go_enter Try.func44, Try.ntmps44
  go_wp2_with (first
    | (go_at_call 147; refine (soLayers_no _ _ H.out).mono ?_; rintro e w' ⟨rfl, rfl⟩))
  go_ret2
  exact ⟨rfl, Below.refl _ _⟩
theorem impl_CubeNumber_no (k : Int) (w : World) (h : k < 0 ∨ 2000 < k) :
    Calls Try.prog 43 #[.int .i64 k] w fun e w' => e = .returned (.tuple #[.int .i64 0, .bool false]) ∧ Below w.heap.size w w' := by
  have H : Hid (k < 0 ∨ 2000 < k) := Lib.hid (by omega)
  clear h
  go_enter Try.func43, Try.ntmps43
  go_wp2_with (first
    | (go_at_call 146; refine (areLayers_no _ _ _ H.out).mono ?_; rintro e w' ⟨rfl, rfl⟩))
  go_ret2
  exact ⟨rfl, Below.refl _ _⟩
theorem spec_CubeNumber_yes (k : Int) (w : World) (h3 : 0 ≤ k) (h4 : k ≤ 2000) :
    Calls Try.prog 44 #[.int .i64 k] w fun e w' => e = .returned (.tuple #[.int .i64 (k * k * k), .bool true]) ∧ Below w.heap.size w w' := by
  obtain ⟨p0, p1, q0, q1⟩ := pow_bds k (by omega) h4
  go_enter Try.func44, Try.ntmps44
  go_wp2_with (first
    | (go_at_call 147; refine (soLayers_yes _ _ (by omega) h4).mono ?_; rintro e w' ⟨rfl, rfl⟩))
  go_ret2
  exact ⟨rfl, Below.refl _ _⟩
theorem impl_CubeNumber_yes (k : Int) (w : World) (h3 : 0 ≤ k) (h4 : k ≤ 2000) :
    Calls Try.prog 43 #[.int .i64 k] w fun e w' => e = .returned (.tuple #[.int .i64 (k * k * k), .bool true]) ∧ Below w.heap.size w w' := by
  obtain ⟨p0, p1, q0, q1⟩ := pow_bds k (by omega) h4
  go_enter Try.func43, Try.ntmps43
  go_wp2_with (first
    | (go_at_call 146; refine (areLayers_yes _ _ _ h3 h4).mono ?_; rintro e w' ⟨rfl, rfl⟩))
  go_ret2
  exact ⟨rfl, Below.refl _ _⟩
theorem spec_CentredCube_no0 (k : Int) (w : World) (h : (k < 0 ∨ 2000 < k) ∨ (k < 1)) :
    Calls Try.prog 52 #[.int .i64 k] w fun e w' => e = .returned (.tuple #[.int .i64 0, .bool false]) ∧ Below w.heap.size w w' := by
  by_cases hs : k < 0 ∨ 2000 < k
  · have H : Hid (k < 0 ∨ 2000 < k) := Lib.hid hs
    clear h hs
    go_enter Try.func52, Try.ntmps52
    go_wp2_with (first
      | (go_at_call 147; refine (soLayers_no _ _ H.out).mono ?_; rintro e w' ⟨rfl, rfl⟩))
    go_ret2
    exact ⟨rfl, Below.refl _ _⟩
  · skip
    have h3 : 0 ≤ k := by omega
    have h4 : k ≤ 2000 := by omega
    have h' := h
    clear h
    have h : k < 1 := by omega
    clear h' hs
    have hp : k < 1 := by omega
    clear h
    go_enter Try.func52, Try.ntmps52
    go_wp2_with (first
      | (go_at_call 147; refine (soLayers_yes _ _ h3 h4).mono ?_; rintro e w' ⟨rfl, rfl⟩))
    go_ret2
    exact ⟨rfl, Below.refl _ _⟩
theorem spec_CentredCube_no (k : Int) (w : World) (h : k < 1 ∨ 2000 < k) :
    Calls Try.prog 52 #[.int .i64 k] w fun e w' => e = .returned (.tuple #[.int .i64 0, .bool false]) ∧ Below w.heap.size w w' := spec_CentredCube_no0 k w (by omega)
theorem impl_CentredCube_no (k : Int) (w : World) (h : k < 1 ∨ 2000 < k) :
    Calls Try.prog 51 #[.int .i64 k] w fun e w' => e = .returned (.tuple #[.int .i64 0, .bool false]) ∧ Below w.heap.size w w' := by
  have H : Hid (k < 1 ∨ 2000 < k) := Lib.hid (by omega)
  clear h
  go_enter Try.func51, Try.ntmps51
  go_wp2_with (first
    | (go_at_call 146; refine (areLayers_no _ _ _ H.out).mono ?_; rintro e w' ⟨rfl, rfl⟩))
  go_ret2
  exact ⟨rfl, Below.refl _ _⟩
theorem spec_CentredCube_yes (k : Int) (w : World) (h3 : 1 ≤ k) (h4 : k ≤ 2000) :
    Calls Try.prog 52 #[.int .i64 k] w fun e w' => e = .returned (.tuple #[.int .i64 (k * k * k + (k - 1) * (k - 1) * (k - 1)), .bool true]) ∧ Below w.heap.size w w' := by
  obtain ⟨p0, p1, q0, q1⟩ := pow_bds k (by omega) h4
  obtain ⟨r0, r1, s0, s1⟩ := pow_bds (k - 1) (by omega) (by omega)
  go_enter Try.func52, Try.ntmps52
  go_wp2_with (first
    | (go_at_call 147; refine (soLayers_yes _ _ (by omega) h4).mono ?_; rintro e w' ⟨rfl, rfl⟩))
  go_ret2
  exact ⟨rfl, Below.refl _ _⟩
theorem impl_CentredCube_yes (k : Int) (w : World) (h3 : 1 ≤ k) (h4 : k ≤ 2000) :
    Calls Try.prog 51 #[.int .i64 k] w fun e w' => e = .returned (.tuple #[.int .i64 (k * k * k + (k - 1) * (k - 1) * (k - 1)), .bool true]) ∧ Below w.heap.size w w' := by
  obtain ⟨p0, p1, q0, q1⟩ := pow_bds k (by omega) h4
  obtain ⟨r0, r1, s0, s1⟩ := pow_bds (k - 1) (by omega) (by omega)
  go_enter Try.func51, Try.ntmps51
  go_wp2_with (first
    | (go_at_call 146; refine (areLayers_yes _ _ _ h3 h4).mono ?_; rintro e w' ⟨rfl, rfl⟩))
  go_ret2
  exact ⟨rfl, Below.refl _ _⟩
theorem spec_StarNumber_no (k : Int) (w : World) (h : k < 0 ∨ 2000 < k) :
    Calls Try.prog 46 #[.int .i64 k] w fun e w' => e = .returned (.tuple #[.int .i64 0, .bool false]) ∧ Below w.heap.size w w' := by
  have H : Hid (k < 0 ∨ 2000 < k) := Lib.hid (by omega)
  clear h
  go_enter Try.func46, Try.ntmps46
  go_wp2_with (first
    | (go_at_call 147; refine (soLayers_no _ _ H.out).mono ?_; rintro e w' ⟨rfl, rfl⟩))
  go_ret2
  exact ⟨rfl, Below.refl _ _⟩
theorem impl_StarNumber_no (k : Int) (w : World) (h : k < 0 ∨ 2000 < k) :
    Calls Try.prog 45 #[.int .i64 k] w fun e w' => e = .returned (.tuple #[.int .i64 0, .bool false]) ∧ Below w.heap.size w w' := by
  have H : Hid (k < 0 ∨ 2000 < k) := Lib.hid (by omega)
  clear h
  go_enter Try.func45, Try.ntmps45
  go_wp2_with (first
    | (go_at_call 146; refine (areLayers_no _ _ _ H.out).mono ?_; rintro e w' ⟨rfl, rfl⟩))
  go_ret2
  exact ⟨rfl, Below.refl _ _⟩
theorem spec_StarNumber_yes (k : Int) (w : World) (h3 : 0 ≤ k) (h4 : k ≤ 2000) :
    Calls Try.prog 46 #[.int .i64 k] w fun e w' => e = .returned (.tuple #[.int .i64 (k * (2 * k * k - 1)), .bool true]) ∧ Below w.heap.size w w' := by
  obtain ⟨p0, p1, q0, q1⟩ := pow_bds k (by omega) h4
  have e1 : 2 * k * k = 2 * (k * k) := by grind
  have e2 : k * (2 * k * k - 1) = 2 * (k * k * k) - k := by grind
  have e3 : -2000 ≤ k * (2 * k * k - 1) := by omega
  have e4 : k * (2 * k * k - 1) ≤ 100000000000 := by omega
  have e5 : 0 ≤ 2 * k * k := by omega
  have e6 : 2 * k * k ≤ 8000000 := by omega
  clear e1 e2
  go_enter Try.func46, Try.ntmps46
  go_wp2_with (first
    | (go_at_call 147; refine (soLayers_yes _ _ (by omega) h4).mono ?_; rintro e w' ⟨rfl, rfl⟩))
  go_ret2
  exact ⟨rfl, Below.refl _ _⟩
theorem impl_StarNumber_yes (k : Int) (w : World) (h3 : 0 ≤ k) (h4 : k ≤ 2000) :
    Calls Try.prog 45 #[.int .i64 k] w fun e w' => e = .returned (.tuple #[.int .i64 (k * (2 * k * k - 1)), .bool true]) ∧ Below w.heap.size w w' := by
  obtain ⟨p0, p1, q0, q1⟩ := pow_bds k (by omega) h4
  have e1 : 2 * k * k = 2 * (k * k) := by grind
  have e2 : k * (2 * k * k - 1) = 2 * (k * k * k) - k := by grind
  have e3 : -2000 ≤ k * (2 * k * k - 1) := by omega
  have e4 : k * (2 * k * k - 1) ≤ 100000000000 := by omega
  have e5 : 0 ≤ 2 * k * k := by omega
  have e6 : 2 * k * k ≤ 8000000 := by omega
  clear e1 e2
  go_enter Try.func45, Try.ntmps45
  go_wp2_with (first
    | (go_at_call 146; refine (areLayers_yes _ _ _ h3 h4).mono ?_; rintro e w' ⟨rfl, rfl⟩))
  go_ret2
  exact ⟨rfl, Below.refl _ _⟩
theorem spec_SumOfSquares_no (k : Int) (w : World) (h : k < 0 ∨ 2000 < k) :
    Calls Try.prog 48 #[.int .i64 k] w fun e w' => e = .returned (.tuple #[.int .i64 0, .bool false]) ∧ Below w.heap.size w w' := by
  have H : Hid (k < 0 ∨ 2000 < k) := Lib.hid (by omega)
  clear h
  go_enter Try.func48, Try.ntmps48
  go_wp2_with (first
    | (go_at_call 147; refine (soLayers_no _ _ H.out).mono ?_; rintro e w' ⟨rfl, rfl⟩))
  go_ret2
  exact ⟨rfl, Below.refl _ _⟩
theorem impl_SumOfSquares_no (k : Int) (w : World) (h : k < 0 ∨ 2000 < k) :
    Calls Try.prog 47 #[.int .i64 k] w fun e w' => e = .returned (.tuple #[.int .i64 0, .bool false]) ∧ Below w.heap.size w w' := by
  have H : Hid (((4 : Int) < 3 ∨ (24 : Int) < 4) ∨ (k < 0 ∨ 2000 < k)) := Lib.hid (by omega)
  clear h
  go_enter Try.func47, Try.ntmps47
  go_wp2_with (go_at_call 53; refine (impl_PyramidNumber_no _ _ _ H.out).mono ?_; rintro e w1 ⟨rfl, hb⟩)
  go_ret2
  exact ⟨rfl, hb⟩
theorem spec_SumOfSquares_yes (k : Int) (w : World) (h3 : 0 ≤ k) (h4 : k ≤ 2000) :
    Calls Try.prog 48 #[.int .i64 k] w fun e w' => e = .returned (.tuple #[.int .i64 (pyr 4 k), .bool true]) ∧ Below w.heap.size w w' := by
  go_enter Try.func48, Try.ntmps48
  go_wp2_with (first
    | (go_at_call 147; refine (soLayers_yes _ _ (by omega) h4).mono ?_; rintro e w' ⟨rfl, rfl⟩)
    | (go_at_call 148; refine (soPyramid_any _ _ _ (by omega) (by omega) h3 (by omega)).mono ?_; rintro e w' ⟨rfl, rfl⟩))
  go_ret2
  exact ⟨rfl, Below.refl _ _⟩
theorem impl_SumOfSquares_yes (k : Int) (w : World) (h3 : 0 ≤ k) (h4 : k ≤ 2000) :
    Calls Try.prog 47 #[.int .i64 k] w fun e w' => e = .returned (.tuple #[.int .i64 (pyr 4 k), .bool true]) ∧ Below w.heap.size w w' := by
  go_enter Try.func47, Try.ntmps47
  go_wp2_with (first
    | (go_at_call 53; refine (impl_PyramidNumber_yes _ _ _ (by omega) (by omega) h3 h4).mono ?_; rintro e w1 ⟨rfl, hb⟩))
  go_ret2
  exact ⟨rfl, hb⟩
theorem spec_SumOfCubes_no (k : Int) (w : World) (h : k < 0 ∨ 2000 < k) :
    Calls Try.prog 50 #[.int .i64 k] w fun e w' => e = .returned (.tuple #[.int .i64 0, .bool false]) ∧ Below w.heap.size w w' := by
  have H : Hid (k < 0 ∨ 2000 < k) := Lib.hid (by omega)
  clear h
  go_enter Try.func50, Try.ntmps50
  go_wp2_with (first
    | (go_at_call 147; refine (soLayers_no _ _ H.out).mono ?_; rintro e w' ⟨rfl, rfl⟩))
  go_ret2
  exact ⟨rfl, Below.refl _ _⟩
theorem impl_SumOfCubes_no (k : Int) (w : World) (h : k < 0 ∨ 2000 < k) :
    Calls Try.prog 49 #[.int .i64 k] w fun e w' => e = .returned (.tuple #[.int .i64 0, .bool false]) ∧ Below w.heap.size w w' := by
  have H : Hid (k < 0 ∨ 2000 < k) := Lib.hid (by omega)
  clear h
  go_enter Try.func49, Try.ntmps49
  go_wp2_with (first
    | (go_at_call 146; refine (areLayers_no _ _ _ H.out).mono ?_; rintro e w' ⟨rfl, rfl⟩))
  go_ret2
  exact ⟨rfl, Below.refl _ _⟩
theorem spec_SumOfCubes_yes (k : Int) (w : World) (h3 : 0 ≤ k) (h4 : k ≤ 2000) :
    Calls Try.prog 50 #[.int .i64 k] w fun e w' => e = .returned (.tuple #[.int .i64 (num 3 k * num 3 k), .bool true]) ∧ Below w.heap.size w w' := by
  have t0 := num_nn 3 k (by omega)
  have t1 : num 3 k ≤ 2001000 := by
    have := num_mono_le 3 (by omega) h3 h4
    have e : num 3 2000 = 2001000 := by decide
    omega
  have u0 : 0 ≤ num 3 k * num 3 k := Int.mul_nonneg t0 t0
  have u1 : num 3 k * num 3 k ≤ 2001000 * 2001000 := Int.mul_le_mul t1 t1 t0 (by omega)
  go_enter Try.func50, Try.ntmps50
  go_wp2_with (first
    | (go_at_call 147; refine (soLayers_yes _ _ (by omega) h4).mono ?_; rintro e w' ⟨rfl, rfl⟩)
    | (go_at_call 126; refine (shNumber_any _ _ _ (by omega) (by omega) (by omega) (by omega)).mono ?_; rintro e w' ⟨rfl, rfl⟩))
  go_ret2
  exact ⟨rfl, Below.refl _ _⟩
theorem impl_SumOfCubes_yes (k : Int) (w : World) (h3 : 0 ≤ k) (h4 : k ≤ 2000) :
    Calls Try.prog 49 #[.int .i64 k] w fun e w' => e = .returned (.tuple #[.int .i64 (num 3 k * num 3 k), .bool true]) ∧ Below w.heap.size w w' := by
  have t0 := num_nn 3 k (by omega)
  have t1 : num 3 k ≤ 2001000 := by
    have := num_mono_le 3 (by omega) h3 h4
    have e : num 3 2000 = 2001000 := by decide
    omega
  have u0 : 0 ≤ num 3 k * num 3 k := Int.mul_nonneg t0 t0
  have u1 : num 3 k * num 3 k ≤ 2001000 * 2001000 := Int.mul_le_mul t1 t1 t0 (by omega)
  have R : RuleBds 0 (4 - 3) (3 - 2) k (num 3 k) := so_rule_bds 3 k (by omega) (by omega) (by omega) (by omega)
  go_enter Try.func49, Try.ntmps49
  go_wp2_with (first
    | (go_at_call 146; refine (areLayers_yes _ _ _ h3 h4).mono ?_; rintro e w' ⟨rfl, rfl⟩)
    | (go_at_call 123; refine (polygonRule_any 3 _ (by omega) (by omega)).mono ?_; rintro e w1 ⟨rfl, hb1⟩)
    | (go_at_call 128; refine (numberAt_any _ _ _ _ _ _ R).mono ?_; rintro e w2 ⟨rfl, hb2⟩))
  go_ret2
  exact ⟨rfl, hb1.trans (hb2.mono hb1.size)⟩
end Go.Proofs.Ytppdjjdejggjaaa
