/- Chapter 4: pairs and rules of arithmetic: what the specification hands back, and the laws' frames. -/
import Derived.Test.YtmpeembnjpgcgaaSdA
import Derived.Test.YtmpeembnjpgcgaaSuP
import Derived.OwnWalk
namespace Go.Proofs.Ytmpeembnjpgcgaa
open Go.ChangeShapes Go.WideShapes Go.ChangeAt Go.RowKit

theorem spec_TwicePair_no (k : Int) (w : World) (h : k < 0 ∨ 12 < k) :
    Calls Try.prog 6 #[.int .i64 k] w fun e w' => e = .returned (.tuple #[.int .i64 0, .int .i64 0, .bool false]) ∧ Below w.heap.size w w' := by
  have H : Hid (k < 0 ∨ 12 < k) := Lib.hid (by omega)
  clear h
  go_enter Try.func6, Try.ntmps6
  go_wp2_with (first
    | (go_at_call 33; refine (sdK_no _ _ H.out).mono ?_; rintro e w' ⟨rfl, rfl⟩))
  go_ret3
  exact ⟨rfl, Below.refl _ _⟩
theorem spec_TriangleSquare_no (k : Int) (w : World) (h : k < 0 ∨ 12 < k) :
    Calls Try.prog 8 #[.int .i64 k] w fun e w' => e = .returned (.tuple #[.int .i64 0, .bool false]) ∧ Below w.heap.size w w' := by
  have H : Hid (k < 0 ∨ 12 < k) := Lib.hid (by omega)
  clear h
  go_enter Try.func8, Try.ntmps8
  go_wp2_with (first
    | (go_at_call 33; refine (sdK_no _ _ H.out).mono ?_; rintro e w' ⟨rfl, rfl⟩))
  go_ret2
  exact ⟨rfl, Below.refl _ _⟩
theorem spec_TriangleSquarePlaces_no (k : Int) (w : World) (h : k < 0 ∨ 12 < k) :
    Calls Try.prog 10 #[.int .i64 k] w fun e w' => e = .returned (.tuple #[.int .i64 0, .int .i64 0, .bool false]) ∧ Below w.heap.size w w' := by
  have H : Hid (k < 0 ∨ 12 < k) := Lib.hid (by omega)
  clear h
  go_enter Try.func10, Try.ntmps10
  go_wp2_with (first
    | (go_at_call 33; refine (sdK_no _ _ H.out).mono ?_; rintro e w' ⟨rfl, rfl⟩))
  go_ret3
  exact ⟨rfl, Below.refl _ _⟩
theorem spec_TwiceTriangle_no (k : Int) (w : World) (h : k < 0 ∨ 12 < k) :
    Calls Try.prog 12 #[.int .i64 k] w fun e w' => e = .returned (.tuple #[.int .i64 0, .int .i64 0, .bool false]) ∧ Below w.heap.size w w' := by
  have H : Hid (k < 0 ∨ 12 < k) := Lib.hid (by omega)
  clear h
  go_enter Try.func12, Try.ntmps12
  go_wp2_with (first
    | (go_at_call 33; refine (sdK_no _ _ H.out).mono ?_; rintro e w' ⟨rfl, rfl⟩))
  go_ret3
  exact ⟨rfl, Below.refl _ _⟩
theorem spec_NearRight_no (k : Int) (w : World) (h : k < 0 ∨ 12 < k) :
    Calls Try.prog 14 #[.int .i64 k] w (ResI false [] w) := by
  have H : Hid (k < 0 ∨ 12 < k) := Lib.hid (by omega)
  clear h
  go_enter Try.func14, Try.ntmps14
  go_wp2_with (first
    | (go_at_call 33; refine (sdK_no _ _ H.out).mono ?_; rintro e w' ⟨rfl, rfl⟩))
  go_ret2
  exact resI_nil (Below.refl _ _)
theorem spec_TwicePair_yes (K : Nat) (hK : K ≤ 12) (w : World) :
    Calls Try.prog 6 #[.int .i64 K] w fun e w' => e = .returned (.tuple #[.int .i64 (tx K), .int .i64 (ty K), .bool true]) ∧ Below w.heap.size w w' := by
  have i1 : (0 : Int) ≤ (K : Int) := by omega
  have i2 : (K : Int) ≤ 12 := by omega
  have HP := Lib.hid fun w => sdPair_any K w (by omega)
  go_enter Try.func6, Try.ntmps6
  go_wp2_with (first
    | (go_at_call 33; refine (sdK_yes _ _ i1 i2).mono ?_; rintro e w' ⟨rfl, rfl⟩)
    | (go_at_call 34; refine (HP.out _).mono ?_; rintro e w' ⟨rfl, rfl⟩))
  go_ret3
  exact ⟨rfl, Below.refl _ _⟩
theorem spec_TriangleSquare_yes (K : Nat) (hK : K ≤ 12) (w : World) :
    Calls Try.prog 8 #[.int .i64 K] w fun e w' => e = .returned (.tuple #[.int .i64 (tx K * ty K * tx K * ty K), .bool true]) ∧ Below w.heap.size w w' := by
  have i1 : (0 : Int) ≤ (K : Int) := by omega
  have i2 : (K : Int) ≤ 12 := by omega
  have HP := Lib.hid fun w => sdPair_any K w (by omega)
  obtain ⟨b0, b1, b2, b3, b4, b5, b6, b7⟩ := tp_prod K hK
  obtain ⟨a0, a1, a2, a3⟩ := tp_12 K hK
  have e1 : 0 ≤ tx K * ty K * tx K := Int.mul_nonneg b0 (by omega)
  have e2 : tx K * ty K * tx K ≤ 271669860 * 19601 := Int.mul_le_mul b1 a1 (by omega) (by omega)
  have e3 : 0 ≤ tx K * ty K * tx K * ty K := Int.mul_nonneg e1 a2
  have e4 : tx K * ty K * tx K * ty K ≤ 271669860 * 19601 * 13860 := Int.mul_le_mul e2 a3 a2 (by omega)
  go_enter Try.func8, Try.ntmps8
  go_wp2_with (first
    | (go_at_call 33; refine (sdK_yes _ _ i1 i2).mono ?_; rintro e w' ⟨rfl, rfl⟩)
    | (go_at_call 34; refine (HP.out _).mono ?_; rintro e w' ⟨rfl, rfl⟩))
  go_ret2
  exact ⟨rfl, Below.refl _ _⟩
theorem l1Least_any' (a b : Int) (w : World) :
    Calls Try.prog 35 #[.int .i64 a, .int .i64 b] w fun e w' => e = .returned (.int .i64 (min a b)) ∧ w = w' := by
  by_cases h : a < b
  · have e : min a b = a := by omega
    have H := Lib.hid e
    clear e
    go_enter Try.func35, Try.ntmps35
    go_wp2
    go_ret
    exact ⟨by rw [H.out]; rfl, rfl⟩
  · have e : min a b = b := by omega
    have H := Lib.hid e
    clear e
    go_enter Try.func35, Try.ntmps35
    go_wp2
    go_ret
    exact ⟨by rw [H.out]; rfl, rfl⟩
theorem spec_TriangleSquarePlaces_yes (K : Nat) (hK : K ≤ 12) (w : World) :
    Calls Try.prog 10 #[.int .i64 K] w fun e w' => e = .returned (.tuple #[.int .i64 (min (tx K * tx K) (2 * ty K * ty K)), .int .i64 (tx K * ty K), .bool true]) ∧ Below w.heap.size w w' := by
  have i1 : (0 : Int) ≤ (K : Int) := by omega
  have i2 : (K : Int) ≤ 12 := by omega
  have HP := Lib.hid fun w => sdPair_any K w (by omega)
  obtain ⟨b0, b1, b2, b3, b4, b5, b6, b7⟩ := tp_prod K hK
  obtain ⟨a0, a1, a2, a3⟩ := tp_12 K hK
  go_enter Try.func10, Try.ntmps10
  go_wp2_with (first
    | (go_at_call 33; refine (sdK_yes _ _ i1 i2).mono ?_; rintro e w' ⟨rfl, rfl⟩)
    | (go_at_call 34; refine (HP.out _).mono ?_; rintro e w' ⟨rfl, rfl⟩)
    | (go_at_call 35; refine (l1Least_any' _ _ _).mono ?_; rintro e w' ⟨rfl, rfl⟩))
  go_ret3
  exact ⟨rfl, Below.refl _ _⟩
theorem spec_TwiceTriangle_yes (K : Nat) (hK : K ≤ 12) (w : World) :
    Calls Try.prog 12 #[.int .i64 K] w fun e w' => e = .returned (.tuple #[.int .i64 ((tx (2 * K + 1) - 1) / 2), .int .i64 ((ty (2 * K + 1) - 1) / 2), .bool true]) ∧ Below w.heap.size w w' := by
  have i1 : (0 : Int) ≤ (K : Int) := by omega
  have i2 : (K : Int) ≤ 12 := by omega
  have HP : ∀ w : World, Hid (Calls Try.prog 34 #[.int .i64 (2 * (K : Int) + 1)] w fun e w' => e = .returned (.tuple #[.int .i64 (tx (2 * K + 1)), .int .i64 (ty (2 * K + 1))]) ∧ w = w') := fun w => Lib.hid (by
    have h := sdPair_any (2 * K + 1) w (by omega)
    push_cast at h
    exact h)
  obtain ⟨a0, a1, a2, a3⟩ := tp_25 (2 * K + 1) (by omega)
  have hy1 : 1 ≤ ty (2 * K + 1) := by rw [ty_succ]; have := tp_nn (2 * K); omega
  generalize tx (2 * K + 1) = x at *
  generalize ty (2 * K + 1) = y at *
  go_enter Try.func12, Try.ntmps12
  go_wp2_with (first
    | (go_at_call 33; refine (sdK_yes _ _ i1 i2).mono ?_; rintro e w' ⟨rfl, rfl⟩)
    | (go_at_call 34; refine ((HP _).out).mono ?_; rintro e w' ⟨rfl, rfl⟩))
  go_ret3
  exact ⟨rfl, Below.refl _ _⟩
theorem spec_HexagonsAre_no (n : Int) (w : World) (h : n < 1 ∨ 50000 < n) :
    Calls Try.prog 21 #[.int .i64 n] w fun e w' => e = .returned (.tuple #[.int .i64 0, .bool false]) ∧ Below w.heap.size w w' := by
  have H : Hid (n < 1 ∨ 50000 < n) := Lib.hid (by omega)
  clear h
  go_enter Try.func21, Try.ntmps21
  go_wp2_with (first
    | (go_at_call 40; refine (in_no _ _ _ _ H.out).mono ?_; rintro e w' ⟨rfl, rfl⟩))
  go_ret2
  exact ⟨rfl, Below.refl _ _⟩
theorem spec_HexagonsAre_yes (n : Int) (h3 : 1 ≤ n) (h4 : n ≤ 50000) (w : World) :
    Calls Try.prog 21 #[.int .i64 n] w fun e w' => e = .returned (.tuple #[.int .i64 (2 * n - 1), .bool true]) ∧ Below w.heap.size w w' := by
  go_enter Try.func21, Try.ntmps21
  go_wp2_with (first
    | (go_at_call 40; refine (in_yes _ _ _ _ h3 h4).mono ?_; rintro e w' ⟨rfl, rfl⟩))
  go_ret2
  exact ⟨rfl, Below.refl _ _⟩
theorem spec_SquareOfOdd_no (k : Int) (w : World) (h : k < 0 ∨ 100000 < k) :
    Calls Try.prog 23 #[.int .i64 k] w fun e w' => e = .returned (.tuple #[.int .i64 0, .int .i64 0, .bool false]) ∧ Below w.heap.size w w' := by
  have H : Hid (k < 0 ∨ 100000 < k) := Lib.hid (by omega)
  clear h
  go_enter Try.func23, Try.ntmps23
  go_wp2_with (first
    | (go_at_call 40; refine (in_no _ _ _ _ H.out).mono ?_; rintro e w' ⟨rfl, rfl⟩))
  go_ret3
  exact ⟨rfl, Below.refl _ _⟩
theorem spec_SquareOfOdd_yes (k : Int) (h3 : 0 ≤ k) (h4 : k ≤ 100000) (w : World) :
    Calls Try.prog 23 #[.int .i64 k] w fun e w' => e = .returned (.tuple #[.int .i64 ((2 * k + 1) * (2 * k + 1)), .int .i64 k, .bool true]) ∧ Below w.heap.size w w' := by
  have a0 : 0 ≤ (2 * k + 1) * (2 * k + 1) := Int.mul_nonneg (by omega) (by omega)
  have a1 : (2 * k + 1) * (2 * k + 1) ≤ 200001 * 200001 := Int.mul_le_mul (by omega) (by omega) (by omega) (by omega)
  go_enter Try.func23, Try.ntmps23
  go_wp2_with (first
    | (go_at_call 40; refine (in_yes _ _ _ _ h3 h4).mono ?_; rintro e w' ⟨rfl, rfl⟩))
  go_ret3
  exact ⟨rfl, Below.refl _ _⟩
def nrt (K : Nat) : List Int := [(tx (2 * K + 1) - 1) / 2, (tx (2 * K + 1) - 1) / 2 + 1, ty (2 * K + 1)]
theorem spec_NearRight_yes (K : Nat) (hK : K ≤ 12) (w : World) :
    Calls Try.prog 14 #[.int .i64 K] w (ResI true (nrt K) w) := by
  have i1 : (0 : Int) ≤ (K : Int) := by omega
  have i2 : (K : Int) ≤ 12 := by omega
  have HP : ∀ w : World, Hid (Calls Try.prog 34 #[.int .i64 (2 * (K : Int) + 1)] w fun e w' => e = .returned (.tuple #[.int .i64 (tx (2 * K + 1)), .int .i64 (ty (2 * K + 1))]) ∧ w = w') := fun w => Lib.hid (by
    have h := sdPair_any (2 * K + 1) w (by omega)
    push_cast at h
    exact h)
  obtain ⟨a0, a1, a2, a3⟩ := tp_25 (2 * K + 1) (by omega)
  have HN : Hid (nrt K = [(tx (2 * K + 1) - 1) / 2, (tx (2 * K + 1) - 1) / 2 + 1, ty (2 * K + 1)]) := Lib.hid rfl
  generalize tx (2 * K + 1) = x at *
  generalize ty (2 * K + 1) = y at *
  go_enter Try.func14, Try.ntmps14
  go_wp2_with (first
    | (go_at_call 33; refine (sdK_yes _ _ i1 i2).mono ?_; rintro e w' ⟨rfl, rfl⟩)
    | (go_at_call 34; refine ((HP _).out).mono ?_; rintro e w' ⟨rfl, rfl⟩))
  go_ret2
  rw [HN.out]
  exact ⟨some ⟨w.heap.size, 0, none⟩, 3, rfl, own_of_row (World.ownsRow_lit w (base := w.heap.size) (e := 3) (size := 1) #[.int .i64 ((x - 1) / 2), .int .i64 ((x - 1) / 2 + 1), .int .i64 y] 3 (Nat.le_refl _) (by unfold maxLen; omega) rfl), (Below.refl _ _).alloc (Nat.le_refl _) _⟩
end Go.Proofs.Ytmpeembnjpgcgaa
