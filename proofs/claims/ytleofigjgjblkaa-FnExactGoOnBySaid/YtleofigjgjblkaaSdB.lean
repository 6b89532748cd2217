/- Chapter 4: pairs and rules of arithmetic: what the specification hands back, and the laws' frames. -/
import Derived.Test.YtleofigjgjblkaaSdA
import Derived.Test.YtleofigjgjblkaaSuP
import Derived.OwnWalk
namespace Go.Proofs.Ytleofigjgjblkaa
open Go.ChangeShapes Go.WideShapes Go.ChangeAt Go.RowKit

theorem spec_TwicePair_no (k : Int) (w : World) (h : k < 0 ∨ 12 < k) :
    Calls Try.prog 30 #[.int .i64 k] w fun e w' => e = .returned (.tuple #[.int .i64 0, .int .i64 0, .bool false]) ∧ Below w.heap.size w w' := by
  have H : Hid (k < 0 ∨ 12 < k) := Lib.hid (by omega)
  clear h
  go_enter Try.func30, Try.ntmps30
  go_wp2_with (first
    | (go_at_call 61; refine (sdK_no _ _ H.out).mono ?_; rintro e w' ⟨rfl, rfl⟩))
  go_ret3
  exact ⟨rfl, Below.refl _ _⟩
theorem spec_TriangleSquare_no (k : Int) (w : World) (h : k < 0 ∨ 12 < k) :
    Calls Try.prog 32 #[.int .i64 k] w fun e w' => e = .returned (.tuple #[.int .i64 0, .bool false]) ∧ Below w.heap.size w w' := by
  have H : Hid (k < 0 ∨ 12 < k) := Lib.hid (by omega)
  clear h
  go_enter Try.func32, Try.ntmps32
  go_wp2_with (first
    | (go_at_call 61; refine (sdK_no _ _ H.out).mono ?_; rintro e w' ⟨rfl, rfl⟩))
  go_ret2
  exact ⟨rfl, Below.refl _ _⟩
theorem spec_TriangleSquarePlaces_no (k : Int) (w : World) (h : k < 0 ∨ 12 < k) :
    Calls Try.prog 34 #[.int .i64 k] w fun e w' => e = .returned (.tuple #[.int .i64 0, .int .i64 0, .bool false]) ∧ Below w.heap.size w w' := by
  have H : Hid (k < 0 ∨ 12 < k) := Lib.hid (by omega)
  clear h
  go_enter Try.func34, Try.ntmps34
  go_wp2_with (first
    | (go_at_call 61; refine (sdK_no _ _ H.out).mono ?_; rintro e w' ⟨rfl, rfl⟩))
  go_ret3
  exact ⟨rfl, Below.refl _ _⟩
theorem spec_TwiceTriangle_no (k : Int) (w : World) (h : k < 0 ∨ 12 < k) :
    Calls Try.prog 36 #[.int .i64 k] w fun e w' => e = .returned (.tuple #[.int .i64 0, .int .i64 0, .bool false]) ∧ Below w.heap.size w w' := by
  have H : Hid (k < 0 ∨ 12 < k) := Lib.hid (by omega)
  clear h
  go_enter Try.func36, Try.ntmps36
  go_wp2_with (first
    | (go_at_call 61; refine (sdK_no _ _ H.out).mono ?_; rintro e w' ⟨rfl, rfl⟩))
  go_ret3
  exact ⟨rfl, Below.refl _ _⟩
theorem spec_NearRight_no (k : Int) (w : World) (h : k < 0 ∨ 12 < k) :
    Calls Try.prog 38 #[.int .i64 k] w (ResI false [] w) := by
  have H : Hid (k < 0 ∨ 12 < k) := Lib.hid (by omega)
  clear h
  go_enter Try.func38, Try.ntmps38
  go_wp2_with (first
    | (go_at_call 61; refine (sdK_no _ _ H.out).mono ?_; rintro e w' ⟨rfl, rfl⟩))
  go_ret2
  exact resI_nil (Below.refl _ _)
theorem spec_TwicePair_yes (K : Nat) (hK : K ≤ 12) (w : World) :
    Calls Try.prog 30 #[.int .i64 K] w fun e w' => e = .returned (.tuple #[.int .i64 (tx K), .int .i64 (ty K), .bool true]) ∧ Below w.heap.size w w' := by
  have i1 : (0 : Int) ≤ (K : Int) := by omega
  have i2 : (K : Int) ≤ 12 := by omega
  have HP := Lib.hid fun w => sdPair_any K w (by omega)
  go_enter Try.func30, Try.ntmps30
  go_wp2_with (first
    | (go_at_call 61; refine (sdK_yes _ _ i1 i2).mono ?_; rintro e w' ⟨rfl, rfl⟩)
    | (go_at_call 62; refine (HP.out _).mono ?_; rintro e w' ⟨rfl, rfl⟩))
  go_ret3
  exact ⟨rfl, Below.refl _ _⟩
theorem spec_TriangleSquare_yes (K : Nat) (hK : K ≤ 12) (w : World) :
    Calls Try.prog 32 #[.int .i64 K] w fun e w' => e = .returned (.tuple #[.int .i64 (tx K * ty K * tx K * ty K), .bool true]) ∧ Below w.heap.size w w' := by
  have i1 : (0 : Int) ≤ (K : Int) := by omega
  have i2 : (K : Int) ≤ 12 := by omega
  have HP := Lib.hid fun w => sdPair_any K w (by omega)
  obtain ⟨b0, b1, b2, b3, b4, b5, b6, b7⟩ := tp_prod K hK
  obtain ⟨a0, a1, a2, a3⟩ := tp_12 K hK
  have e1 : 0 ≤ tx K * ty K * tx K := Int.mul_nonneg b0 (by omega)
  have e2 : tx K * ty K * tx K ≤ 271669860 * 19601 := Int.mul_le_mul b1 a1 (by omega) (by omega)
  have e3 : 0 ≤ tx K * ty K * tx K * ty K := Int.mul_nonneg e1 a2
  have e4 : tx K * ty K * tx K * ty K ≤ 271669860 * 19601 * 13860 := Int.mul_le_mul e2 a3 a2 (by omega)
  go_enter Try.func32, Try.ntmps32
  go_wp2_with (first
    | (go_at_call 61; refine (sdK_yes _ _ i1 i2).mono ?_; rintro e w' ⟨rfl, rfl⟩)
    | (go_at_call 62; refine (HP.out _).mono ?_; rintro e w' ⟨rfl, rfl⟩))
  go_ret2
  exact ⟨rfl, Below.refl _ _⟩
theorem l1Least_any' (a b : Int) (w : World) :
    Calls Try.prog 65 #[.int .i64 a, .int .i64 b] w fun e w' => e = .returned (.int .i64 (min a b)) ∧ w = w' := by
  by_cases h : a < b
  · have e : min a b = a := by omega
    have H := Lib.hid e
    clear e
    go_enter Try.func65, Try.ntmps65
    go_wp2
    go_ret
    exact ⟨by rw [H.out]; rfl, rfl⟩
  · have e : min a b = b := by omega
    have H := Lib.hid e
    clear e
    go_enter Try.func65, Try.ntmps65
    go_wp2
    go_ret
    exact ⟨by rw [H.out]; rfl, rfl⟩
theorem spec_TriangleSquarePlaces_yes (K : Nat) (hK : K ≤ 12) (w : World) :
    Calls Try.prog 34 #[.int .i64 K] w fun e w' => e = .returned (.tuple #[.int .i64 (min (tx K * tx K) (2 * ty K * ty K)), .int .i64 (tx K * ty K), .bool true]) ∧ Below w.heap.size w w' := by
  have i1 : (0 : Int) ≤ (K : Int) := by omega
  have i2 : (K : Int) ≤ 12 := by omega
  have HP := Lib.hid fun w => sdPair_any K w (by omega)
  obtain ⟨b0, b1, b2, b3, b4, b5, b6, b7⟩ := tp_prod K hK
  obtain ⟨a0, a1, a2, a3⟩ := tp_12 K hK
  go_enter Try.func34, Try.ntmps34
  go_wp2_with (first
    | (go_at_call 61; refine (sdK_yes _ _ i1 i2).mono ?_; rintro e w' ⟨rfl, rfl⟩)
    | (go_at_call 62; refine (HP.out _).mono ?_; rintro e w' ⟨rfl, rfl⟩)
    | (go_at_call 65; refine (l1Least_any' _ _ _).mono ?_; rintro e w' ⟨rfl, rfl⟩))
  go_ret3
  exact ⟨rfl, Below.refl _ _⟩
theorem spec_TwiceTriangle_yes (K : Nat) (hK : K ≤ 12) (w : World) :
    Calls Try.prog 36 #[.int .i64 K] w fun e w' => e = .returned (.tuple #[.int .i64 ((tx (2 * K + 1) - 1) / 2), .int .i64 ((ty (2 * K + 1) - 1) / 2), .bool true]) ∧ Below w.heap.size w w' := by
  have i1 : (0 : Int) ≤ (K : Int) := by omega
  have i2 : (K : Int) ≤ 12 := by omega
  have HP : ∀ w : World, Hid (Calls Try.prog 62 #[.int .i64 (2 * (K : Int) + 1)] w fun e w' => e = .returned (.tuple #[.int .i64 (tx (2 * K + 1)), .int .i64 (ty (2 * K + 1))]) ∧ w = w') := fun w => Lib.hid (by
    have h := sdPair_any (2 * K + 1) w (by omega)
    push_cast at h
    exact h)
  obtain ⟨a0, a1, a2, a3⟩ := tp_25 (2 * K + 1) (by omega)
  have hy1 : 1 ≤ ty (2 * K + 1) := by rw [ty_succ]; have := tp_nn (2 * K); omega
  generalize tx (2 * K + 1) = x at *
  generalize ty (2 * K + 1) = y at *
  go_enter Try.func36, Try.ntmps36
  go_wp2_with (first
    | (go_at_call 61; refine (sdK_yes _ _ i1 i2).mono ?_; rintro e w' ⟨rfl, rfl⟩)
    | (go_at_call 62; refine ((HP _).out).mono ?_; rintro e w' ⟨rfl, rfl⟩))
  go_ret3
  exact ⟨rfl, Below.refl _ _⟩
theorem spec_HexagonsAre_no (n : Int) (w : World) (h : n < 1 ∨ 50000 < n) :
    Calls Try.prog 45 #[.int .i64 n] w fun e w' => e = .returned (.tuple #[.int .i64 0, .bool false]) ∧ Below w.heap.size w w' := by
  have H : Hid (n < 1 ∨ 50000 < n) := Lib.hid (by omega)
  clear h
  go_enter Try.func45, Try.ntmps45
  go_wp2_with (first
    | (go_at_call 50; refine (in_no _ _ _ _ H.out).mono ?_; rintro e w' ⟨rfl, rfl⟩))
  go_ret2
  exact ⟨rfl, Below.refl _ _⟩
theorem spec_HexagonsAre_yes (n : Int) (h3 : 1 ≤ n) (h4 : n ≤ 50000) (w : World) :
    Calls Try.prog 45 #[.int .i64 n] w fun e w' => e = .returned (.tuple #[.int .i64 (2 * n - 1), .bool true]) ∧ Below w.heap.size w w' := by
  go_enter Try.func45, Try.ntmps45
  go_wp2_with (first
    | (go_at_call 50; refine (in_yes _ _ _ _ h3 h4).mono ?_; rintro e w' ⟨rfl, rfl⟩))
  go_ret2
  exact ⟨rfl, Below.refl _ _⟩
theorem spec_SquareOfOdd_no (k : Int) (w : World) (h : k < 0 ∨ 100000 < k) :
    Calls Try.prog 47 #[.int .i64 k] w fun e w' => e = .returned (.tuple #[.int .i64 0, .int .i64 0, .bool false]) ∧ Below w.heap.size w w' := by
  have H : Hid (k < 0 ∨ 100000 < k) := Lib.hid (by omega)
  clear h
  go_enter Try.func47, Try.ntmps47
  go_wp2_with (first
    | (go_at_call 50; refine (in_no _ _ _ _ H.out).mono ?_; rintro e w' ⟨rfl, rfl⟩))
  go_ret3
  exact ⟨rfl, Below.refl _ _⟩
theorem spec_SquareOfOdd_yes (k : Int) (h3 : 0 ≤ k) (h4 : k ≤ 100000) (w : World) :
    Calls Try.prog 47 #[.int .i64 k] w fun e w' => e = .returned (.tuple #[.int .i64 ((2 * k + 1) * (2 * k + 1)), .int .i64 k, .bool true]) ∧ Below w.heap.size w w' := by
  have a0 : 0 ≤ (2 * k + 1) * (2 * k + 1) := Int.mul_nonneg (by omega) (by omega)
  have a1 : (2 * k + 1) * (2 * k + 1) ≤ 200001 * 200001 := Int.mul_le_mul (by omega) (by omega) (by omega) (by omega)
  go_enter Try.func47, Try.ntmps47
  go_wp2_with (first
    | (go_at_call 50; refine (in_yes _ _ _ _ h3 h4).mono ?_; rintro e w' ⟨rfl, rfl⟩))
  go_ret3
  exact ⟨rfl, Below.refl _ _⟩
set_option maxHeartbeats 800000 in
theorem lawN_TriangleSquare (k : Int) (ok : Bool) (r : Int)
    (hs : ∀ w : World, Calls Try.prog 32 #[.int .i64 k] w fun e w' => e = .returned (.tuple #[.int .i64 r, .bool ok]) ∧ Below w.heap.size w w')
    (hi : ∀ w : World, Calls Try.prog 33 #[.int .i64 k] w fun e w' => e = .returned (.tuple #[.int .i64 r, .bool ok]) ∧ Below w.heap.size w w') (w : World) :
    Calls Try.prog 9 #[.int .i64 k] w fun e w' => e = .returned (.bool true) ∧ Below w.heap.size w w' := by
  have HS := Lib.hid hs
  have HI := Lib.hid hi
  clear hs hi
  go_enter Try.func9, Try.ntmps9
  go_wp2_with (first
    | (go_at_call 32; refine (HS.out _).mono ?_; rintro e w1 ⟨rfl, hb1⟩)
    | (go_at_call 33; refine (HI.out _).mono ?_; rintro e w2 ⟨rfl, hb2⟩))
  go_ret
  exact ⟨rfl, hb1.trans (hb2.mono hb1.size)⟩
set_option maxHeartbeats 800000 in
theorem lawN_HexagonsAre (n : Int) (ok : Bool) (r : Int)
    (hs : ∀ w : World, Calls Try.prog 45 #[.int .i64 n] w fun e w' => e = .returned (.tuple #[.int .i64 r, .bool ok]) ∧ Below w.heap.size w w')
    (hi : ∀ w : World, Calls Try.prog 46 #[.int .i64 n] w fun e w' => e = .returned (.tuple #[.int .i64 r, .bool ok]) ∧ Below w.heap.size w w') (w : World) :
    Calls Try.prog 15 #[.int .i64 n] w fun e w' => e = .returned (.bool true) ∧ Below w.heap.size w w' := by
  have HS := Lib.hid hs
  have HI := Lib.hid hi
  clear hs hi
  go_enter Try.func15, Try.ntmps15
  go_wp2_with (first
    | (go_at_call 45; refine (HS.out _).mono ?_; rintro e w1 ⟨rfl, hb1⟩)
    | (go_at_call 46; refine (HI.out _).mono ?_; rintro e w2 ⟨rfl, hb2⟩))
  go_ret
  exact ⟨rfl, hb1.trans (hb2.mono hb1.size)⟩
set_option maxHeartbeats 800000 in
theorem lawN_TwicePair (k : Int) (a b : Int) (ok : Bool)
    (hs : ∀ w : World, Calls Try.prog 30 #[.int .i64 k] w fun e w' => e = .returned (.tuple #[.int .i64 a, .int .i64 b, .bool ok]) ∧ Below w.heap.size w w')
    (hi : ∀ w : World, Calls Try.prog 31 #[.int .i64 k] w fun e w' => e = .returned (.tuple #[.int .i64 a, .int .i64 b, .bool ok]) ∧ Below w.heap.size w w') (w : World) :
    Calls Try.prog 8 #[.int .i64 k] w fun e w' => e = .returned (.bool true) ∧ Below w.heap.size w w' := by
  have HS := Lib.hid hs
  have HI := Lib.hid hi
  clear hs hi
  go_enter Try.func8, Try.ntmps8
  go_wp2_with (first
    | (go_at_call 30; refine (HS.out _).mono ?_; rintro e w1 ⟨rfl, hb1⟩)
    | (go_at_call 31; refine (HI.out _).mono ?_; rintro e w2 ⟨rfl, hb2⟩))
  go_ret
  exact ⟨rfl, hb1.trans (hb2.mono hb1.size)⟩
set_option maxHeartbeats 800000 in
theorem lawN_TriangleSquarePlaces (k : Int) (a b : Int) (ok : Bool)
    (hs : ∀ w : World, Calls Try.prog 34 #[.int .i64 k] w fun e w' => e = .returned (.tuple #[.int .i64 a, .int .i64 b, .bool ok]) ∧ Below w.heap.size w w')
    (hi : ∀ w : World, Calls Try.prog 35 #[.int .i64 k] w fun e w' => e = .returned (.tuple #[.int .i64 a, .int .i64 b, .bool ok]) ∧ Below w.heap.size w w') (w : World) :
    Calls Try.prog 10 #[.int .i64 k] w fun e w' => e = .returned (.bool true) ∧ Below w.heap.size w w' := by
  have HS := Lib.hid hs
  have HI := Lib.hid hi
  clear hs hi
  go_enter Try.func10, Try.ntmps10
  go_wp2_with (first
    | (go_at_call 34; refine (HS.out _).mono ?_; rintro e w1 ⟨rfl, hb1⟩)
    | (go_at_call 35; refine (HI.out _).mono ?_; rintro e w2 ⟨rfl, hb2⟩))
  go_ret
  exact ⟨rfl, hb1.trans (hb2.mono hb1.size)⟩
set_option maxHeartbeats 800000 in
theorem lawN_TwiceTriangle (k : Int) (a b : Int) (ok : Bool)
    (hs : ∀ w : World, Calls Try.prog 36 #[.int .i64 k] w fun e w' => e = .returned (.tuple #[.int .i64 a, .int .i64 b, .bool ok]) ∧ Below w.heap.size w w')
    (hi : ∀ w : World, Calls Try.prog 37 #[.int .i64 k] w fun e w' => e = .returned (.tuple #[.int .i64 a, .int .i64 b, .bool ok]) ∧ Below w.heap.size w w') (w : World) :
    Calls Try.prog 11 #[.int .i64 k] w fun e w' => e = .returned (.bool true) ∧ Below w.heap.size w w' := by
  have HS := Lib.hid hs
  have HI := Lib.hid hi
  clear hs hi
  go_enter Try.func11, Try.ntmps11
  go_wp2_with (first
    | (go_at_call 36; refine (HS.out _).mono ?_; rintro e w1 ⟨rfl, hb1⟩)
    | (go_at_call 37; refine (HI.out _).mono ?_; rintro e w2 ⟨rfl, hb2⟩))
  go_ret
  exact ⟨rfl, hb1.trans (hb2.mono hb1.size)⟩
set_option maxHeartbeats 800000 in
theorem lawN_SquareOfOdd (k : Int) (a b : Int) (ok : Bool)
    (hs : ∀ w : World, Calls Try.prog 47 #[.int .i64 k] w fun e w' => e = .returned (.tuple #[.int .i64 a, .int .i64 b, .bool ok]) ∧ Below w.heap.size w w')
    (hi : ∀ w : World, Calls Try.prog 48 #[.int .i64 k] w fun e w' => e = .returned (.tuple #[.int .i64 a, .int .i64 b, .bool ok]) ∧ Below w.heap.size w w') (w : World) :
    Calls Try.prog 16 #[.int .i64 k] w fun e w' => e = .returned (.bool true) ∧ Below w.heap.size w w' := by
  have HS := Lib.hid hs
  have HI := Lib.hid hi
  clear hs hi
  go_enter Try.func16, Try.ntmps16
  go_wp2_with (first
    | (go_at_call 47; refine (HS.out _).mono ?_; rintro e w1 ⟨rfl, hb1⟩)
    | (go_at_call 48; refine (HI.out _).mono ?_; rintro e w2 ⟨rfl, hb2⟩))
  go_ret
  exact ⟨rfl, hb1.trans (hb2.mono hb1.size)⟩

def nrt (K : Nat) : List Int := [(tx (2 * K + 1) - 1) / 2, (tx (2 * K + 1) - 1) / 2 + 1, ty (2 * K + 1)]
theorem spec_NearRight_yes (K : Nat) (hK : K ≤ 12) (w : World) :
    Calls Try.prog 38 #[.int .i64 K] w (ResI true (nrt K) w) := by
  have i1 : (0 : Int) ≤ (K : Int) := by omega
  have i2 : (K : Int) ≤ 12 := by omega
  have HP : ∀ w : World, Hid (Calls Try.prog 62 #[.int .i64 (2 * (K : Int) + 1)] w fun e w' => e = .returned (.tuple #[.int .i64 (tx (2 * K + 1)), .int .i64 (ty (2 * K + 1))]) ∧ w = w') := fun w => Lib.hid (by
    have h := sdPair_any (2 * K + 1) w (by omega)
    push_cast at h
    exact h)
  obtain ⟨a0, a1, a2, a3⟩ := tp_25 (2 * K + 1) (by omega)
  have HN : Hid (nrt K = [(tx (2 * K + 1) - 1) / 2, (tx (2 * K + 1) - 1) / 2 + 1, ty (2 * K + 1)]) := Lib.hid rfl
  generalize tx (2 * K + 1) = x at *
  generalize ty (2 * K + 1) = y at *
  go_enter Try.func38, Try.ntmps38
  go_wp2_with (first
    | (go_at_call 61; refine (sdK_yes _ _ i1 i2).mono ?_; rintro e w' ⟨rfl, rfl⟩)
    | (go_at_call 62; refine ((HP _).out).mono ?_; rintro e w' ⟨rfl, rfl⟩))
  go_ret2
  rw [HN.out]
  exact ⟨some ⟨w.heap.size, 0, none⟩, 3, rfl, own_of_row (World.ownsRow_lit w (base := w.heap.size) (e := 3) (size := 1) #[.int .i64 ((x - 1) / 2), .int .i64 ((x - 1) / 2 + 1), .int .i64 y] 3 (Nat.le_refl _) (by unfold maxLen; omega) rfl), (Below.refl _ _).alloc (Nat.le_refl _) _⟩
set_option maxHeartbeats 800000 in
theorem lawI_NearRight (k : Int) (ok : Bool) (xs : List Int) (hl : xs.length ≤ 1000000000) 
    (hs : ∀ w : World, Calls Try.prog 38 #[.int .i64 k] w (ResI ok xs w))
    (hi : ∀ w : World, Calls Try.prog 39 #[.int .i64 k] w (ResI ok xs w)) (w : World) :
    Calls Try.prog 12 #[.int .i64 k] w fun e w' => e = .returned (.bool true) ∧ Below w.heap.size w w' := by
  have HS := Lib.hid hs
  have HI := Lib.hid hi
  clear hs hi
  obtain ⟨n, hn⟩ : ∃ n, n = xs.length := ⟨_, rfl⟩
  have HN := Lib.hid hn.symm
  rw [← hn] at hl
  clear hn
  go_enter Try.func12, Try.ntmps12
  go_wp2_with fail
  refine (HS.out _).mono ?_
  rintro e w1 ⟨A1, c1, rfl, o1, b1⟩
  rw [HN.out]
  go_wp2_with fail
  refine (HI.out _).mono ?_
  rintro e w2 ⟨A2, c2, rfl, o2, b2⟩
  rw [HN.out]
  have o1a : Own w2 w.heap.size w1.heap.size A1 (i64s xs) := o1.below b2 (Nat.le_refl _)
  clear o1
  go_wp2_with fail
  refine (eqIntS_same A2 A1 n c2 c1 _ _ _ _ xs _ HN.out hl o2 o1a).mono ?_
  rintro e w3 ⟨rfl, q3, rfl⟩
  go_wp2_with fail
  refine (markIntS_any A2 n c2 _ _ (i64s xs) 1 _ (by simp [HN.out]) hl (by omega) (by omega) (o2.drewN _)).mono ?_
  rintro e w4 ⟨rfl, o3, b4⟩
  have o1b : Own w4 w.heap.size w1.heap.size A1 (i64s xs) := (o1a.drewN _).below b4 (Nat.le_refl _)
  clear o1a o2
  go_wp2_with fail
  refine (heldIntS_any A2 n c2 _ _ 1 _ hl (by omega) (by omega) o3).mono ?_
  rintro e w5 ⟨rfl, rfl⟩
  go_wp2_with fail
  refine (HI.out _).mono ?_
  rintro e w6 ⟨A6, c6, rfl, o6, b6⟩
  rw [HN.out]
  have o1c : Own w6 w.heap.size w1.heap.size A1 (i64s xs) := o1b.below b6 (Nat.le_trans b2.size b4.size)
  have o3c : Own w6 w1.heap.size w2.heap.size A2 (i64s (marks 1 n)) := o3.below b6 b4.size
  clear o1b o3
  go_wp2_with fail
  refine (eqIntS_same A6 A1 n c6 c1 _ _ _ _ xs _ HN.out hl o6 o1c).mono ?_
  rintro e w7 ⟨rfl, q7, rfl⟩
  go_wp2_with fail
  refine (heldIntS_any A2 n c2 _ _ 1 _ hl (by omega) (by omega) (o3c.drewN _)).mono ?_
  rintro e w8 ⟨rfl, rfl⟩
  go_wp2
  go_ret
  have s2 : w.heap.size ≤ w1.heap.size := b1.size
  have s4 : w.heap.size ≤ w4.heap.size := Nat.le_trans (Nat.le_trans b1.size b2.size) b4.size
  exact ⟨rfl, below_drewN ((b1.trans (b2.mono s2)).trans ((below_drewN (Below.refl _ _) _).trans ((b4.mono s2).trans (b6.mono s4)))) _⟩
end Go.Proofs.Ytleofigjgjblkaa
