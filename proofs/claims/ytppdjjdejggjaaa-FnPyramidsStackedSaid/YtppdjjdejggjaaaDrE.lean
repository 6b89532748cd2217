/- The drawings for pyramids: whatever the bytes, numbers come out, and no old memory changes. -/
import Derived.Test.YtppdjjdejggjaaaDrD
import Derived.OwnWalk
namespace Go.Proofs.Ytppdjjdejggjaaa
open Go.ChangeShapes Go.WideShapes Go.ChangeAt Go.RowKit

theorem pyr_mid (s k : Int) (h1 : 2 ≤ s) (h2 : s ≤ 25) (h3 : 0 ≤ k) (h4 : k < 80) : 0 ≤ k * (k + 1) ∧ k * (k + 1) ≤ 6480 ∧ 0 ≤ (s - 2) * k ∧ (s - 2) * k ≤ 1840 ∧ 0 ≤ k * (k + 1) * ((s - 2) * k - (s - 5)) ∧ k * (k + 1) * ((s - 2) * k - (s - 5)) ≤ 20000000 := by
  have a := Int.mul_nonneg (a := k) (b := k + 1) h3 (by omega)
  have b : k * (k + 1) ≤ 80 * 81 := Int.mul_le_mul (by omega) (by omega) (by omega) (by omega)
  have c := Int.mul_nonneg (a := s - 2) (b := k) (by omega) h3
  have d : (s - 2) * k ≤ 23 * 80 := Int.mul_le_mul (by omega) (by omega) h3 (by omega)
  have e : k * (k + 1) * ((s - 2) * k - (s - 5)) ≤ 6480 * 1843 := by
    rcases Int.lt_or_le ((s - 2) * k - (s - 5)) 0 with h | h
    · have := Int.mul_nonneg (a := k * (k + 1)) (b := -((s - 2) * k - (s - 5))) a (by omega)
      have f : k * (k + 1) * -((s - 2) * k - (s - 5)) = -(k * (k + 1) * ((s - 2) * k - (s - 5))) := by grind
      omega
    · exact Int.mul_le_mul (by omega) (by omega) h (by omega)
  refine ⟨a, by omega, c, by omega, ?_, by omega⟩
  rcases Int.lt_or_le 0 k with h | h
  · refine Int.mul_nonneg a ?_
    have := Int.mul_nonneg (a := s - 2) (b := k - 1) (by omega) (by omega)
    have f : (s - 2) * (k - 1) = (s - 2) * k - (s - 2) := by grind
    omega
  · have : k = 0 := by omega
    subst this
    simp
set_option maxHeartbeats 800000 in
theorem soPyramid_some (s k : Int) (w : World) (h1 : 2 ≤ s) (h2 : s ≤ 25) (h3 : 0 ≤ k) (h4 : k < 80) :
    Calls Try.prog 148 #[.int .i64 s, .int .i64 k] w fun e w' => ∃ x : Int, e = .returned (.int .i64 x) ∧ (0 ≤ x ∧ x ≤ 20000000) ∧ w = w' := by
  obtain ⟨a0, a1, b0, b1, c0, c1⟩ := pyr_mid s k h1 h2 h3 h4
  go_enter Try.func148, Try.ntmps148
  go_wp2
  go_ret
  exact ⟨_, rfl, by omega, rfl⟩

set_option maxHeartbeats 3200000 in
set_option maxRecDepth 4000 in
theorem DrawPyramidNumber_any (A : Option Addr) (n c : Nat) (w : World) (h : Bys w A n) (hn : n ≤ 1000000000000) :
    Calls Try.prog 75 #[.slice A n c] w fun e w' => (∃ x y : Int, e = .returned (.tuple #[.int .i64 x, .int .i64 y])) ∧ Below w.heap.size w w' := by
  have HC := cur_new w A n c 84 h
  have HG : (w.alloc (.cells #[.slice A n c, .int .i64 0, .int .u64 0] 84)).grownBy (w.alloc (.cells #[.slice A n c, .int .i64 0, .int .u64 0] 84)) (some w.heap.size) := World.grownBy.refl _ _
  go_enter Try.func75, Try.ntmps75
  go_upto_region 2 with (fail)
  generalize hw0 : w.alloc (.cells #[.slice A n c, .int .i64 0, .int .u64 0] 84) = w0 at HC HG ⊢
  have HW := Lib.hid hw0
  clear hw0
  go_wp2_with fail
  refine (sides_any _ _ _ _ _ _ _ HC (by omega) hn).mono ?_
  rintro e w1 ⟨x, ⟨rfl, x0, x1⟩, hd⟩
  replace HC := hd.cur
  replace HG := grown_trans HG hd.grown
  clear hd
  go_wp2_with fail
  refine (layers_any _ _ _ _ _ _ _ HC (by omega) hn).mono ?_
  rintro e w1 ⟨y, rfl, hd⟩
  replace HC := hd.cur
  replace HG := grown_trans HG hd.grown
  clear hd
  go_wp2
  go_ret2
  exact ⟨⟨x, y, rfl⟩, drew_below (by rw [HW.out]; exact HG)⟩

set_option maxHeartbeats 3200000 in
set_option maxRecDepth 4000 in
theorem DrawFrustumNumber_any (A : Option Addr) (n c : Nat) (w : World) (h : Bys w A n) (hn : n ≤ 1000000000000) :
    Calls Try.prog 77 #[.slice A n c] w fun e w' => (∃ x y z : Int, e = .returned (.tuple #[.int .i64 x, .int .i64 y, .int .i64 z])) ∧ Below w.heap.size w w' := by
  have HC := cur_new w A n c 84 h
  have HG : (w.alloc (.cells #[.slice A n c, .int .i64 0, .int .u64 0] 84)).grownBy (w.alloc (.cells #[.slice A n c, .int .i64 0, .int .u64 0] 84)) (some w.heap.size) := World.grownBy.refl _ _
  go_enter Try.func77, Try.ntmps77
  go_upto_region 2 with (fail)
  generalize hw0 : w.alloc (.cells #[.slice A n c, .int .i64 0, .int .u64 0] 84) = w0 at HC HG ⊢
  have HW := Lib.hid hw0
  clear hw0
  go_wp2_with fail
  refine (sides_any _ _ _ _ _ _ _ HC (by omega) hn).mono ?_
  rintro e w1 ⟨x, ⟨rfl, x0, x1⟩, hd⟩
  replace HC := hd.cur
  replace HG := grown_trans HG hd.grown
  clear hd
  go_wp2_with fail
  refine (layers_any _ _ _ _ _ _ _ HC (by omega) hn).mono ?_
  rintro e w1 ⟨y, rfl, hd⟩
  replace HC := hd.cur
  replace HG := grown_trans HG hd.grown
  clear hd
  go_wp2_with fail
  refine (layers_any _ _ _ _ _ _ _ HC (by omega) hn).mono ?_
  rintro e w1 ⟨z, rfl, hd⟩
  replace HC := hd.cur
  replace HG := grown_trans HG hd.grown
  clear hd
  go_wp2
  go_ret3
  exact ⟨⟨x, y, z, rfl⟩, drew_below (by rw [HW.out]; exact HG)⟩

set_option maxHeartbeats 3200000 in
set_option maxRecDepth 4000 in
theorem DrawLayerList_any (A : Option Addr) (n c : Nat) (w : World) (h : Bys w A n) (hn : n ≤ 1000000000000) :
    Calls Try.prog 78 #[.slice A n c] w fun e w' => (∃ x y : Int, e = .returned (.tuple #[.int .i64 x, .int .i64 y])) ∧ Below w.heap.size w w' := by
  have HC := cur_new w A n c 84 h
  have HG : (w.alloc (.cells #[.slice A n c, .int .i64 0, .int .u64 0] 84)).grownBy (w.alloc (.cells #[.slice A n c, .int .i64 0, .int .u64 0] 84)) (some w.heap.size) := World.grownBy.refl _ _
  go_enter Try.func78, Try.ntmps78
  go_upto_region 2 with (fail)
  generalize hw0 : w.alloc (.cells #[.slice A n c, .int .i64 0, .int .u64 0] 84) = w0 at HC HG ⊢
  have HW := Lib.hid hw0
  clear hw0
  go_wp2_with fail
  refine (sides_any _ _ _ _ _ _ _ HC (by omega) hn).mono ?_
  rintro e w1 ⟨x, ⟨rfl, x0, x1⟩, hd⟩
  replace HC := hd.cur
  replace HG := grown_trans HG hd.grown
  clear hd
  go_wp2_with fail
  refine (among_any _ _ _ _ _ _ _ 8 _ [0, 1, 2, 5, 20, 200, 201, -1] _ _ _ (HC.alloc' _) (by omega) hn rfl (by omega) (by omega) (own_new _ [0, 1, 2, 5, 20, 200, 201, -1] _) (Or.inl HC.lt) (Nat.le_refl _)).mono ?_
  rintro e w1 ⟨y, rfl, ym, hd⟩
  replace HC := hd.cur
  replace HG := grown_trans (grown_alloc HG _) hd.grown
  clear hd
  go_wp2
  go_ret2
  exact ⟨⟨x, y, rfl⟩, drew_below (by rw [HW.out]; exact HG)⟩

set_option maxHeartbeats 3200000 in
set_option maxRecDepth 4000 in
theorem DrawCannonballs_any (A : Option Addr) (n c : Nat) (w : World) (h : Bys w A n) (hn : n ≤ 1000000000000) :
    Calls Try.prog 79 #[.slice A n c] w fun e w' => (∃ x y z : Int, e = .returned (.tuple #[.int .i64 x, .int .i64 y, .int .i64 z])) ∧ Below w.heap.size w w' := by
  have HC := cur_new w A n c 84 h
  have HG : (w.alloc (.cells #[.slice A n c, .int .i64 0, .int .u64 0] 84)).grownBy (w.alloc (.cells #[.slice A n c, .int .i64 0, .int .u64 0] 84)) (some w.heap.size) := World.grownBy.refl _ _
  go_enter Try.func79, Try.ntmps79
  go_upto_region 2 with (fail)
  generalize hw0 : w.alloc (.cells #[.slice A n c, .int .i64 0, .int .u64 0] 84) = w0 at HC HG ⊢
  have HW := Lib.hid hw0
  clear hw0
  go_wp2_with fail
  refine (sides_any _ _ _ _ _ _ _ HC (by omega) hn).mono ?_
  rintro e w1 ⟨x, ⟨rfl, x0, x1⟩, hd⟩
  replace HC := hd.cur
  replace HG := grown_trans HG hd.grown
  clear hd
  go_wp2_with fail
  refine (sides_any _ _ _ _ _ _ _ HC (by omega) hn).mono ?_
  rintro e w1 ⟨y, ⟨rfl, y0, y1⟩, hd⟩
  replace HC := hd.cur
  replace HG := grown_trans HG hd.grown
  clear hd
  go_wp2_with fail
  refine (among_any _ _ _ _ _ _ _ 8 _ [0, 1, 24, 30, 60, 100, 2001, -1] _ _ _ (HC.alloc' _) (by omega) hn rfl (by omega) (by omega) (own_new _ [0, 1, 24, 30, 60, 100, 2001, -1] _) (Or.inl HC.lt) (Nat.le_refl _)).mono ?_
  rintro e w1 ⟨z, rfl, zm, hd⟩
  replace HC := hd.cur
  replace HG := grown_trans (grown_alloc HG _) hd.grown
  clear hd
  go_wp2
  go_ret3
  exact ⟨⟨x, y, z, rfl⟩, drew_below (by rw [HW.out]; exact HG)⟩

set_option maxHeartbeats 3200000 in
set_option maxRecDepth 4000 in
theorem DrawLayersOfPyramid_any (A : Option Addr) (n c : Nat) (w : World) (h : Bys w A n) (hn : n ≤ 1000000000000) :
    Calls Try.prog 76 #[.slice A n c] w fun e w' => (∃ x y : Int, e = .returned (.tuple #[.int .i64 x, .int .i64 y])) ∧ Below w.heap.size w w' := by
  have HC := cur_new w A n c 84 h
  have HG : (w.alloc (.cells #[.slice A n c, .int .i64 0, .int .u64 0] 84)).grownBy (w.alloc (.cells #[.slice A n c, .int .i64 0, .int .u64 0] 84)) (some w.heap.size) := World.grownBy.refl _ _
  go_enter Try.func76, Try.ntmps76
  go_upto_region 2 with (fail)
  generalize hw0 : w.alloc (.cells #[.slice A n c, .int .i64 0, .int .u64 0] 84) = w0 at HC HG ⊢
  have HW := Lib.hid hw0
  clear hw0
  go_wp2_with fail
  refine (sides_any _ _ _ _ _ _ _ HC (by omega) hn).mono ?_
  rintro e w1 ⟨x, ⟨rfl, x0, x1⟩, hd⟩
  replace HC := hd.cur
  replace HG := grown_trans HG hd.grown
  clear hd
  go_wp2_with fail
  refine (one_any _ _ _ _ _ _ _ _ HC (by omega) hn (by omega) (by omega)).mono ?_
  rintro e w1 ⟨b, rfl, hd⟩
  replace HC := hd.cur
  replace HG := grown_trans HG hd.grown
  clear hd
  cases b
  · go_wp2_with fail
    refine (pick_any _ _ _ _ _ _ _ _ HC (by omega) hn (by omega) (by omega)).mono ?_
    rintro e w1 ⟨y, rfl, y0, y1, hd⟩
    replace HC := hd.cur
    replace HG := grown_trans HG hd.grown
    clear hd
    go_wp2_with fail
    refine (soPyramid_some _ _ _ x0 x1 y0 (by omega)).mono ?_
    rintro e w' ⟨u, rfl, ⟨u0, u1⟩, rfl⟩
    go_wp2_with fail
    refine (pick_any _ _ _ _ _ _ _ _ HC (by omega) hn (by omega) (by omega)).mono ?_
    rintro e w1 ⟨z, rfl, z0, z1, hd⟩
    replace HC := hd.cur
    replace HG := grown_trans HG hd.grown
    clear hd
    go_wp2
    go_ret2
    exact ⟨⟨_, _, rfl⟩, drew_below (by rw [HW.out]; exact HG)⟩
  · go_wp2_with fail
    refine (pick_any _ _ _ _ _ _ _ _ HC (by omega) hn (by omega) (by omega)).mono ?_
    rintro e w1 ⟨y, rfl, y0, y1, hd⟩
    replace HC := hd.cur
    replace HG := grown_trans HG hd.grown
    clear hd
    go_wp2_with fail
    refine (among_any _ _ _ _ _ _ _ 7 _ [0, 1, 2, 1000000000000, 1000000000001, -1, y] _ _ _ (HC.alloc' _) (by omega) hn rfl (by omega) (by omega) (own_new _ [0, 1, 2, 1000000000000, 1000000000001, -1, y] _) (Or.inl HC.lt) (Nat.le_refl _)).mono ?_
    rintro e w1 ⟨z, rfl, zm, hd⟩
    replace HC := hd.cur
    replace HG := grown_trans (grown_alloc HG _) hd.grown
    clear hd
    go_wp2
    go_ret2
    exact ⟨⟨x, z, rfl⟩, drew_below (by rw [HW.out]; exact HG)⟩

end Go.Proofs.Ytppdjjdejggjaaa
