/- The drawings of chapter 5's squares: whatever the bytes (a million at most), numbers come out, and no old memory changes. -/
import Derived.Test.YtkhjeleoppdjgabDrW
namespace Go.Proofs.Ytkhjeleoppdjgab
open Go.ChangeShapes Go.WideShapes Go.ChangeAt Go.RowKit

set_option maxHeartbeats 3200000 in
set_option maxRecDepth 4000 in
theorem runned_any (B r : Nat) (A : Option Addr) (n c k : Nat) (w : World) (h : Cur w B r A n c k) (hk : k ≤ 800000) (hn : n ≤ 1000000000000) :
    Calls Try.prog 131 #[.pointer (some ⟨r, 0, none⟩)] w fun e w' => (∃ x : Int, e = .returned (.int .i64 x)) ∧ Drawn w w' B r A n c (k + 8) := by
  have HC := h
  have HG : w.grownBy w (some r) := World.grownBy.refl _ _
  clear h
  go_enter Try.func131, Try.ntmps131
  go_wp2_with fail
  refine (one_any _ _ _ _ _ _ _ _ HC (by omega) hn (by omega) (by omega)).mono ?_
  rintro e w1 ⟨b, rfl, hd⟩
  replace HC := hd.cur
  replace HG := grown_trans HG hd.grown
  clear hd
  cases b
  · go_wp2_with fail
    refine (one_any _ _ _ _ _ _ _ _ HC (by omega) hn (by omega) (by omega)).mono ?_
    rintro e w1 ⟨b, rfl, hd⟩
    replace HC := hd.cur
    replace HG := grown_trans HG hd.grown
    clear hd
    cases b
    · go_wp2_with fail
      refine (pick_any _ _ _ _ _ _ _ _ HC (by omega) hn (by omega) (by omega)).mono ?_
      rintro e w1 ⟨x, rfl, x0, x1, hd⟩
      replace HC := hd.cur
      replace HG := grown_trans HG hd.grown
      clear hd
      have hx2 : IntKind.i64.wrap (1 + x) = 1 + x := IntWalk.i64_in _ (by omega)
      go_wp2
      go_ret
      exact ⟨⟨_, rfl⟩, HC.up (by omega), HG⟩
    · go_wp2_with fail
      refine (among_any _ _ _ _ _ _ _ 14 _ [1, 2, 4, 8, 9, 15, 16, 27, 45, 64, 105, 225, 720, 945] _ _ _ (HC.alloc' _) (by omega) hn rfl (by omega) (by omega) (own_new _ [1, 2, 4, 8, 9, 15, 16, 27, 45, 64, 105, 225, 720, 945] _) (Or.inl HC.lt) (Nat.le_refl _)).mono ?_
      rintro e w1 ⟨x, rfl, xm, hd⟩
      replace HC := hd.cur
      replace HG := grown_trans (grown_alloc HG _) hd.grown
      clear hd
      go_wp2
      go_ret
      exact ⟨⟨x, rfl⟩, HC.up (by omega), HG⟩
  · go_wp2_with fail
    refine (among_any _ _ _ _ _ _ _ 6 _ [-1, 0, 1, 1000000, 1000001, 999999] _ _ _ (HC.alloc' _) (by omega) hn rfl (by omega) (by omega) (own_new _ [-1, 0, 1, 1000000, 1000001, 999999] _) (Or.inl HC.lt) (Nat.le_refl _)).mono ?_
    rintro e w1 ⟨x, rfl, xm, hd⟩
    replace HC := hd.cur
    replace HG := grown_trans (grown_alloc HG _) hd.grown
    clear hd
    go_wp2
    go_ret
    exact ⟨⟨x, rfl⟩, HC.up (by omega), HG⟩

set_option maxHeartbeats 3200000 in
set_option maxRecDepth 4000 in
theorem DrawRunsOf_any (A : Option Addr) (n c : Nat) (w : World) (h : Bys w A n) (hn : n ≤ 1000000000000) :
    Calls Try.prog 83 #[.slice A n c] w fun e w' => (∃ x : Int, e = .returned (.int .i64 x)) ∧ Below w.heap.size w w' := by
  have HC := cur_new w A n c 76 h
  have HG : (w.alloc (.cells #[.slice A n c, .int .i64 0, .int .u64 0] 76)).grownBy (w.alloc (.cells #[.slice A n c, .int .i64 0, .int .u64 0] 76)) (some w.heap.size) := World.grownBy.refl _ _
  go_enter Try.func83, Try.ntmps83
  go_upto_region 2 with (fail)
  generalize hw0 : w.alloc (.cells #[.slice A n c, .int .i64 0, .int .u64 0] 76) = w0 at HC HG ⊢
  have HW := Lib.hid hw0
  clear hw0
  go_wp2_with fail
  refine (runned_any _ _ _ _ _ _ _ HC (by omega) hn).mono ?_
  rintro e w1 ⟨⟨x, rfl⟩, hd⟩
  replace HC := hd.cur
  replace HG := grown_trans HG hd.grown
  clear hd
  go_wp2
  go_ret
  exact ⟨⟨x, rfl⟩, drew_below (by rw [HW.out]; exact HG)⟩

theorem DrawSquaresApart_any (A : Option Addr) (n c : Nat) (w : World) (h : Bys w A n) (hn : n ≤ 1000000000000) :
    Calls Try.prog 24 #[.slice A n c] w fun e w' => (∃ x : Int, e = .returned (.int .i64 x)) ∧ Below w.heap.size w w' := by
  go_enter Try.func24, Try.ntmps24
  go_wp2_with fail
  refine (DrawRunsOf_any A n c _ h hn).mono ?_
  rintro e w1 ⟨⟨x, rfl⟩, hb⟩
  go_wp2
  go_ret
  exact ⟨⟨x, rfl⟩, hb⟩

set_option maxHeartbeats 3200000 in
set_option maxRecDepth 4000 in
theorem DrawCubeAsOdds_any (A : Option Addr) (n c : Nat) (w : World) (h : Bys w A n) (hn : n ≤ 1000000000000) :
    Calls Try.prog 25 #[.slice A n c] w fun e w' => (∃ x : Int, e = .returned (.int .i64 x)) ∧ Below w.heap.size w w' := by
  have HC := cur_new w A n c 76 h
  have HG : (w.alloc (.cells #[.slice A n c, .int .i64 0, .int .u64 0] 76)).grownBy (w.alloc (.cells #[.slice A n c, .int .i64 0, .int .u64 0] 76)) (some w.heap.size) := World.grownBy.refl _ _
  go_enter Try.func25, Try.ntmps25
  go_upto_region 2 with (fail)
  generalize hw0 : w.alloc (.cells #[.slice A n c, .int .i64 0, .int .u64 0] 76) = w0 at HC HG ⊢
  have HW := Lib.hid hw0
  clear hw0
  go_wp2_with fail
  refine (among_any _ _ _ _ _ _ _ 9 _ [1, 2, 3, 4, 5, 10, 1000, 1001, 0] _ _ _ (HC.alloc' _) (by omega) hn rfl (by omega) (by omega) (own_new _ [1, 2, 3, 4, 5, 10, 1000, 1001, 0] _) (Or.inl HC.lt) (Nat.le_refl _)).mono ?_
  rintro e w1 ⟨x, rfl, xm, hd⟩
  replace HC := hd.cur
  replace HG := grown_trans (grown_alloc HG _) hd.grown
  clear hd
  go_wp2
  go_ret
  exact ⟨⟨x, rfl⟩, drew_below (by rw [HW.out]; exact HG)⟩

set_option maxHeartbeats 3200000 in
set_option maxRecDepth 4000 in
theorem DrawPowerAsOdds_any (A : Option Addr) (n c : Nat) (w : World) (h : Bys w A n) (hn : n ≤ 1000000000000) :
    Calls Try.prog 26 #[.slice A n c] w fun e w' => (∃ x y : Int, e = .returned (.tuple #[.int .i64 x, .int .i64 y])) ∧ Below w.heap.size w w' := by
  have HC := cur_new w A n c 76 h
  have HG : (w.alloc (.cells #[.slice A n c, .int .i64 0, .int .u64 0] 76)).grownBy (w.alloc (.cells #[.slice A n c, .int .i64 0, .int .u64 0] 76)) (some w.heap.size) := World.grownBy.refl _ _
  go_enter Try.func26, Try.ntmps26
  go_upto_region 2 with (fail)
  generalize hw0 : w.alloc (.cells #[.slice A n c, .int .i64 0, .int .u64 0] 76) = w0 at HC HG ⊢
  have HW := Lib.hid hw0
  clear hw0
  go_wp2_with fail
  refine (among_any _ _ _ _ _ _ _ 9 _ [1, 2, 3, 4, 5, 10, 100, 101, 0] _ _ _ (HC.alloc' _) (by omega) hn rfl (by omega) (by omega) (own_new _ [1, 2, 3, 4, 5, 10, 100, 101, 0] _) (Or.inl HC.lt) (Nat.le_refl _)).mono ?_
  rintro e w1 ⟨x, rfl, xm, hd⟩
  replace HC := hd.cur
  replace HG := grown_trans (grown_alloc HG _) hd.grown
  clear hd
  go_wp2_with fail
  refine (pick_any _ _ _ _ _ _ _ _ HC (by omega) hn (by omega) (by omega)).mono ?_
  rintro e w1 ⟨y, rfl, y0, y1, hd⟩
  replace HC := hd.cur
  replace HG := grown_trans HG hd.grown
  clear hd
  go_wp2
  go_ret2
  exact ⟨⟨x, y, rfl⟩, drew_below (by rw [HW.out]; exact HG)⟩

end Go.Proofs.Ytkhjeleoppdjgab
