/- The drawings of chapter 4's shared numbers: whatever the bytes (a million at most), numbers come out, and no old memory changes. -/
import Derived.Test.YtcjfkbpkhlfbdaaDrW
import Derived.Test.YtcjfkbpkhlfbdaaShA
namespace Go.Proofs.Ytcjfkbpkhlfbdaa
open Go.ChangeShapes Go.WideShapes Go.ChangeAt Go.RowKit

set_option maxHeartbeats 3200000 in
set_option maxRecDepth 4000 in
theorem most_any (B r : Nat) (A : Option Addr) (n c k : Nat) (w : World) (h : Cur w B r A n c k) (hk : k ≤ 800000) (hn : n ≤ 1000000000000) :
    Calls Try.prog 25 #[.pointer (some ⟨r, 0, none⟩)] w fun e w' => ∃ x : Int, e = .returned (.int .i64 x) ∧ Drawn w w' B r A n c (k + 8) := by
  have HC := h
  have HG : w.grownBy w (some r) := World.grownBy.refl _ _
  clear h
  go_enter Try.func25, Try.ntmps25
  go_wp2_with fail
  refine (pick_any _ _ _ _ _ _ _ _ HC (by omega) hn (by omega) (by omega)).mono ?_
  rintro e w1 ⟨y, rfl, y0, y1, hd⟩
  replace HC := hd.cur
  replace HG := grown_trans HG hd.grown
  clear hd
  go_wp2_with fail
  refine (among_any _ _ _ _ _ _ _ 10 _ [0, 1, 40, 300, 2000, 50000, 1000000, 1000001, -1, y] _ _ _ (HC.alloc' _) (by omega) hn rfl (by omega) (by omega) (own_new _ [0, 1, 40, 300, 2000, 50000, 1000000, 1000001, -1, y] _) (Or.inl HC.lt) (Nat.le_refl _)).mono ?_
  rintro e w1 ⟨x, rfl, xm, hd⟩
  replace HC := hd.cur
  replace HG := grown_trans (grown_alloc HG _) hd.grown
  clear hd
  go_wp2
  go_ret
  exact ⟨x, rfl, HC.up (by omega), HG⟩

set_option maxHeartbeats 3200000 in
set_option maxRecDepth 4000 in
theorem DrawSharedUpTo_any (A : Option Addr) (n c : Nat) (w : World) (h : Bys w A n) (hn : n ≤ 1000000000000) :
    Calls Try.prog 5 #[.slice A n c] w fun e w' => (∃ x y z : Int, e = .returned (.tuple #[.int .i64 x, .int .i64 y, .int .i64 z])) ∧ Below w.heap.size w w' := by
  have HC := cur_new w A n c 46 h
  have HG : (w.alloc (.cells #[.slice A n c, .int .i64 0, .int .u64 0] 46)).grownBy (w.alloc (.cells #[.slice A n c, .int .i64 0, .int .u64 0] 46)) (some w.heap.size) := World.grownBy.refl _ _
  go_enter Try.func5, Try.ntmps5
  go_upto_region 2 with (fail)
  generalize hw0 : w.alloc (.cells #[.slice A n c, .int .i64 0, .int .u64 0] 46) = w0 at HC HG ⊢
  have HW := Lib.hid hw0
  clear hw0
  go_wp2_with fail
  refine (sides_any _ _ _ _ _ _ _ HC (by omega) hn).mono ?_
  rintro e w1 ⟨x, ⟨rfl, x0, x1⟩, hd⟩
  replace HC := hd.cur
  replace HG := grown_trans HG hd.grown
  clear hd
  go_wp2_with fail
  refine (sides_any _ _ _ _ _ _ _ HC (by omega) hn).mono ?_
  rintro e w1 ⟨y, ⟨rfl, y0, y1⟩, hd⟩
  replace HC := hd.cur
  replace HG := grown_trans HG hd.grown
  clear hd
  go_wp2_with fail
  refine (most_any _ _ _ _ _ _ _ HC (by omega) hn).mono ?_
  rintro e w1 ⟨z, rfl, hd⟩
  replace HC := hd.cur
  replace HG := grown_trans HG hd.grown
  clear hd
  go_wp2
  go_ret3
  exact ⟨⟨x, y, z, rfl⟩, drew_below (by rw [HW.out]; exact HG)⟩

set_option maxHeartbeats 3200000 in
set_option maxRecDepth 4000 in
theorem DrawSharedByThree_any (A : Option Addr) (n c : Nat) (w : World) (h : Bys w A n) (hn : n ≤ 1000000000000) :
    Calls Try.prog 19 #[.slice A n c] w fun e w' => (∃ x y z t : Int, e = .returned (.tuple #[.int .i64 x, .int .i64 y, .int .i64 z, .int .i64 t])) ∧ Below w.heap.size w w' := by
  have HC := cur_new w A n c 46 h
  have HG : (w.alloc (.cells #[.slice A n c, .int .i64 0, .int .u64 0] 46)).grownBy (w.alloc (.cells #[.slice A n c, .int .i64 0, .int .u64 0] 46)) (some w.heap.size) := World.grownBy.refl _ _
  go_enter Try.func19, Try.ntmps19
  go_upto_region 2 with (fail)
  generalize hw0 : w.alloc (.cells #[.slice A n c, .int .i64 0, .int .u64 0] 46) = w0 at HC HG ⊢
  have HW := Lib.hid hw0
  clear hw0
  go_wp2_with fail
  refine (sides_any _ _ _ _ _ _ _ HC (by omega) hn).mono ?_
  rintro e w1 ⟨x, ⟨rfl, x0, x1⟩, hd⟩
  replace HC := hd.cur
  replace HG := grown_trans HG hd.grown
  clear hd
  go_wp2_with fail
  refine (sides_any _ _ _ _ _ _ _ HC (by omega) hn).mono ?_
  rintro e w1 ⟨y, ⟨rfl, y0, y1⟩, hd⟩
  replace HC := hd.cur
  replace HG := grown_trans HG hd.grown
  clear hd
  go_wp2_with fail
  refine (sides_any _ _ _ _ _ _ _ HC (by omega) hn).mono ?_
  rintro e w1 ⟨z, ⟨rfl, z0, z1⟩, hd⟩
  replace HC := hd.cur
  replace HG := grown_trans HG hd.grown
  clear hd
  go_wp2_with fail
  refine (most_any _ _ _ _ _ _ _ HC (by omega) hn).mono ?_
  rintro e w1 ⟨t, rfl, hd⟩
  replace HC := hd.cur
  replace HG := grown_trans HG hd.grown
  clear hd
  go_wp2
  refine bodyPost_ret (v := .tuple #[.int .i64 x, .int .i64 y, .int .i64 z, .int .i64 t]) (by simp [results, Try.results19, go_sem]) rfl ?_
  exact ⟨⟨x, y, z, t, rfl⟩, drew_below (by rw [HW.out]; exact HG)⟩

set_option maxHeartbeats 3200000 in
set_option maxRecDepth 4000 in
theorem DrawNextShared_any (A : Option Addr) (n c : Nat) (w : World) (h : Bys w A n) (hn : n ≤ 1000000000000) :
    Calls Try.prog 14 #[.slice A n c] w fun e w' => (∃ x y z : Int, e = .returned (.tuple #[.int .i64 x, .int .i64 y, .int .i64 z])) ∧ Below w.heap.size w w' := by
  have HC := cur_new w A n c 46 h
  have HG : (w.alloc (.cells #[.slice A n c, .int .i64 0, .int .u64 0] 46)).grownBy (w.alloc (.cells #[.slice A n c, .int .i64 0, .int .u64 0] 46)) (some w.heap.size) := World.grownBy.refl _ _
  go_enter Try.func14, Try.ntmps14
  go_upto_region 2 with (fail)
  generalize hw0 : w.alloc (.cells #[.slice A n c, .int .i64 0, .int .u64 0] 46) = w0 at HC HG ⊢
  have HW := Lib.hid hw0
  clear hw0
  go_wp2_with fail
  refine (sides_any _ _ _ _ _ _ _ HC (by omega) hn).mono ?_
  rintro e w1 ⟨x, ⟨rfl, x0, x1⟩, hd⟩
  replace HC := hd.cur
  replace HG := grown_trans HG hd.grown
  clear hd
  go_wp2_with fail
  refine (sides_any _ _ _ _ _ _ _ HC (by omega) hn).mono ?_
  rintro e w1 ⟨y, ⟨rfl, y0, y1⟩, hd⟩
  replace HC := hd.cur
  replace HG := grown_trans HG hd.grown
  clear hd
  go_wp2_with fail
  refine (pick_any _ _ _ _ _ _ _ _ HC (by omega) hn (by omega) (by omega)).mono ?_
  rintro e w1 ⟨u, rfl, u0, u1, hd⟩
  replace HC := hd.cur
  replace HG := grown_trans HG hd.grown
  clear hd
  go_wp2_with fail
  refine (among_any _ _ _ _ _ _ _ 11 _ [0, 1, 36, 1225, 210, 5000, 100000, 1000000000, 1000000001, -1, u] _ _ _ (HC.alloc' _) (by omega) hn rfl (by omega) (by omega) (own_new _ [0, 1, 36, 1225, 210, 5000, 100000, 1000000000, 1000000001, -1, u] _) (Or.inl HC.lt) (Nat.le_refl _)).mono ?_
  rintro e w1 ⟨z, rfl, zm, hd⟩
  replace HC := hd.cur
  replace HG := grown_trans (grown_alloc HG _) hd.grown
  clear hd
  go_wp2
  go_ret3
  exact ⟨⟨x, y, z, rfl⟩, drew_below (by rw [HW.out]; exact HG)⟩

end Go.Proofs.Ytcjfkbpkhlfbdaa
