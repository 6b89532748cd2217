/- The drawings of chapter 3's tetrahedra: whatever the bytes (a million at most), numbers come out, and no old memory changes. -/
import Derived.Test.YtejjgpmdnnogbaaDoorDrW
namespace Go.Proofs.YtejjgpmdnnogbaaDoor
open Go.ChangeShapes Go.WideShapes Go.ChangeAt Go.RowKit

set_option maxHeartbeats 3200000 in
set_option maxRecDepth 4000 in
theorem split_any (B r : Nat) (A : Option Addr) (n c k : Nat) (w : World) (h : Cur w B r A n c k) (hk : k ≤ 800000) (hn : n ≤ 1000000000000) :
    Calls Tryd.prog 27 #[.pointer (some ⟨r, 0, none⟩)] w fun e w' => ∃ x : Int, e = .returned (.int .i64 x) ∧ Drawn w w' B r A n c (k + 8) := by
  have HC := h
  have HG : w.grownBy w (some r) := World.grownBy.refl _ _
  clear h
  go_enter Tryd.func27, Tryd.ntmps27
  go_wp2_with fail
  refine (one_any _ _ _ _ _ _ _ _ HC (by omega) hn (by omega) (by omega)).mono ?_
  rintro e w1 ⟨b, rfl, hd⟩
  replace HC := hd.cur
  replace HG := grown_trans HG hd.grown
  clear hd
  cases b
  · go_wp2_with fail
    refine (pick_any _ _ _ _ _ _ _ _ HC (by omega) hn (by omega) (by omega)).mono ?_
    rintro e w1 ⟨x, rfl, x0, x1, hd⟩
    replace HC := hd.cur
    replace HG := grown_trans HG hd.grown
    clear hd
    go_wp2
    go_ret
    exact ⟨x, rfl, HC.up (by omega), HG⟩
  · go_wp2_with fail
    refine (among_any _ _ _ _ _ _ _ 7 _ [0, 1, 17, 1500, 1501, -1, 4611686018427387904] _ _ _ (HC.alloc' _) (by omega) hn rfl (by omega) (by omega) (own_new _ [0, 1, 17, 1500, 1501, -1, 4611686018427387904] _) (Or.inl HC.lt) (Nat.le_refl _)).mono ?_
    rintro e w1 ⟨x, rfl, xm, hd⟩
    replace HC := hd.cur
    replace HG := grown_trans (grown_alloc HG _) hd.grown
    clear hd
    go_wp2
    go_ret
    exact ⟨x, rfl, HC.up (by omega), HG⟩

set_option maxHeartbeats 3200000 in
set_option maxRecDepth 4000 in
theorem DrawFewestTetrahedra_any (A : Option Addr) (n c : Nat) (w : World) (h : Bys w A n) (hn : n ≤ 1000000000000) :
    Calls Tryd.prog 16 #[.slice A n c] w fun e w' => (∃ x : Int, e = .returned (.int .i64 x)) ∧ Below w.heap.size w w' := by
  have HC := cur_new w A n c 46 h
  have HG : (w.alloc (.cells #[.slice A n c, .int .i64 0, .int .u64 0] 46)).grownBy (w.alloc (.cells #[.slice A n c, .int .i64 0, .int .u64 0] 46)) (some w.heap.size) := World.grownBy.refl _ _
  go_enter Tryd.func16, Tryd.ntmps16
  go_upto_region 2 with (fail)
  generalize hw0 : w.alloc (.cells #[.slice A n c, .int .i64 0, .int .u64 0] 46) = w0 at HC HG ⊢
  have HW := Lib.hid hw0
  clear hw0
  go_wp2_with fail
  refine (split_any _ _ _ _ _ _ _ HC (by omega) hn).mono ?_
  rintro e w1 ⟨x, rfl, hd⟩
  replace HC := hd.cur
  replace HG := grown_trans HG hd.grown
  clear hd
  go_wp2
  go_ret
  exact ⟨⟨x, rfl⟩, drew_below (by rw [HW.out]; exact HG)⟩

theorem DrawFirstTetrahedra_any (A : Option Addr) (n c : Nat) (w : World) (h : Bys w A n) (hn : n ≤ 1000000000000) :
    Calls Tryd.prog 6 #[.slice A n c] w fun e w' => (∃ x : Int, e = .returned (.int .i64 x)) ∧ Below w.heap.size w w' := by
  go_enter Tryd.func6, Tryd.ntmps6
  go_wp2_with fail
  refine (DrawFewestTetrahedra_any A n c _ h hn).mono ?_
  rintro e w1 ⟨⟨x, rfl⟩, hb⟩
  go_wp2
  go_ret
  exact ⟨⟨x, rfl⟩, hb⟩

set_option maxHeartbeats 3200000 in
set_option maxRecDepth 4000 in
theorem DrawCountTetrahedra_any (A : Option Addr) (n c : Nat) (w : World) (h : Bys w A n) (hn : n ≤ 1000000000000) :
    Calls Tryd.prog 14 #[.slice A n c] w fun e w' => (∃ x y : Int, e = .returned (.tuple #[.int .i64 x, .int .i64 y])) ∧ Below w.heap.size w w' := by
  have HC := cur_new w A n c 46 h
  have HG : (w.alloc (.cells #[.slice A n c, .int .i64 0, .int .u64 0] 46)).grownBy (w.alloc (.cells #[.slice A n c, .int .i64 0, .int .u64 0] 46)) (some w.heap.size) := World.grownBy.refl _ _
  go_enter Tryd.func14, Tryd.ntmps14
  go_upto_region 2 with (fail)
  generalize hw0 : w.alloc (.cells #[.slice A n c, .int .i64 0, .int .u64 0] 46) = w0 at HC HG ⊢
  have HW := Lib.hid hw0
  clear hw0
  go_wp2_with fail
  refine (split_any _ _ _ _ _ _ _ HC (by omega) hn).mono ?_
  rintro e w1 ⟨x, rfl, hd⟩
  replace HC := hd.cur
  replace HG := grown_trans HG hd.grown
  clear hd
  go_wp2_with fail
  refine (among_any _ _ _ _ _ _ _ 8 _ [0, 1, 2, 3, 4, 5, 6, -1] _ _ _ (HC.alloc' _) (by omega) hn rfl (by omega) (by omega) (own_new _ [0, 1, 2, 3, 4, 5, 6, -1] _) (Or.inl HC.lt) (Nat.le_refl _)).mono ?_
  rintro e w1 ⟨y, rfl, ym, hd⟩
  replace HC := hd.cur
  replace HG := grown_trans (grown_alloc HG _) hd.grown
  clear hd
  go_wp2
  go_ret2
  exact ⟨⟨x, y, rfl⟩, drew_below (by rw [HW.out]; exact HG)⟩

end Go.Proofs.YtejjgpmdnnogbaaDoor
