/- The laws FnExactPlaceOf, FnExactIsPolygonal, FnExactNextPolygonal, FnExactCountUpTo: the program's answer is the specification's, whatever the arguments. No condition. -/
import Derived.Test.YtjfkeflmbgfhmaaGreatDoorBase
import Derived.Test.YtjfkeflmbgfhmaaGreatDoorSpA
import Derived.Test.YtjfkeflmbgfhmaaGreatDoorImC
import Derived.Test.YtjfkeflmbgfhmaaGreatDoorLwA
namespace Go.Proofs.YtjfkeflmbgfhmaaGreatDoor
open Go.ChangeShapes Go.WideShapes Go.ChangeAt Go.RowKit

theorem poly_fits (s n : Int) (h1 : 3 ≤ s) (h2 : s ≤ 24) (h3 : 0 ≤ n) (h4 : n ≤ 1000000000000) : Fits 0 (4 - s) (s - 2) n (pl s n) (num s) :=
  ⟨fun k h5 h6 => polyRule_bds s k h1 h2 (by omega) (by omega), pl_nn s n h1 h3, by have := pl_le s n h1 h3 h4; omega, fun k h5 _ => fits_iff s n k h1 h3 (by omega)⟩
theorem impl_CountUpTo_no (s p : Int) (w : World) (h : (s < 3 ∨ 24 < s) ∨ (p < 0 ∨ 1000000000000 < p)) :
    Calls Tryz.prog 29 #[.int .i64 s, .int .i64 p] w fun e w' => e = .returned (.tuple #[.int .i64 0, .bool false]) ∧ w = w' := by
  have H := Lib.hid h
  clear h
  go_enter Tryz.func29, Tryz.ntmps29
  go_wp2_with (first | (go_at_call 55; refine (asat_no _ _ _ H.out).mono ?_; rintro e w' ⟨rfl, rfl⟩))
  go_ret2
  exact ⟨rfl, rfl⟩
theorem impl_CountUpTo_yes (s p : Int) (w : World) (h1 : 3 ≤ s) (h2 : s ≤ 24) (h3 : 0 ≤ p) (h4 : p ≤ 1000000000000) :
    Calls Tryz.prog 29 #[.int .i64 s, .int .i64 p] w fun e w' => e = .returned (.tuple #[.int .i64 (pl s p), .bool true]) ∧ Below w.heap.size w w' := by
  go_enter Tryz.func29, Tryz.ntmps29
  go_wp2_with (first
    | (go_at_call 55; refine (asat_yes _ _ _ h1 h2 h3 h4).mono ?_; rintro e w' ⟨rfl, rfl⟩)
    | (go_at_call 42; refine (polygonRule_any _ _ h1 h2).mono ?_; rintro e w1 ⟨rfl, hb1⟩)
    | (go_at_call 62; refine (lastPlace_any _ _ _ _ _ _ _ (poly_fits s p h1 h2 h3 h4)).mono ?_; rintro e w2 ⟨rfl, hb2⟩))
  go_ret2
  exact ⟨rfl, hb1.trans (hb2.mono hb1.size)⟩
end Go.Proofs.YtjfkeflmbgfhmaaGreatDoor
