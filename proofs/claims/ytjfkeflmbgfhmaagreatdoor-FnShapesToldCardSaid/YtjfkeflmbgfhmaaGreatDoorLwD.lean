/- The laws FnExactWidePlace, FnExactRootOf: the program's answer is the specification's, whatever the arguments. No condition. -/
import Derived.Test.YtjfkeflmbgfhmaaGreatDoorBase
import Derived.Test.YtjfkeflmbgfhmaaGreatDoorSpA
import Derived.Test.YtjfkeflmbgfhmaaGreatDoorLwC
import Derived.Deep.QuietTactic
import Derived.BigQuiet
namespace Go.Proofs.YtjfkeflmbgfhmaaGreatDoor
open Go.ChangeShapes Go.WideShapes Go.ChangeAt Go.RowKit

theorem belowRule_any (s : Int) (w : World) (h1 : 3 ≤ s) (h2 : s ≤ 24) :
    Calls Tryz.prog 63 #[.int .i64 s] w fun e w' => e = .returned (.agg #[.int .i64 0, .int .i64 (s - 4), .int .i64 (s - 2)]) ∧ Below w.heap.size w w' := by
  go_enter Tryz.func63, Tryz.ntmps63
  go_wp2
  exact bodyPost_ret (v := .agg #[.int .i64 0, .int .i64 (s - 4), .int .i64 (s - 2)]) (by simp [results, Tryz.results63, go_sem]) rfl ⟨rfl, (Below.refl _ _).alloc (Nat.le_refl _) _⟩
theorem belRule_bds (s k : Int) (h1 : 3 ≤ s) (h2 : s ≤ 24) (h3 : 0 ≤ k) (h4 : k ≤ 3000000) : RuleBds 0 (s - 4) (s - 2) k (num s (-k)) := by
  obtain ⟨a0, a1, b0, b1, c0, c1, d0⟩ := num_bds s k h1 h2 (by omega) h4
  have e1 := neg_twice s k
  have e2 := num_nn s (-k) h1
  constructor <;> omega
theorem bel_fits (s n : Int) (h1 : 3 ≤ s) (h2 : s ≤ 24) (h3 : 0 ≤ n) (h4 : n ≤ 1000000000000) : Fits 0 (s - 4) (s - 2) n (wl s n) (fun k => num s (-k)) :=
  ⟨fun k h5 h6 => belRule_bds s k h1 h2 h5 (by omega), wl_nn s n h1 h3, by have := wl_le s n h1 h3 h4; omega, fun k h5 _ => wfits_iff s n k h1 h3 (by omega)⟩

theorem impl_WidePlace_no (s p : Int) (w : World) (h : (s < 3 ∨ 24 < s) ∨ (p < 0 ∨ 1000000000000 < p)) :
    Calls Tryz.prog 31 #[.int .i64 s, .int .i64 p] w fun e w' => e = .returned (.tuple #[.int .i64 0, .bool false]) ∧ w = w' := by
  have H := Lib.hid h
  clear h
  go_enter Tryz.func31, Tryz.ntmps31
  go_wp2_with (first | (go_at_call 55; refine (asat_no _ _ _ H.out).mono ?_; rintro e w' ⟨rfl, rfl⟩))
  go_ret2
  exact ⟨rfl, rfl⟩
theorem impl_WidePlace_A1 (s p : Int) (w : World) (h1 : 3 ≤ s) (h2 : s ≤ 24) (h3 : 0 ≤ p) (h4 : p ≤ 1000000000000) (c1 : num s (pl s p) = p) (c2 : num s (-wl s p) = p) :
    Calls Tryz.prog 31 #[.int .i64 s, .int .i64 p] w fun e w' => e = .returned (.tuple #[.int .i64 (pl s p), .bool true]) ∧ Below w.heap.size w w' := by
  have p0 := pl_nn s p h1 h3
  have p1 := pl_le s p h1 h3 h4
  have q0 := wl_nn s p h1 h3
  have q1 := wl_le s p h1 h3 h4
  have HA := Lib.hid c1
  have HB := Lib.hid c2
  clear c1 c2
  go_enter Tryz.func31, Tryz.ntmps31
  go_wp2_with (first | (go_at_call 55; refine (asat_yes _ _ _ h1 h2 h3 h4).mono ?_; rintro e w' ⟨rfl, rfl⟩) | (go_at_call 42; refine (polygonRule_any _ _ h1 h2).mono ?_; rintro e w1 ⟨rfl, hb1⟩))
  refine (placeOf_yes _ _ _ _ _ _ _ (poly_fits s p h1 h2 h3 h4) HA.out).mono ?_
  rintro e w2 ⟨rfl, hb2⟩
  go_wp2
  go_ret2
  exact ⟨rfl, hb1.trans (hb2.mono hb1.size)⟩
theorem impl_WidePlace_A2 (s p : Int) (w : World) (h1 : 3 ≤ s) (h2 : s ≤ 24) (h3 : 0 ≤ p) (h4 : p ≤ 1000000000000) (c1 : num s (pl s p) = p) (c2 : ¬ num s (-wl s p) = p) :
    Calls Tryz.prog 31 #[.int .i64 s, .int .i64 p] w fun e w' => e = .returned (.tuple #[.int .i64 (pl s p), .bool true]) ∧ Below w.heap.size w w' := by
  have p0 := pl_nn s p h1 h3
  have p1 := pl_le s p h1 h3 h4
  have q0 := wl_nn s p h1 h3
  have q1 := wl_le s p h1 h3 h4
  have HA := Lib.hid c1
  have HB := Lib.hid c2
  clear c1 c2
  go_enter Tryz.func31, Tryz.ntmps31
  go_wp2_with (first | (go_at_call 55; refine (asat_yes _ _ _ h1 h2 h3 h4).mono ?_; rintro e w' ⟨rfl, rfl⟩) | (go_at_call 42; refine (polygonRule_any _ _ h1 h2).mono ?_; rintro e w1 ⟨rfl, hb1⟩))
  refine (placeOf_yes _ _ _ _ _ _ _ (poly_fits s p h1 h2 h3 h4) HA.out).mono ?_
  rintro e w2 ⟨rfl, hb2⟩
  go_wp2
  go_ret2
  exact ⟨rfl, hb1.trans (hb2.mono hb1.size)⟩
theorem impl_WidePlace_B (s p : Int) (w : World) (h1 : 3 ≤ s) (h2 : s ≤ 24) (h3 : 0 ≤ p) (h4 : p ≤ 1000000000000) (c1 : ¬ num s (pl s p) = p) (c2 : num s (-wl s p) = p) :
    Calls Tryz.prog 31 #[.int .i64 s, .int .i64 p] w fun e w' => e = .returned (.tuple #[.int .i64 (-wl s p), .bool true]) ∧ Below w.heap.size w w' := by
  have p0 := pl_nn s p h1 h3
  have p1 := pl_le s p h1 h3 h4
  have q0 := wl_nn s p h1 h3
  have q1 := wl_le s p h1 h3 h4
  have HA := Lib.hid c1
  have HB := Lib.hid c2
  clear c1 c2
  go_enter Tryz.func31, Tryz.ntmps31
  go_wp2_with (first | (go_at_call 55; refine (asat_yes _ _ _ h1 h2 h3 h4).mono ?_; rintro e w' ⟨rfl, rfl⟩) | (go_at_call 42; refine (polygonRule_any _ _ h1 h2).mono ?_; rintro e w1 ⟨rfl, hb1⟩))
  refine (placeOf_no _ _ _ _ _ _ _ (poly_fits s p h1 h2 h3 h4) HA.out).mono ?_
  rintro e w2 ⟨rfl, hb2⟩
  go_wp2_with (first | (go_at_call 63; refine (belowRule_any _ _ h1 h2).mono ?_; rintro e w3 ⟨rfl, hb3⟩))
  refine (placeOf_yes _ _ _ _ _ _ _ (bel_fits s p h1 h2 h3 h4) HB.out).mono ?_
  rintro e w4 ⟨rfl, hb4⟩
  go_wp2
  go_ret2
  exact ⟨rfl, (hb1.trans (hb2.mono hb1.size)).trans ((hb3.mono (Nat.le_trans hb1.size hb2.size)).trans (hb4.mono (Nat.le_trans hb1.size (Nat.le_trans hb2.size hb3.size))))⟩
theorem impl_WidePlace_C (s p : Int) (w : World) (h1 : 3 ≤ s) (h2 : s ≤ 24) (h3 : 0 ≤ p) (h4 : p ≤ 1000000000000) (c1 : ¬ num s (pl s p) = p) (c2 : ¬ num s (-wl s p) = p) :
    Calls Tryz.prog 31 #[.int .i64 s, .int .i64 p] w fun e w' => e = .returned (.tuple #[.int .i64 0, .bool false]) ∧ Below w.heap.size w w' := by
  have p0 := pl_nn s p h1 h3
  have p1 := pl_le s p h1 h3 h4
  have q0 := wl_nn s p h1 h3
  have q1 := wl_le s p h1 h3 h4
  have HA := Lib.hid c1
  have HB := Lib.hid c2
  clear c1 c2
  go_enter Tryz.func31, Tryz.ntmps31
  go_wp2_with (first | (go_at_call 55; refine (asat_yes _ _ _ h1 h2 h3 h4).mono ?_; rintro e w' ⟨rfl, rfl⟩) | (go_at_call 42; refine (polygonRule_any _ _ h1 h2).mono ?_; rintro e w1 ⟨rfl, hb1⟩))
  refine (placeOf_no _ _ _ _ _ _ _ (poly_fits s p h1 h2 h3 h4) HA.out).mono ?_
  rintro e w2 ⟨rfl, hb2⟩
  go_wp2_with (first | (go_at_call 63; refine (belowRule_any _ _ h1 h2).mono ?_; rintro e w3 ⟨rfl, hb3⟩))
  refine (placeOf_no _ _ _ _ _ _ _ (bel_fits s p h1 h2 h3 h4) HB.out).mono ?_
  rintro e w4 ⟨rfl, hb4⟩
  go_wp2
  go_ret2
  exact ⟨rfl, (hb1.trans (hb2.mono hb1.size)).trans ((hb3.mono (Nat.le_trans hb1.size hb2.size)).trans (hb4.mono (Nat.le_trans hb1.size (Nat.le_trans hb2.size hb3.size))))⟩
end Go.Proofs.YtjfkeflmbgfhmaaGreatDoor
