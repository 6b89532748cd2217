/- The laws FnExactCentredNumber, FnExactCentredPlace, FnExactWidePlace, FnExactRootOf: the program's answer is the specification's, whatever the arguments. No condition. -/
import Derived.Test.YtkhjeleoppdjgacBase
import Derived.Test.YtkhjeleoppdjgacSpA
import Derived.Test.YtkhjeleoppdjgacMg
import Derived.Test.YtkhjeleoppdjgacLwB
import Derived.Test.YtkhjeleoppdjgacNuB
namespace Go.Proofs.Ytkhjeleoppdjgac
open Go.ChangeShapes Go.WideShapes Go.ChangeAt Go.RowKit

theorem centredRule_any (s : Int) (w : World) (h1 : 3 ≤ s) (h2 : s ≤ 24) :
    Calls Try.prog 118 #[.int .i64 s] w fun e w' => e = .returned (.agg #[.int .i64 2, .int .i64 (-s), .int .i64 s]) ∧ Below w.heap.size w w' := by
  go_enter Try.func118, Try.ntmps118
  go_wp2
  exact bodyPost_ret (v := .agg #[.int .i64 2, .int .i64 (-s), .int .i64 s]) (by simp [results, Try.results118, go_sem]) rfl ⟨rfl, (Below.refl _ _).alloc (Nat.le_refl _) _⟩
theorem cenRule_bds (s k : Int) (h1 : 3 ≤ s) (h2 : s ≤ 24) (h3 : 0 ≤ k) (h4 : k ≤ 3000000) : RuleBds 2 (-s) s k (cen s k) := by
  obtain ⟨a0, a1, b0, b1⟩ := cen_bds s k h1 h2 h3 h4
  have e1 := cen_twice s k
  have e2 : s * (k * (k - 1)) = s * k * k - s * k := by grind
  have e3 : s * k * (k - 1) = s * k * k - s * k := by grind
  have e4 : -s * k = -(s * k) := by grind
  constructor <;> omega
theorem cen_fits (s n : Int) (h1 : 3 ≤ s) (h2 : s ≤ 24) (h3 : 0 ≤ n) (h4 : n ≤ 1000000000000) : Fits 2 (-s) s n (cpl s n) (cen s) :=
  ⟨fun k h5 h6 => cenRule_bds s k h1 h2 h5 (by omega), cpl_nn s n h1 h3, by have := cpl_le s n h1 h3 h4; omega, fun k h5 _ => cfits_iff s n k h1 h3 h5⟩
theorem impl_CentredNumber_no (s p : Int) (w : World) (h : (s < 3 ∨ 24 < s) ∨ (p < 1 ∨ 100000 < p)) :
    Calls Try.prog 45 #[.int .i64 s, .int .i64 p] w fun e w' => e = .returned (.tuple #[.int .i64 0, .bool false]) ∧ w = w' := by
  have H := Lib.hid h
  clear h
  go_enter Try.func45, Try.ntmps45
  go_wp2_with (first | (go_at_call 117; refine (asap_no _ _ _ _ H.out).mono ?_; rintro e w' ⟨rfl, rfl⟩))
  go_ret2
  exact ⟨rfl, rfl⟩
theorem impl_CentredNumber_yes (s p : Int) (w : World) (h1 : 3 ≤ s) (h2 : s ≤ 24) (h3 : 1 ≤ p) (h4 : p ≤ 100000) :
    Calls Try.prog 45 #[.int .i64 s, .int .i64 p] w fun e w' => e = .returned (.tuple #[.int .i64 (cen s p), .bool true]) ∧ Below w.heap.size w w' := by
  go_enter Try.func45, Try.ntmps45
  go_wp2_with (first
    | (go_at_call 117; refine (asap_yes _ _ _ _ h1 h2 h3 h4).mono ?_; rintro e w' ⟨rfl, rfl⟩)
    | (go_at_call 118; refine (centredRule_any _ _ h1 h2).mono ?_; rintro e w1 ⟨rfl, hb1⟩)
    | (go_at_call 119; refine (numberAt_any _ _ _ _ _ _ (cenRule_bds s p h1 h2 (by omega) (by omega))).mono ?_; rintro e w2 ⟨rfl, hb2⟩))
  go_ret2
  exact ⟨rfl, hb1.trans (hb2.mono hb1.size)⟩
end Go.Proofs.Ytkhjeleoppdjgac
