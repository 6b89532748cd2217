/- Guards of chapter 3, and the contracts of its rules of arithmetic. -/
import Derived.Test.YtaefmlngnfgkhaaBase
import Derived.Test.YtaefmlngnfgkhaaSpA
import Derived.Test.YtaefmlngnfgkhaaImB
import Derived.Test.YtaefmlngnfgkhaaSeq
namespace Go.Proofs.Ytaefmlngnfgkhaa
open Go.ChangeShapes Go.WideShapes Go.ChangeAt Go.RowKit

theorem soLayers_yes (n : Int) (w : World) (h1 : 0 ≤ n) (h2 : n ≤ 2000) :
    Calls Try.prog 52 #[.int .i64 n] w fun e w' => e = .returned (.bool true) ∧ w = w' := by
  go_enter Try.func52, Try.ntmps52
  go_wp2_with (go_at_call 61; refine (in_yes _ _ _ _ h1 h2).mono ?_; rintro e w' ⟨rfl, rfl⟩)
  go_ret
  exact ⟨rfl, rfl⟩
theorem soLayers_no (n : Int) (w : World) (h : n < 0 ∨ 2000 < n) :
    Calls Try.prog 52 #[.int .i64 n] w fun e w' => e = .returned (.bool false) ∧ w = w' := by
  have H := Lib.hid h
  clear h
  go_enter Try.func52, Try.ntmps52
  go_wp2_with (go_at_call 61; refine (in_no _ _ _ _ H.out).mono ?_; rintro e w' ⟨rfl, rfl⟩)
  go_ret
  exact ⟨rfl, rfl⟩
theorem soStacked_yes (n : Int) (w : World) (h1 : 0 ≤ n) (h2 : n ≤ 1000000000000) :
    Calls Try.prog 56 #[.int .i64 n] w fun e w' => e = .returned (.bool true) ∧ w = w' := by
  go_enter Try.func56, Try.ntmps56
  go_wp2_with (go_at_call 61; refine (in_yes _ _ _ _ h1 h2).mono ?_; rintro e w' ⟨rfl, rfl⟩)
  go_ret
  exact ⟨rfl, rfl⟩
theorem soStacked_no (n : Int) (w : World) (h : n < 0 ∨ 1000000000000 < n) :
    Calls Try.prog 56 #[.int .i64 n] w fun e w' => e = .returned (.bool false) ∧ w = w' := by
  have H := Lib.hid h
  clear h
  go_enter Try.func56, Try.ntmps56
  go_wp2_with (go_at_call 61; refine (in_no _ _ _ _ H.out).mono ?_; rintro e w' ⟨rfl, rfl⟩)
  go_ret
  exact ⟨rfl, rfl⟩
theorem soDimension_yes (n : Int) (w : World) (h1 : 1 ≤ n) (h2 : n ≤ 8) :
    Calls Try.prog 70 #[.int .i64 n] w fun e w' => e = .returned (.bool true) ∧ w = w' := by
  go_enter Try.func70, Try.ntmps70
  go_wp2_with (go_at_call 61; refine (in_yes _ _ _ _ h1 h2).mono ?_; rintro e w' ⟨rfl, rfl⟩)
  go_ret
  exact ⟨rfl, rfl⟩
theorem soDimension_no (n : Int) (w : World) (h : n < 1 ∨ 8 < n) :
    Calls Try.prog 70 #[.int .i64 n] w fun e w' => e = .returned (.bool false) ∧ w = w' := by
  have H := Lib.hid h
  clear h
  go_enter Try.func70, Try.ntmps70
  go_wp2_with (go_at_call 61; refine (in_no _ _ _ _ H.out).mono ?_; rintro e w' ⟨rfl, rfl⟩)
  go_ret
  exact ⟨rfl, rfl⟩
theorem soSplit_yes (n : Int) (w : World) (h1 : 0 ≤ n) (h2 : n ≤ 1500) :
    Calls Try.prog 77 #[.int .i64 n] w fun e w' => e = .returned (.bool true) ∧ w = w' := by
  go_enter Try.func77, Try.ntmps77
  go_wp2_with (go_at_call 61; refine (in_yes _ _ _ _ h1 h2).mono ?_; rintro e w' ⟨rfl, rfl⟩)
  go_ret
  exact ⟨rfl, rfl⟩
theorem soSplit_no (n : Int) (w : World) (h : n < 0 ∨ 1500 < n) :
    Calls Try.prog 77 #[.int .i64 n] w fun e w' => e = .returned (.bool false) ∧ w = w' := by
  have H := Lib.hid h
  clear h
  go_enter Try.func77, Try.ntmps77
  go_wp2_with (go_at_call 61; refine (in_no _ _ _ _ H.out).mono ?_; rintro e w' ⟨rfl, rfl⟩)
  go_ret
  exact ⟨rfl, rfl⟩
theorem isStacked_yes (n : Int) (w : World) (h1 : 0 ≤ n) (h2 : n ≤ 1000000000000) :
    Calls Try.prog 59 #[.int .i64 n] w fun e w' => e = .returned (.bool true) ∧ w = w' := by
  go_enter Try.func59, Try.ntmps59
  go_wp2_with (go_at_call 63; refine (within_yes _ _ _ _ h1 h2).mono ?_; rintro e w' ⟨rfl, rfl⟩)
  go_ret
  exact ⟨rfl, rfl⟩
theorem isStacked_no (n : Int) (w : World) (h : n < 0 ∨ 1000000000000 < n) :
    Calls Try.prog 59 #[.int .i64 n] w fun e w' => e = .returned (.bool false) ∧ w = w' := by
  have H := Lib.hid h
  clear h
  go_enter Try.func59, Try.ntmps59
  go_wp2_with (go_at_call 63; refine (within_no _ _ _ _ H.out).mono ?_; rintro e w' ⟨rfl, rfl⟩)
  go_ret
  exact ⟨rfl, rfl⟩
theorem isDimension_yes (n : Int) (w : World) (h1 : 1 ≤ n) (h2 : n ≤ 8) :
    Calls Try.prog 72 #[.int .i64 n] w fun e w' => e = .returned (.bool true) ∧ w = w' := by
  go_enter Try.func72, Try.ntmps72
  go_wp2_with (go_at_call 63; refine (within_yes _ _ _ _ h1 h2).mono ?_; rintro e w' ⟨rfl, rfl⟩)
  go_ret
  exact ⟨rfl, rfl⟩
theorem isDimension_no (n : Int) (w : World) (h : n < 1 ∨ 8 < n) :
    Calls Try.prog 72 #[.int .i64 n] w fun e w' => e = .returned (.bool false) ∧ w = w' := by
  have H := Lib.hid h
  clear h
  go_enter Try.func72, Try.ntmps72
  go_wp2_with (go_at_call 63; refine (within_no _ _ _ _ H.out).mono ?_; rintro e w' ⟨rfl, rfl⟩)
  go_ret
  exact ⟨rfl, rfl⟩
theorem isSplit_yes (n : Int) (w : World) (h1 : 0 ≤ n) (h2 : n ≤ 1500) :
    Calls Try.prog 79 #[.int .i64 n] w fun e w' => e = .returned (.bool true) ∧ w = w' := by
  go_enter Try.func79, Try.ntmps79
  go_wp2_with (go_at_call 63; refine (within_yes _ _ _ _ h1 h2).mono ?_; rintro e w' ⟨rfl, rfl⟩)
  go_ret
  exact ⟨rfl, rfl⟩
theorem isSplit_no (n : Int) (w : World) (h : n < 0 ∨ 1500 < n) :
    Calls Try.prog 79 #[.int .i64 n] w fun e w' => e = .returned (.bool false) ∧ w = w' := by
  have H := Lib.hid h
  clear h
  go_enter Try.func79, Try.ntmps79
  go_wp2_with (go_at_call 63; refine (within_no _ _ _ _ H.out).mono ?_; rintro e w' ⟨rfl, rfl⟩)
  go_ret
  exact ⟨rfl, rfl⟩

theorem areLayers_yes (n l : Int) (w : World) (h1 : l ≤ n) (h2 : n ≤ 2000) :
    Calls Try.prog 65 #[.int .i64 n, .int .i64 l] w fun e w' => e = .returned (.bool true) ∧ w = w' := by
  go_enter Try.func65, Try.ntmps65
  go_wp2_with (go_at_call 63; refine (within_yes _ _ _ _ h1 h2).mono ?_; rintro e w' ⟨rfl, rfl⟩)
  go_ret
  exact ⟨rfl, rfl⟩
theorem areLayers_no (n l : Int) (w : World) (h : n < l ∨ 2000 < n) :
    Calls Try.prog 65 #[.int .i64 n, .int .i64 l] w fun e w' => e = .returned (.bool false) ∧ w = w' := by
  have H := Lib.hid h
  clear h
  go_enter Try.func65, Try.ntmps65
  go_wp2_with (go_at_call 63; refine (within_no _ _ _ _ H.out).mono ?_; rintro e w' ⟨rfl, rfl⟩)
  go_ret
  exact ⟨rfl, rfl⟩
theorem asal_no (s k : Int) (w : World) (h : (s < 3 ∨ 24 < s) ∨ (k < 0 ∨ 2000 < k)) :
    Calls Try.prog 54 #[.int .i64 s, .int .i64 k] w fun e w' => e = .returned (.bool false) ∧ w = w' := by
  by_cases hs : s < 3 ∨ 24 < s
  · have H : Hid (s < 3 ∨ 24 < s) := Lib.hid hs
    clear h hs
    go_enter Try.func54, Try.ntmps54
    go_wp2_with (first
      | (go_at_call 58; refine (areSides_no _ _ H.out).mono ?_; rintro e w' ⟨rfl, rfl⟩))
    go_ret
    exact ⟨rfl, rfl⟩
  · skip
    have h1 : 3 ≤ s := by omega
    have h2 : s ≤ 24 := by omega
    have h' := h
    clear h
    have h : k < 0 ∨ 2000 < k := by omega
    clear h' hs
    have H : Hid (k < 0 ∨ 2000 < k) := Lib.hid (by omega)
    clear h
    go_enter Try.func54, Try.ntmps54
    go_wp2_with (first
      | (go_at_call 58; refine (areSides_yes _ _ h1 h2).mono ?_; rintro e w' ⟨rfl, rfl⟩)
      | (go_at_call 65; refine (areLayers_no _ _ _ H.out).mono ?_; rintro e w' ⟨rfl, rfl⟩))
    go_ret
    exact ⟨rfl, rfl⟩
theorem asal_yes (s k : Int) (w : World) (h1 : 3 ≤ s) (h2 : s ≤ 24) (h3 : 0 ≤ k) (h4 : k ≤ 2000) :
    Calls Try.prog 54 #[.int .i64 s, .int .i64 k] w fun e w' => e = .returned (.bool true) ∧ w = w' := by
  go_enter Try.func54, Try.ntmps54
  go_wp2_with (first
    | (go_at_call 58; refine (areSides_yes _ _ h1 h2).mono ?_; rintro e w' ⟨rfl, rfl⟩)
    | (go_at_call 65; refine (areLayers_yes _ _ _ h3 h4).mono ?_; rintro e w' ⟨rfl, rfl⟩))
  go_ret
  exact ⟨rfl, rfl⟩
theorem soPyramid_any (s k : Int) (w : World) (h1 : 3 ≤ s) (h2 : s ≤ 24) (h3 : 0 ≤ k) (h4 : k ≤ 32768) :
    Calls Try.prog 53 #[.int .i64 s, .int .i64 k] w fun e w' => e = .returned (.int .i64 (pyr s k)) ∧ w = w' := by
  obtain ⟨a0, a1, b0, b1, c0, c1, d0⟩ := pyr_bds s k h1 h2 h3 h4
  go_enter Try.func53, Try.ntmps53
  go_wp2
  go_ret
  exact ⟨rfl, rfl⟩
theorem pyramidOf_any (s k : Int) (w : World) (h1 : 3 ≤ s) (h2 : s ≤ 24) (h3 : 0 ≤ k) (h4 : k ≤ 32768) :
    Calls Try.prog 55 #[.int .i64 s, .int .i64 k] w fun e w' => e = .returned (.int .i64 (pyr s k)) ∧ w = w' := by
  obtain ⟨a0, a1, b0, b1, c0, c1, d0⟩ := pyr_bds s k h1 h2 h3 h4
  go_enter Try.func55, Try.ntmps55
  go_wp2
  go_ret
  exact ⟨rfl, rfl⟩
end Go.Proofs.Ytaefmlngnfgkhaa
