/- Guards of chapter 3, and the contracts of its rules of arithmetic. -/
import Derived.Test.YtppdjjdejggjaaaBase
import Derived.Test.YtppdjjdejggjaaaSpA
import Derived.Test.YtppdjjdejggjaaaImB
import Derived.Test.YtppdjjdejggjaaaSeq
namespace Go.Proofs.Ytppdjjdejggjaaa
open Go.ChangeShapes Go.WideShapes Go.ChangeAt Go.RowKit

theorem soLayers_yes (n : Int) (w : World) (h1 : 0 ≤ n) (h2 : n ≤ 2000) :
    Calls Try.prog 147 #[.int .i64 n] w fun e w' => e = .returned (.bool true) ∧ w = w' := by
  go_enter Try.func147, Try.ntmps147
  go_wp2_with (go_at_call 137; refine (in_yes _ _ _ _ h1 h2).mono ?_; rintro e w' ⟨rfl, rfl⟩)
  go_ret
  exact ⟨rfl, rfl⟩
theorem soLayers_no (n : Int) (w : World) (h : n < 0 ∨ 2000 < n) :
    Calls Try.prog 147 #[.int .i64 n] w fun e w' => e = .returned (.bool false) ∧ w = w' := by
  have H := Lib.hid h
  clear h
  go_enter Try.func147, Try.ntmps147
  go_wp2_with (go_at_call 137; refine (in_no _ _ _ _ H.out).mono ?_; rintro e w' ⟨rfl, rfl⟩)
  go_ret
  exact ⟨rfl, rfl⟩
theorem soStacked_yes (n : Int) (w : World) (h1 : 0 ≤ n) (h2 : n ≤ 1000000000000) :
    Calls Try.prog 158 #[.int .i64 n] w fun e w' => e = .returned (.bool true) ∧ w = w' := by
  go_enter Try.func158, Try.ntmps158
  go_wp2_with (go_at_call 137; refine (in_yes _ _ _ _ h1 h2).mono ?_; rintro e w' ⟨rfl, rfl⟩)
  go_ret
  exact ⟨rfl, rfl⟩
theorem soStacked_no (n : Int) (w : World) (h : n < 0 ∨ 1000000000000 < n) :
    Calls Try.prog 158 #[.int .i64 n] w fun e w' => e = .returned (.bool false) ∧ w = w' := by
  have H := Lib.hid h
  clear h
  go_enter Try.func158, Try.ntmps158
  go_wp2_with (go_at_call 137; refine (in_no _ _ _ _ H.out).mono ?_; rintro e w' ⟨rfl, rfl⟩)
  go_ret
  exact ⟨rfl, rfl⟩
theorem soDimension_yes (n : Int) (w : World) (h1 : 1 ≤ n) (h2 : n ≤ 8) :
    Calls Try.prog 153 #[.int .i64 n] w fun e w' => e = .returned (.bool true) ∧ w = w' := by
  go_enter Try.func153, Try.ntmps153
  go_wp2_with (go_at_call 137; refine (in_yes _ _ _ _ h1 h2).mono ?_; rintro e w' ⟨rfl, rfl⟩)
  go_ret
  exact ⟨rfl, rfl⟩
theorem soDimension_no (n : Int) (w : World) (h : n < 1 ∨ 8 < n) :
    Calls Try.prog 153 #[.int .i64 n] w fun e w' => e = .returned (.bool false) ∧ w = w' := by
  have H := Lib.hid h
  clear h
  go_enter Try.func153, Try.ntmps153
  go_wp2_with (go_at_call 137; refine (in_no _ _ _ _ H.out).mono ?_; rintro e w' ⟨rfl, rfl⟩)
  go_ret
  exact ⟨rfl, rfl⟩
theorem isStacked_yes (n : Int) (w : World) (h1 : 0 ≤ n) (h2 : n ≤ 1000000000000) :
    Calls Try.prog 155 #[.int .i64 n] w fun e w' => e = .returned (.bool true) ∧ w = w' := by
  go_enter Try.func155, Try.ntmps155
  go_wp2_with (go_at_call 132; refine (within_yes _ _ _ _ h1 h2).mono ?_; rintro e w' ⟨rfl, rfl⟩)
  go_ret
  exact ⟨rfl, rfl⟩
theorem isStacked_no (n : Int) (w : World) (h : n < 0 ∨ 1000000000000 < n) :
    Calls Try.prog 155 #[.int .i64 n] w fun e w' => e = .returned (.bool false) ∧ w = w' := by
  have H := Lib.hid h
  clear h
  go_enter Try.func155, Try.ntmps155
  go_wp2_with (go_at_call 132; refine (within_no _ _ _ _ H.out).mono ?_; rintro e w' ⟨rfl, rfl⟩)
  go_ret
  exact ⟨rfl, rfl⟩
theorem isDimension_yes (n : Int) (w : World) (h1 : 1 ≤ n) (h2 : n ≤ 8) :
    Calls Try.prog 151 #[.int .i64 n] w fun e w' => e = .returned (.bool true) ∧ w = w' := by
  go_enter Try.func151, Try.ntmps151
  go_wp2_with (go_at_call 132; refine (within_yes _ _ _ _ h1 h2).mono ?_; rintro e w' ⟨rfl, rfl⟩)
  go_ret
  exact ⟨rfl, rfl⟩
theorem isDimension_no (n : Int) (w : World) (h : n < 1 ∨ 8 < n) :
    Calls Try.prog 151 #[.int .i64 n] w fun e w' => e = .returned (.bool false) ∧ w = w' := by
  have H := Lib.hid h
  clear h
  go_enter Try.func151, Try.ntmps151
  go_wp2_with (go_at_call 132; refine (within_no _ _ _ _ H.out).mono ?_; rintro e w' ⟨rfl, rfl⟩)
  go_ret
  exact ⟨rfl, rfl⟩

theorem areLayers_yes (n l : Int) (w : World) (h1 : l ≤ n) (h2 : n ≤ 2000) :
    Calls Try.prog 146 #[.int .i64 n, .int .i64 l] w fun e w' => e = .returned (.bool true) ∧ w = w' := by
  go_enter Try.func146, Try.ntmps146
  go_wp2_with (go_at_call 132; refine (within_yes _ _ _ _ h1 h2).mono ?_; rintro e w' ⟨rfl, rfl⟩)
  go_ret
  exact ⟨rfl, rfl⟩
theorem areLayers_no (n l : Int) (w : World) (h : n < l ∨ 2000 < n) :
    Calls Try.prog 146 #[.int .i64 n, .int .i64 l] w fun e w' => e = .returned (.bool false) ∧ w = w' := by
  have H := Lib.hid h
  clear h
  go_enter Try.func146, Try.ntmps146
  go_wp2_with (go_at_call 132; refine (within_no _ _ _ _ H.out).mono ?_; rintro e w' ⟨rfl, rfl⟩)
  go_ret
  exact ⟨rfl, rfl⟩
theorem asal_no (s k : Int) (w : World) (h : (s < 3 ∨ 24 < s) ∨ (k < 0 ∨ 2000 < k)) :
    Calls Try.prog 149 #[.int .i64 s, .int .i64 k] w fun e w' => e = .returned (.bool false) ∧ w = w' := by
  by_cases hs : s < 3 ∨ 24 < s
  · have H : Hid (s < 3 ∨ 24 < s) := Lib.hid hs
    clear h hs
    go_enter Try.func149, Try.ntmps149
    go_wp2_with (first
      | (go_at_call 161; refine (areSides_no _ _ H.out).mono ?_; rintro e w' ⟨rfl, rfl⟩))
    go_ret
    exact ⟨rfl, rfl⟩
  · skip
    have h1 : 3 ≤ s := by omega
    have h2 : s ≤ 24 := by omega
    have h' := h
    clear h
    have h : k < 0 ∨ 2000 < k := by omega
    clear h' hs
    have H : Hid (k < 0 ∨ 2000 < k) := Lib.hid (by omega)
    clear h
    go_enter Try.func149, Try.ntmps149
    go_wp2_with (first
      | (go_at_call 161; refine (areSides_yes _ _ h1 h2).mono ?_; rintro e w' ⟨rfl, rfl⟩)
      | (go_at_call 146; refine (areLayers_no _ _ _ H.out).mono ?_; rintro e w' ⟨rfl, rfl⟩))
    go_ret
    exact ⟨rfl, rfl⟩
theorem asal_yes (s k : Int) (w : World) (h1 : 3 ≤ s) (h2 : s ≤ 24) (h3 : 0 ≤ k) (h4 : k ≤ 2000) :
    Calls Try.prog 149 #[.int .i64 s, .int .i64 k] w fun e w' => e = .returned (.bool true) ∧ w = w' := by
  go_enter Try.func149, Try.ntmps149
  go_wp2_with (first
    | (go_at_call 161; refine (areSides_yes _ _ h1 h2).mono ?_; rintro e w' ⟨rfl, rfl⟩)
    | (go_at_call 146; refine (areLayers_yes _ _ _ h3 h4).mono ?_; rintro e w' ⟨rfl, rfl⟩))
  go_ret
  exact ⟨rfl, rfl⟩
theorem soPyramid_any (s k : Int) (w : World) (h1 : 3 ≤ s) (h2 : s ≤ 24) (h3 : 0 ≤ k) (h4 : k ≤ 32768) :
    Calls Try.prog 148 #[.int .i64 s, .int .i64 k] w fun e w' => e = .returned (.int .i64 (pyr s k)) ∧ w = w' := by
  obtain ⟨a0, a1, b0, b1, c0, c1, d0⟩ := pyr_bds s k h1 h2 h3 h4
  go_enter Try.func148, Try.ntmps148
  go_wp2
  go_ret
  exact ⟨rfl, rfl⟩
theorem pyramidOf_any (s k : Int) (w : World) (h1 : 3 ≤ s) (h2 : s ≤ 24) (h3 : 0 ≤ k) (h4 : k ≤ 32768) :
    Calls Try.prog 150 #[.int .i64 s, .int .i64 k] w fun e w' => e = .returned (.int .i64 (pyr s k)) ∧ w = w' := by
  obtain ⟨a0, a1, b0, b1, c0, c1, d0⟩ := pyr_bds s k h1 h2 h3 h4
  go_enter Try.func150, Try.ntmps150
  go_wp2
  go_ret
  exact ⟨rfl, rfl⟩
end Go.Proofs.Ytppdjjdejggjaaa
