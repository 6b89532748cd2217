/- Guards of chapter 3, and the contracts of its rules of arithmetic. -/
import Derived.Test.YtejjgpmdnnogbaaDoorBase
import Derived.Test.YtejjgpmdnnogbaaDoorSpA
import Derived.Test.YtejjgpmdnnogbaaDoorImB
import Derived.Test.YtejjgpmdnnogbaaDoorSeq
namespace Go.Proofs.YtejjgpmdnnogbaaDoor
open Go.ChangeShapes Go.WideShapes Go.ChangeAt Go.RowKit

theorem soSplit_yes (n : Int) (w : World) (h1 : 0 ≤ n) (h2 : n ≤ 1500) :
    Calls Tryd.prog 21 #[.int .i64 n] w fun e w' => e = .returned (.bool true) ∧ w = w' := by
  go_enter Tryd.func21, Tryd.ntmps21
  go_wp2_with (go_at_call 29; refine (in_yes _ _ _ _ h1 h2).mono ?_; rintro e w' ⟨rfl, rfl⟩)
  go_ret
  exact ⟨rfl, rfl⟩
theorem soSplit_no (n : Int) (w : World) (h : n < 0 ∨ 1500 < n) :
    Calls Tryd.prog 21 #[.int .i64 n] w fun e w' => e = .returned (.bool false) ∧ w = w' := by
  have H := Lib.hid h
  clear h
  go_enter Tryd.func21, Tryd.ntmps21
  go_wp2_with (go_at_call 29; refine (in_no _ _ _ _ H.out).mono ?_; rintro e w' ⟨rfl, rfl⟩)
  go_ret
  exact ⟨rfl, rfl⟩
theorem isSplit_yes (n : Int) (w : World) (h1 : 0 ≤ n) (h2 : n ≤ 1500) :
    Calls Tryd.prog 17 #[.int .i64 n] w fun e w' => e = .returned (.bool true) ∧ w = w' := by
  go_enter Tryd.func17, Tryd.ntmps17
  go_wp2_with (go_at_call 25; refine (within_yes _ _ _ _ h1 h2).mono ?_; rintro e w' ⟨rfl, rfl⟩)
  go_ret
  exact ⟨rfl, rfl⟩
theorem isSplit_no (n : Int) (w : World) (h : n < 0 ∨ 1500 < n) :
    Calls Tryd.prog 17 #[.int .i64 n] w fun e w' => e = .returned (.bool false) ∧ w = w' := by
  have H := Lib.hid h
  clear h
  go_enter Tryd.func17, Tryd.ntmps17
  go_wp2_with (go_at_call 25; refine (within_no _ _ _ _ H.out).mono ?_; rintro e w' ⟨rfl, rfl⟩)
  go_ret
  exact ⟨rfl, rfl⟩

theorem areLayers_yes (n l : Int) (w : World) (h1 : l ≤ n) (h2 : n ≤ 2000) :
    Calls Tryd.prog 36 #[.int .i64 n, .int .i64 l] w fun e w' => e = .returned (.bool true) ∧ w = w' := by
  go_enter Tryd.func36, Tryd.ntmps36
  go_wp2_with (go_at_call 25; refine (within_yes _ _ _ _ h1 h2).mono ?_; rintro e w' ⟨rfl, rfl⟩)
  go_ret
  exact ⟨rfl, rfl⟩
theorem areLayers_no (n l : Int) (w : World) (h : n < l ∨ 2000 < n) :
    Calls Tryd.prog 36 #[.int .i64 n, .int .i64 l] w fun e w' => e = .returned (.bool false) ∧ w = w' := by
  have H := Lib.hid h
  clear h
  go_enter Tryd.func36, Tryd.ntmps36
  go_wp2_with (go_at_call 25; refine (within_no _ _ _ _ H.out).mono ?_; rintro e w' ⟨rfl, rfl⟩)
  go_ret
  exact ⟨rfl, rfl⟩
theorem asal_no (s k : Int) (w : World) (h : (s < 3 ∨ 24 < s) ∨ (k < 0 ∨ 2000 < k)) :
    Calls Tryd.prog 23 #[.int .i64 s, .int .i64 k] w fun e w' => e = .returned (.bool false) ∧ w = w' := by
  by_cases hs : s < 3 ∨ 24 < s
  · have H : Hid (s < 3 ∨ 24 < s) := Lib.hid hs
    clear h hs
    go_enter Tryd.func23, Tryd.ntmps23
    go_wp2_with (first
      | (go_at_call 35; refine (areSides_no _ _ H.out).mono ?_; rintro e w' ⟨rfl, rfl⟩))
    go_ret
    exact ⟨rfl, rfl⟩
  · skip
    have h1 : 3 ≤ s := by omega
    have h2 : s ≤ 24 := by omega
    have h' := h
    clear h
    have h : k < 0 ∨ 2000 < k := by omega
    clear h' hs
    have H : Hid (k < 0 ∨ 2000 < k) := Lib.hid (by omega)
    clear h
    go_enter Tryd.func23, Tryd.ntmps23
    go_wp2_with (first
      | (go_at_call 35; refine (areSides_yes _ _ h1 h2).mono ?_; rintro e w' ⟨rfl, rfl⟩)
      | (go_at_call 36; refine (areLayers_no _ _ _ H.out).mono ?_; rintro e w' ⟨rfl, rfl⟩))
    go_ret
    exact ⟨rfl, rfl⟩
theorem asal_yes (s k : Int) (w : World) (h1 : 3 ≤ s) (h2 : s ≤ 24) (h3 : 0 ≤ k) (h4 : k ≤ 2000) :
    Calls Tryd.prog 23 #[.int .i64 s, .int .i64 k] w fun e w' => e = .returned (.bool true) ∧ w = w' := by
  go_enter Tryd.func23, Tryd.ntmps23
  go_wp2_with (first
    | (go_at_call 35; refine (areSides_yes _ _ h1 h2).mono ?_; rintro e w' ⟨rfl, rfl⟩)
    | (go_at_call 36; refine (areLayers_yes _ _ _ h3 h4).mono ?_; rintro e w' ⟨rfl, rfl⟩))
  go_ret
  exact ⟨rfl, rfl⟩
theorem soPyramid_any (s k : Int) (w : World) (h1 : 3 ≤ s) (h2 : s ≤ 24) (h3 : 0 ≤ k) (h4 : k ≤ 32768) :
    Calls Tryd.prog 39 #[.int .i64 s, .int .i64 k] w fun e w' => e = .returned (.int .i64 (pyr s k)) ∧ w = w' := by
  obtain ⟨a0, a1, b0, b1, c0, c1, d0⟩ := pyr_bds s k h1 h2 h3 h4
  go_enter Tryd.func39, Tryd.ntmps39
  go_wp2
  go_ret
  exact ⟨rfl, rfl⟩
theorem pyramidOf_any (s k : Int) (w : World) (h1 : 3 ≤ s) (h2 : s ≤ 24) (h3 : 0 ≤ k) (h4 : k ≤ 32768) :
    Calls Tryd.prog 24 #[.int .i64 s, .int .i64 k] w fun e w' => e = .returned (.int .i64 (pyr s k)) ∧ w = w' := by
  obtain ⟨a0, a1, b0, b1, c0, c1, d0⟩ := pyr_bds s k h1 h2 h3 h4
  go_enter Tryd.func24, Tryd.ntmps24
  go_wp2
  go_ret
  exact ⟨rfl, rfl⟩
end Go.Proofs.YtejjgpmdnnogbaaDoor
