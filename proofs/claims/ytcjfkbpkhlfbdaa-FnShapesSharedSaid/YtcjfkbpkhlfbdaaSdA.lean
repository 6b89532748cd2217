/- Chapter 4: what the specification's functions hand back. -/
import Derived.Test.YtcjfkbpkhlfbdaaBase
import Derived.Test.YtcjfkbpkhlfbdaaSpA
import Derived.Test.YtcjfkbpkhlfbdaaSdN
namespace Go.Proofs.Ytcjfkbpkhlfbdaa
open Go.ChangeShapes Go.WideShapes Go.ChangeAt Go.RowKit

theorem sdTwo_yes (a b : Int) (w : World) (h1 : 3 ≤ a) (h2 : a ≤ 24) (g1 : 3 ≤ b) (g2 : b ≤ 24) (hne : a ≠ b) :
    Calls Try.prog 29 #[.int .i64 a, .int .i64 b] w fun e w' => e = .returned (.bool true) ∧ w = w' := by
  have hb : (a != b) = true := by simpa using hne
  clear hne
  go_enter Try.func29, Try.ntmps29
  go_wp2_with (first
    | (go_at_call 46; refine (shSides_yes _ _ (by assumption) (by assumption)).mono ?_; rintro e w' ⟨rfl, rfl⟩))
  go_ret
  exact ⟨rfl, rfl⟩
theorem sdTwo_no (a b : Int) (w : World) (h : (a < 3 ∨ 24 < a) ∨ (b < 3 ∨ 24 < b) ∨ a = b) :
    Calls Try.prog 29 #[.int .i64 a, .int .i64 b] w fun e w' => e = .returned (.bool false) ∧ w = w' := by
  by_cases hs : a < 3 ∨ 24 < a
  · have H := Lib.hid hs
    clear h hs
    go_enter Try.func29, Try.ntmps29
    go_wp2_with (go_at_call 46; refine (shSides_no _ _ H.out).mono ?_; rintro e w' ⟨rfl, rfl⟩)
    go_ret
    exact ⟨rfl, rfl⟩
  · have h1 : 3 ≤ a := by omega
    have h2 : a ≤ 24 := by omega
    by_cases ht : b < 3 ∨ 24 < b
    · have hab : a ≠ b := by omega
      have H := Lib.hid ht
      clear h hs ht hab
      go_enter Try.func29, Try.ntmps29
      go_wp2_with (first
        | (go_at_call 46; refine (shSides_yes a _ h1 h2).mono ?_; rintro e w' ⟨rfl, rfl⟩)
        | (go_at_call 46; refine (shSides_no b _ H.out).mono ?_; rintro e w' ⟨rfl, rfl⟩))
      go_ret
      exact ⟨rfl, rfl⟩
    · obtain rfl : a = b := by omega
      clear h hs ht
      go_enter Try.func29, Try.ntmps29
      go_wp2_with (first
        | (go_at_call 46; refine (shSides_yes _ _ h1 h2).mono ?_; rintro e w' ⟨rfl, rfl⟩))
      go_ret
      exact ⟨by simp, rfl⟩
theorem sdIs_any (s n : Int) (w : World) (h1 : 3 ≤ s) (h2 : s ≤ 24) (h3 : 0 ≤ n) (h4 : n ≤ 1000000000000) :
    Calls Try.prog 40 #[.int .i64 s, .int .i64 n] w fun e w' => e = .returned (.bool (num s (pl s n) == n)) ∧ w = w' := by
  have p0 := pl_nn s n h1 h3
  have p1 := pl_le s n h1 h3 h4
  go_enter Try.func40, Try.ntmps40
  go_wp2_with (first
    | (go_at_call 38; refine (shBelow_any _ _ _ h1 h2 h3 h4).mono ?_; rintro e w' ⟨rfl, rfl⟩)
    | (go_at_call 39; refine (shNumber_any _ _ _ h1 h2 (by omega) (by omega)).mono ?_; rintro e w' ⟨rfl, rfl⟩))
  go_ret
  exact ⟨rfl, rfl⟩
end Go.Proofs.Ytcjfkbpkhlfbdaa
