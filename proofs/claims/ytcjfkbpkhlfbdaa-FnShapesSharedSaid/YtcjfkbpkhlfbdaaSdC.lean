/- Chapter 4: shared numbers: what the specification hands back, and the laws' frames. -/
import Derived.Test.YtcjfkbpkhlfbdaaSdA
import Derived.Test.YtcjfkbpkhlfbdaaSuP
import Derived.OwnWalk
namespace Go.Proofs.Ytcjfkbpkhlfbdaa
open Go.ChangeShapes Go.WideShapes Go.ChangeAt Go.RowKit

/-- n is polygonal for s sides. -/
noncomputable def isP (s n : Int) : Bool := num s (pl s n) == n
theorem sdIs_P (s n : Int) (w : World) (h1 : 3 ≤ s) (h2 : s ≤ 24) (h3 : 0 ≤ n) (h4 : n ≤ 1000000000000) :
    Calls Try.prog 40 #[.int .i64 s, .int .i64 n] w fun e w' => e = .returned (.bool (isP s n)) ∧ w = w' := sdIs_any s n w h1 h2 h3 h4
theorem isP_num (s k : Int) (hs : 3 ≤ s) (hk : 0 ≤ k) : isP s (num s k) = true := by
  have h0 := num_nn s k hs
  have h1 := (fits_iff s (num s k) k hs h0 hk).1 (Int.le_refl _)
  have h2 := pl_is s (num s k) hs h0
  have h3 : pl s (num s k) = k := by
    rcases Int.lt_or_le k (pl s (num s k)) with h | h
    · have := num_mono_lt s hs hk h
      have := h2.2.1
      omega
    · omega
  simp [isP, h3]
theorem isP_ex (s n : Int) (hs : 3 ≤ s) (hn : 0 ≤ n) (h : isP s n = true) : ∃ k, 0 ≤ k ∧ num s k = n := ⟨pl s n, pl_nn s n hs hn, by simpa [isP] using h⟩
theorem spec_IsShared_no (a b n : Int) (w : World) (h : ((a < 3 ∨ 24 < a) ∨ (b < 3 ∨ 24 < b) ∨ a = b) ∨ (n < 0 ∨ 1000000000000 < n)) :
    Calls Try.prog 17 #[.int .i64 a, .int .i64 b, .int .i64 n] w fun e w' => e = .returned (.tuple #[.bool false, .bool false]) ∧ Below w.heap.size w w' := by
  by_cases hs : (a < 3 ∨ 24 < a) ∨ (b < 3 ∨ 24 < b) ∨ a = b
  · have H : Hid ((a < 3 ∨ 24 < a) ∨ (b < 3 ∨ 24 < b) ∨ a = b) := Lib.hid hs
    clear h hs
    go_enter Try.func17, Try.ntmps17
    go_wp2_with (first
      | (go_at_call 29; refine (sdTwo_no _ _ _ H.out).mono ?_; rintro e w' ⟨rfl, rfl⟩))
    go_ret2
    exact ⟨rfl, Below.refl _ _⟩
  · skip
    have h1 : 3 ≤ a := by omega
    have h2 : a ≤ 24 := by omega
    have g1 : 3 ≤ b := by omega
    have g2 : b ≤ 24 := by omega
    have hne : a ≠ b := by omega
    have h' := h
    clear h
    have h : n < 0 ∨ 1000000000000 < n := by omega
    clear h' hs
    have H : Hid (n < 0 ∨ 1000000000000 < n) := Lib.hid (by omega)
    clear h
    go_enter Try.func17, Try.ntmps17
    go_wp2_with (first
      | (go_at_call 29; refine (sdTwo_yes _ _ _ h1 h2 g1 g2 hne).mono ?_; rintro e w' ⟨rfl, rfl⟩)
      | (go_at_call 30; refine (in_no _ _ _ _ H.out).mono ?_; rintro e w' ⟨rfl, rfl⟩))
    go_ret2
    exact ⟨rfl, Below.refl _ _⟩
theorem spec_PlacesShared_no (a b n : Int) (w : World) (h : ((a < 3 ∨ 24 < a) ∨ (b < 3 ∨ 24 < b) ∨ a = b) ∨ (n < 0 ∨ 1000000000000 < n)) :
    Calls Try.prog 18 #[.int .i64 a, .int .i64 b, .int .i64 n] w fun e w' => e = .returned (.tuple #[.int .i64 0, .int .i64 0, .bool false]) ∧ Below w.heap.size w w' := by
  by_cases hs : (a < 3 ∨ 24 < a) ∨ (b < 3 ∨ 24 < b) ∨ a = b
  · have H : Hid ((a < 3 ∨ 24 < a) ∨ (b < 3 ∨ 24 < b) ∨ a = b) := Lib.hid hs
    clear h hs
    go_enter Try.func18, Try.ntmps18
    go_wp2_with (first
      | (go_at_call 29; refine (sdTwo_no _ _ _ H.out).mono ?_; rintro e w' ⟨rfl, rfl⟩))
    go_ret3
    exact ⟨rfl, Below.refl _ _⟩
  · skip
    have h1 : 3 ≤ a := by omega
    have h2 : a ≤ 24 := by omega
    have g1 : 3 ≤ b := by omega
    have g2 : b ≤ 24 := by omega
    have hne : a ≠ b := by omega
    have h' := h
    clear h
    have h : n < 0 ∨ 1000000000000 < n := by omega
    clear h' hs
    have H : Hid (n < 0 ∨ 1000000000000 < n) := Lib.hid (by omega)
    clear h
    go_enter Try.func18, Try.ntmps18
    go_wp2_with (first
      | (go_at_call 29; refine (sdTwo_yes _ _ _ h1 h2 g1 g2 hne).mono ?_; rintro e w' ⟨rfl, rfl⟩)
      | (go_at_call 30; refine (in_no _ _ _ _ H.out).mono ?_; rintro e w' ⟨rfl, rfl⟩))
    go_ret3
    exact ⟨rfl, Below.refl _ _⟩
theorem spec_IsShared_yes (a b n : Int) (w : World) (h1 : 3 ≤ a) (h2 : a ≤ 24) (g1 : 3 ≤ b) (g2 : b ≤ 24) (hne : a ≠ b) (h3 : 0 ≤ n) (h4 : n ≤ 1000000000000) :
    Calls Try.prog 17 #[.int .i64 a, .int .i64 b, .int .i64 n] w fun e w' => e = .returned (.tuple #[.bool (isP a n && isP b n), .bool true]) ∧ Below w.heap.size w w' := by
  have HT := Lib.hid fun w => sdTwo_yes a b w h1 h2 g1 g2 hne
  have HI := Lib.hid fun w => in_yes n 0 1000000000000 w h3 h4
  obtain ⟨x, hx⟩ : ∃ x, isP a n = x := ⟨_, rfl⟩
  obtain ⟨y, hy⟩ : ∃ y, isP b n = y := ⟨_, rfl⟩
  rw [hx, hy]
  have HX := Lib.hid hx
  have HY := Lib.hid hy
  clear hne hx hy
  cases x <;> cases y <;>
  · go_enter Try.func17, Try.ntmps17
    go_wp2_with (first
      | (go_at_call 29; refine (HT.out _).mono ?_; rintro e w' ⟨rfl, rfl⟩)
      | (go_at_call 30; refine (HI.out _).mono ?_; rintro e w' ⟨rfl, rfl⟩)
      | (go_at_call 40; refine (sdIs_P _ _ _ (by assumption) (by assumption) h3 h4).mono ?_; (first | rw [HX.out] | rw [HY.out]); rintro e w' ⟨rfl, rfl⟩))
    go_ret2
    exact ⟨rfl, Below.refl _ _⟩
theorem spec_PlacesShared_yes (a b n : Int) (w : World) (h1 : 3 ≤ a) (h2 : a ≤ 24) (g1 : 3 ≤ b) (g2 : b ≤ 24) (hne : a ≠ b) (h3 : 0 ≤ n) (h4 : n ≤ 1000000000000) (ha : isP a n = true) (hb : isP b n = true) :
    Calls Try.prog 18 #[.int .i64 a, .int .i64 b, .int .i64 n] w fun e w' => e = .returned (.tuple #[.int .i64 (pl a n), .int .i64 (pl b n), .bool true]) ∧ Below w.heap.size w w' := by
  have HT := Lib.hid fun w => sdTwo_yes a b w h1 h2 g1 g2 hne
  have HI := Lib.hid fun w => in_yes n 0 1000000000000 w h3 h4
  have HX := Lib.hid ha
  have HY := Lib.hid hb
  clear hne ha hb
  go_enter Try.func18, Try.ntmps18
  go_wp2_with (first
    | (go_at_call 29; refine (HT.out _).mono ?_; rintro e w' ⟨rfl, rfl⟩)
    | (go_at_call 30; refine (HI.out _).mono ?_; rintro e w' ⟨rfl, rfl⟩)
    | (go_at_call 38; refine (shBelow_any _ _ _ (by assumption) (by assumption) h3 h4).mono ?_; rintro e w' ⟨rfl, rfl⟩)
    | (go_at_call 40; refine (sdIs_P _ _ _ (by assumption) (by assumption) h3 h4).mono ?_; (first | rw [HX.out] | rw [HY.out]); rintro e w' ⟨rfl, rfl⟩))
  go_ret3
  exact ⟨rfl, Below.refl _ _⟩
theorem spec_PlacesShared_miss (a b n : Int) (w : World) (h1 : 3 ≤ a) (h2 : a ≤ 24) (g1 : 3 ≤ b) (g2 : b ≤ 24) (hne : a ≠ b) (h3 : 0 ≤ n) (h4 : n ≤ 1000000000000) (hm : isP a n = false ∨ isP b n = false) :
    Calls Try.prog 18 #[.int .i64 a, .int .i64 b, .int .i64 n] w fun e w' => e = .returned (.tuple #[.int .i64 0, .int .i64 0, .bool false]) ∧ Below w.heap.size w w' := by
  have HT := Lib.hid fun w => sdTwo_yes a b w h1 h2 g1 g2 hne
  have HI := Lib.hid fun w => in_yes n 0 1000000000000 w h3 h4
  rcases Bool.eq_false_or_eq_true (isP a n) with ha | ha
  · have hb : isP b n = false := by rcases hm with h | h; (rw [ha] at h; cases h); exact h
    have HX := Lib.hid ha
    have HY := Lib.hid hb
    clear hne ha hb hm
    go_enter Try.func18, Try.ntmps18
    go_wp2_with (first
    | (go_at_call 29; refine (HT.out _).mono ?_; rintro e w' ⟨rfl, rfl⟩)
    | (go_at_call 30; refine (HI.out _).mono ?_; rintro e w' ⟨rfl, rfl⟩)
    | (go_at_call 38; refine (shBelow_any _ _ _ (by assumption) (by assumption) h3 h4).mono ?_; rintro e w' ⟨rfl, rfl⟩)
    | (go_at_call 40; refine (sdIs_P _ _ _ (by assumption) (by assumption) h3 h4).mono ?_; (first | rw [HX.out] | rw [HY.out]); rintro e w' ⟨rfl, rfl⟩))
    go_ret3
    exact ⟨rfl, Below.refl _ _⟩
  · have HX := Lib.hid ha
    have HY := HX
    clear hne ha hm
    go_enter Try.func18, Try.ntmps18
    go_wp2_with (first
    | (go_at_call 29; refine (HT.out _).mono ?_; rintro e w' ⟨rfl, rfl⟩)
    | (go_at_call 30; refine (HI.out _).mono ?_; rintro e w' ⟨rfl, rfl⟩)
    | (go_at_call 38; refine (shBelow_any _ _ _ (by assumption) (by assumption) h3 h4).mono ?_; rintro e w' ⟨rfl, rfl⟩)
    | (go_at_call 40; refine (sdIs_P _ _ _ (by assumption) (by assumption) h3 h4).mono ?_; (first | rw [HX.out] | rw [HY.out]); rintro e w' ⟨rfl, rfl⟩))
    go_ret3
    exact ⟨rfl, Below.refl _ _⟩
end Go.Proofs.Ytcjfkbpkhlfbdaa
