/- The laws FnExactWidePlace, FnExactRootOf: the program's answer is the specification's, whatever the arguments. No condition. -/
import Derived.Test.YtkhjeleoppdjgabBase
import Derived.Test.YtkhjeleoppdjgabSpA
import Derived.Test.YtkhjeleoppdjgabLwC
import Derived.Deep.QuietTactic
import Derived.BigQuiet
namespace Go.Proofs.Ytkhjeleoppdjgab
open Go.ChangeShapes Go.WideShapes Go.ChangeAt Go.RowKit

theorem belowRule_any (s : Int) (w : World) (h1 : 3 ≤ s) (h2 : s ≤ 24) :
    Calls Try.prog 96 #[.int .i64 s] w fun e w' => e = .returned (.agg #[.int .i64 0, .int .i64 (s - 4), .int .i64 (s - 2)]) ∧ Below w.heap.size w w' := by
  go_enter Try.func96, Try.ntmps96
  go_wp2
  exact bodyPost_ret (v := .agg #[.int .i64 0, .int .i64 (s - 4), .int .i64 (s - 2)]) (by simp [results, Try.results96, go_sem]) rfl ⟨rfl, (Below.refl _ _).alloc (Nat.le_refl _) _⟩
theorem belRule_bds (s k : Int) (h1 : 3 ≤ s) (h2 : s ≤ 24) (h3 : 0 ≤ k) (h4 : k ≤ 3000000) : RuleBds 0 (s - 4) (s - 2) k (num s (-k)) := by
  obtain ⟨a0, a1, b0, b1, c0, c1, d0⟩ := num_bds s k h1 h2 (by omega) h4
  have e1 := neg_twice s k
  have e2 := num_nn s (-k) h1
  constructor <;> omega
theorem bel_fits (s n : Int) (h1 : 3 ≤ s) (h2 : s ≤ 24) (h3 : 0 ≤ n) (h4 : n ≤ 1000000000000) : Fits 0 (s - 4) (s - 2) n (wl s n) (fun k => num s (-k)) :=
  ⟨fun k h5 h6 => belRule_bds s k h1 h2 h5 (by omega), wl_nn s n h1 h3, by have := wl_le s n h1 h3 h4; omega, fun k h5 _ => wfits_iff s n k h1 h3 (by omega)⟩

set_option maxHeartbeats 400000 in
theorem shWide_A1 (s p : Int) (w : World) (h1 : 3 ≤ s) (h2 : s ≤ 24) (h3 : 0 ≤ p) (h4 : p ≤ 1000000000000) (c1 : num s (pl s p) = p) (c2 : num s (-wl s p) = p) :
    Calls Try.prog 97 #[.int .i64 s, .int .i64 p] w fun e w' => e = .returned (.tuple #[.int .i64 (pl s p), .bool true]) ∧ w = w' := by
  have p0 := pl_nn s p h1 h3
  have p1 := pl_le s p h1 h3 h4
  have q0 := wl_nn s p h1 h3
  have q1 := wl_le s p h1 h3 h4
  have hle : pl s p ≤ wl s p := by
    rcases both s p h1 h3 c1 with h | h
    · exact h
    · exact absurd c2 h
  have g1 : (num s (pl s p) == p) = true := by simpa using c1
  have g2 : (num s (-wl s p) == p) = true := by simpa using c2
  clear c1 c2
  go_enter Try.func97, Try.ntmps97
  go_wp2
  go_loop [6, 7, 8] (fun l h _ => ∃ a b : Int, l = .int .i64 a ∧ h = .int .i64 b ∧ 0 ≤ a ∧ a ≤ wl s p ∧ wl s p ≤ b ∧ b ≤ 2000000) (fun l h _ => (intOf h - intOf l).toNat)
  case atStart => exact ⟨0, 2000000, rfl, rfl, by omega, by omega, by omega, by omega⟩
  case round =>
    obtain ⟨a, b, rfl, rfl, ha0, ha1, hb0, hb1⟩ := hrel
    by_cases hlt : a < b
    · have hm := wfits_iff s p ((a + b + 1) / 2) h1 h3 (by omega)
      by_cases hf : (a + b + 1) / 2 ≤ wl s p
      · have hn := hm.2 hf
        clear hm
        go_wp2_with (go_at_call 92; refine (shNumber_any _ _ _ h1 h2 (by omega) (by omega)).mono ?_; rintro e w' ⟨rfl, rfl⟩)
        go_round
        case rel => exact ⟨_, _, rfl, rfl, by omega, hf, by omega, by omega⟩
        case measure => simp [intOf]; omega
      · have hn : p < num s (-((a + b + 1) / 2)) := by
          rcases Int.lt_or_le p (num s (-((a + b + 1) / 2))) with h | h
          · exact h
          · exact absurd (hm.1 h) hf
        clear hm
        go_wp2_with (go_at_call 92; refine (shNumber_any _ _ _ h1 h2 (by omega) (by omega)).mono ?_; rintro e w' ⟨rfl, rfl⟩)
        go_round
        case rel => exact ⟨_, _, rfl, rfl, by omega, by omega, by omega, by omega⟩
        case measure => simp [intOf]; omega
    · obtain rfl : a = wl s p := by omega
      clear ha1 ha0
      go_wp2_with (first
        | (go_at_call 92; refine (shNumber_any _ _ _ h1 h2 (by omega) (by omega)).mono ?_; rintro e w' ⟨rfl, rfl⟩)
        | (go_at_call 93; refine (shBelow_any _ _ _ h1 h2 h3 h4).mono ?_; rintro e w' ⟨rfl, rfl⟩))
      go_ret2
      exact ⟨rfl, rfl⟩
set_option maxHeartbeats 400000 in
theorem shWide_A2 (s p : Int) (w : World) (h1 : 3 ≤ s) (h2 : s ≤ 24) (h3 : 0 ≤ p) (h4 : p ≤ 1000000000000) (c1 : num s (pl s p) = p) (c2 : ¬ num s (-wl s p) = p) :
    Calls Try.prog 97 #[.int .i64 s, .int .i64 p] w fun e w' => e = .returned (.tuple #[.int .i64 (pl s p), .bool true]) ∧ w = w' := by
  have p0 := pl_nn s p h1 h3
  have p1 := pl_le s p h1 h3 h4
  have q0 := wl_nn s p h1 h3
  have q1 := wl_le s p h1 h3 h4
  have g1 : (num s (pl s p) == p) = true := by simpa using c1
  have g2 : (num s (-wl s p) == p) = false := by simpa using c2
  clear c1 c2
  go_enter Try.func97, Try.ntmps97
  go_wp2
  go_loop [6, 7, 8] (fun l h _ => ∃ a b : Int, l = .int .i64 a ∧ h = .int .i64 b ∧ 0 ≤ a ∧ a ≤ wl s p ∧ wl s p ≤ b ∧ b ≤ 2000000) (fun l h _ => (intOf h - intOf l).toNat)
  case atStart => exact ⟨0, 2000000, rfl, rfl, by omega, by omega, by omega, by omega⟩
  case round =>
    obtain ⟨a, b, rfl, rfl, ha0, ha1, hb0, hb1⟩ := hrel
    by_cases hlt : a < b
    · have hm := wfits_iff s p ((a + b + 1) / 2) h1 h3 (by omega)
      by_cases hf : (a + b + 1) / 2 ≤ wl s p
      · have hn := hm.2 hf
        clear hm
        go_wp2_with (go_at_call 92; refine (shNumber_any _ _ _ h1 h2 (by omega) (by omega)).mono ?_; rintro e w' ⟨rfl, rfl⟩)
        go_round
        case rel => exact ⟨_, _, rfl, rfl, by omega, hf, by omega, by omega⟩
        case measure => simp [intOf]; omega
      · have hn : p < num s (-((a + b + 1) / 2)) := by
          rcases Int.lt_or_le p (num s (-((a + b + 1) / 2))) with h | h
          · exact h
          · exact absurd (hm.1 h) hf
        clear hm
        go_wp2_with (go_at_call 92; refine (shNumber_any _ _ _ h1 h2 (by omega) (by omega)).mono ?_; rintro e w' ⟨rfl, rfl⟩)
        go_round
        case rel => exact ⟨_, _, rfl, rfl, by omega, by omega, by omega, by omega⟩
        case measure => simp [intOf]; omega
    · obtain rfl : a = wl s p := by omega
      clear ha1 ha0
      go_wp2_with (first
        | (go_at_call 92; refine (shNumber_any _ _ _ h1 h2 (by omega) (by omega)).mono ?_; rintro e w' ⟨rfl, rfl⟩)
        | (go_at_call 93; refine (shBelow_any _ _ _ h1 h2 h3 h4).mono ?_; rintro e w' ⟨rfl, rfl⟩))
      go_ret2
      exact ⟨rfl, rfl⟩
set_option maxHeartbeats 400000 in
theorem shWide_B (s p : Int) (w : World) (h1 : 3 ≤ s) (h2 : s ≤ 24) (h3 : 0 ≤ p) (h4 : p ≤ 1000000000000) (c1 : ¬ num s (pl s p) = p) (c2 : num s (-wl s p) = p) :
    Calls Try.prog 97 #[.int .i64 s, .int .i64 p] w fun e w' => e = .returned (.tuple #[.int .i64 (-wl s p), .bool true]) ∧ w = w' := by
  have p0 := pl_nn s p h1 h3
  have p1 := pl_le s p h1 h3 h4
  have q0 := wl_nn s p h1 h3
  have q1 := wl_le s p h1 h3 h4
  have g1 : (num s (pl s p) == p) = false := by simpa using c1
  have g2 : (num s (-wl s p) == p) = true := by simpa using c2
  clear c1 c2
  go_enter Try.func97, Try.ntmps97
  go_wp2
  go_loop [6, 7, 8] (fun l h _ => ∃ a b : Int, l = .int .i64 a ∧ h = .int .i64 b ∧ 0 ≤ a ∧ a ≤ wl s p ∧ wl s p ≤ b ∧ b ≤ 2000000) (fun l h _ => (intOf h - intOf l).toNat)
  case atStart => exact ⟨0, 2000000, rfl, rfl, by omega, by omega, by omega, by omega⟩
  case round =>
    obtain ⟨a, b, rfl, rfl, ha0, ha1, hb0, hb1⟩ := hrel
    by_cases hlt : a < b
    · have hm := wfits_iff s p ((a + b + 1) / 2) h1 h3 (by omega)
      by_cases hf : (a + b + 1) / 2 ≤ wl s p
      · have hn := hm.2 hf
        clear hm
        go_wp2_with (go_at_call 92; refine (shNumber_any _ _ _ h1 h2 (by omega) (by omega)).mono ?_; rintro e w' ⟨rfl, rfl⟩)
        go_round
        case rel => exact ⟨_, _, rfl, rfl, by omega, hf, by omega, by omega⟩
        case measure => simp [intOf]; omega
      · have hn : p < num s (-((a + b + 1) / 2)) := by
          rcases Int.lt_or_le p (num s (-((a + b + 1) / 2))) with h | h
          · exact h
          · exact absurd (hm.1 h) hf
        clear hm
        go_wp2_with (go_at_call 92; refine (shNumber_any _ _ _ h1 h2 (by omega) (by omega)).mono ?_; rintro e w' ⟨rfl, rfl⟩)
        go_round
        case rel => exact ⟨_, _, rfl, rfl, by omega, by omega, by omega, by omega⟩
        case measure => simp [intOf]; omega
    · obtain rfl : a = wl s p := by omega
      clear ha1 ha0
      go_wp2_with (first
        | (go_at_call 92; refine (shNumber_any _ _ _ h1 h2 (by omega) (by omega)).mono ?_; rintro e w' ⟨rfl, rfl⟩)
        | (go_at_call 93; refine (shBelow_any _ _ _ h1 h2 h3 h4).mono ?_; rintro e w' ⟨rfl, rfl⟩))
      go_ret2
      exact ⟨rfl, rfl⟩
set_option maxHeartbeats 400000 in
theorem shWide_C (s p : Int) (w : World) (h1 : 3 ≤ s) (h2 : s ≤ 24) (h3 : 0 ≤ p) (h4 : p ≤ 1000000000000) (c1 : ¬ num s (pl s p) = p) (c2 : ¬ num s (-wl s p) = p) :
    Calls Try.prog 97 #[.int .i64 s, .int .i64 p] w fun e w' => e = .returned (.tuple #[.int .i64 0, .bool false]) ∧ w = w' := by
  have p0 := pl_nn s p h1 h3
  have p1 := pl_le s p h1 h3 h4
  have q0 := wl_nn s p h1 h3
  have q1 := wl_le s p h1 h3 h4
  have g1 : (num s (pl s p) == p) = false := by simpa using c1
  have g2 : (num s (-wl s p) == p) = false := by simpa using c2
  clear c1 c2
  go_enter Try.func97, Try.ntmps97
  go_wp2
  go_loop [6, 7, 8] (fun l h _ => ∃ a b : Int, l = .int .i64 a ∧ h = .int .i64 b ∧ 0 ≤ a ∧ a ≤ wl s p ∧ wl s p ≤ b ∧ b ≤ 2000000) (fun l h _ => (intOf h - intOf l).toNat)
  case atStart => exact ⟨0, 2000000, rfl, rfl, by omega, by omega, by omega, by omega⟩
  case round =>
    obtain ⟨a, b, rfl, rfl, ha0, ha1, hb0, hb1⟩ := hrel
    by_cases hlt : a < b
    · have hm := wfits_iff s p ((a + b + 1) / 2) h1 h3 (by omega)
      by_cases hf : (a + b + 1) / 2 ≤ wl s p
      · have hn := hm.2 hf
        clear hm
        go_wp2_with (go_at_call 92; refine (shNumber_any _ _ _ h1 h2 (by omega) (by omega)).mono ?_; rintro e w' ⟨rfl, rfl⟩)
        go_round
        case rel => exact ⟨_, _, rfl, rfl, by omega, hf, by omega, by omega⟩
        case measure => simp [intOf]; omega
      · have hn : p < num s (-((a + b + 1) / 2)) := by
          rcases Int.lt_or_le p (num s (-((a + b + 1) / 2))) with h | h
          · exact h
          · exact absurd (hm.1 h) hf
        clear hm
        go_wp2_with (go_at_call 92; refine (shNumber_any _ _ _ h1 h2 (by omega) (by omega)).mono ?_; rintro e w' ⟨rfl, rfl⟩)
        go_round
        case rel => exact ⟨_, _, rfl, rfl, by omega, by omega, by omega, by omega⟩
        case measure => simp [intOf]; omega
    · obtain rfl : a = wl s p := by omega
      clear ha1 ha0
      go_wp2_with (first
        | (go_at_call 92; refine (shNumber_any _ _ _ h1 h2 (by omega) (by omega)).mono ?_; rintro e w' ⟨rfl, rfl⟩)
        | (go_at_call 93; refine (shBelow_any _ _ _ h1 h2 h3 h4).mono ?_; rintro e w' ⟨rfl, rfl⟩))
      go_ret2
      exact ⟨rfl, rfl⟩
theorem spec_WidePlace_no (s p : Int) (w : World) (h : (s < 3 ∨ 24 < s) ∨ (p < 0 ∨ 1000000000000 < p)) :
    Calls Try.prog 39 #[.int .i64 s, .int .i64 p] w fun e w' => e = .returned (.tuple #[.int .i64 0, .bool false]) ∧ w = w' := by
  have H := Lib.hid h
  clear h
  go_enter Try.func39, Try.ntmps39
  go_wp2_with (first | (go_at_call 91; refine (shTested_no _ _ _ H.out).mono ?_; rintro e w' ⟨rfl, rfl⟩))
  go_ret2
  exact ⟨rfl, rfl⟩
theorem impl_WidePlace_no (s p : Int) (w : World) (h : (s < 3 ∨ 24 < s) ∨ (p < 0 ∨ 1000000000000 < p)) :
    Calls Try.prog 38 #[.int .i64 s, .int .i64 p] w fun e w' => e = .returned (.tuple #[.int .i64 0, .bool false]) ∧ w = w' := by
  have H := Lib.hid h
  clear h
  go_enter Try.func38, Try.ntmps38
  go_wp2_with (first | (go_at_call 88; refine (asat_no _ _ _ H.out).mono ?_; rintro e w' ⟨rfl, rfl⟩))
  go_ret2
  exact ⟨rfl, rfl⟩
theorem spec_WidePlace_A1 (s p : Int) (w : World) (h1 : 3 ≤ s) (h2 : s ≤ 24) (h3 : 0 ≤ p) (h4 : p ≤ 1000000000000) (c1 : num s (pl s p) = p) (c2 : num s (-wl s p) = p) :
    Calls Try.prog 39 #[.int .i64 s, .int .i64 p] w fun e w' => e = .returned (.tuple #[.int .i64 (pl s p), .bool true]) ∧ w = w' := by
  have HA := Lib.hid c1
  have HB := Lib.hid c2
  clear c1 c2
  go_enter Try.func39, Try.ntmps39
  go_wp2_with (first
    | (go_at_call 91; refine (shTested_yes _ _ _ h1 h2 h3 h4).mono ?_; rintro e w' ⟨rfl, rfl⟩)
    | (go_at_call 97; refine (shWide_A1 _ _ _ h1 h2 h3 h4 HA.out HB.out).mono ?_; rintro e w' ⟨rfl, rfl⟩))
  go_ret2
  exact ⟨rfl, rfl⟩
theorem impl_WidePlace_A1 (s p : Int) (w : World) (h1 : 3 ≤ s) (h2 : s ≤ 24) (h3 : 0 ≤ p) (h4 : p ≤ 1000000000000) (c1 : num s (pl s p) = p) (c2 : num s (-wl s p) = p) :
    Calls Try.prog 38 #[.int .i64 s, .int .i64 p] w fun e w' => e = .returned (.tuple #[.int .i64 (pl s p), .bool true]) ∧ Below w.heap.size w w' := by
  have p0 := pl_nn s p h1 h3
  have p1 := pl_le s p h1 h3 h4
  have q0 := wl_nn s p h1 h3
  have q1 := wl_le s p h1 h3 h4
  have HA := Lib.hid c1
  have HB := Lib.hid c2
  clear c1 c2
  go_enter Try.func38, Try.ntmps38
  go_wp2_with (first | (go_at_call 88; refine (asat_yes _ _ _ h1 h2 h3 h4).mono ?_; rintro e w' ⟨rfl, rfl⟩) | (go_at_call 89; refine (polygonRule_any _ _ h1 h2).mono ?_; rintro e w1 ⟨rfl, hb1⟩))
  refine (placeOf_yes _ _ _ _ _ _ _ (poly_fits s p h1 h2 h3 h4) HA.out).mono ?_
  rintro e w2 ⟨rfl, hb2⟩
  go_wp2
  go_ret2
  exact ⟨rfl, hb1.trans (hb2.mono hb1.size)⟩
theorem spec_WidePlace_A2 (s p : Int) (w : World) (h1 : 3 ≤ s) (h2 : s ≤ 24) (h3 : 0 ≤ p) (h4 : p ≤ 1000000000000) (c1 : num s (pl s p) = p) (c2 : ¬ num s (-wl s p) = p) :
    Calls Try.prog 39 #[.int .i64 s, .int .i64 p] w fun e w' => e = .returned (.tuple #[.int .i64 (pl s p), .bool true]) ∧ w = w' := by
  have HA := Lib.hid c1
  have HB := Lib.hid c2
  clear c1 c2
  go_enter Try.func39, Try.ntmps39
  go_wp2_with (first
    | (go_at_call 91; refine (shTested_yes _ _ _ h1 h2 h3 h4).mono ?_; rintro e w' ⟨rfl, rfl⟩)
    | (go_at_call 97; refine (shWide_A2 _ _ _ h1 h2 h3 h4 HA.out HB.out).mono ?_; rintro e w' ⟨rfl, rfl⟩))
  go_ret2
  exact ⟨rfl, rfl⟩
theorem impl_WidePlace_A2 (s p : Int) (w : World) (h1 : 3 ≤ s) (h2 : s ≤ 24) (h3 : 0 ≤ p) (h4 : p ≤ 1000000000000) (c1 : num s (pl s p) = p) (c2 : ¬ num s (-wl s p) = p) :
    Calls Try.prog 38 #[.int .i64 s, .int .i64 p] w fun e w' => e = .returned (.tuple #[.int .i64 (pl s p), .bool true]) ∧ Below w.heap.size w w' := by
  have p0 := pl_nn s p h1 h3
  have p1 := pl_le s p h1 h3 h4
  have q0 := wl_nn s p h1 h3
  have q1 := wl_le s p h1 h3 h4
  have HA := Lib.hid c1
  have HB := Lib.hid c2
  clear c1 c2
  go_enter Try.func38, Try.ntmps38
  go_wp2_with (first | (go_at_call 88; refine (asat_yes _ _ _ h1 h2 h3 h4).mono ?_; rintro e w' ⟨rfl, rfl⟩) | (go_at_call 89; refine (polygonRule_any _ _ h1 h2).mono ?_; rintro e w1 ⟨rfl, hb1⟩))
  refine (placeOf_yes _ _ _ _ _ _ _ (poly_fits s p h1 h2 h3 h4) HA.out).mono ?_
  rintro e w2 ⟨rfl, hb2⟩
  go_wp2
  go_ret2
  exact ⟨rfl, hb1.trans (hb2.mono hb1.size)⟩
theorem spec_WidePlace_B (s p : Int) (w : World) (h1 : 3 ≤ s) (h2 : s ≤ 24) (h3 : 0 ≤ p) (h4 : p ≤ 1000000000000) (c1 : ¬ num s (pl s p) = p) (c2 : num s (-wl s p) = p) :
    Calls Try.prog 39 #[.int .i64 s, .int .i64 p] w fun e w' => e = .returned (.tuple #[.int .i64 (-wl s p), .bool true]) ∧ w = w' := by
  have HA := Lib.hid c1
  have HB := Lib.hid c2
  clear c1 c2
  go_enter Try.func39, Try.ntmps39
  go_wp2_with (first
    | (go_at_call 91; refine (shTested_yes _ _ _ h1 h2 h3 h4).mono ?_; rintro e w' ⟨rfl, rfl⟩)
    | (go_at_call 97; refine (shWide_B _ _ _ h1 h2 h3 h4 HA.out HB.out).mono ?_; rintro e w' ⟨rfl, rfl⟩))
  go_ret2
  exact ⟨rfl, rfl⟩
theorem impl_WidePlace_B (s p : Int) (w : World) (h1 : 3 ≤ s) (h2 : s ≤ 24) (h3 : 0 ≤ p) (h4 : p ≤ 1000000000000) (c1 : ¬ num s (pl s p) = p) (c2 : num s (-wl s p) = p) :
    Calls Try.prog 38 #[.int .i64 s, .int .i64 p] w fun e w' => e = .returned (.tuple #[.int .i64 (-wl s p), .bool true]) ∧ Below w.heap.size w w' := by
  have p0 := pl_nn s p h1 h3
  have p1 := pl_le s p h1 h3 h4
  have q0 := wl_nn s p h1 h3
  have q1 := wl_le s p h1 h3 h4
  have HA := Lib.hid c1
  have HB := Lib.hid c2
  clear c1 c2
  go_enter Try.func38, Try.ntmps38
  go_wp2_with (first | (go_at_call 88; refine (asat_yes _ _ _ h1 h2 h3 h4).mono ?_; rintro e w' ⟨rfl, rfl⟩) | (go_at_call 89; refine (polygonRule_any _ _ h1 h2).mono ?_; rintro e w1 ⟨rfl, hb1⟩))
  refine (placeOf_no _ _ _ _ _ _ _ (poly_fits s p h1 h2 h3 h4) HA.out).mono ?_
  rintro e w2 ⟨rfl, hb2⟩
  go_wp2_with (first | (go_at_call 96; refine (belowRule_any _ _ h1 h2).mono ?_; rintro e w3 ⟨rfl, hb3⟩))
  refine (placeOf_yes _ _ _ _ _ _ _ (bel_fits s p h1 h2 h3 h4) HB.out).mono ?_
  rintro e w4 ⟨rfl, hb4⟩
  go_wp2
  go_ret2
  exact ⟨rfl, (hb1.trans (hb2.mono hb1.size)).trans ((hb3.mono (Nat.le_trans hb1.size hb2.size)).trans (hb4.mono (Nat.le_trans hb1.size (Nat.le_trans hb2.size hb3.size))))⟩
theorem spec_WidePlace_C (s p : Int) (w : World) (h1 : 3 ≤ s) (h2 : s ≤ 24) (h3 : 0 ≤ p) (h4 : p ≤ 1000000000000) (c1 : ¬ num s (pl s p) = p) (c2 : ¬ num s (-wl s p) = p) :
    Calls Try.prog 39 #[.int .i64 s, .int .i64 p] w fun e w' => e = .returned (.tuple #[.int .i64 0, .bool false]) ∧ w = w' := by
  have HA := Lib.hid c1
  have HB := Lib.hid c2
  clear c1 c2
  go_enter Try.func39, Try.ntmps39
  go_wp2_with (first
    | (go_at_call 91; refine (shTested_yes _ _ _ h1 h2 h3 h4).mono ?_; rintro e w' ⟨rfl, rfl⟩)
    | (go_at_call 97; refine (shWide_C _ _ _ h1 h2 h3 h4 HA.out HB.out).mono ?_; rintro e w' ⟨rfl, rfl⟩))
  go_ret2
  exact ⟨rfl, rfl⟩
theorem impl_WidePlace_C (s p : Int) (w : World) (h1 : 3 ≤ s) (h2 : s ≤ 24) (h3 : 0 ≤ p) (h4 : p ≤ 1000000000000) (c1 : ¬ num s (pl s p) = p) (c2 : ¬ num s (-wl s p) = p) :
    Calls Try.prog 38 #[.int .i64 s, .int .i64 p] w fun e w' => e = .returned (.tuple #[.int .i64 0, .bool false]) ∧ Below w.heap.size w w' := by
  have p0 := pl_nn s p h1 h3
  have p1 := pl_le s p h1 h3 h4
  have q0 := wl_nn s p h1 h3
  have q1 := wl_le s p h1 h3 h4
  have HA := Lib.hid c1
  have HB := Lib.hid c2
  clear c1 c2
  go_enter Try.func38, Try.ntmps38
  go_wp2_with (first | (go_at_call 88; refine (asat_yes _ _ _ h1 h2 h3 h4).mono ?_; rintro e w' ⟨rfl, rfl⟩) | (go_at_call 89; refine (polygonRule_any _ _ h1 h2).mono ?_; rintro e w1 ⟨rfl, hb1⟩))
  refine (placeOf_no _ _ _ _ _ _ _ (poly_fits s p h1 h2 h3 h4) HA.out).mono ?_
  rintro e w2 ⟨rfl, hb2⟩
  go_wp2_with (first | (go_at_call 96; refine (belowRule_any _ _ h1 h2).mono ?_; rintro e w3 ⟨rfl, hb3⟩))
  refine (placeOf_no _ _ _ _ _ _ _ (bel_fits s p h1 h2 h3 h4) HB.out).mono ?_
  rintro e w4 ⟨rfl, hb4⟩
  go_wp2
  go_ret2
  exact ⟨rfl, (hb1.trans (hb2.mono hb1.size)).trans ((hb3.mono (Nat.le_trans hb1.size hb2.size)).trans (hb4.mono (Nat.le_trans hb1.size (Nat.le_trans hb2.size hb3.size))))⟩
set_option maxHeartbeats 400000 in
theorem shRoot_any (n : Int) (w : World) (h3 : 0 ≤ n) (h4 : n ≤ 4000000000000000000) :
    Calls Try.prog 78 #[.int .i64 n] w fun e w' => e = .returned (.int .i64 (rt n)) ∧ w = w' := by
  go_enter Try.func78, Try.ntmps78
  go_wp2
  go_loop [3, 4] (fun r b => ∃ x t : Int, r = .int .i64 x ∧ b = .int .i64 (t / 2) ∧ P2 t ∧ 0 ≤ x ∧ x + t ≤ 2147483648 ∧ x * x ≤ n ∧ Hid (n < (x + t) * (x + t))) (fun _ b => (intOf b).toNat)
  case atStart => exact ⟨0, 2147483648, rfl, rfl, P2.start, by omega, by omega, by omega, Lib.hid (by omega)⟩
  case round =>
    obtain ⟨x, t, rfl, rfl, ht, hx0, hx1, hx2, HX⟩ := hrel
    have t1 := ht.pos
    by_cases h1 : t = 1
    · subst h1
      have hr := rt_uniq n x h3 hx0 hx2 HX.out
      have HR := Lib.hid hr
      clear hr
      go_wp2
      go_ret
      exact ⟨ret_int HR.out, rfl⟩
    · obtain ⟨hp, he⟩ := ht.half h1
      obtain ⟨u, hu⟩ : ∃ u, u = t / 2 := ⟨_, rfl⟩
      rw [← hu] at hp he ⊢
      clear hu h1
      subst he
      clear ht
      have u1 := hp.pos
      have s0 : 0 ≤ (x + u) * (x + u) := sq_nn _
      have s1 : (x + u) * (x + u) ≤ 2147483648 * 2147483648 := sq_le _ _ (by omega) (by omega)
      by_cases hf : (x + u) * (x + u) ≤ n
      · go_wp2
        go_round
        case rel => exact ⟨x + u, u, rfl, rfl, hp, by omega, by omega, hf, Lib.hid (by rw [show x + u + u = x + 2 * u from by omega]; exact HX.out)⟩
        case measure => simp [intOf]; omega
      · go_wp2
        go_round
        case rel => exact ⟨x, u, rfl, rfl, hp, by omega, by omega, by omega, Lib.hid (by omega)⟩
        case measure => simp [intOf]; omega
theorem root1_any (m n : Int) (r : Nat) (w : World) (h0 : 1 ≤ m) (h1 : m < 2000000001) (cn : w.cell? ⟨r, 0, none⟩ = some (.int .i64 n)) :
    Calls Try.prog 99 #[.int .i64 m, .pointer (some ⟨r, 0, none⟩)] w fun e w' => e = .returned (.bool (decide (m * m ≤ n))) ∧ w = w' := by
  have s0 : 0 ≤ m * m := sq_nn _
  have s1 : m * m ≤ 2000000001 * 2000000001 := sq_le _ _ (by omega) (by omega)
  go_enter Try.func99, Try.ntmps99
  go_wp2
  go_ret
  exact ⟨rfl, rfl⟩
theorem cf_root : ∀ (args : Array Value) (W : World), (callFunc 99 args).run Try.prog W = .ok (.enter 99 args) W := fun _ _ => by kernel_rfl
theorem spec_RootOf_no (n : Int) (w : World) (h : n < 0 ∨ 4000000000000000000 < n) :
    Calls Try.prog 49 #[.int .i64 n] w fun e w' => e = .returned (.tuple #[.int .i64 0, .bool false]) ∧ w = w' := by
  have H := Lib.hid h
  clear h
  go_enter Try.func49, Try.ntmps49
  go_wp2_with (go_at_call 81; refine (in_no _ _ _ _ H.out).mono ?_; rintro e w' ⟨rfl, rfl⟩)
  go_ret2
  exact ⟨rfl, rfl⟩
theorem spec_RootOf_yes (n : Int) (w : World) (h3 : 0 ≤ n) (h4 : n ≤ 4000000000000000000) :
    Calls Try.prog 49 #[.int .i64 n] w fun e w' => e = .returned (.tuple #[.int .i64 (rt n), .bool true]) ∧ w = w' := by
  go_enter Try.func49, Try.ntmps49
  go_wp2_with (first
    | (go_at_call 81; refine (in_yes _ _ _ _ h3 h4).mono ?_; rintro e w' ⟨rfl, rfl⟩)
    | (go_at_call 78; refine (shRoot_any _ _ h3 h4).mono ?_; rintro e w' ⟨rfl, rfl⟩))
  go_ret2
  exact ⟨rfl, rfl⟩
theorem impl_RootOf_no (n : Int) (w : World) (h : n < 0 ∨ 4000000000000000000 < n) :
    Calls Try.prog 40 #[.int .i64 n] w fun e w' => e = .returned (.tuple #[.int .i64 0, .bool false]) ∧ Below w.heap.size w w' := by
  have H := Lib.hid h
  clear h
  go_enter Try.func40, Try.ntmps40
  go_wp2_with (go_at_call 79; refine (within_no _ _ _ _ H.out).mono ?_; rintro e w' ⟨rfl, rfl⟩)
  go_ret2
  exact ⟨rfl, (Below.refl _ _).alloc (Nat.le_refl _) _⟩
theorem impl_RootOf_yes (n : Int) (w : World) (h3 : 0 ≤ n) (h4 : n ≤ 4000000000000000000) :
    Calls Try.prog 40 #[.int .i64 n] w fun e w' => e = .returned (.tuple #[.int .i64 (rt n), .bool true]) ∧ Below w.heap.size w w' := by
  have hmf : ∀ (fn : Fn) (first cap : Array Value) (w : World), (Instr.makeFunc fn first cap).run Try.prog w = .ok (.func fn first cap) w := fun _ _ _ _ => rfl
  have HB : ∀ W : World, Hid (W.heap.size = w.heap.size + 1 → W.cell? ⟨w.heap.size, 0, none⟩ = some (.int .i64 n) →
      Calls Try.prog 98 #[.int .i64 2000000001, .func (.func 99) #[] #[.pointer (some ⟨w.heap.size, 0, none⟩)]] W fun e w' => e = .returned (.int .i64 (rt n)) ∧ Below W.heap.size W w') := by
    intro W
    refine Lib.hid fun hz cn => ?_
    refine last_any 2000000001 (rt n) _ _ W (by omega) (by omega) (rt_nn n h3) (by have := rt_le n h3 h4; omega) cf_root ?_
    intro m W1 hb h1 h2
    have e : decide (m * m ≤ n) = decide (m ≤ rt n) := by
      have := rfits_iff n m h3 (by omega)
      by_cases hc : m ≤ rt n <;> simp [hc, this]
    refine (root1_any m n w.heap.size W1 h1 h2 ?_).mono ?_
    · exact (hb.cell (p := ⟨w.heap.size, 0, none⟩) (by simp; omega)).trans cn
    · rintro e1 W2 ⟨rfl, rfl⟩
      exact ⟨by rw [e], hb⟩
  go_enter Try.func40, Try.ntmps40
  go_wp2_with (first
    | (go_at_call 79; refine (within_yes _ _ _ _ h3 h4).mono ?_; rintro e w' ⟨rfl, rfl⟩)
    | (go_at_call 98; refine ((HB _).out ?_ ?_).mono ?_; (iterate 2 (first | simp [go_sem] | skip)); rintro e w1 ⟨rfl, hb1⟩))
  go_ret2
  exact ⟨rfl, ((Below.refl _ _).alloc (Nat.le_refl _) _).trans (hb1.mono (by simp))⟩
end Go.Proofs.Ytkhjeleoppdjgab
