/- The laws FnExactWidePlace, FnExactRootOf: the program's answer is the specification's, whatever the arguments. No condition. -/
import Derived.Test.YtnciehnjmhlehaaBase
import Derived.Test.YtnciehnjmhlehaaSpA
import Derived.Test.YtnciehnjmhlehaaLwC
import Derived.Deep.QuietTactic
import Derived.BigQuiet
namespace Go.Proofs.Ytnciehnjmhlehaa
open Go.ChangeShapes Go.WideShapes Go.ChangeAt Go.RowKit

theorem belowRule_any (s : Int) (w : World) (h1 : 3 ≤ s) (h2 : s ≤ 24) :
    Calls Try.prog 46 #[.int .i64 s] w fun e w' => e = .returned (.agg #[.int .i64 0, .int .i64 (s - 4), .int .i64 (s - 2)]) ∧ Below w.heap.size w w' := by
  go_enter Try.func46, Try.ntmps46
  go_wp2
  exact bodyPost_ret (v := .agg #[.int .i64 0, .int .i64 (s - 4), .int .i64 (s - 2)]) (by simp [results, Try.results46, go_sem]) rfl ⟨rfl, (Below.refl _ _).alloc (Nat.le_refl _) _⟩
theorem belRule_bds (s k : Int) (h1 : 3 ≤ s) (h2 : s ≤ 24) (h3 : 0 ≤ k) (h4 : k ≤ 3000000) : RuleBds 0 (s - 4) (s - 2) k (num s (-k)) := by
  obtain ⟨a0, a1, b0, b1, c0, c1, d0⟩ := num_bds s k h1 h2 (by omega) h4
  have e1 := neg_twice s k
  have e2 := num_nn s (-k) h1
  constructor <;> omega
theorem bel_fits (s n : Int) (h1 : 3 ≤ s) (h2 : s ≤ 24) (h3 : 0 ≤ n) (h4 : n ≤ 1000000000000) : Fits 0 (s - 4) (s - 2) n (wl s n) (fun k => num s (-k)) :=
  ⟨fun k h5 h6 => belRule_bds s k h1 h2 h5 (by omega), wl_nn s n h1 h3, by have := wl_le s n h1 h3 h4; omega, fun k h5 _ => wfits_iff s n k h1 h3 (by omega)⟩

set_option maxHeartbeats 400000 in
theorem shWide_A1 (s p : Int) (w : World) (h1 : 3 ≤ s) (h2 : s ≤ 24) (h3 : 0 ≤ p) (h4 : p ≤ 1000000000000) (c1 : num s (pl s p) = p) (c2 : num s (-wl s p) = p) :
    Calls Try.prog 45 #[.int .i64 s, .int .i64 p] w fun e w' => e = .returned (.tuple #[.int .i64 (pl s p), .bool true]) ∧ w = w' := by
  have p0 := pl_nn s p h1 h3
  have p1 := pl_le s p h1 h3 h4
  have q0 := wl_nn s p h1 h3
  have q1 := wl_le s p h1 h3 h4
  have hle : pl s p ≤ wl s p := by
    rcases both s p h1 h3 c1 with h | h
    · exact h
    · exact absurd c2 h
  have g1 : (num s (pl s p) == p) = true := by simpa using c1
  have g2 : (num s (-wl s p) == p) = true := by simpa using c2
  clear c1 c2
  go_enter Try.func45, Try.ntmps45
  go_wp2
  go_loop [6, 7, 8] (fun l h _ => ∃ a b : Int, l = .int .i64 a ∧ h = .int .i64 b ∧ 0 ≤ a ∧ a ≤ wl s p ∧ wl s p ≤ b ∧ b ≤ 2000000) (fun l h _ => (intOf h - intOf l).toNat)
  case atStart => exact ⟨0, 2000000, rfl, rfl, by omega, by omega, by omega, by omega⟩
  case round =>
    obtain ⟨a, b, rfl, rfl, ha0, ha1, hb0, hb1⟩ := hrel
    by_cases hlt : a < b
    · have hm := wfits_iff s p ((a + b + 1) / 2) h1 h3 (by omega)
      by_cases hf : (a + b + 1) / 2 ≤ wl s p
      · have hn := hm.2 hf
        clear hm
        go_wp2_with (go_at_call 40; refine (shNumber_any _ _ _ h1 h2 (by omega) (by omega)).mono ?_; rintro e w' ⟨rfl, rfl⟩)
        go_round
        case rel => exact ⟨_, _, rfl, rfl, by omega, hf, by omega, by omega⟩
        case measure => simp [intOf]; omega
      · have hn : p < num s (-((a + b + 1) / 2)) := by
          rcases Int.lt_or_le p (num s (-((a + b + 1) / 2))) with h | h
          · exact h
          · exact absurd (hm.1 h) hf
        clear hm
        go_wp2_with (go_at_call 40; refine (shNumber_any _ _ _ h1 h2 (by omega) (by omega)).mono ?_; rintro e w' ⟨rfl, rfl⟩)
        go_round
        case rel => exact ⟨_, _, rfl, rfl, by omega, by omega, by omega, by omega⟩
        case measure => simp [intOf]; omega
    · obtain rfl : a = wl s p := by omega
      clear ha1 ha0
      go_wp2_with (first
        | (go_at_call 40; refine (shNumber_any _ _ _ h1 h2 (by omega) (by omega)).mono ?_; rintro e w' ⟨rfl, rfl⟩)
        | (go_at_call 41; refine (shBelow_any _ _ _ h1 h2 h3 h4).mono ?_; rintro e w' ⟨rfl, rfl⟩))
      go_ret2
      exact ⟨rfl, rfl⟩
set_option maxHeartbeats 400000 in
theorem shWide_A2 (s p : Int) (w : World) (h1 : 3 ≤ s) (h2 : s ≤ 24) (h3 : 0 ≤ p) (h4 : p ≤ 1000000000000) (c1 : num s (pl s p) = p) (c2 : ¬ num s (-wl s p) = p) :
    Calls Try.prog 45 #[.int .i64 s, .int .i64 p] w fun e w' => e = .returned (.tuple #[.int .i64 (pl s p), .bool true]) ∧ w = w' := by
  have p0 := pl_nn s p h1 h3
  have p1 := pl_le s p h1 h3 h4
  have q0 := wl_nn s p h1 h3
  have q1 := wl_le s p h1 h3 h4
  have g1 : (num s (pl s p) == p) = true := by simpa using c1
  have g2 : (num s (-wl s p) == p) = false := by simpa using c2
  clear c1 c2
  go_enter Try.func45, Try.ntmps45
  go_wp2
  go_loop [6, 7, 8] (fun l h _ => ∃ a b : Int, l = .int .i64 a ∧ h = .int .i64 b ∧ 0 ≤ a ∧ a ≤ wl s p ∧ wl s p ≤ b ∧ b ≤ 2000000) (fun l h _ => (intOf h - intOf l).toNat)
  case atStart => exact ⟨0, 2000000, rfl, rfl, by omega, by omega, by omega, by omega⟩
  case round =>
    obtain ⟨a, b, rfl, rfl, ha0, ha1, hb0, hb1⟩ := hrel
    by_cases hlt : a < b
    · have hm := wfits_iff s p ((a + b + 1) / 2) h1 h3 (by omega)
      by_cases hf : (a + b + 1) / 2 ≤ wl s p
      · have hn := hm.2 hf
        clear hm
        go_wp2_with (go_at_call 40; refine (shNumber_any _ _ _ h1 h2 (by omega) (by omega)).mono ?_; rintro e w' ⟨rfl, rfl⟩)
        go_round
        case rel => exact ⟨_, _, rfl, rfl, by omega, hf, by omega, by omega⟩
        case measure => simp [intOf]; omega
      · have hn : p < num s (-((a + b + 1) / 2)) := by
          rcases Int.lt_or_le p (num s (-((a + b + 1) / 2))) with h | h
          · exact h
          · exact absurd (hm.1 h) hf
        clear hm
        go_wp2_with (go_at_call 40; refine (shNumber_any _ _ _ h1 h2 (by omega) (by omega)).mono ?_; rintro e w' ⟨rfl, rfl⟩)
        go_round
        case rel => exact ⟨_, _, rfl, rfl, by omega, by omega, by omega, by omega⟩
        case measure => simp [intOf]; omega
    · obtain rfl : a = wl s p := by omega
      clear ha1 ha0
      go_wp2_with (first
        | (go_at_call 40; refine (shNumber_any _ _ _ h1 h2 (by omega) (by omega)).mono ?_; rintro e w' ⟨rfl, rfl⟩)
        | (go_at_call 41; refine (shBelow_any _ _ _ h1 h2 h3 h4).mono ?_; rintro e w' ⟨rfl, rfl⟩))
      go_ret2
      exact ⟨rfl, rfl⟩
set_option maxHeartbeats 400000 in
theorem shWide_B (s p : Int) (w : World) (h1 : 3 ≤ s) (h2 : s ≤ 24) (h3 : 0 ≤ p) (h4 : p ≤ 1000000000000) (c1 : ¬ num s (pl s p) = p) (c2 : num s (-wl s p) = p) :
    Calls Try.prog 45 #[.int .i64 s, .int .i64 p] w fun e w' => e = .returned (.tuple #[.int .i64 (-wl s p), .bool true]) ∧ w = w' := by
  have p0 := pl_nn s p h1 h3
  have p1 := pl_le s p h1 h3 h4
  have q0 := wl_nn s p h1 h3
  have q1 := wl_le s p h1 h3 h4
  have g1 : (num s (pl s p) == p) = false := by simpa using c1
  have g2 : (num s (-wl s p) == p) = true := by simpa using c2
  clear c1 c2
  go_enter Try.func45, Try.ntmps45
  go_wp2
  go_loop [6, 7, 8] (fun l h _ => ∃ a b : Int, l = .int .i64 a ∧ h = .int .i64 b ∧ 0 ≤ a ∧ a ≤ wl s p ∧ wl s p ≤ b ∧ b ≤ 2000000) (fun l h _ => (intOf h - intOf l).toNat)
  case atStart => exact ⟨0, 2000000, rfl, rfl, by omega, by omega, by omega, by omega⟩
  case round =>
    obtain ⟨a, b, rfl, rfl, ha0, ha1, hb0, hb1⟩ := hrel
    by_cases hlt : a < b
    · have hm := wfits_iff s p ((a + b + 1) / 2) h1 h3 (by omega)
      by_cases hf : (a + b + 1) / 2 ≤ wl s p
      · have hn := hm.2 hf
        clear hm
        go_wp2_with (go_at_call 40; refine (shNumber_any _ _ _ h1 h2 (by omega) (by omega)).mono ?_; rintro e w' ⟨rfl, rfl⟩)
        go_round
        case rel => exact ⟨_, _, rfl, rfl, by omega, hf, by omega, by omega⟩
        case measure => simp [intOf]; omega
      · have hn : p < num s (-((a + b + 1) / 2)) := by
          rcases Int.lt_or_le p (num s (-((a + b + 1) / 2))) with h | h
          · exact h
          · exact absurd (hm.1 h) hf
        clear hm
        go_wp2_with (go_at_call 40; refine (shNumber_any _ _ _ h1 h2 (by omega) (by omega)).mono ?_; rintro e w' ⟨rfl, rfl⟩)
        go_round
        case rel => exact ⟨_, _, rfl, rfl, by omega, by omega, by omega, by omega⟩
        case measure => simp [intOf]; omega
    · obtain rfl : a = wl s p := by omega
      clear ha1 ha0
      go_wp2_with (first
        | (go_at_call 40; refine (shNumber_any _ _ _ h1 h2 (by omega) (by omega)).mono ?_; rintro e w' ⟨rfl, rfl⟩)
        | (go_at_call 41; refine (shBelow_any _ _ _ h1 h2 h3 h4).mono ?_; rintro e w' ⟨rfl, rfl⟩))
      go_ret2
      exact ⟨rfl, rfl⟩
set_option maxHeartbeats 400000 in
theorem shWide_C (s p : Int) (w : World) (h1 : 3 ≤ s) (h2 : s ≤ 24) (h3 : 0 ≤ p) (h4 : p ≤ 1000000000000) (c1 : ¬ num s (pl s p) = p) (c2 : ¬ num s (-wl s p) = p) :
    Calls Try.prog 45 #[.int .i64 s, .int .i64 p] w fun e w' => e = .returned (.tuple #[.int .i64 0, .bool false]) ∧ w = w' := by
  have p0 := pl_nn s p h1 h3
  have p1 := pl_le s p h1 h3 h4
  have q0 := wl_nn s p h1 h3
  have q1 := wl_le s p h1 h3 h4
  have g1 : (num s (pl s p) == p) = false := by simpa using c1
  have g2 : (num s (-wl s p) == p) = false := by simpa using c2
  clear c1 c2
  go_enter Try.func45, Try.ntmps45
  go_wp2
  go_loop [6, 7, 8] (fun l h _ => ∃ a b : Int, l = .int .i64 a ∧ h = .int .i64 b ∧ 0 ≤ a ∧ a ≤ wl s p ∧ wl s p ≤ b ∧ b ≤ 2000000) (fun l h _ => (intOf h - intOf l).toNat)
  case atStart => exact ⟨0, 2000000, rfl, rfl, by omega, by omega, by omega, by omega⟩
  case round =>
    obtain ⟨a, b, rfl, rfl, ha0, ha1, hb0, hb1⟩ := hrel
    by_cases hlt : a < b
    · have hm := wfits_iff s p ((a + b + 1) / 2) h1 h3 (by omega)
      by_cases hf : (a + b + 1) / 2 ≤ wl s p
      · have hn := hm.2 hf
        clear hm
        go_wp2_with (go_at_call 40; refine (shNumber_any _ _ _ h1 h2 (by omega) (by omega)).mono ?_; rintro e w' ⟨rfl, rfl⟩)
        go_round
        case rel => exact ⟨_, _, rfl, rfl, by omega, hf, by omega, by omega⟩
        case measure => simp [intOf]; omega
      · have hn : p < num s (-((a + b + 1) / 2)) := by
          rcases Int.lt_or_le p (num s (-((a + b + 1) / 2))) with h | h
          · exact h
          · exact absurd (hm.1 h) hf
        clear hm
        go_wp2_with (go_at_call 40; refine (shNumber_any _ _ _ h1 h2 (by omega) (by omega)).mono ?_; rintro e w' ⟨rfl, rfl⟩)
        go_round
        case rel => exact ⟨_, _, rfl, rfl, by omega, by omega, by omega, by omega⟩
        case measure => simp [intOf]; omega
    · obtain rfl : a = wl s p := by omega
      clear ha1 ha0
      go_wp2_with (first
        | (go_at_call 40; refine (shNumber_any _ _ _ h1 h2 (by omega) (by omega)).mono ?_; rintro e w' ⟨rfl, rfl⟩)
        | (go_at_call 41; refine (shBelow_any _ _ _ h1 h2 h3 h4).mono ?_; rintro e w' ⟨rfl, rfl⟩))
      go_ret2
      exact ⟨rfl, rfl⟩
theorem spec_WidePlace_no (s p : Int) (w : World) (h : (s < 3 ∨ 24 < s) ∨ (p < 0 ∨ 1000000000000 < p)) :
    Calls Try.prog 17 #[.int .i64 s, .int .i64 p] w fun e w' => e = .returned (.tuple #[.int .i64 0, .bool false]) ∧ w = w' := by
  have H := Lib.hid h
  clear h
  go_enter Try.func17, Try.ntmps17
  go_wp2_with (first | (go_at_call 39; refine (shTested_no _ _ _ H.out).mono ?_; rintro e w' ⟨rfl, rfl⟩))
  go_ret2
  exact ⟨rfl, rfl⟩
theorem impl_WidePlace_no (s p : Int) (w : World) (h : (s < 3 ∨ 24 < s) ∨ (p < 0 ∨ 1000000000000 < p)) :
    Calls Try.prog 18 #[.int .i64 s, .int .i64 p] w fun e w' => e = .returned (.tuple #[.int .i64 0, .bool false]) ∧ w = w' := by
  have H := Lib.hid h
  clear h
  go_enter Try.func18, Try.ntmps18
  go_wp2_with (first | (go_at_call 42; refine (asat_no _ _ _ H.out).mono ?_; rintro e w' ⟨rfl, rfl⟩))
  go_ret2
  exact ⟨rfl, rfl⟩
theorem spec_WidePlace_A1 (s p : Int) (w : World) (h1 : 3 ≤ s) (h2 : s ≤ 24) (h3 : 0 ≤ p) (h4 : p ≤ 1000000000000) (c1 : num s (pl s p) = p) (c2 : num s (-wl s p) = p) :
    Calls Try.prog 17 #[.int .i64 s, .int .i64 p] w fun e w' => e = .returned (.tuple #[.int .i64 (pl s p), .bool true]) ∧ w = w' := by
  have HA := Lib.hid c1
  have HB := Lib.hid c2
  clear c1 c2
  go_enter Try.func17, Try.ntmps17
  go_wp2_with (first
    | (go_at_call 39; refine (shTested_yes _ _ _ h1 h2 h3 h4).mono ?_; rintro e w' ⟨rfl, rfl⟩)
    | (go_at_call 45; refine (shWide_A1 _ _ _ h1 h2 h3 h4 HA.out HB.out).mono ?_; rintro e w' ⟨rfl, rfl⟩))
  go_ret2
  exact ⟨rfl, rfl⟩
theorem impl_WidePlace_A1 (s p : Int) (w : World) (h1 : 3 ≤ s) (h2 : s ≤ 24) (h3 : 0 ≤ p) (h4 : p ≤ 1000000000000) (c1 : num s (pl s p) = p) (c2 : num s (-wl s p) = p) :
    Calls Try.prog 18 #[.int .i64 s, .int .i64 p] w fun e w' => e = .returned (.tuple #[.int .i64 (pl s p), .bool true]) ∧ Below w.heap.size w w' := by
  have p0 := pl_nn s p h1 h3
  have p1 := pl_le s p h1 h3 h4
  have q0 := wl_nn s p h1 h3
  have q1 := wl_le s p h1 h3 h4
  have HA := Lib.hid c1
  have HB := Lib.hid c2
  clear c1 c2
  go_enter Try.func18, Try.ntmps18
  go_wp2_with (first | (go_at_call 42; refine (asat_yes _ _ _ h1 h2 h3 h4).mono ?_; rintro e w' ⟨rfl, rfl⟩) | (go_at_call 43; refine (polygonRule_any _ _ h1 h2).mono ?_; rintro e w1 ⟨rfl, hb1⟩))
  refine (placeOf_yes _ _ _ _ _ _ _ (poly_fits s p h1 h2 h3 h4) HA.out).mono ?_
  rintro e w2 ⟨rfl, hb2⟩
  go_wp2
  go_ret2
  exact ⟨rfl, hb1.trans (hb2.mono hb1.size)⟩
theorem law_WidePlace_A1 (s p : Int) (w : World) (h1 : 3 ≤ s) (h2 : s ≤ 24) (h3 : 0 ≤ p) (h4 : p ≤ 1000000000000) (c1 : num s (pl s p) = p) (c2 : num s (-wl s p) = p) :
    Calls Try.prog 5 #[.int .i64 s, .int .i64 p] w fun e w' => e = .returned (.bool true) ∧ Below w.heap.size w w' := by
  have HA := Lib.hid c1
  have HB := Lib.hid c2
  clear c1 c2
  go_enter Try.func5, Try.ntmps5
  go_wp2_with (first
    | (go_at_call 17; refine (spec_WidePlace_A1 _ _ _ h1 h2 h3 h4 HA.out HB.out).mono ?_; rintro e w' ⟨rfl, rfl⟩)
    | (go_at_call 18; refine (impl_WidePlace_A1 _ _ _ h1 h2 h3 h4 HA.out HB.out).mono ?_; rintro e w1 ⟨rfl, hb1⟩))
  go_ret
  exact ⟨rfl, hb1⟩
theorem spec_WidePlace_A2 (s p : Int) (w : World) (h1 : 3 ≤ s) (h2 : s ≤ 24) (h3 : 0 ≤ p) (h4 : p ≤ 1000000000000) (c1 : num s (pl s p) = p) (c2 : ¬ num s (-wl s p) = p) :
    Calls Try.prog 17 #[.int .i64 s, .int .i64 p] w fun e w' => e = .returned (.tuple #[.int .i64 (pl s p), .bool true]) ∧ w = w' := by
  have HA := Lib.hid c1
  have HB := Lib.hid c2
  clear c1 c2
  go_enter Try.func17, Try.ntmps17
  go_wp2_with (first
    | (go_at_call 39; refine (shTested_yes _ _ _ h1 h2 h3 h4).mono ?_; rintro e w' ⟨rfl, rfl⟩)
    | (go_at_call 45; refine (shWide_A2 _ _ _ h1 h2 h3 h4 HA.out HB.out).mono ?_; rintro e w' ⟨rfl, rfl⟩))
  go_ret2
  exact ⟨rfl, rfl⟩
theorem impl_WidePlace_A2 (s p : Int) (w : World) (h1 : 3 ≤ s) (h2 : s ≤ 24) (h3 : 0 ≤ p) (h4 : p ≤ 1000000000000) (c1 : num s (pl s p) = p) (c2 : ¬ num s (-wl s p) = p) :
    Calls Try.prog 18 #[.int .i64 s, .int .i64 p] w fun e w' => e = .returned (.tuple #[.int .i64 (pl s p), .bool true]) ∧ Below w.heap.size w w' := by
  have p0 := pl_nn s p h1 h3
  have p1 := pl_le s p h1 h3 h4
  have q0 := wl_nn s p h1 h3
  have q1 := wl_le s p h1 h3 h4
  have HA := Lib.hid c1
  have HB := Lib.hid c2
  clear c1 c2
  go_enter Try.func18, Try.ntmps18
  go_wp2_with (first | (go_at_call 42; refine (asat_yes _ _ _ h1 h2 h3 h4).mono ?_; rintro e w' ⟨rfl, rfl⟩) | (go_at_call 43; refine (polygonRule_any _ _ h1 h2).mono ?_; rintro e w1 ⟨rfl, hb1⟩))
  refine (placeOf_yes _ _ _ _ _ _ _ (poly_fits s p h1 h2 h3 h4) HA.out).mono ?_
  rintro e w2 ⟨rfl, hb2⟩
  go_wp2
  go_ret2
  exact ⟨rfl, hb1.trans (hb2.mono hb1.size)⟩
theorem law_WidePlace_A2 (s p : Int) (w : World) (h1 : 3 ≤ s) (h2 : s ≤ 24) (h3 : 0 ≤ p) (h4 : p ≤ 1000000000000) (c1 : num s (pl s p) = p) (c2 : ¬ num s (-wl s p) = p) :
    Calls Try.prog 5 #[.int .i64 s, .int .i64 p] w fun e w' => e = .returned (.bool true) ∧ Below w.heap.size w w' := by
  have HA := Lib.hid c1
  have HB := Lib.hid c2
  clear c1 c2
  go_enter Try.func5, Try.ntmps5
  go_wp2_with (first
    | (go_at_call 17; refine (spec_WidePlace_A2 _ _ _ h1 h2 h3 h4 HA.out HB.out).mono ?_; rintro e w' ⟨rfl, rfl⟩)
    | (go_at_call 18; refine (impl_WidePlace_A2 _ _ _ h1 h2 h3 h4 HA.out HB.out).mono ?_; rintro e w1 ⟨rfl, hb1⟩))
  go_ret
  exact ⟨rfl, hb1⟩
theorem spec_WidePlace_B (s p : Int) (w : World) (h1 : 3 ≤ s) (h2 : s ≤ 24) (h3 : 0 ≤ p) (h4 : p ≤ 1000000000000) (c1 : ¬ num s (pl s p) = p) (c2 : num s (-wl s p) = p) :
    Calls Try.prog 17 #[.int .i64 s, .int .i64 p] w fun e w' => e = .returned (.tuple #[.int .i64 (-wl s p), .bool true]) ∧ w = w' := by
  have HA := Lib.hid c1
  have HB := Lib.hid c2
  clear c1 c2
  go_enter Try.func17, Try.ntmps17
  go_wp2_with (first
    | (go_at_call 39; refine (shTested_yes _ _ _ h1 h2 h3 h4).mono ?_; rintro e w' ⟨rfl, rfl⟩)
    | (go_at_call 45; refine (shWide_B _ _ _ h1 h2 h3 h4 HA.out HB.out).mono ?_; rintro e w' ⟨rfl, rfl⟩))
  go_ret2
  exact ⟨rfl, rfl⟩
theorem impl_WidePlace_B (s p : Int) (w : World) (h1 : 3 ≤ s) (h2 : s ≤ 24) (h3 : 0 ≤ p) (h4 : p ≤ 1000000000000) (c1 : ¬ num s (pl s p) = p) (c2 : num s (-wl s p) = p) :
    Calls Try.prog 18 #[.int .i64 s, .int .i64 p] w fun e w' => e = .returned (.tuple #[.int .i64 (-wl s p), .bool true]) ∧ Below w.heap.size w w' := by
  have p0 := pl_nn s p h1 h3
  have p1 := pl_le s p h1 h3 h4
  have q0 := wl_nn s p h1 h3
  have q1 := wl_le s p h1 h3 h4
  have HA := Lib.hid c1
  have HB := Lib.hid c2
  clear c1 c2
  go_enter Try.func18, Try.ntmps18
  go_wp2_with (first | (go_at_call 42; refine (asat_yes _ _ _ h1 h2 h3 h4).mono ?_; rintro e w' ⟨rfl, rfl⟩) | (go_at_call 43; refine (polygonRule_any _ _ h1 h2).mono ?_; rintro e w1 ⟨rfl, hb1⟩))
  refine (placeOf_no _ _ _ _ _ _ _ (poly_fits s p h1 h2 h3 h4) HA.out).mono ?_
  rintro e w2 ⟨rfl, hb2⟩
  go_wp2_with (first | (go_at_call 46; refine (belowRule_any _ _ h1 h2).mono ?_; rintro e w3 ⟨rfl, hb3⟩))
  refine (placeOf_yes _ _ _ _ _ _ _ (bel_fits s p h1 h2 h3 h4) HB.out).mono ?_
  rintro e w4 ⟨rfl, hb4⟩
  go_wp2
  go_ret2
  exact ⟨rfl, (hb1.trans (hb2.mono hb1.size)).trans ((hb3.mono (Nat.le_trans hb1.size hb2.size)).trans (hb4.mono (Nat.le_trans hb1.size (Nat.le_trans hb2.size hb3.size))))⟩
theorem law_WidePlace_B (s p : Int) (w : World) (h1 : 3 ≤ s) (h2 : s ≤ 24) (h3 : 0 ≤ p) (h4 : p ≤ 1000000000000) (c1 : ¬ num s (pl s p) = p) (c2 : num s (-wl s p) = p) :
    Calls Try.prog 5 #[.int .i64 s, .int .i64 p] w fun e w' => e = .returned (.bool true) ∧ Below w.heap.size w w' := by
  have HA := Lib.hid c1
  have HB := Lib.hid c2
  clear c1 c2
  go_enter Try.func5, Try.ntmps5
  go_wp2_with (first
    | (go_at_call 17; refine (spec_WidePlace_B _ _ _ h1 h2 h3 h4 HA.out HB.out).mono ?_; rintro e w' ⟨rfl, rfl⟩)
    | (go_at_call 18; refine (impl_WidePlace_B _ _ _ h1 h2 h3 h4 HA.out HB.out).mono ?_; rintro e w1 ⟨rfl, hb1⟩))
  go_ret
  exact ⟨rfl, hb1⟩
theorem spec_WidePlace_C (s p : Int) (w : World) (h1 : 3 ≤ s) (h2 : s ≤ 24) (h3 : 0 ≤ p) (h4 : p ≤ 1000000000000) (c1 : ¬ num s (pl s p) = p) (c2 : ¬ num s (-wl s p) = p) :
    Calls Try.prog 17 #[.int .i64 s, .int .i64 p] w fun e w' => e = .returned (.tuple #[.int .i64 0, .bool false]) ∧ w = w' := by
  have HA := Lib.hid c1
  have HB := Lib.hid c2
  clear c1 c2
  go_enter Try.func17, Try.ntmps17
  go_wp2_with (first
    | (go_at_call 39; refine (shTested_yes _ _ _ h1 h2 h3 h4).mono ?_; rintro e w' ⟨rfl, rfl⟩)
    | (go_at_call 45; refine (shWide_C _ _ _ h1 h2 h3 h4 HA.out HB.out).mono ?_; rintro e w' ⟨rfl, rfl⟩))
  go_ret2
  exact ⟨rfl, rfl⟩
theorem impl_WidePlace_C (s p : Int) (w : World) (h1 : 3 ≤ s) (h2 : s ≤ 24) (h3 : 0 ≤ p) (h4 : p ≤ 1000000000000) (c1 : ¬ num s (pl s p) = p) (c2 : ¬ num s (-wl s p) = p) :
    Calls Try.prog 18 #[.int .i64 s, .int .i64 p] w fun e w' => e = .returned (.tuple #[.int .i64 0, .bool false]) ∧ Below w.heap.size w w' := by
  have p0 := pl_nn s p h1 h3
  have p1 := pl_le s p h1 h3 h4
  have q0 := wl_nn s p h1 h3
  have q1 := wl_le s p h1 h3 h4
  have HA := Lib.hid c1
  have HB := Lib.hid c2
  clear c1 c2
  go_enter Try.func18, Try.ntmps18
  go_wp2_with (first | (go_at_call 42; refine (asat_yes _ _ _ h1 h2 h3 h4).mono ?_; rintro e w' ⟨rfl, rfl⟩) | (go_at_call 43; refine (polygonRule_any _ _ h1 h2).mono ?_; rintro e w1 ⟨rfl, hb1⟩))
  refine (placeOf_no _ _ _ _ _ _ _ (poly_fits s p h1 h2 h3 h4) HA.out).mono ?_
  rintro e w2 ⟨rfl, hb2⟩
  go_wp2_with (first | (go_at_call 46; refine (belowRule_any _ _ h1 h2).mono ?_; rintro e w3 ⟨rfl, hb3⟩))
  refine (placeOf_no _ _ _ _ _ _ _ (bel_fits s p h1 h2 h3 h4) HB.out).mono ?_
  rintro e w4 ⟨rfl, hb4⟩
  go_wp2
  go_ret2
  exact ⟨rfl, (hb1.trans (hb2.mono hb1.size)).trans ((hb3.mono (Nat.le_trans hb1.size hb2.size)).trans (hb4.mono (Nat.le_trans hb1.size (Nat.le_trans hb2.size hb3.size))))⟩
theorem law_WidePlace_C (s p : Int) (w : World) (h1 : 3 ≤ s) (h2 : s ≤ 24) (h3 : 0 ≤ p) (h4 : p ≤ 1000000000000) (c1 : ¬ num s (pl s p) = p) (c2 : ¬ num s (-wl s p) = p) :
    Calls Try.prog 5 #[.int .i64 s, .int .i64 p] w fun e w' => e = .returned (.bool true) ∧ Below w.heap.size w w' := by
  have HA := Lib.hid c1
  have HB := Lib.hid c2
  clear c1 c2
  go_enter Try.func5, Try.ntmps5
  go_wp2_with (first
    | (go_at_call 17; refine (spec_WidePlace_C _ _ _ h1 h2 h3 h4 HA.out HB.out).mono ?_; rintro e w' ⟨rfl, rfl⟩)
    | (go_at_call 18; refine (impl_WidePlace_C _ _ _ h1 h2 h3 h4 HA.out HB.out).mono ?_; rintro e w1 ⟨rfl, hb1⟩))
  go_ret
  exact ⟨rfl, hb1⟩
theorem law_WidePlace_no (s p : Int) (w : World) (h : (s < 3 ∨ 24 < s) ∨ (p < 0 ∨ 1000000000000 < p)) :
    Calls Try.prog 5 #[.int .i64 s, .int .i64 p] w fun e w' => e = .returned (.bool true) ∧ Below w.heap.size w w' := by
  have H := Lib.hid h
  clear h
  go_enter Try.func5, Try.ntmps5
  go_wp2_with (first
    | (go_at_call 17; refine (spec_WidePlace_no _ _ _ H.out).mono ?_; rintro e w' ⟨rfl, rfl⟩)
    | (go_at_call 18; refine (impl_WidePlace_no _ _ _ H.out).mono ?_; rintro e w' ⟨rfl, rfl⟩))
  go_ret
  exact ⟨rfl, Below.refl _ _⟩
theorem walk_WidePlace (s p : Int) (w : World) :
    Calls Try.prog 5 #[.int .i64 s, .int .i64 p] w fun e w' => e = .returned (.bool true) ∧ Below w.heap.size w w' := by
  by_cases h : (s < 3 ∨ 24 < s) ∨ (p < 0 ∨ 1000000000000 < p)
  · exact law_WidePlace_no s p w h
  · by_cases c1 : num s (pl s p) = p <;> by_cases c2 : num s (-wl s p) = p
    · exact law_WidePlace_A1 s p w (by omega) (by omega) (by omega) (by omega) c1 c2
    · exact law_WidePlace_A2 s p w (by omega) (by omega) (by omega) (by omega) c1 c2
    · exact law_WidePlace_B s p w (by omega) (by omega) (by omega) (by omega) c1 c2
    · exact law_WidePlace_C s p w (by omega) (by omega) (by omega) (by omega) c1 c2

end Go.Proofs.Ytnciehnjmhlehaa
