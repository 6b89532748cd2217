/- The laws FnExactCentredNumber, FnExactCentredPlace, FnExactWidePlace, FnExactRootOf: the program's answer is the specification's, whatever the arguments. No condition. -/
import Derived.Test.YtjfkeflmbgfhmaaGreatDoorBase
import Derived.Test.YtjfkeflmbgfhmaaGreatDoorSpA
import Derived.Test.YtjfkeflmbgfhmaaGreatDoorImC
import Derived.Test.YtjfkeflmbgfhmaaGreatDoorLwB
import Derived.Test.YtjfkeflmbgfhmaaGreatDoorNuB
namespace Go.Proofs.YtjfkeflmbgfhmaaGreatDoor
open Go.ChangeShapes Go.WideShapes Go.ChangeAt Go.RowKit

theorem shCentred_any (s k : Int) (w : World) (h1 : 3 ≤ s) (h2 : s ≤ 24) (h3 : 0 ≤ k) (h4 : k ≤ 3000000) :
    Calls Tryz.prog 53 #[.int .i64 s, .int .i64 k] w fun e w' => e = .returned (.int .i64 (cen s k)) ∧ w = w' := by
  obtain ⟨a0, a1, b0, b1⟩ := cen_bds s k h1 h2 h3 h4
  go_enter Tryz.func53, Tryz.ntmps53
  go_wp2
  go_ret
  exact ⟨rfl, rfl⟩
theorem centredRule_any (s : Int) (w : World) (h1 : 3 ≤ s) (h2 : s ≤ 24) :
    Calls Tryz.prog 51 #[.int .i64 s] w fun e w' => e = .returned (.agg #[.int .i64 2, .int .i64 (-s), .int .i64 s]) ∧ Below w.heap.size w w' := by
  go_enter Tryz.func51, Tryz.ntmps51
  go_wp2
  exact bodyPost_ret (v := .agg #[.int .i64 2, .int .i64 (-s), .int .i64 s]) (by simp [results, Tryz.results51, go_sem]) rfl ⟨rfl, (Below.refl _ _).alloc (Nat.le_refl _) _⟩
theorem cenRule_bds (s k : Int) (h1 : 3 ≤ s) (h2 : s ≤ 24) (h3 : 0 ≤ k) (h4 : k ≤ 3000000) : RuleBds 2 (-s) s k (cen s k) := by
  obtain ⟨a0, a1, b0, b1⟩ := cen_bds s k h1 h2 h3 h4
  have e1 := cen_twice s k
  have e2 : s * (k * (k - 1)) = s * k * k - s * k := by grind
  have e3 : s * k * (k - 1) = s * k * k - s * k := by grind
  have e4 : -s * k = -(s * k) := by grind
  constructor <;> omega
theorem cen_fits (s n : Int) (h1 : 3 ≤ s) (h2 : s ≤ 24) (h3 : 0 ≤ n) (h4 : n ≤ 1000000000000) : Fits 2 (-s) s n (cpl s n) (cen s) :=
  ⟨fun k h5 h6 => cenRule_bds s k h1 h2 h5 (by omega), cpl_nn s n h1 h3, by have := cpl_le s n h1 h3 h4; omega, fun k h5 _ => cfits_iff s n k h1 h3 h5⟩
theorem spec_CentredNumber_no (s p : Int) (w : World) (h : (s < 3 ∨ 24 < s) ∨ (p < 1 ∨ 100000 < p)) :
    Calls Tryz.prog 20 #[.int .i64 s, .int .i64 p] w fun e w' => e = .returned (.tuple #[.int .i64 0, .bool false]) ∧ w = w' := by
  by_cases hs : (s < 3 ∨ 24 < s) ∨ (p < 0 ∨ 100000 < p)
  · have H := Lib.hid hs
    clear h hs
    go_enter Tryz.func20, Tryz.ntmps20
    go_wp2_with (go_at_call 52; refine (shPlace_no _ _ _ H.out).mono ?_; rintro e w' ⟨rfl, rfl⟩)
    go_ret2
    exact ⟨rfl, rfl⟩
  · have h1 : 3 ≤ s := by omega
    have h2 : s ≤ 24 := by omega
    obtain rfl : p = 0 := by omega
    clear h hs
    go_enter Tryz.func20, Tryz.ntmps20
    go_wp2_with (go_at_call 52; refine (shPlace_yes _ _ _ h1 h2 (by omega) (by omega)).mono ?_; rintro e w' ⟨rfl, rfl⟩)
    go_ret2
    exact ⟨rfl, rfl⟩
theorem impl_CentredNumber_no (s p : Int) (w : World) (h : (s < 3 ∨ 24 < s) ∨ (p < 1 ∨ 100000 < p)) :
    Calls Tryz.prog 19 #[.int .i64 s, .int .i64 p] w fun e w' => e = .returned (.tuple #[.int .i64 0, .bool false]) ∧ w = w' := by
  have H := Lib.hid h
  clear h
  go_enter Tryz.func19, Tryz.ntmps19
  go_wp2_with (first | (go_at_call 41; refine (asap_no _ _ _ _ H.out).mono ?_; rintro e w' ⟨rfl, rfl⟩))
  go_ret2
  exact ⟨rfl, rfl⟩
theorem spec_CentredNumber_yes (s p : Int) (w : World) (h1 : 3 ≤ s) (h2 : s ≤ 24) (h3 : 1 ≤ p) (h4 : p ≤ 100000) :
    Calls Tryz.prog 20 #[.int .i64 s, .int .i64 p] w fun e w' => e = .returned (.tuple #[.int .i64 (cen s p), .bool true]) ∧ w = w' := by
  go_enter Tryz.func20, Tryz.ntmps20
  go_wp2_with (first
    | (go_at_call 52; refine (shPlace_yes _ _ _ h1 h2 (by omega) h4).mono ?_; rintro e w' ⟨rfl, rfl⟩)
    | (go_at_call 53; refine (shCentred_any _ _ _ h1 h2 (by omega) (by omega)).mono ?_; rintro e w' ⟨rfl, rfl⟩))
  go_ret2
  exact ⟨rfl, rfl⟩
theorem impl_CentredNumber_yes (s p : Int) (w : World) (h1 : 3 ≤ s) (h2 : s ≤ 24) (h3 : 1 ≤ p) (h4 : p ≤ 100000) :
    Calls Tryz.prog 19 #[.int .i64 s, .int .i64 p] w fun e w' => e = .returned (.tuple #[.int .i64 (cen s p), .bool true]) ∧ Below w.heap.size w w' := by
  go_enter Tryz.func19, Tryz.ntmps19
  go_wp2_with (first
    | (go_at_call 41; refine (asap_yes _ _ _ _ h1 h2 h3 h4).mono ?_; rintro e w' ⟨rfl, rfl⟩)
    | (go_at_call 51; refine (centredRule_any _ _ h1 h2).mono ?_; rintro e w1 ⟨rfl, hb1⟩)
    | (go_at_call 43; refine (numberAt_any _ _ _ _ _ _ (cenRule_bds s p h1 h2 (by omega) (by omega))).mono ?_; rintro e w2 ⟨rfl, hb2⟩))
  go_ret2
  exact ⟨rfl, hb1.trans (hb2.mono hb1.size)⟩
theorem spec_CentredPlace_no (s p : Int) (w : World) (h : (s < 3 ∨ 24 < s) ∨ (p < 0 ∨ 1000000000000 < p)) :
    Calls Tryz.prog 23 #[.int .i64 s, .int .i64 p] w fun e w' => e = .returned (.tuple #[.int .i64 0, .bool false]) ∧ w = w' := by
  have H := Lib.hid h
  clear h
  go_enter Tryz.func23, Tryz.ntmps23
  go_wp2_with (first | (go_at_call 57; refine (shTested_no _ _ _ H.out).mono ?_; rintro e w' ⟨rfl, rfl⟩))
  go_ret2
  exact ⟨rfl, rfl⟩
theorem impl_CentredPlace_no (s p : Int) (w : World) (h : (s < 3 ∨ 24 < s) ∨ (p < 0 ∨ 1000000000000 < p)) :
    Calls Tryz.prog 22 #[.int .i64 s, .int .i64 p] w fun e w' => e = .returned (.tuple #[.int .i64 0, .bool false]) ∧ w = w' := by
  have H := Lib.hid h
  clear h
  go_enter Tryz.func22, Tryz.ntmps22
  go_wp2_with (first | (go_at_call 55; refine (asat_no _ _ _ H.out).mono ?_; rintro e w' ⟨rfl, rfl⟩))
  go_ret2
  exact ⟨rfl, rfl⟩
set_option maxHeartbeats 400000 in
theorem spec_CentredPlace_yes (s p : Int) (w : World) (h1 : 3 ≤ s) (h2 : s ≤ 24) (h3 : 0 ≤ p) (h4 : p ≤ 1000000000000) (hc : cen s (cpl s p) = p) :
    Calls Tryz.prog 23 #[.int .i64 s, .int .i64 p] w fun e w' => e = .returned (.tuple #[.int .i64 (cpl s p), .bool true]) ∧ w = w' := by
  obtain ⟨L, l1, l2, l3, l4, l5⟩ : ∃ L : Int, 1 ≤ L ∧ L ≤ 1000000 ∧ (∀ k, 2 ≤ k → (cen s k ≤ p ↔ k ≤ L)) ∧ (cen s (cpl s p) = p → L = cpl s p) ∧ ((cen s L == p) = true) := by
    have a0 := cpl_nn s p h1 h3
    have a1 := cpl_le s p h1 h3 h4
    by_cases h0 : p = 0
    · subst h0
      refine ⟨1, by omega, by omega, fun k hk => ?_, ?_, ?_⟩
      · have := cfits_iff s 0 k h1 (by omega) (by omega)
        rw [cpl_zero] at this
        omega
      · rw [cpl_zero]
        simp [cen]
      · rw [cpl_zero] at hc; simp [cen] at hc
    · have b0 := (cpl_is s p h1 (by omega)).1
      exact ⟨cpl s p, by omega, a1, fun k hk => cfits_iff s p k h1 h3 (by omega), fun _ => rfl, by simpa using hc⟩
  have HL := Lib.hid l3
  have HB := Lib.hid l5
  have HV := Lib.hid (l4 hc)
  clear l3 l4 l5 hc
  go_enter Tryz.func23, Tryz.ntmps23
  go_wp2_with (go_at_call 57; refine (shTested_yes _ _ _ h1 h2 h3 h4).mono ?_; rintro e w' ⟨rfl, rfl⟩)
  go_loop [6, 7, 8] (fun l h _ => ∃ a b : Int, l = .int .i64 a ∧ h = .int .i64 b ∧ 1 ≤ a ∧ a ≤ L ∧ L ≤ b ∧ b ≤ 2000000) (fun l h _ => (intOf h - intOf l).toNat)
  case atStart => exact ⟨1, 2000000, rfl, rfl, by omega, by omega, by omega, by omega⟩
  case round =>
    obtain ⟨a, b, rfl, rfl, ha0, ha1, hb0, hb1⟩ := hrel
    by_cases hlt : a < b
    · have hm := HL.out ((a + b + 1) / 2) (by omega)
      by_cases hf : (a + b + 1) / 2 ≤ L
      · have hn := hm.2 hf
        clear hm
        go_wp2_with (go_at_call 53; refine (shCentred_any _ _ _ h1 h2 (by omega) (by omega)).mono ?_; rintro e w' ⟨rfl, rfl⟩)
        go_round
        case rel => exact ⟨_, _, rfl, rfl, by omega, hf, by omega, by omega⟩
        case measure => simp [intOf]; omega
      · have hn : p < cen s ((a + b + 1) / 2) := by
          rcases Int.lt_or_le p (cen s ((a + b + 1) / 2)) with h | h
          · exact h
          · exact absurd (hm.1 h) hf
        clear hm
        go_wp2_with (go_at_call 53; refine (shCentred_any _ _ _ h1 h2 (by omega) (by omega)).mono ?_; rintro e w' ⟨rfl, rfl⟩)
        go_round
        case rel => exact ⟨_, _, rfl, rfl, by omega, by omega, by omega, by omega⟩
        case measure => simp [intOf]; omega
    · obtain rfl : a = L := by omega
      have hB := HB.out
      have hB2 : (cen s a != p) = false := by rw [bne, hB]; rfl
      go_wp2_with (go_at_call 53; refine (shCentred_any _ _ _ h1 h2 (by omega) (by omega)).mono ?_; rintro e w' ⟨rfl, rfl⟩)
      go_ret2
      exact ⟨by rw [← HV.out]; rfl, rfl⟩
set_option maxHeartbeats 400000 in
theorem spec_CentredPlace_miss (s p : Int) (w : World) (h1 : 3 ≤ s) (h2 : s ≤ 24) (h3 : 0 ≤ p) (h4 : p ≤ 1000000000000) (hc : ¬ cen s (cpl s p) = p) :
    Calls Tryz.prog 23 #[.int .i64 s, .int .i64 p] w fun e w' => e = .returned (.tuple #[.int .i64 0, .bool false]) ∧ w = w' := by
  obtain ⟨L, l1, l2, l3, l4, l5⟩ : ∃ L : Int, 1 ≤ L ∧ L ≤ 1000000 ∧ (∀ k, 2 ≤ k → (cen s k ≤ p ↔ k ≤ L)) ∧ (cen s (cpl s p) = p → L = cpl s p) ∧ ((cen s L == p) = false) := by
    have a0 := cpl_nn s p h1 h3
    have a1 := cpl_le s p h1 h3 h4
    by_cases h0 : p = 0
    · subst h0
      refine ⟨1, by omega, by omega, fun k hk => ?_, ?_, ?_⟩
      · have := cfits_iff s 0 k h1 (by omega) (by omega)
        rw [cpl_zero] at this
        omega
      · rw [cpl_zero]
        simp [cen]
      · rw [cen_one]; decide
    · have b0 := (cpl_is s p h1 (by omega)).1
      exact ⟨cpl s p, by omega, a1, fun k hk => cfits_iff s p k h1 h3 (by omega), fun _ => rfl, by simpa using hc⟩
  have HL := Lib.hid l3
  have HB := Lib.hid l5

  clear l3 l4 l5 hc
  go_enter Tryz.func23, Tryz.ntmps23
  go_wp2_with (go_at_call 57; refine (shTested_yes _ _ _ h1 h2 h3 h4).mono ?_; rintro e w' ⟨rfl, rfl⟩)
  go_loop [6, 7, 8] (fun l h _ => ∃ a b : Int, l = .int .i64 a ∧ h = .int .i64 b ∧ 1 ≤ a ∧ a ≤ L ∧ L ≤ b ∧ b ≤ 2000000) (fun l h _ => (intOf h - intOf l).toNat)
  case atStart => exact ⟨1, 2000000, rfl, rfl, by omega, by omega, by omega, by omega⟩
  case round =>
    obtain ⟨a, b, rfl, rfl, ha0, ha1, hb0, hb1⟩ := hrel
    by_cases hlt : a < b
    · have hm := HL.out ((a + b + 1) / 2) (by omega)
      by_cases hf : (a + b + 1) / 2 ≤ L
      · have hn := hm.2 hf
        clear hm
        go_wp2_with (go_at_call 53; refine (shCentred_any _ _ _ h1 h2 (by omega) (by omega)).mono ?_; rintro e w' ⟨rfl, rfl⟩)
        go_round
        case rel => exact ⟨_, _, rfl, rfl, by omega, hf, by omega, by omega⟩
        case measure => simp [intOf]; omega
      · have hn : p < cen s ((a + b + 1) / 2) := by
          rcases Int.lt_or_le p (cen s ((a + b + 1) / 2)) with h | h
          · exact h
          · exact absurd (hm.1 h) hf
        clear hm
        go_wp2_with (go_at_call 53; refine (shCentred_any _ _ _ h1 h2 (by omega) (by omega)).mono ?_; rintro e w' ⟨rfl, rfl⟩)
        go_round
        case rel => exact ⟨_, _, rfl, rfl, by omega, by omega, by omega, by omega⟩
        case measure => simp [intOf]; omega
    · obtain rfl : a = L := by omega
      have hB := HB.out
      have hB2 : (cen s a != p) = true := by rw [bne, hB]; rfl
      go_wp2_with (go_at_call 53; refine (shCentred_any _ _ _ h1 h2 (by omega) (by omega)).mono ?_; rintro e w' ⟨rfl, rfl⟩)
      go_ret2
      exact ⟨rfl, rfl⟩
theorem impl_CentredPlace_yes (s p : Int) (w : World) (h1 : 3 ≤ s) (h2 : s ≤ 24) (h3 : 0 ≤ p) (h4 : p ≤ 1000000000000) (hc : cen s (cpl s p) = p) :
    Calls Tryz.prog 22 #[.int .i64 s, .int .i64 p] w fun e w' => e = .returned (.tuple #[.int .i64 (cpl s p), .bool true]) ∧ Below w.heap.size w w' := by
  have HC := Lib.hid hc
  clear hc
  go_enter Tryz.func22, Tryz.ntmps22
  go_wp2_with (first
    | (go_at_call 55; refine (asat_yes _ _ _ h1 h2 h3 h4).mono ?_; rintro e w' ⟨rfl, rfl⟩)
    | (go_at_call 51; refine (centredRule_any _ _ h1 h2).mono ?_; rintro e w1 ⟨rfl, hb1⟩)
    | (go_at_call 56; refine (placeOf_yes _ _ _ _ _ _ _ (cen_fits s p h1 h2 h3 h4) HC.out).mono ?_; rintro e w2 ⟨rfl, hb2⟩))
  go_ret2
  exact ⟨rfl, hb1.trans (hb2.mono hb1.size)⟩
theorem impl_CentredPlace_miss (s p : Int) (w : World) (h1 : 3 ≤ s) (h2 : s ≤ 24) (h3 : 0 ≤ p) (h4 : p ≤ 1000000000000) (hc : ¬ cen s (cpl s p) = p) :
    Calls Tryz.prog 22 #[.int .i64 s, .int .i64 p] w fun e w' => e = .returned (.tuple #[.int .i64 0, .bool false]) ∧ Below w.heap.size w w' := by
  have HC := Lib.hid hc
  clear hc
  go_enter Tryz.func22, Tryz.ntmps22
  go_wp2_with (first
    | (go_at_call 55; refine (asat_yes _ _ _ h1 h2 h3 h4).mono ?_; rintro e w' ⟨rfl, rfl⟩)
    | (go_at_call 51; refine (centredRule_any _ _ h1 h2).mono ?_; rintro e w1 ⟨rfl, hb1⟩)
    | (go_at_call 56; refine (placeOf_no _ _ _ _ _ _ _ (cen_fits s p h1 h2 h3 h4) HC.out).mono ?_; rintro e w2 ⟨rfl, hb2⟩))
  go_ret2
  exact ⟨rfl, hb1.trans (hb2.mono hb1.size)⟩
end Go.Proofs.YtjfkeflmbgfhmaaGreatDoor
