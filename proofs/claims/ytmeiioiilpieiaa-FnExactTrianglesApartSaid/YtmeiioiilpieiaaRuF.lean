/- Chapter 5: the laws RunsOf, CountRuns, LongestRun. -/
import Derived.Test.YtmeiioiilpieiaaRuE
import Derived.Test.YtmeiioiilpieiaaRuC
import Derived.Test.YtmeiioiilpieiaaOwL
namespace Go.Proofs.Ytmeiioiilpieiaa
open Go.ChangeShapes Go.WideShapes Go.ChangeAt Go.RowKit

theorem ruAll_runs (n : Int) (w : World) (h0 : 1 ≤ n) (h1 : n ≤ 1000000) :
    Calls Try.prog 62 #[.int .i64 n, .bool false] w fun e w' => ∃ A c, e = .returned (.slice A (runsL n).length c) ∧ Own w' w.heap.size w'.heap.size A (prs (runsL n)) ∧ Below w.heap.size w w' := by
  rw [← runs_eq n h0]
  exact ruAll_false n w h0 h1
theorem spec_RunsOf_no (n : Int) (w : World) (h : n < 1 ∨ 1000000 < n) :
    Calls Try.prog 21 #[.int .i64 n] w (ResP false [] w) := by
  have HA := Lib.hid (betr_no h)
  clear h
  go_enter Try.func21, Try.ntmps21
  go_wp2_with (go_at_call 61; refine (ruGood_any _ _).mono ?_; rw [HA.out]; rintro e w' ⟨rfl, rfl⟩)
  go_ret2
  exact resP_nil (Below.refl _ _)
theorem spec_CountRuns_no (n : Int) (w : World) (h : n < 1 ∨ 1000000 < n) :
    Calls Try.prog 26 #[.int .i64 n] w fun e w' => e = .returned (.tuple #[.int .i64 0, .bool false]) ∧ Below w.heap.size w w' := by
  have HA := Lib.hid (betr_no h)
  clear h
  go_enter Try.func26, Try.ntmps26
  go_wp2_with (go_at_call 61; refine (ruGood_any _ _).mono ?_; rw [HA.out]; rintro e w' ⟨rfl, rfl⟩)
  go_ret2
  exact ⟨rfl, Below.refl _ _⟩
theorem spec_LongestRun_no (n : Int) (w : World) (h : n < 1 ∨ 1000000 < n) :
    Calls Try.prog 28 #[.int .i64 n] w fun e w' => e = .returned (.tuple #[.agg #[.int .i64 0, .int .i64 0], .bool false]) ∧ Below w.heap.size w w' := by
  have HA := Lib.hid (betr_no h)
  clear h
  go_enter Try.func28, Try.ntmps28
  go_wp2_with (go_at_call 61; refine (ruGood_any _ _).mono ?_; rw [HA.out]; rintro e w' ⟨rfl, rfl⟩)
  exact bodyPost_ret (v := .tuple #[.agg #[.int .i64 0, .int .i64 0], .bool false]) (by simp [results, Try.results28, go_sem]) rfl ⟨rfl, (Below.refl _ _).alloc (Nat.le_refl _) _⟩
theorem impl_RunsOf_no (n : Int) (w : World) (h : n < 1 ∨ 1000000 < n) :
    Calls Try.prog 22 #[.int .i64 n] w (ResP false [] w) := by
  have HA := Lib.hid (betr_no h)
  clear h
  go_enter Try.func22, Try.ntmps22
  go_wp2_with (go_at_call 63; refine (isRunned_any _ _).mono ?_; rw [HA.out]; rintro e w' ⟨rfl, rfl⟩)
  go_ret2
  exact resP_nil (Below.refl _ _)
theorem impl_LongestRun_no (n : Int) (w : World) (h : n < 1 ∨ 1000000 < n) :
    Calls Try.prog 29 #[.int .i64 n] w fun e w' => e = .returned (.tuple #[.agg #[.int .i64 0, .int .i64 0], .bool false]) ∧ Below w.heap.size w w' := by
  have HA := Lib.hid (betr_no h)
  clear h
  go_enter Try.func29, Try.ntmps29
  go_wp2_with (go_at_call 63; refine (isRunned_any _ _).mono ?_; rw [HA.out]; rintro e w' ⟨rfl, rfl⟩)
  exact bodyPost_ret (v := .tuple #[.agg #[.int .i64 0, .int .i64 0], .bool false]) (by simp [results, Try.results29, go_sem]) rfl ⟨rfl, (Below.refl _ _).alloc (Nat.le_refl _) _⟩
theorem spec_RunsOf_yes (n : Int) (w : World) (h0 : 1 ≤ n) (h1 : n ≤ 1000000) :
    Calls Try.prog 21 #[.int .i64 n] w (ResP true (runsL n) w) := by
  have HA := Lib.hid (betr_yes h0 h1)
  have HC := Lib.hid fun W => ruAll_runs n W h0 h1
  obtain ⟨xs, hxs⟩ : ∃ xs, xs = runsL n := ⟨_, rfl⟩
  rw [← hxs] at HC ⊢
  clear hxs
  go_enter Try.func21, Try.ntmps21
  go_wp2_with (first
    | (go_at_call 61; refine (ruGood_any _ _).mono ?_; rw [HA.out]; rintro e w' ⟨rfl, rfl⟩)
    | (go_at_call 62; refine (HC.out _).mono ?_; rintro e w1 ⟨A, c, rfl, ho, hb1⟩; have HO := Lib.hid ho; clear ho))
  go_ret2
  exact ⟨A, c, rfl, HO.out, hb1⟩
theorem impl_RunsOf_yes (n : Int) (w : World) (h0 : 1 ≤ n) (h1 : n ≤ 1000000) :
    Calls Try.prog 22 #[.int .i64 n] w (ResP true (runsL n) w) := by
  have HA := Lib.hid (betr_yes h0 h1)
  have HC := Lib.hid fun W => runsOf_any n W h0 h1
  obtain ⟨xs, hxs⟩ : ∃ xs, xs = runsL n := ⟨_, rfl⟩
  rw [← hxs] at HC ⊢
  clear hxs
  go_enter Try.func22, Try.ntmps22
  go_wp2_with (first
    | (go_at_call 63; refine (isRunned_any _ _).mono ?_; rw [HA.out]; rintro e w' ⟨rfl, rfl⟩)
    | (go_at_call 64; refine (HC.out _).mono ?_; rintro e w1 ⟨A, c, rfl, ho, hb1⟩; have HO := Lib.hid ho; clear ho))
  go_ret2
  exact ⟨A, c, rfl, HO.out, hb1⟩
set_option maxHeartbeats 800000 in
theorem lawP_RunsOf (n : Int) (ok : Bool) (xs : List (Int × Int)) (hl : xs.length ≤ 1000000000) 
    (hs : ∀ w : World, Calls Try.prog 21 #[.int .i64 n] w (ResP ok xs w))
    (hi : ∀ w : World, Calls Try.prog 22 #[.int .i64 n] w (ResP ok xs w)) (w : World) :
    Calls Try.prog 4 #[.int .i64 n] w fun e w' => e = .returned (.bool true) ∧ Below w.heap.size w w' := by
  have HS := Lib.hid hs
  have HI := Lib.hid hi
  clear hs hi
  obtain ⟨n, hn⟩ : ∃ n, n = xs.length := ⟨_, rfl⟩
  have HN := Lib.hid hn.symm
  rw [← hn] at hl
  clear hn
  go_enter Try.func4, Try.ntmps4
  go_wp2_with fail
  refine (HS.out _).mono ?_
  rintro e w1 ⟨A1, c1, rfl, o1, b1⟩
  rw [HN.out]
  go_wp2_with fail
  refine (HI.out _).mono ?_
  rintro e w2 ⟨A2, c2, rfl, o2, b2⟩
  rw [HN.out]
  have o1a : Own w2 w.heap.size w1.heap.size A1 (prs xs) := o1.below b2 (Nat.le_refl _)
  clear o1
  go_wp2_with fail
  refine (eqRunS_same A2 A1 n c2 c1 _ _ _ _ xs _ HN.out hl o2 o1a (Nat.le_refl _) b2.size).mono ?_
  rintro e w3 ⟨rfl, b3⟩
  have o1b : Own w3 w.heap.size w1.heap.size A1 (prs xs) := o1a.below b3 b2.size
  have o2b : Own w3 w1.heap.size w2.heap.size A2 (prs xs) := o2.below b3 (Nat.le_refl _)
  clear o1a o2
  go_wp2_with fail
  refine (markRunS_any A2 n c2 _ _ (prs xs) 1 _ (by rw [prs_len, HN.out]) hl (by omega) (by omega) o2b).mono ?_
  rintro e w4 ⟨rfl, o3, b4⟩
  have o1c : Own w4 w.heap.size w1.heap.size A1 (prs xs) := o1b.below b4 (Nat.le_refl _)
  clear o1b o2b
  go_wp2_with fail
  refine (heldRunS_any A2 n c2 _ _ 1 _ hl (by omega) (by omega) o3).mono ?_
  rintro e w5 ⟨rfl, rfl⟩
  go_wp2_with fail
  refine (HI.out _).mono ?_
  rintro e w6 ⟨A6, c6, rfl, o6, b6⟩
  rw [HN.out]
  have z4 : w2.heap.size ≤ w4.heap.size := Nat.le_trans b3.size b4.size
  have o1d : Own w6 w.heap.size w1.heap.size A1 (prs xs) := o1c.below b6 (Nat.le_trans b2.size z4)
  have o3c : Own w6 w1.heap.size w2.heap.size A2 (i64s (marks 1 (2 * n))) := o3.below b6 z4
  clear o1c o3
  go_wp2_with fail
  refine (eqRunS_same A6 A1 n c6 c1 _ _ _ _ xs _ HN.out hl o6 o1d (Nat.le_refl _) (Nat.le_trans b2.size (Nat.le_trans z4 b6.size))).mono ?_
  rintro e w7 ⟨rfl, b7⟩
  have o3d : Own w7 w1.heap.size w2.heap.size A2 (i64s (marks 1 (2 * n))) := o3c.below b7 (Nat.le_trans z4 b6.size)
  clear o3c
  go_wp2_with fail
  refine (heldRunS_any A2 n c2 _ _ 1 _ hl (by omega) (by omega) o3d).mono ?_
  rintro e w8 ⟨rfl, rfl⟩
  go_wp2
  go_ret
  have s2 : w.heap.size ≤ w2.heap.size := Nat.le_trans b1.size b2.size
  have s4 : w.heap.size ≤ w4.heap.size := Nat.le_trans s2 z4
  exact ⟨rfl, (b1.trans (b2.mono b1.size)).trans ((b3.mono s2).trans ((b4.mono b1.size).trans ((b6.mono s4).trans (b7.mono (Nat.le_trans s4 b6.size)))))⟩
theorem walk_RunsOf (n : Int) (w : World) : Calls Try.prog 4 #[.int .i64 n] w fun e w' => e = .returned (.bool true) ∧ Below w.heap.size w w' := by
  by_cases h : n < 1 ∨ 1000000 < n
  · exact lawP_RunsOf n false [] (by simp) (fun w => spec_RunsOf_no n w h) (fun w => impl_RunsOf_no n w h) w
  · exact lawP_RunsOf n true (runsL n) (by have := runs_len n (by omega) (by omega); omega) (fun w => spec_RunsOf_yes n w (by omega) (by omega)) (fun w => impl_RunsOf_yes n w (by omega) (by omega)) w

/-! ### how many -/
theorem impl_CountRuns_of (n : Int) (ok : Bool) (xs : List (Int × Int)) (h : ∀ w, Calls Try.prog 22 #[.int .i64 n] w (ResP ok xs w)) (hl : xs.length ≤ 1000000) (w : World) :
    Calls Try.prog 27 #[.int .i64 n] w fun e w' => e = .returned (.tuple #[.int .i64 xs.length, .bool ok]) ∧ Below w.heap.size w w' := by
  have HC := Lib.hid h
  clear h
  obtain ⟨N, hN⟩ : ∃ N, N = xs.length := ⟨_, rfl⟩
  rw [← hN] at hl ⊢
  have HN := Lib.hid hN
  clear hN
  go_enter Try.func27, Try.ntmps27
  go_wp2_with (go_at_call 22; refine (HC.out _).mono ?_; rintro e w1 ⟨A, c, rfl, ho, hb1⟩; rw [← HN.out]; clear ho)
  go_ret2
  exact ⟨rfl, hb1⟩
set_option maxHeartbeats 1600000 in
theorem spec_CountRuns_yes (n : Int) (w : World) (h0 : 1 ≤ n) (h1 : n ≤ 1000000) :
    Calls Try.prog 26 #[.int .i64 n] w fun e w' => e = .returned (.tuple #[.int .i64 (runsL n).length, .bool true]) ∧ Below w.heap.size w w' := by
  have HA := Lib.hid (betr_yes h0 h1)
  have HO : Hid (∀ k : Nat, n < 2 * (k : Int) + 1 → oddC n k = (runsL n).length) := Lib.hid fun k hk => odd_count n k h0 hk
  go_enter Try.func26, Try.ntmps26
  go_wp2_with (first
    | (go_at_call 61; refine (ruGood_any _ _).mono ?_; rw [HA.out]; rintro e w' ⟨rfl, rfl⟩))
  go_loop [4, 5] (fun c d => ∃ k m : Nat, 2 * (k : Int) - 1 ≤ n ∧ d = .int .i64 (2 * (k : Int) + 1) ∧ c = .int .i64 (m : Int) ∧ m ≤ k ∧ Hid (m = oddC n k)) (fun _ d => (n + 2 - intOf d).toNat)
  case atStart => exact ⟨0, 0, by omega, by simp, by simp, by omega, Lib.hid (by simp [oddC])⟩
  case round =>
    obtain ⟨k, m, hk, rfl, rfl, hmk, HM⟩ := hrel
    by_cases hlt : 2 * (k : Int) + 1 ≤ n
    · by_cases hc : n % (2 * (k : Int) + 1) = 0
      · have HM2 : Hid (m + 1 = oddC n (k + 1)) := Lib.hid (by rw [oddC_yes n k hc, HM.out])
        go_wp2
        go_round
        case rel => exact ⟨k + 1, m + 1, by omega, by go_num, by go_num, by omega, HM2⟩
        case measure => simp [intOf]; omega
      · have HM2 : Hid (m = oddC n (k + 1)) := Lib.hid (by rw [oddC_no n k hc, HM.out])
        have hcb : (n % (2 * (k : Int) + 1) == 0) = false := by simpa using hc
        clear hc
        go_wp2
        go_round
        case rel => exact ⟨k + 1, m, by omega, by go_num, by simp, by omega, HM2⟩
        case measure => simp [intOf]; omega
    · have HE := Lib.hid (HO.out k (by omega))
      go_wp2
      go_ret2
      exact ⟨by rw [HM.out, HE.out]; rfl, Below.refl _ _⟩
set_option maxHeartbeats 800000 in
theorem lawN_CountRuns (n : Int) (ok : Bool) (r : Int)
    (hs : ∀ w : World, Calls Try.prog 26 #[.int .i64 n] w fun e w' => e = .returned (.tuple #[.int .i64 r, .bool ok]) ∧ Below w.heap.size w w')
    (hi : ∀ w : World, Calls Try.prog 27 #[.int .i64 n] w fun e w' => e = .returned (.tuple #[.int .i64 r, .bool ok]) ∧ Below w.heap.size w w') (w : World) :
    Calls Try.prog 5 #[.int .i64 n] w fun e w' => e = .returned (.bool true) ∧ Below w.heap.size w w' := by
  have HS := Lib.hid hs
  have HI := Lib.hid hi
  clear hs hi
  go_enter Try.func5, Try.ntmps5
  go_wp2_with (first
    | (go_at_call 26; refine (HS.out _).mono ?_; rintro e w1 ⟨rfl, hb1⟩)
    | (go_at_call 27; refine (HI.out _).mono ?_; rintro e w2 ⟨rfl, hb2⟩))
  go_ret
  exact ⟨rfl, hb1.trans (hb2.mono hb1.size)⟩
theorem walk_CountRuns (n : Int) (w : World) : Calls Try.prog 5 #[.int .i64 n] w fun e w' => e = .returned (.bool true) ∧ Below w.heap.size w w' := by
  by_cases h : n < 1 ∨ 1000000 < n
  · exact lawN_CountRuns n false 0 (fun w => spec_CountRuns_no n w h) (fun w => impl_CountRuns_of n false [] (fun w => impl_RunsOf_no n w h) (by simp) w) w
  · exact lawN_CountRuns n true (runsL n).length (fun w => spec_CountRuns_yes n w (by omega) (by omega)) (fun w => impl_CountRuns_of n true (runsL n) (fun w => impl_RunsOf_yes n w (by omega) (by omega)) (by have := runs_len n (by omega) (by omega); omega) w) w
end Go.Proofs.Ytmeiioiilpieiaa
