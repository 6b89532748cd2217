/- Chapter 5: the laws RunsOf, CountRuns, LongestRun. -/
import Derived.Test.YtcfpdlkkniilpaaGreatDoorRuE
import Derived.Test.YtcfpdlkkniilpaaGreatDoorRuC
import Derived.Test.YtcfpdlkkniilpaaGreatDoorOwL
namespace Go.Proofs.YtcfpdlkkniilpaaGreatDoor
open Go.ChangeShapes Go.WideShapes Go.ChangeAt Go.RowKit

theorem ruAll_runs (n : Int) (w : World) (h0 : 1 ≤ n) (h1 : n ≤ 1000000) :
    Calls Tryz.prog 35 #[.int .i64 n, .bool false] w fun e w' => ∃ A c, e = .returned (.slice A (runsL n).length c) ∧ Own w' w.heap.size w'.heap.size A (prs (runsL n)) ∧ Below w.heap.size w w' := by
  rw [← runs_eq n h0]
  exact ruAll_false n w h0 h1
theorem spec_RunsOf_no (n : Int) (w : World) (h : n < 1 ∨ 1000000 < n) :
    Calls Tryz.prog 7 #[.int .i64 n] w (ResP false [] w) := by
  have HA := Lib.hid (betr_no h)
  clear h
  go_enter Tryz.func7, Tryz.ntmps7
  go_wp2_with (go_at_call 34; refine (ruGood_any _ _).mono ?_; rw [HA.out]; rintro e w' ⟨rfl, rfl⟩)
  go_ret2
  exact resP_nil (Below.refl _ _)
theorem spec_CountRuns_no (n : Int) (w : World) (h : n < 1 ∨ 1000000 < n) :
    Calls Tryz.prog 9 #[.int .i64 n] w fun e w' => e = .returned (.tuple #[.int .i64 0, .bool false]) ∧ Below w.heap.size w w' := by
  have HA := Lib.hid (betr_no h)
  clear h
  go_enter Tryz.func9, Tryz.ntmps9
  go_wp2_with (go_at_call 34; refine (ruGood_any _ _).mono ?_; rw [HA.out]; rintro e w' ⟨rfl, rfl⟩)
  go_ret2
  exact ⟨rfl, Below.refl _ _⟩
theorem spec_LongestRun_no (n : Int) (w : World) (h : n < 1 ∨ 1000000 < n) :
    Calls Tryz.prog 11 #[.int .i64 n] w fun e w' => e = .returned (.tuple #[.agg #[.int .i64 0, .int .i64 0], .bool false]) ∧ Below w.heap.size w w' := by
  have HA := Lib.hid (betr_no h)
  clear h
  go_enter Tryz.func11, Tryz.ntmps11
  go_wp2_with (go_at_call 34; refine (ruGood_any _ _).mono ?_; rw [HA.out]; rintro e w' ⟨rfl, rfl⟩)
  exact bodyPost_ret (v := .tuple #[.agg #[.int .i64 0, .int .i64 0], .bool false]) (by simp [results, Tryz.results11, go_sem]) rfl ⟨rfl, (Below.refl _ _).alloc (Nat.le_refl _) _⟩
theorem impl_RunsOf_no (n : Int) (w : World) (h : n < 1 ∨ 1000000 < n) :
    Calls Tryz.prog 6 #[.int .i64 n] w (ResP false [] w) := by
  have HA := Lib.hid (betr_no h)
  clear h
  go_enter Tryz.func6, Tryz.ntmps6
  go_wp2_with (go_at_call 32; refine (isRunned_any _ _).mono ?_; rw [HA.out]; rintro e w' ⟨rfl, rfl⟩)
  go_ret2
  exact resP_nil (Below.refl _ _)
theorem impl_LongestRun_no (n : Int) (w : World) (h : n < 1 ∨ 1000000 < n) :
    Calls Tryz.prog 10 #[.int .i64 n] w fun e w' => e = .returned (.tuple #[.agg #[.int .i64 0, .int .i64 0], .bool false]) ∧ Below w.heap.size w w' := by
  have HA := Lib.hid (betr_no h)
  clear h
  go_enter Tryz.func10, Tryz.ntmps10
  go_wp2_with (go_at_call 32; refine (isRunned_any _ _).mono ?_; rw [HA.out]; rintro e w' ⟨rfl, rfl⟩)
  exact bodyPost_ret (v := .tuple #[.agg #[.int .i64 0, .int .i64 0], .bool false]) (by simp [results, Tryz.results10, go_sem]) rfl ⟨rfl, (Below.refl _ _).alloc (Nat.le_refl _) _⟩
theorem spec_RunsOf_yes (n : Int) (w : World) (h0 : 1 ≤ n) (h1 : n ≤ 1000000) :
    Calls Tryz.prog 7 #[.int .i64 n] w (ResP true (runsL n) w) := by
  have HA := Lib.hid (betr_yes h0 h1)
  have HC := Lib.hid fun W => ruAll_runs n W h0 h1
  obtain ⟨xs, hxs⟩ : ∃ xs, xs = runsL n := ⟨_, rfl⟩
  rw [← hxs] at HC ⊢
  clear hxs
  go_enter Tryz.func7, Tryz.ntmps7
  go_wp2_with (first
    | (go_at_call 34; refine (ruGood_any _ _).mono ?_; rw [HA.out]; rintro e w' ⟨rfl, rfl⟩)
    | (go_at_call 35; refine (HC.out _).mono ?_; rintro e w1 ⟨A, c, rfl, ho, hb1⟩; have HO := Lib.hid ho; clear ho))
  go_ret2
  exact ⟨A, c, rfl, HO.out, hb1⟩
theorem impl_RunsOf_yes (n : Int) (w : World) (h0 : 1 ≤ n) (h1 : n ≤ 1000000) :
    Calls Tryz.prog 6 #[.int .i64 n] w (ResP true (runsL n) w) := by
  have HA := Lib.hid (betr_yes h0 h1)
  have HC := Lib.hid fun W => runsOf_any n W h0 h1
  obtain ⟨xs, hxs⟩ : ∃ xs, xs = runsL n := ⟨_, rfl⟩
  rw [← hxs] at HC ⊢
  clear hxs
  go_enter Tryz.func6, Tryz.ntmps6
  go_wp2_with (first
    | (go_at_call 32; refine (isRunned_any _ _).mono ?_; rw [HA.out]; rintro e w' ⟨rfl, rfl⟩)
    | (go_at_call 33; refine (HC.out _).mono ?_; rintro e w1 ⟨A, c, rfl, ho, hb1⟩; have HO := Lib.hid ho; clear ho))
  go_ret2
  exact ⟨A, c, rfl, HO.out, hb1⟩
/-! ### how many -/
theorem impl_CountRuns_of (n : Int) (ok : Bool) (xs : List (Int × Int)) (h : ∀ w, Calls Tryz.prog 6 #[.int .i64 n] w (ResP ok xs w)) (hl : xs.length ≤ 1000000) (w : World) :
    Calls Tryz.prog 8 #[.int .i64 n] w fun e w' => e = .returned (.tuple #[.int .i64 xs.length, .bool ok]) ∧ Below w.heap.size w w' := by
  have HC := Lib.hid h
  clear h
  obtain ⟨N, hN⟩ : ∃ N, N = xs.length := ⟨_, rfl⟩
  rw [← hN] at hl ⊢
  have HN := Lib.hid hN
  clear hN
  go_enter Tryz.func8, Tryz.ntmps8
  go_wp2_with (go_at_call 6; refine (HC.out _).mono ?_; rintro e w1 ⟨A, c, rfl, ho, hb1⟩; rw [← HN.out]; clear ho)
  go_ret2
  exact ⟨rfl, hb1⟩
set_option maxHeartbeats 1600000 in
theorem spec_CountRuns_yes (n : Int) (w : World) (h0 : 1 ≤ n) (h1 : n ≤ 1000000) :
    Calls Tryz.prog 9 #[.int .i64 n] w fun e w' => e = .returned (.tuple #[.int .i64 (runsL n).length, .bool true]) ∧ Below w.heap.size w w' := by
  have HA := Lib.hid (betr_yes h0 h1)
  have HO : Hid (∀ k : Nat, n < 2 * (k : Int) + 1 → oddC n k = (runsL n).length) := Lib.hid fun k hk => odd_count n k h0 hk
  go_enter Tryz.func9, Tryz.ntmps9
  go_wp2_with (first
    | (go_at_call 34; refine (ruGood_any _ _).mono ?_; rw [HA.out]; rintro e w' ⟨rfl, rfl⟩))
  go_loop [4, 5] (fun c d => ∃ k m : Nat, 2 * (k : Int) - 1 ≤ n ∧ d = .int .i64 (2 * (k : Int) + 1) ∧ c = .int .i64 (m : Int) ∧ m ≤ k ∧ Hid (m = oddC n k)) (fun _ d => (n + 2 - intOf d).toNat)
  case atStart => exact ⟨0, 0, by omega, by simp, by simp, by omega, Lib.hid (by simp [oddC])⟩
  case round =>
    obtain ⟨k, m, hk, rfl, rfl, hmk, HM⟩ := hrel
    by_cases hlt : 2 * (k : Int) + 1 ≤ n
    · by_cases hc : n % (2 * (k : Int) + 1) = 0
      · have HM2 : Hid (m + 1 = oddC n (k + 1)) := Lib.hid (by rw [oddC_yes n k hc, HM.out])
        go_wp2
        go_round
        case rel => exact ⟨k + 1, m + 1, by omega, by go_num, by go_num, by omega, HM2⟩
        case measure => simp [intOf]; omega
      · have HM2 : Hid (m = oddC n (k + 1)) := Lib.hid (by rw [oddC_no n k hc, HM.out])
        have hcb : (n % (2 * (k : Int) + 1) == 0) = false := by simpa using hc
        clear hc
        go_wp2
        go_round
        case rel => exact ⟨k + 1, m, by omega, by go_num, by simp, by omega, HM2⟩
        case measure => simp [intOf]; omega
    · have HE := Lib.hid (HO.out k (by omega))
      go_wp2
      go_ret2
      exact ⟨by rw [HM.out, HE.out]; rfl, Below.refl _ _⟩
end Go.Proofs.YtcfpdlkkniilpaaGreatDoor
