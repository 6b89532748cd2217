/- Chapter 9, by the program: shapes and digits. -/
import Derived.Test.YtmpajeldfbchhaaTgA
import Derived.Test.YtmpajeldfbchhaaSuB
import Derived.Test.YtmpajeldfbchhaaTfD
namespace Go.Proofs.Ytmpajeldfbchhaa
open Go.ChangeShapes Go.WideShapes Go.ChangeAt Go.RowKit

theorem sumOfDigits_any (n : Nat) (w : World) (h : n ≤ 1000000) : Calls Try.prog 56 #[.int .i64 (n : Int)] w fun e w' => e = .returned (.int .i64 ((dig9 n : Nat) : Int)) ∧ w = w' := by
  go_enter Try.func56, Try.ntmps56
  go_wp2
  go_loop [0, 3] (fun a b => ∃ (m s : Nat), a = .int .i64 (m : Int) ∧ b = .int .i64 (s : Int) ∧ m ≤ 1000000 ∧ s + dig9 m ≤ 1000000 ∧ Hid (s + dig9 m = dig9 n)) (fun a _ => (intOf a).toNat)
  case atStart => exact ⟨n, 0, rfl, rfl, h, by have := dig9_le n; omega, Lib.hid (by omega)⟩
  case round =>
    obtain ⟨m, s, rfl, rfl, hm, hs, he⟩ := hrel
    by_cases h0 : 0 < m
    · have e1 := dig9_step m h0
      have t1 : (m : Int).tdiv 10 = ((m / 10 : Nat) : Int) := by rw [Int.tdiv_eq_ediv_of_nonneg (by omega)]; rfl
      have t2 : (m : Int).tmod 10 = ((m % 10 : Nat) : Int) := by rw [Int.tmod_eq_emod_of_nonneg (by omega)]; rfl
      have HE : Hid (s + m % 10 + dig9 (m / 10) = dig9 n) := Lib.hid (by have := he.out; omega)
      have hmi : (0 : Int) < (m : Int) := by omega
      have hs2 : s + m % 10 + dig9 (m / 10) ≤ 1000000 := by omega
      have w1 : IntKind.i64.wrap ((s : Int) + ((m % 10 : Nat) : Int)) = ((s + m % 10 : Nat) : Int) := by rw [IntWalk.i64_in _ (by omega)]; push_cast; rfl
      have w2 : IntKind.i64.wrap ((m / 10 : Nat) : Int) = ((m / 10 : Nat) : Int) := IntWalk.i64_in _ (by omega)
      have w3 : IntKind.i64.wrap ((m % 10 : Nat) : Int) = ((m % 10 : Nat) : Int) := IntWalk.i64_in _ (by omega)
      clear he e1
      go_wp2
      go_round
      case rel => exact ⟨m / 10, s + m % 10, by first | rfl | go_num, by first | rfl | go_num, by omega, hs2, HE⟩
      case measure => simp [intOf]; omega
    · obtain rfl : m = 0 := by omega
      go_wp2
      go_ret
      exact ⟨ret_int (by have := he.out; rw [dig9_zero] at this; omega), rfl⟩
theorem less_fits9 (s n : Int) (h1 : 3 ≤ s) (h2 : s ≤ 24) (h3 : n < 0) : Fits 0 (4 - s) (s - 2) n 0 (num s) :=
  ⟨fun k h5 h6 => polyRule_bds s k h1 h2 (by omega) (by omega), by omega, by omega, fun k h5 _ => by
    have := num_nn s k h1
    constructor <;> intro _ <;> omega⟩
/-- The place of a number, found or not. -/
theorem placeOf9 (s n : Int) (w : World) (h1 : 3 ≤ s) (h2 : s ≤ 24) (h3 : n ≤ 1000000) :
    Calls Try.prog 63 #[.agg #[.int .i64 0, .int .i64 (4 - s), .int .i64 (s - 2)], .int .i64 n] w fun e w' => (∃ p : Int, e = .returned (.tuple #[.int .i64 p, .bool (shp9 s n)])) ∧ Below w.heap.size w w' := by
  by_cases h0 : n < 0
  · have e0 : shp9 s n = false := by
      unfold shp9
      rw [decide_eq_false (by omega), Bool.false_and]
    rw [e0]
    refine (placeOf_no _ _ _ _ _ _ w (less_fits9 s n h1 h2 h0) (by rw [num_zero]; omega)).mono ?_
    rintro e w' ⟨rfl, hb⟩
    exact ⟨⟨_, rfl⟩, hb⟩
  · have e0 : shp9 s n = (num s (pl s n) == n) := by
      unfold shp9
      rw [decide_eq_true (by omega), Bool.true_and]
    by_cases hq : num s (pl s n) = n
    · have e1 : shp9 s n = true := by rw [e0]; simp [hq]
      rw [e1]
      refine (placeOf_yes _ _ _ _ _ _ w (poly_fits s n h1 h2 (by omega) (by omega)) hq).mono ?_
      rintro e w' ⟨rfl, hb⟩
      exact ⟨⟨_, rfl⟩, hb⟩
    · have e1 : shp9 s n = false := by rw [e0]; simp [hq]
      rw [e1]
      refine (placeOf_no _ _ _ _ _ _ w (poly_fits s n h1 h2 (by omega) (by omega)) hq).mono ?_
      rintro e w' ⟨rfl, hb⟩
      exact ⟨⟨_, rfl⟩, hb⟩
theorem hasShape_any (s n : Int) (w : World) (h1 : 3 ≤ s) (h2 : s ≤ 24) (h3 : n ≤ 1000000) :
    Calls Try.prog 55 #[.int .i64 s, .int .i64 n] w fun e w' => e = .returned (.bool (shp9 s n)) ∧ Below w.heap.size w w' := by
  have HP := Lib.hid fun W => placeOf9 s n W h1 h2 h3
  generalize shp9 s n = r at HP ⊢
  go_enter Try.func55, Try.ntmps55
  go_wp2_with (first
    | (go_at_call 62; refine (polygonRule_any _ _ h1 h2).mono ?_; rintro e w1 ⟨rfl, hb1⟩)
    | (go_at_call 63; refine (HP.out _).mono ?_; rintro e w2 ⟨⟨p, rfl⟩, hb2⟩))
  go_ret
  exact ⟨rfl, hb1.trans (hb2.mono hb1.size)⟩
end Go.Proofs.Ytmpajeldfbchhaa
