/- Chapter 5: squares apart, odd runs, rectangles, odd sums of powers: each function with one contract. No condition. -/
import Derived.Test.YtkhjeleoppdjgabAnS
import Derived.Test.YtkhjeleoppdjgabRuB
import Derived.Test.YtkhjeleoppdjgabRuK
import Derived.Test.YtkhjeleoppdjgabRuZ
namespace Go.Proofs.Ytkhjeleoppdjgab
open Go.ChangeShapes Go.WideShapes Go.ChangeAt Go.RowKit

theorem spec_SquaresApart_any (n : Int) (w : World) : Calls Try.prog 8 #[.int .i64 n] w (ResSS (ruB n) (apL n) w) := by
  rcases Bool.eq_false_or_eq_true (ruB n) with h | h
  · have h0 := ru_iff.1 h
    rw [apL, h, cond_true]
    exact spec_SquaresApart_yes n w h0.1 h0.2
  · rw [apL, h, cond_false]
    exact spec_SquaresApart_no n w (ru_no h)

theorem spec_OddRunsOf_any (n : Int) (w : World) : Calls Try.prog 12 #[.int .i64 n] w (ResP (ruB n) (odL n) w) := by
  rcases Bool.eq_false_or_eq_true (ruB n) with h | h
  · have h0 := ru_iff.1 h
    rw [odL, h, cond_true]
    exact spec_OddRunsOf_yes n w h0.1 h0.2
  · rw [odL, h, cond_false]
    exact spec_OddRunsOf_no n w (ru_no h)

theorem spec_RectanglesOf_any (n : Int) (w : World) : Calls Try.prog 14 #[.int .i64 n] w (ResSS (ruB n) (reL n) w) := by
  rcases Bool.eq_false_or_eq_true (ruB n) with h | h
  · have h0 := ru_iff.1 h
    rw [reL, h, cond_true]
    exact spec_RectanglesOf_yes n w h0.1 h0.2
  · rw [reL, h, cond_false]
    exact spec_RectanglesOf_no n w (ru_no h)

theorem spec_CountSquaresApart_any (n : Int) (w : World) : Calls Try.prog 10 #[.int .i64 n] w fun e w' => e = .returned (.tuple #[.int .i64 (csV n), .bool (ruB n)]) ∧ Below w.heap.size w w' := by
  rcases Bool.eq_false_or_eq_true (ruB n) with h | h
  · have h0 := ru_iff.1 h
    rw [csV, apL, h, cond_true]
    exact spec_CountSquaresApart_yes n w h0.1 h0.2
  · rw [csV, apL, h, cond_false]
    exact spec_CountSquaresApart_no n w (ru_no h)

theorem spec_MostSquareRectangle_any (n : Int) (w : World) : Calls Try.prog 16 #[.int .i64 n] w fun e w' => e = .returned (.tuple #[.int .i64 (msA n), .int .i64 (msB n), .bool (ruB n)]) ∧ Below w.heap.size w w' := by
  rcases Bool.eq_false_or_eq_true (ruB n) with h | h
  · have h0 := ru_iff.1 h
    obtain ⟨a, ha⟩ := lastF_ex n h0.1 h0.2
    obtain ⟨e1, e2⟩ := ms_last h0.1 h0.2 ha
    rw [e1, e2, h]
    exact spec_MostSquareRectangle_yes n a w h0.1 h0.2 ha
  · rw [show msA n = 0 from by rw [msA, msP, h, cond_false], show msB n = 0 from by rw [msB, msP, h, cond_false], h]
    exact spec_MostSquareRectangle_no n w (ru_no h)
theorem spec_CubeAsOdds_any (k : Int) (w : World) : Calls Try.prog 20 #[.int .i64 k] w fun e w' => e = .returned (.tuple #[.agg #[.int .i64 (qbF k), .int .i64 (qbK k)], .bool (qbB k)]) ∧ Below w.heap.size w w' := by
  rcases Bool.eq_false_or_eq_true (qbB k) with h | h
  · have h0 : 1 ≤ k ∧ k ≤ 1000 := by simpa [qbB] using h
    rw [qbF, qbK, h, cond_true, cond_true]
    exact spec_CubeAsOdds_yes k w h0.1 h0.2
  · have h0 : k < 1 ∨ 1000 < k := by simp [qbB] at h; omega
    rw [qbF, qbK, h, cond_false, cond_false]
    exact spec_CubeAsOdds_no k w h0
theorem spec_PowerAsOdds_any (m e : Int) (w : World) : Calls Try.prog 22 #[.int .i64 m, .int .i64 e] w fun e2 w' => e2 = .returned (.tuple #[.agg #[.int .i64 (pwF m e), .int .i64 (pwK m e)], .bool (pwB m e)]) ∧ Below w.heap.size w w' := by
  rcases Bool.eq_false_or_eq_true (pwB m e) with h | h
  · have h0 : (1 ≤ m ∧ m ≤ 100) ∧ 2 ≤ e ∧ e ≤ 6 := by simpa [pwB] using h
    obtain ⟨⟨m1, m2⟩, e1, e2⟩ := h0
    obtain ⟨E, hE⟩ : ∃ E : Nat, e = (E : Int) + 1 := ⟨e.toNat - 1, by omega⟩
    subst hE
    have hE : ((E : Int) + 1).toNat - 1 = E := by omega
    rw [pwF, pwK, h, cond_true, cond_true, hE]
    exact spec_PowerAsOdds_yes m E w m1 m2 (by omega) (by omega)
  · have h0 : (m < 1 ∨ 100 < m) ∨ (e < 2 ∨ 6 < e) := by simp [pwB] at h; omega
    rw [pwF, pwK, h, cond_false, cond_false]
    exact spec_PowerAsOdds_no m e w h0

theorem impl_SquaresApart_any (n : Int) (w : World) : Calls Try.prog 7 #[.int .i64 n] w (ResSS (ruB n) (apL n) w) := by
  rcases Bool.eq_false_or_eq_true (ruB n) with h | h
  · have h0 := ru_iff.1 h
    rw [apL, h, cond_true]
    exact impl_SquaresApart_yes n w h0.1 h0.2
  · rw [apL, h, cond_false]
    exact impl_SquaresApart_no n w (ru_no h)

theorem impl_OddRunsOf_any (n : Int) (w : World) : Calls Try.prog 11 #[.int .i64 n] w (ResP (ruB n) (odL n) w) := by
  rcases Bool.eq_false_or_eq_true (ruB n) with h | h
  · have h0 := ru_iff.1 h
    rw [odL, h, cond_true]
    exact impl_OddRunsOf_yes n w h0.1 h0.2
  · rw [odL, h, cond_false]
    exact impl_OddRunsOf_no n w (ru_no h)

theorem impl_RectanglesOf_any (n : Int) (w : World) : Calls Try.prog 13 #[.int .i64 n] w (ResSS (ruB n) (reL n) w) := by
  rcases Bool.eq_false_or_eq_true (ruB n) with h | h
  · have h0 := ru_iff.1 h
    rw [reL, h, cond_true]
    exact impl_RectanglesOf_yes n w h0.1 h0.2
  · rw [reL, h, cond_false]
    exact impl_RectanglesOf_no n w (ru_no h)

theorem impl_CountSquaresApart_any (n : Int) (w : World) : Calls Try.prog 9 #[.int .i64 n] w fun e w' => e = .returned (.tuple #[.int .i64 (csV n), .bool (ruB n)]) ∧ Below w.heap.size w w' := by
  refine impl_CountSquaresApart_of n (ruB n) (apL n) (fun w => impl_SquaresApart_any n w) ?_ w
  rcases Bool.eq_false_or_eq_true (ruB n) with h | h
  · have := (ap_len h).2.1; omega
  · rw [apL, h, cond_false]; simp

theorem impl_MostSquareRectangle_any (n : Int) (w : World) : Calls Try.prog 15 #[.int .i64 n] w fun e w' => e = .returned (.tuple #[.int .i64 (msA n), .int .i64 (msB n), .bool (ruB n)]) ∧ Below w.heap.size w w' := by
  rcases Bool.eq_false_or_eq_true (ruB n) with h | h
  · have h0 := ru_iff.1 h
    obtain ⟨a, ha⟩ := lastF_ex n h0.1 h0.2
    obtain ⟨e1, e2⟩ := ms_last h0.1 h0.2 ha
    rw [e1, e2, h]
    exact impl_MostSquareRectangle_yes n a w h0.1 h0.2 ha
  · rw [show msA n = 0 from by rw [msA, msP, h, cond_false], show msB n = 0 from by rw [msB, msP, h, cond_false], h]
    exact impl_MostSquareRectangle_no n w (ru_no h)
theorem impl_CubeAsOdds_any (k : Int) (w : World) : Calls Try.prog 19 #[.int .i64 k] w fun e w' => e = .returned (.tuple #[.agg #[.int .i64 (qbF k), .int .i64 (qbK k)], .bool (qbB k)]) ∧ Below w.heap.size w w' := by
  rcases Bool.eq_false_or_eq_true (qbB k) with h | h
  · have h0 : 1 ≤ k ∧ k ≤ 1000 := by simpa [qbB] using h
    rw [qbF, qbK, h, cond_true, cond_true]
    exact impl_CubeAsOdds_yes k w h0.1 h0.2
  · have h0 : k < 1 ∨ 1000 < k := by simp [qbB] at h; omega
    rw [qbF, qbK, h, cond_false, cond_false]
    exact impl_CubeAsOdds_no k w h0
theorem impl_PowerAsOdds_any (m e : Int) (w : World) : Calls Try.prog 21 #[.int .i64 m, .int .i64 e] w fun e2 w' => e2 = .returned (.tuple #[.agg #[.int .i64 (pwF m e), .int .i64 (pwK m e)], .bool (pwB m e)]) ∧ Below w.heap.size w w' := by
  rcases Bool.eq_false_or_eq_true (pwB m e) with h | h
  · have h0 : (1 ≤ m ∧ m ≤ 100) ∧ 2 ≤ e ∧ e ≤ 6 := by simpa [pwB] using h
    obtain ⟨⟨m1, m2⟩, e1, e2⟩ := h0
    obtain ⟨E, hE⟩ : ∃ E : Nat, e = (E : Int) + 1 := ⟨e.toNat - 1, by omega⟩
    subst hE
    have hE : ((E : Int) + 1).toNat - 1 = E := by omega
    rw [pwF, pwK, h, cond_true, cond_true, hE]
    exact impl_PowerAsOdds_yes m E w m1 m2 (by omega) (by omega)
  · have h0 : (m < 1 ∨ 100 < m) ∨ (e < 2 ∨ 6 < e) := by simp [pwB] at h; omega
    rw [pwF, pwK, h, cond_false, cond_false]
    exact impl_PowerAsOdds_no m e w h0

end Go.Proofs.Ytkhjeleoppdjgab
