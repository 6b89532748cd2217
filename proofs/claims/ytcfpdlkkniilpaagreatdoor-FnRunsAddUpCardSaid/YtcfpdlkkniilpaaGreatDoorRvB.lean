/- Chapter 5: runs, signed runs, triangles apart, sums of runs, squares of a run, the same sums, numbers without a run: each function with one contract. -/
import Derived.Test.YtcfpdlkkniilpaaGreatDoorRvA
import Derived.Test.YtcfpdlkkniilpaaGreatDoorRuC
import Derived.Test.YtcfpdlkkniilpaaGreatDoorRuV
import Derived.Test.YtcfpdlkkniilpaaGreatDoorRuZB
namespace Go.Proofs.YtcfpdlkkniilpaaGreatDoor
open Go.ChangeShapes Go.WideShapes Go.ChangeAt Go.RowKit

theorem spec_RunsOf_any (n : Int) (w : World) : Calls Tryz.prog 7 #[.int .i64 n] w (ResP (ruB n) (ruL n) w) := by
  rcases Bool.eq_false_or_eq_true (ruB n) with h | h
  · have h0 := ru_iff.1 h
    rw [ruL, h, cond_true]
    exact spec_RunsOf_yes n w h0.1 h0.2
  · rw [ruL, h, cond_false]
    exact spec_RunsOf_no n w (ru_no h)
theorem impl_RunsOf_any (n : Int) (w : World) : Calls Tryz.prog 6 #[.int .i64 n] w (ResP (ruB n) (ruL n) w) := by
  rcases Bool.eq_false_or_eq_true (ruB n) with h | h
  · have h0 := ru_iff.1 h
    rw [ruL, h, cond_true]
    exact impl_RunsOf_yes n w h0.1 h0.2
  · rw [ruL, h, cond_false]
    exact impl_RunsOf_no n w (ru_no h)
theorem spec_SignedRuns_any (n : Int) (w : World) : Calls Tryz.prog 13 #[.int .i64 n] w (ResP (ruB n) (sgL n) w) := by
  rcases Bool.eq_false_or_eq_true (ruB n) with h | h
  · have h0 := ru_iff.1 h
    rw [sgL, h, cond_true]
    exact spec_SignedRuns_yes n w h0.1 h0.2
  · rw [sgL, h, cond_false]
    exact spec_SignedRuns_no n w (ru_no h)
theorem impl_SignedRuns_any (n : Int) (w : World) : Calls Tryz.prog 12 #[.int .i64 n] w (ResP (ruB n) (sgL n) w) := by
  rcases Bool.eq_false_or_eq_true (ruB n) with h | h
  · have h0 := ru_iff.1 h
    rw [sgL, h, cond_true]
    exact impl_SignedRuns_yes n w h0.1 h0.2
  · rw [sgL, h, cond_false]
    exact impl_SignedRuns_no n w (ru_no h)
theorem spec_TrianglesApart_any (n : Int) (w : World) : Calls Tryz.prog 15 #[.int .i64 n] w (ResSS (ruB n) (trL n) w) := by
  rcases Bool.eq_false_or_eq_true (ruB n) with h | h
  · have h0 := ru_iff.1 h
    rw [trL, h, cond_true]
    exact spec_TrianglesApart_yes n w h0.1 h0.2
  · rw [trL, h, cond_false]
    exact spec_TrianglesApart_no n w (ru_no h)
theorem impl_TrianglesApart_any (n : Int) (w : World) : Calls Tryz.prog 14 #[.int .i64 n] w (ResSS (ruB n) (trL n) w) := by
  rcases Bool.eq_false_or_eq_true (ruB n) with h | h
  · have h0 := ru_iff.1 h
    rw [trL, h, cond_true]
    exact impl_TrianglesApart_yes n w h0.1 h0.2
  · rw [trL, h, cond_false]
    exact impl_TrianglesApart_no n w (ru_no h)
theorem spec_CountRuns_any (n : Int) (w : World) : Calls Tryz.prog 9 #[.int .i64 n] w fun e w' => e = .returned (.tuple #[.int .i64 (ruC n), .bool (ruB n)]) ∧ Below w.heap.size w w' := by
  rcases Bool.eq_false_or_eq_true (ruB n) with h | h
  · have h0 := ru_iff.1 h
    rw [ruC, ruL, h, cond_true]
    exact spec_CountRuns_yes n w h0.1 h0.2
  · rw [ruC, ruL, h, cond_false]
    exact spec_CountRuns_no n w (ru_no h)
theorem impl_CountRuns_any (n : Int) (w : World) : Calls Tryz.prog 8 #[.int .i64 n] w fun e w' => e = .returned (.tuple #[.int .i64 (ruC n), .bool (ruB n)]) ∧ Below w.heap.size w w' := by
  refine impl_CountRuns_of n (ruB n) (ruL n) (fun w => impl_RunsOf_any n w) ?_ w
  rcases Bool.eq_false_or_eq_true (ruB n) with h | h
  · have := (ruE_of h).few; omega
  · rw [ruL, h, cond_false]; simp
theorem loP_at {n : Int} (h : ruB n = true) : LastR n ((runsL n).length - 1) (loF n, loK n) := by
  have h0 := ru_iff.1 h
  have e := ruE_of h
  have er : ruL n = runsL n := by rw [ruL, h, cond_true]
  have a := e.ne
  have b := e.few
  have c := e.last
  rw [er] at a b c
  exact ⟨by omega, c, by omega⟩
theorem spec_LongestRun_any (n : Int) (w : World) : Calls Tryz.prog 11 #[.int .i64 n] w fun e w' => e = .returned (.tuple #[.agg #[.int .i64 (loF n), .int .i64 (loK n)], .bool (ruB n)]) ∧ Below w.heap.size w w' := by
  rcases Bool.eq_false_or_eq_true (ruB n) with h | h
  · have h0 := ru_iff.1 h
    have q := spec_LongestRun_yes n _ _ w h0.1 h0.2 (loP_at h)
    rw [h]
    exact q
  · rw [show loF n = 0 from by rw [loF, loP, h, cond_false], show loK n = 0 from by rw [loK, loP, h, cond_false], h]
    exact spec_LongestRun_no n w (ru_no h)
theorem spec_SumOfRun_any (f l : Int) (w : World) : Calls Tryz.prog 23 #[.agg #[.int .i64 f, .int .i64 l]] w fun e w' => e = .returned (.tuple #[.int .i64 (rsV f l), .bool (rsB f l)]) ∧ Below w.heap.size w w' := by
  rcases Bool.eq_false_or_eq_true (rsB f l) with h | h
  · have h0 : (-1000000 ≤ f ∧ f ≤ 1000000) ∧ 0 ≤ l ∧ l ≤ 1000000 := by simpa [rsB] using h
    rw [rsV, h, cond_true]
    exact spec_SumOfRun_yes f l w (sum_bds' f l h0.1.1 h0.1.2 h0.2.1 h0.2.2)
  · have h0 : (f < -1000000 ∨ 1000000 < f) ∨ (l < 0 ∨ 1000000 < l) := by simp [rsB] at h; omega
    rw [rsV, h, cond_false]
    exact spec_SumOfRun_no f l w h0
theorem spec_SumOfSquaresRun_any (f l : Int) (w : World) : Calls Tryz.prog 26 #[.agg #[.int .i64 f, .int .i64 l]] w fun e w' => e = .returned (.tuple #[.int .i64 (qrV f l), .bool (qrB f l)]) ∧ Below w.heap.size w w' := by
  rcases Bool.eq_false_or_eq_true (qrB f l) with h | h
  · have h0 : (-1000 ≤ f ∧ f ≤ 1000) ∧ 0 ≤ l ∧ l ≤ 1000 := by simpa [qrB] using h
    have q := spec_SumOfSquaresRun_yes f l.toNat w h0.1.1 h0.1.2 (by omega)
    rw [show ((l.toNat : Nat) : Int) = l from by omega] at q
    rw [qrV, h, cond_true]
    exact q
  · have h0 : (f < -1000 ∨ 1000 < f) ∨ (l < 0 ∨ 1000 < l) := by simp [qrB] at h; omega
    rw [qrV, h, cond_false]
    exact spec_SumOfSquaresRun_no f l w h0
theorem spec_SameSums_any (l : Int) (w : World) : Calls Tryz.prog 29 #[.int .i64 l] w fun e w' => e = .returned (.tuple #[.agg #[.int .i64 (saA l), .int .i64 (saK l)], .agg #[.int .i64 (saD l), .int .i64 (saL l)], .bool (saB l)]) ∧ Below w.heap.size w w' := by
  rcases Bool.eq_false_or_eq_true (saB l) with h | h
  · have h0 : 1 ≤ l ∧ l ≤ 1000 := by simpa [saB] using h
    rw [saA, saK, saD, saL, h, cond_true, cond_true, cond_true, cond_true]
    exact spec_SameSums_yes l w (same_b l h0.1 h0.2)
  · have h0 : l < 1 ∨ 1000 < l := by simp [saB] at h; omega
    rw [saA, saK, saD, saL, h, cond_false, cond_false, cond_false, cond_false]
    exact spec_SameSums_no l w h0
theorem impl_LongestRun_any (n : Int) (w : World) : Calls Tryz.prog 10 #[.int .i64 n] w fun e w' => e = .returned (.tuple #[.agg #[.int .i64 (loF n), .int .i64 (loK n)], .bool (ruB n)]) ∧ Below w.heap.size w w' := by
  rcases Bool.eq_false_or_eq_true (ruB n) with h | h
  · have h0 := ru_iff.1 h
    have q := impl_LongestRun_yes n _ _ w h0.1 h0.2 (loP_at h)
    rw [h]
    exact q
  · rw [show loF n = 0 from by rw [loF, loP, h, cond_false], show loK n = 0 from by rw [loK, loP, h, cond_false], h]
    exact impl_LongestRun_no n w (ru_no h)
theorem impl_SumOfRun_any (f l : Int) (w : World) : Calls Tryz.prog 18 #[.agg #[.int .i64 f, .int .i64 l]] w fun e w' => e = .returned (.tuple #[.int .i64 (rsV f l), .bool (rsB f l)]) ∧ Below w.heap.size w w' := by
  rcases Bool.eq_false_or_eq_true (rsB f l) with h | h
  · have h0 : (-1000000 ≤ f ∧ f ≤ 1000000) ∧ 0 ≤ l ∧ l ≤ 1000000 := by simpa [rsB] using h
    rw [rsV, h, cond_true]
    exact impl_SumOfRun_yes f l w (sum_bds' f l h0.1.1 h0.1.2 h0.2.1 h0.2.2)
  · have h0 : (f < -1000000 ∨ 1000000 < f) ∨ (l < 0 ∨ 1000000 < l) := by simp [rsB] at h; omega
    rw [rsV, h, cond_false]
    exact impl_SumOfRun_no f l w h0
theorem impl_SumOfSquaresRun_any (f l : Int) (w : World) : Calls Tryz.prog 25 #[.agg #[.int .i64 f, .int .i64 l]] w fun e w' => e = .returned (.tuple #[.int .i64 (qrV f l), .bool (qrB f l)]) ∧ Below w.heap.size w w' := by
  rcases Bool.eq_false_or_eq_true (qrB f l) with h | h
  · have h0 : (-1000 ≤ f ∧ f ≤ 1000) ∧ 0 ≤ l ∧ l ≤ 1000 := by simpa [qrB] using h
    have q := impl_SumOfSquaresRun_yes f l.toNat w h0.1.1 h0.1.2 (by omega)
    rw [show ((l.toNat : Nat) : Int) = l from by omega] at q
    rw [qrV, h, cond_true]
    exact q
  · have h0 : (f < -1000 ∨ 1000 < f) ∨ (l < 0 ∨ 1000 < l) := by simp [qrB] at h; omega
    rw [qrV, h, cond_false]
    exact impl_SumOfSquaresRun_no f l w h0
theorem impl_SameSums_any (l : Int) (w : World) : Calls Tryz.prog 28 #[.int .i64 l] w fun e w' => e = .returned (.tuple #[.agg #[.int .i64 (saA l), .int .i64 (saK l)], .agg #[.int .i64 (saD l), .int .i64 (saL l)], .bool (saB l)]) ∧ Below w.heap.size w w' := by
  rcases Bool.eq_false_or_eq_true (saB l) with h | h
  · have h0 : 1 ≤ l ∧ l ≤ 1000 := by simpa [saB] using h
    rw [saA, saK, saD, saL, h, cond_true, cond_true, cond_true, cond_true]
    exact impl_SameSums_yes l w (same_b l h0.1 h0.2)
  · have h0 : l < 1 ∨ 1000 < l := by simp [saB] at h; omega
    rw [saA, saK, saD, saL, h, cond_false, cond_false, cond_false, cond_false]
    exact impl_SameSums_no l w h0
theorem spec_NoRunUpTo_any (m : Int) (w : World) : Calls Tryz.prog 21 #[.int .i64 m] w (ResI (noB m) (noL m) w) := by
  rcases Bool.eq_false_or_eq_true (noB m) with h | h
  · have h0 : 0 ≤ m ∧ m ≤ 5000 := by simpa [noB] using h
    rw [noL, h, cond_true]
    exact spec_NoRunUpTo_yes m w h0.1 h0.2
  · have h0 : m < 0 ∨ 5000 < m := by simp [noB] at h; omega
    rw [noL, h, cond_false]
    exact spec_NoRunUpTo_no m w h0
theorem impl_NoRunUpTo_any (m : Int) (w : World) (hT : TabOne w) (hg : 2 < w.heap.size) : Calls Tryz.prog 20 #[.int .i64 m] w (ResI (noB m) (noL m) w) := by
  rcases Bool.eq_false_or_eq_true (noB m) with h | h
  · have h0 : 0 ≤ m ∧ m ≤ 5000 := by simpa [noB] using h
    rw [noL, h, cond_true]
    exact impl_NoRunUpTo_yes m w h0.1 h0.2 hT hg
  · have h0 : m < 0 ∨ 5000 < m := by simp [noB] at h; omega
    rw [noL, h, cond_false]
    exact impl_NoRunUpTo_no m w h0
/-- The table of the bits' places as a fact that goes over steps. -/
structure Tab1 (w : World) : Prop where
  one : TabOne w
  lt : 2 < w.heap.size
theorem Tab1.on {w w1 : World} (h : Tab1 w) (hb : Below w.heap.size w w1) : Tab1 w1 := ⟨h.one.below hb h.lt, Nat.lt_of_lt_of_le h.lt hb.size⟩
end Go.Proofs.YtcfpdlkkniilpaaGreatDoor