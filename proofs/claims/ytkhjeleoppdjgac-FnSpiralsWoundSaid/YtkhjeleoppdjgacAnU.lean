/- Chapter 6: what its functions answer as plain functions; each function with one contract. No condition. -/
import Derived.Test.YtkhjeleoppdjgacSiF
import Derived.Test.YtkhjeleoppdjgacSiG
import Derived.Test.YtkhjeleoppdjgacSiI
import Derived.Test.YtkhjeleoppdjgacSiJ
import Derived.Test.YtkhjeleoppdjgacSiO
import Derived.Test.YtkhjeleoppdjgacSiP
import Derived.Test.YtkhjeleoppdjgacMg
namespace Go.Proofs.Ytkhjeleoppdjgac
open Go.ChangeShapes Go.WideShapes Go.ChangeAt Go.RowKit

def n6B (n : Int) : Bool := decide (0 ≤ n ∧ n ≤ 1000000)
def r6B (n : Int) : Bool := decide (0 ≤ n ∧ n ≤ 499)
def d6B (a b : Int) : Bool := decide ((0 ≤ a ∧ a ≤ 1000000) ∧ 0 ≤ b ∧ b ≤ 1000000)
theorem n6_iff {n : Int} : n6B n = true ↔ 0 ≤ n ∧ n ≤ 1000000 := by simp [n6B]
theorem n6_no {n : Int} (h : n6B n = false) : n < 0 ∨ 1000000 < n := by simp [n6B] at h; omega
theorem r6_iff {n : Int} : r6B n = true ↔ 0 ≤ n ∧ n ≤ 499 := by simp [r6B]
theorem r6_no {n : Int} (h : r6B n = false) : n < 0 ∨ 499 < n := by simp [r6B] at h; omega
theorem d6_iff {a b : Int} : d6B a b = true ↔ (0 ≤ a ∧ a ≤ 1000000) ∧ 0 ≤ b ∧ b ≤ 1000000 := by simp [d6B]
theorem d6_no {a b : Int} (h : d6B a b = false) : (a < 0 ∨ 1000000 < a) ∨ (b < 0 ∨ 1000000 < b) := by simp [d6B] at h; omega

noncomputable def spx (n : Int) : Int := bif n6B n then (sp n).1 else 0
noncomputable def spy (n : Int) : Int := bif n6B n then (sp n).2 else 0
noncomputable def rgV (n : Int) : Int := bif n6B n then rg n else 0
noncomputable def stx (n : Int) : Int := bif n6B n then (sp (n + 1)).1 - (sp n).1 else 0
noncomputable def sty (n : Int) : Int := bif n6B n then (sp (n + 1)).2 - (sp n).2 else 0
noncomputable def beV (n : Int) : List Int := bif n6B n then bes (sp n).1 (sp n).2 else []
noncomputable def nuV (x y : Int) : Int := bif isSpot x y then nu x y else 0
noncomputable def loV (n : Int) : Int := bif r6B n then ringLo n else 0
noncomputable def hiV (n : Int) : Int := bif r6B n then ringHi n else 0
noncomputable def dsV (a b : Int) : Int := bif d6B a b then dst a b else 0
noncomputable def dgV (a b n : Int) : List Int := bif dgOk a b n then dgs a b n.toNat else []
noncomputable def wiV (x y a b : Int) : List (List Int) := bif wnOk x y a b then wnd x y a.toNat b.toNat else []
noncomputable def hpx (n : Int) : Int := bif n6B n then (hp n).1 else 0
noncomputable def hpy (n : Int) : Int := bif n6B n then (hp n).2 else 0
noncomputable def hrV (n : Int) : Int := bif n6B n then hx n else 0
noncomputable def hbV (n : Int) : List Int := bif n6B n then hbe (hp n).1 (hp n).2 6 else []
noncomputable def hdV (a b : Int) : Int := bif d6B a b then hdst a b else 0
noncomputable def hnV (x y : Int) : Int := bif isHexSpot x y then hn x y else 0
noncomputable def tix (n : Int) : Int := bif n6B n then inl n else 0
noncomputable def tiy (n : Int) : Int := bif n6B n then ln n else 0
noncomputable def tnV (x y : Int) : Int := bif triOk x y then num 3 y + x else 0
noncomputable def znV (x y : Int) : Int := bif zzOk x y then zzN x y else 0
noncomputable def zgx (n : Int) : Int := bif n6B n then zzX (ln n) (inl n) else 0
noncomputable def zgy (n : Int) : Int := bif n6B n then zzY (ln n) (inl n) else 0
theorem spec_SpotOf_any (n : Int) (w : World) : Calls Try.prog 10 #[.int .i64 n] w fun e w' => e = .returned (.tuple #[.agg #[.int .i64 (spx n), .int .i64 (spy n)], .bool (n6B n)]) ∧ Below w.heap.size w w' := by
  rcases Bool.eq_false_or_eq_true (n6B n) with h | h
  · have h0 := n6_iff.1 h
    simp only [spx, spy, h, cond_true]
    exact spec_SpotOf_yes n w h0.1 h0.2
  · simp only [spx, spy, h, cond_false]
    exact spec_SpotOf_no n w (n6_no h)
theorem impl_SpotOf_any (n : Int) (w : World) : Calls Try.prog 9 #[.int .i64 n] w fun e w' => e = .returned (.tuple #[.agg #[.int .i64 (spx n), .int .i64 (spy n)], .bool (n6B n)]) ∧ Below w.heap.size w w' := by
  rcases Bool.eq_false_or_eq_true (n6B n) with h | h
  · have h0 := n6_iff.1 h
    simp only [spx, spy, h, cond_true]
    exact impl_SpotOf_yes n w h0.1 h0.2
  · simp only [spx, spy, h, cond_false]
    exact impl_SpotOf_no n w (n6_no h)
theorem spec_RingOf_any (n : Int) (w : World) : Calls Try.prog 12 #[.int .i64 n] w fun e w' => e = .returned (.tuple #[.int .i64 (rgV n), .bool (n6B n)]) ∧ Below w.heap.size w w' := by
  rcases Bool.eq_false_or_eq_true (n6B n) with h | h
  · have h0 := n6_iff.1 h
    simp only [rgV, h, cond_true]
    exact spec_RingOf_yes n w h0.1 h0.2
  · simp only [rgV, h, cond_false]
    exact spec_RingOf_no n w (n6_no h)
theorem impl_RingOf_any (n : Int) (w : World) : Calls Try.prog 11 #[.int .i64 n] w fun e w' => e = .returned (.tuple #[.int .i64 (rgV n), .bool (n6B n)]) ∧ Below w.heap.size w w' := by
  rcases Bool.eq_false_or_eq_true (n6B n) with h | h
  · have h0 := n6_iff.1 h
    simp only [rgV, h, cond_true]
    exact impl_RingOf_yes n w h0.1 h0.2
  · simp only [rgV, h, cond_false]
    exact impl_RingOf_no n w (n6_no h)
theorem spec_StepFrom_any (n : Int) (w : World) : Calls Try.prog 14 #[.int .i64 n] w fun e w' => e = .returned (.tuple #[.agg #[.int .i64 (stx n), .int .i64 (sty n)], .bool (n6B n)]) ∧ Below w.heap.size w w' := by
  rcases Bool.eq_false_or_eq_true (n6B n) with h | h
  · have h0 := n6_iff.1 h
    simp only [stx, sty, h, cond_true]
    exact spec_StepFrom_yes n w h0.1 h0.2
  · simp only [stx, sty, h, cond_false]
    exact spec_StepFrom_no n w (n6_no h)
theorem impl_StepFrom_any (n : Int) (w : World) : Calls Try.prog 13 #[.int .i64 n] w fun e w' => e = .returned (.tuple #[.agg #[.int .i64 (stx n), .int .i64 (sty n)], .bool (n6B n)]) ∧ Below w.heap.size w w' := by
  rcases Bool.eq_false_or_eq_true (n6B n) with h | h
  · have h0 := n6_iff.1 h
    simp only [stx, sty, h, cond_true]
    exact impl_StepFrom_yes n w h0.1 h0.2
  · simp only [stx, sty, h, cond_false]
    exact impl_StepFrom_no n w (n6_no h)
theorem spec_BesideNumbers_any (n : Int) (w : World) : Calls Try.prog 16 #[.int .i64 n] w (ResI (n6B n) (beV n) w) := by
  rcases Bool.eq_false_or_eq_true (n6B n) with h | h
  · have h0 := n6_iff.1 h
    simp only [beV, h, cond_true]
    exact spec_BesideNumbers_yes n w h0.1 h0.2
  · simp only [beV, h, cond_false]
    exact spec_BesideNumbers_no n w (n6_no h)
theorem impl_BesideNumbers_any (n : Int) (w : World) : Calls Try.prog 15 #[.int .i64 n] w (ResI (n6B n) (beV n) w) := by
  rcases Bool.eq_false_or_eq_true (n6B n) with h | h
  · have h0 := n6_iff.1 h
    simp only [beV, h, cond_true]
    exact impl_BesideNumbers_yes n w h0.1 h0.2
  · simp only [beV, h, cond_false]
    exact impl_BesideNumbers_no n w (n6_no h)
theorem spec_NumberAt_any (x y : Int) (w : World) : Calls Try.prog 23 #[.agg #[.int .i64 x, .int .i64 y]] w fun e w' => e = .returned (.tuple #[.int .i64 (nuV x y), .bool (isSpot x y)]) ∧ Below w.heap.size w w' := by
  rcases Bool.eq_false_or_eq_true (isSpot x y) with h | h
  · simp only [nuV, h, cond_true]
    exact spec_NumberAt_yes x y w h
  · simp only [nuV, h, cond_false]
    exact spec_NumberAt_no x y w h
theorem impl_NumberAt_any (x y : Int) (w : World) : Calls Try.prog 20 #[.agg #[.int .i64 x, .int .i64 y]] w fun e w' => e = .returned (.tuple #[.int .i64 (nuV x y), .bool (isSpot x y)]) ∧ Below w.heap.size w w' := by
  rcases Bool.eq_false_or_eq_true (isSpot x y) with h | h
  · simp only [nuV, h, cond_true]
    exact impl_NumberAt_yes x y w h
  · simp only [nuV, h, cond_false]
    exact impl_NumberAt_no x y w h
theorem spec_RingNumbers_any (n : Int) (w : World) : Calls Try.prog 25 #[.int .i64 n] w fun e w' => e = .returned (.tuple #[.int .i64 (loV n), .int .i64 (hiV n), .bool (r6B n)]) ∧ Below w.heap.size w w' := by
  rcases Bool.eq_false_or_eq_true (r6B n) with h | h
  · have h0 := r6_iff.1 h
    simp only [loV, hiV, h, cond_true]
    exact spec_RingNumbers_yes n w h0.1 h0.2
  · simp only [loV, hiV, h, cond_false]
    exact spec_RingNumbers_no n w (r6_no h)
theorem impl_RingNumbers_any (n : Int) (w : World) : Calls Try.prog 21 #[.int .i64 n] w fun e w' => e = .returned (.tuple #[.int .i64 (loV n), .int .i64 (hiV n), .bool (r6B n)]) ∧ Below w.heap.size w w' := by
  rcases Bool.eq_false_or_eq_true (r6B n) with h | h
  · have h0 := r6_iff.1 h
    simp only [loV, hiV, h, cond_true]
    exact impl_RingNumbers_yes n w h0.1 h0.2
  · simp only [loV, hiV, h, cond_false]
    exact impl_RingNumbers_no n w (r6_no h)
theorem spec_DistanceOf_any (a b : Int) (w : World) : Calls Try.prog 28 #[.int .i64 a, .int .i64 b] w fun e w' => e = .returned (.tuple #[.int .i64 (dsV a b), .bool (d6B a b)]) ∧ Below w.heap.size w w' := by
  rcases Bool.eq_false_or_eq_true (d6B a b) with h | h
  · have h0 := d6_iff.1 h
    simp only [dsV, h, cond_true]
    exact spec_DistanceOf_yes a b w h0.1.1 h0.1.2 h0.2.1 h0.2.2
  · simp only [dsV, h, cond_false]
    exact spec_DistanceOf_no a b w (d6_no h)
theorem impl_DistanceOf_any (a b : Int) (w : World) : Calls Try.prog 27 #[.int .i64 a, .int .i64 b] w fun e w' => e = .returned (.tuple #[.int .i64 (dsV a b), .bool (d6B a b)]) ∧ Below w.heap.size w w' := by
  rcases Bool.eq_false_or_eq_true (d6B a b) with h | h
  · have h0 := d6_iff.1 h
    simp only [dsV, h, cond_true]
    exact impl_DistanceOf_yes a b w h0.1.1 h0.1.2 h0.2.1 h0.2.2
  · simp only [dsV, h, cond_false]
    exact impl_DistanceOf_no a b w (d6_no h)
theorem spec_DiagonalOf_any (a b n : Int) (w : World) : Calls Try.prog 31 #[.int .i64 a, .int .i64 b, .int .i64 n] w (ResI (dgOk a b n) (dgV a b n) w) := by
  rcases Bool.eq_false_or_eq_true (dgOk a b n) with h | h
  · simp only [dgV, h, cond_true]
    exact spec_DiagonalOf_yes a b n w h
  · simp only [dgV, h, cond_false]
    exact spec_DiagonalOf_no a b n w h
theorem impl_DiagonalOf_any (a b n : Int) (w : World) : Calls Try.prog 30 #[.int .i64 a, .int .i64 b, .int .i64 n] w (ResI (dgOk a b n) (dgV a b n) w) := by
  rcases Bool.eq_false_or_eq_true (dgOk a b n) with h | h
  · simp only [dgV, h, cond_true]
    exact impl_DiagonalOf_yes a b n w h
  · simp only [dgV, h, cond_false]
    exact impl_DiagonalOf_no a b n w h
theorem spec_WindowOf_any (x y a b : Int) (w : World) : Calls Try.prog 34 #[.agg #[.int .i64 x, .int .i64 y], .int .i64 a, .int .i64 b] w (ResSS (wnOk x y a b) (wiV x y a b) w) := by
  rcases Bool.eq_false_or_eq_true (wnOk x y a b) with h | h
  · simp only [wiV, h, cond_true]
    exact spec_WindowOf_yes x y a b w h
  · simp only [wiV, h, cond_false]
    exact spec_WindowOf_no x y a b w h
theorem impl_WindowOf_any (x y a b : Int) (w : World) : Calls Try.prog 33 #[.agg #[.int .i64 x, .int .i64 y], .int .i64 a, .int .i64 b] w (ResSS (wnOk x y a b) (wiV x y a b) w) := by
  rcases Bool.eq_false_or_eq_true (wnOk x y a b) with h | h
  · simp only [wiV, h, cond_true]
    exact impl_WindowOf_yes x y a b w h
  · simp only [wiV, h, cond_false]
    exact impl_WindowOf_no x y a b w h
theorem spec_HexSpotOf_any (n : Int) (w : World) : Calls Try.prog 38 #[.int .i64 n] w fun e w' => e = .returned (.tuple #[.agg #[.int .i64 (hpx n), .int .i64 (hpy n)], .bool (n6B n)]) ∧ Below w.heap.size w w' := by
  rcases Bool.eq_false_or_eq_true (n6B n) with h | h
  · have h0 := n6_iff.1 h
    simp only [hpx, hpy, h, cond_true]
    exact spec_HexSpotOf_yes n w h0.1 h0.2
  · simp only [hpx, hpy, h, cond_false]
    exact spec_HexSpotOf_no n w (n6_no h)
theorem impl_HexSpotOf_any (n : Int) (w : World) : Calls Try.prog 37 #[.int .i64 n] w fun e w' => e = .returned (.tuple #[.agg #[.int .i64 (hpx n), .int .i64 (hpy n)], .bool (n6B n)]) ∧ Below w.heap.size w w' := by
  rcases Bool.eq_false_or_eq_true (n6B n) with h | h
  · have h0 := n6_iff.1 h
    simp only [hpx, hpy, h, cond_true]
    exact impl_HexSpotOf_yes n w h0.1 h0.2
  · simp only [hpx, hpy, h, cond_false]
    exact impl_HexSpotOf_no n w (n6_no h)
theorem spec_HexRingOf_any (n : Int) (w : World) : Calls Try.prog 40 #[.int .i64 n] w fun e w' => e = .returned (.tuple #[.int .i64 (hrV n), .bool (n6B n)]) ∧ Below w.heap.size w w' := by
  rcases Bool.eq_false_or_eq_true (n6B n) with h | h
  · have h0 := n6_iff.1 h
    simp only [hrV, h, cond_true]
    exact spec_HexRingOf_yes n w h0.1 h0.2
  · simp only [hrV, h, cond_false]
    exact spec_HexRingOf_no n w (n6_no h)
theorem impl_HexRingOf_any (n : Int) (w : World) : Calls Try.prog 39 #[.int .i64 n] w fun e w' => e = .returned (.tuple #[.int .i64 (hrV n), .bool (n6B n)]) ∧ Below w.heap.size w w' := by
  rcases Bool.eq_false_or_eq_true (n6B n) with h | h
  · have h0 := n6_iff.1 h
    simp only [hrV, h, cond_true]
    exact impl_HexRingOf_yes n w h0.1 h0.2
  · simp only [hrV, h, cond_false]
    exact impl_HexRingOf_no n w (n6_no h)
theorem spec_HexBeside_any (n : Int) (w : World) : Calls Try.prog 42 #[.int .i64 n] w (ResI (n6B n) (hbV n) w) := by
  rcases Bool.eq_false_or_eq_true (n6B n) with h | h
  · have h0 := n6_iff.1 h
    simp only [hbV, h, cond_true]
    exact spec_HexBeside_yes n w h0.1 h0.2
  · simp only [hbV, h, cond_false]
    exact spec_HexBeside_no n w (n6_no h)
theorem impl_HexBeside_any (n : Int) (w : World) : Calls Try.prog 41 #[.int .i64 n] w (ResI (n6B n) (hbV n) w) := by
  rcases Bool.eq_false_or_eq_true (n6B n) with h | h
  · have h0 := n6_iff.1 h
    simp only [hbV, h, cond_true]
    exact impl_HexBeside_yes n w h0.1 h0.2
  · simp only [hbV, h, cond_false]
    exact impl_HexBeside_no n w (n6_no h)
theorem spec_HexDistance_any (a b : Int) (w : World) : Calls Try.prog 47 #[.int .i64 a, .int .i64 b] w fun e w' => e = .returned (.tuple #[.int .i64 (hdV a b), .bool (d6B a b)]) ∧ Below w.heap.size w w' := by
  rcases Bool.eq_false_or_eq_true (d6B a b) with h | h
  · have h0 := d6_iff.1 h
    simp only [hdV, h, cond_true]
    exact spec_HexDistance_yes a b w h0.1.1 h0.1.2 h0.2.1 h0.2.2
  · simp only [hdV, h, cond_false]
    exact spec_HexDistance_no a b w (d6_no h)
theorem impl_HexDistance_any (a b : Int) (w : World) : Calls Try.prog 43 #[.int .i64 a, .int .i64 b] w fun e w' => e = .returned (.tuple #[.int .i64 (hdV a b), .bool (d6B a b)]) ∧ Below w.heap.size w w' := by
  rcases Bool.eq_false_or_eq_true (d6B a b) with h | h
  · have h0 := d6_iff.1 h
    simp only [hdV, h, cond_true]
    exact impl_HexDistance_yes a b w h0.1.1 h0.1.2 h0.2.1 h0.2.2
  · simp only [hdV, h, cond_false]
    exact impl_HexDistance_no a b w (d6_no h)
theorem spec_HexNumberAt_any (x y : Int) (w : World) : Calls Try.prog 46 #[.agg #[.int .i64 x, .int .i64 y]] w fun e w' => e = .returned (.tuple #[.int .i64 (hnV x y), .bool (isHexSpot x y)]) ∧ Below w.heap.size w w' := by
  rcases Bool.eq_false_or_eq_true (isHexSpot x y) with h | h
  · simp only [hnV, h, cond_true]
    exact spec_HexNumberAt_yes x y w h
  · simp only [hnV, h, cond_false]
    exact spec_HexNumberAt_no x y w h
theorem impl_HexNumberAt_any (x y : Int) (w : World) : Calls Try.prog 44 #[.agg #[.int .i64 x, .int .i64 y]] w fun e w' => e = .returned (.tuple #[.int .i64 (hnV x y), .bool (isHexSpot x y)]) ∧ Below w.heap.size w w' := by
  rcases Bool.eq_false_or_eq_true (isHexSpot x y) with h | h
  · simp only [hnV, h, cond_true]
    exact impl_HexNumberAt_yes x y w h
  · simp only [hnV, h, cond_false]
    exact impl_HexNumberAt_no x y w h
theorem spec_TriangleSpot_any (n : Int) (w : World) : Calls Try.prog 49 #[.int .i64 n] w fun e w' => e = .returned (.tuple #[.agg #[.int .i64 (tix n), .int .i64 (tiy n)], .bool (n6B n)]) ∧ Below w.heap.size w w' := by
  rcases Bool.eq_false_or_eq_true (n6B n) with h | h
  · have h0 := n6_iff.1 h
    simp only [tix, tiy, h, cond_true]
    exact spec_TriangleSpot_yes n w h0.1 h0.2
  · simp only [tix, tiy, h, cond_false]
    exact spec_TriangleSpot_no n w (n6_no h)
theorem impl_TriangleSpot_any (n : Int) (w : World) : Calls Try.prog 48 #[.int .i64 n] w fun e w' => e = .returned (.tuple #[.agg #[.int .i64 (tix n), .int .i64 (tiy n)], .bool (n6B n)]) ∧ Below w.heap.size w w' := by
  rcases Bool.eq_false_or_eq_true (n6B n) with h | h
  · have h0 := n6_iff.1 h
    simp only [tix, tiy, h, cond_true]
    exact impl_TriangleSpot_yes n w h0.1 h0.2
  · simp only [tix, tiy, h, cond_false]
    exact impl_TriangleSpot_no n w (n6_no h)
theorem spec_TriangleNumber_any (x y : Int) (w : World) : Calls Try.prog 51 #[.agg #[.int .i64 x, .int .i64 y]] w fun e w' => e = .returned (.tuple #[.int .i64 (tnV x y), .bool (triOk x y)]) ∧ Below w.heap.size w w' := by
  rcases Bool.eq_false_or_eq_true (triOk x y) with h | h
  · simp only [tnV, h, cond_true]
    exact spec_TriangleNumber_yes x y w h
  · simp only [tnV, h, cond_false]
    exact spec_TriangleNumber_no x y w h
theorem impl_TriangleNumber_any (x y : Int) (w : World) : Calls Try.prog 50 #[.agg #[.int .i64 x, .int .i64 y]] w fun e w' => e = .returned (.tuple #[.int .i64 (tnV x y), .bool (triOk x y)]) ∧ Below w.heap.size w w' := by
  rcases Bool.eq_false_or_eq_true (triOk x y) with h | h
  · simp only [tnV, h, cond_true]
    exact impl_TriangleNumber_yes x y w h
  · simp only [tnV, h, cond_false]
    exact impl_TriangleNumber_no x y w h
theorem spec_ZigzagNumber_any (x y : Int) (w : World) : Calls Try.prog 53 #[.agg #[.int .i64 x, .int .i64 y]] w fun e w' => e = .returned (.tuple #[.int .i64 (znV x y), .bool (zzOk x y)]) ∧ Below w.heap.size w w' := by
  rcases Bool.eq_false_or_eq_true (zzOk x y) with h | h
  · simp only [znV, h, cond_true]
    exact spec_ZigzagNumber_yes x y w h
  · simp only [znV, h, cond_false]
    exact spec_ZigzagNumber_no x y w h
theorem impl_ZigzagNumber_any (x y : Int) (w : World) : Calls Try.prog 52 #[.agg #[.int .i64 x, .int .i64 y]] w fun e w' => e = .returned (.tuple #[.int .i64 (znV x y), .bool (zzOk x y)]) ∧ Below w.heap.size w w' := by
  rcases Bool.eq_false_or_eq_true (zzOk x y) with h | h
  · simp only [znV, h, cond_true]
    exact impl_ZigzagNumber_yes x y w h
  · simp only [znV, h, cond_false]
    exact impl_ZigzagNumber_no x y w h
theorem spec_ZigzagSpot_any (n : Int) (w : World) : Calls Try.prog 55 #[.int .i64 n] w fun e w' => e = .returned (.tuple #[.agg #[.int .i64 (zgx n), .int .i64 (zgy n)], .bool (n6B n)]) ∧ Below w.heap.size w w' := by
  rcases Bool.eq_false_or_eq_true (n6B n) with h | h
  · have h0 := n6_iff.1 h
    simp only [zgx, zgy, h, cond_true]
    exact spec_ZigzagSpot_yes n w h0.1 h0.2
  · simp only [zgx, zgy, h, cond_false]
    exact spec_ZigzagSpot_no n w (n6_no h)
theorem impl_ZigzagSpot_any (n : Int) (w : World) : Calls Try.prog 54 #[.int .i64 n] w fun e w' => e = .returned (.tuple #[.agg #[.int .i64 (zgx n), .int .i64 (zgy n)], .bool (n6B n)]) ∧ Below w.heap.size w w' := by
  rcases Bool.eq_false_or_eq_true (n6B n) with h | h
  · have h0 := n6_iff.1 h
    simp only [zgx, zgy, h, cond_true]
    exact impl_ZigzagSpot_yes n w h0.1 h0.2
  · simp only [zgx, zgy, h, cond_false]
    exact impl_ZigzagSpot_no n w (n6_no h)
end Go.Proofs.Ytkhjeleoppdjgac
