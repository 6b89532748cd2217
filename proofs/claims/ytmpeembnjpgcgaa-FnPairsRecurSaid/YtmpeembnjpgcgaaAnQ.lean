/- The functions of chapter 4 on pairs, each with one contract: whatever the argument, what it answers is said by plain functions. No condition. -/
import Derived.Test.YtmpeembnjpgcgaaAnP
import Derived.Test.YtmpeembnjpgcgaaSdB
import Derived.Test.YtmpeembnjpgcgaaSdK
namespace Go.Proofs.Ytmpeembnjpgcgaa
open Go.ChangeShapes Go.WideShapes Go.ChangeAt Go.RowKit

def nrL (k : Int) : List Int := bif prB k then nrt k.toNat else []
theorem nr_of {k : Int} (h : prB k = true) : nrL k = [tpV k, tpV k + 1, tzV k] := by simp [nrL, h, nrt, tpV, tzV]

theorem spec_TwicePair_any (k : Int) (w : World) :
    Calls Try.prog 6 #[.int .i64 k] w fun e w' => e = .returned (.tuple #[.int .i64 (txV k), .int .i64 (tyV k), .bool (prB k)]) ∧ Below w.heap.size w w' := by
  by_cases h : k < 0 ∨ 12 < k
  · have e : prB k = false := by simp [prB]; omega
    rw [show txV k = 0 from by simp [txV, e], show tyV k = 0 from by simp [tyV, e], e]
    exact spec_TwicePair_no k w h
  · obtain ⟨K, rfl⟩ := Int.eq_ofNat_of_zero_le (show 0 ≤ k by omega)
    have e : prB (K : Int) = true := by simp [prB]; omega
    rw [show txV (K : Int) = tx K from by simp [txV, e], show tyV (K : Int) = ty K from by simp [tyV, e], e]
    exact spec_TwicePair_yes K (by omega) w
theorem spec_TriangleSquare_any (k : Int) (w : World) :
    Calls Try.prog 8 #[.int .i64 k] w fun e w' => e = .returned (.tuple #[.int .i64 (tsV k), .bool (prB k)]) ∧ Below w.heap.size w w' := by
  by_cases h : k < 0 ∨ 12 < k
  · have e : prB k = false := by simp [prB]; omega
    rw [show tsV k = 0 from by simp [tsV, e], e]
    exact spec_TriangleSquare_no k w h
  · obtain ⟨K, rfl⟩ := Int.eq_ofNat_of_zero_le (show 0 ≤ k by omega)
    have e : prB (K : Int) = true := by simp [prB]; omega
    rw [show tsV (K : Int) = tx K * ty K * tx K * ty K from by simp [tsV, e], e]
    exact spec_TriangleSquare_yes K (by omega) w
theorem spec_TriangleSquarePlaces_any (k : Int) (w : World) :
    Calls Try.prog 10 #[.int .i64 k] w fun e w' => e = .returned (.tuple #[.int .i64 (tmV k), .int .i64 (trV k), .bool (prB k)]) ∧ Below w.heap.size w w' := by
  by_cases h : k < 0 ∨ 12 < k
  · have e : prB k = false := by simp [prB]; omega
    rw [show tmV k = 0 from by simp [tmV, e], show trV k = 0 from by simp [trV, e], e]
    exact spec_TriangleSquarePlaces_no k w h
  · obtain ⟨K, rfl⟩ := Int.eq_ofNat_of_zero_le (show 0 ≤ k by omega)
    have e : prB (K : Int) = true := by simp [prB]; omega
    rw [show tmV (K : Int) = min (tx K * tx K) (2 * ty K * ty K) from by simp [tmV, e], show trV (K : Int) = tx K * ty K from by simp [trV, e], e]
    exact spec_TriangleSquarePlaces_yes K (by omega) w
theorem spec_TwiceTriangle_any (k : Int) (w : World) :
    Calls Try.prog 12 #[.int .i64 k] w fun e w' => e = .returned (.tuple #[.int .i64 (tpV k), .int .i64 (tqV k), .bool (prB k)]) ∧ Below w.heap.size w w' := by
  by_cases h : k < 0 ∨ 12 < k
  · have e : prB k = false := by simp [prB]; omega
    rw [show tpV k = 0 from by simp [tpV, e], show tqV k = 0 from by simp [tqV, e], e]
    exact spec_TwiceTriangle_no k w h
  · obtain ⟨K, rfl⟩ := Int.eq_ofNat_of_zero_le (show 0 ≤ k by omega)
    have e : prB (K : Int) = true := by simp [prB]; omega
    rw [show tpV (K : Int) = (tx (2 * K + 1) - 1) / 2 from by simp [tpV, e], show tqV (K : Int) = (ty (2 * K + 1) - 1) / 2 from by simp [tqV, e], e]
    exact spec_TwiceTriangle_yes K (by omega) w
theorem spec_NearRight_any (k : Int) (w : World) : Calls Try.prog 14 #[.int .i64 k] w (ResI (prB k) (nrL k) w) := by
  by_cases h : k < 0 ∨ 12 < k
  · have e : prB k = false := by simp [prB]; omega
    rw [show nrL k = [] from by simp [nrL, e], e]
    exact spec_NearRight_no k w h
  · obtain ⟨K, rfl⟩ := Int.eq_ofNat_of_zero_le (show 0 ≤ k by omega)
    have e : prB (K : Int) = true := by simp [prB]; omega
    rw [show nrL (K : Int) = nrt K from by simp [nrL, e], e]
    exact spec_NearRight_yes K (by omega) w
theorem spec_HexagonsAre_any (p : Int) (w : World) :
    Calls Try.prog 21 #[.int .i64 p] w fun e w' => e = .returned (.tuple #[.int .i64 (hxV p), .bool (hxB p)]) ∧ Below w.heap.size w w' := by
  by_cases h : p < 1 ∨ 50000 < p
  · have e : hxB p = false := by simp [hxB]; omega
    rw [show hxV p = 0 from by simp [hxV, e], e]
    exact spec_HexagonsAre_no p w h
  · have e : hxB p = true := by simp [hxB]; omega
    rw [show hxV p = 2 * p - 1 from by simp [hxV, e], e]
    exact spec_HexagonsAre_yes p (by omega) (by omega) w
theorem spec_SquareOfOdd_any (k : Int) (w : World) :
    Calls Try.prog 23 #[.int .i64 k] w fun e w' => e = .returned (.tuple #[.int .i64 (odV k), .int .i64 (odW k), .bool (odB k)]) ∧ Below w.heap.size w w' := by
  by_cases h : k < 0 ∨ 100000 < k
  · have e : odB k = false := by simp [odB]; omega
    rw [show odV k = 0 from by simp [odV, e], show odW k = 0 from by simp [odW, e], e]
    exact spec_SquareOfOdd_no k w h
  · have e : odB k = true := by simp [odB]; omega
    rw [show odV k = (2 * k + 1) * (2 * k + 1) from by simp [odV, e], show odW k = k from by simp [odW, e], e]
    exact spec_SquareOfOdd_yes k (by omega) (by omega) w
theorem impl_TwicePair_any (k : Int) (w : World) :
    Calls Try.prog 5 #[.int .i64 k] w fun e w' => e = .returned (.tuple #[.int .i64 (txV k), .int .i64 (tyV k), .bool (prB k)]) ∧ Below w.heap.size w w' := by
  by_cases h : k < 0 ∨ 12 < k
  · have e : prB k = false := by simp [prB]; omega
    rw [show txV k = 0 from by simp [txV, e], show tyV k = 0 from by simp [tyV, e], e]
    exact impl_TwicePair_no k w h
  · obtain ⟨K, rfl⟩ := Int.eq_ofNat_of_zero_le (show 0 ≤ k by omega)
    have e : prB (K : Int) = true := by simp [prB]; omega
    rw [show txV (K : Int) = tx K from by simp [txV, e], show tyV (K : Int) = ty K from by simp [tyV, e], e]
    exact impl_TwicePair_yes K (by omega) w
theorem impl_TriangleSquare_any (k : Int) (w : World) :
    Calls Try.prog 7 #[.int .i64 k] w fun e w' => e = .returned (.tuple #[.int .i64 (tsV k), .bool (prB k)]) ∧ Below w.heap.size w w' := by
  by_cases h : k < 0 ∨ 12 < k
  · have e : prB k = false := by simp [prB]; omega
    rw [show tsV k = 0 from by simp [tsV, e], e]
    exact impl_TriangleSquare_no k w h
  · obtain ⟨K, rfl⟩ := Int.eq_ofNat_of_zero_le (show 0 ≤ k by omega)
    have e : prB (K : Int) = true := by simp [prB]; omega
    rw [show tsV (K : Int) = tx K * ty K * tx K * ty K from by simp [tsV, e], e]
    exact impl_TriangleSquare_yes K (by omega) w
theorem impl_TriangleSquarePlaces_any (k : Int) (w : World) :
    Calls Try.prog 9 #[.int .i64 k] w fun e w' => e = .returned (.tuple #[.int .i64 (tmV k), .int .i64 (trV k), .bool (prB k)]) ∧ Below w.heap.size w w' := by
  by_cases h : k < 0 ∨ 12 < k
  · have e : prB k = false := by simp [prB]; omega
    rw [show tmV k = 0 from by simp [tmV, e], show trV k = 0 from by simp [trV, e], e]
    exact impl_TriangleSquarePlaces_no k w h
  · obtain ⟨K, rfl⟩ := Int.eq_ofNat_of_zero_le (show 0 ≤ k by omega)
    have e : prB (K : Int) = true := by simp [prB]; omega
    rw [show tmV (K : Int) = min (tx K * tx K) (2 * ty K * ty K) from by simp [tmV, e], show trV (K : Int) = tx K * ty K from by simp [trV, e], e]
    exact impl_TriangleSquarePlaces_yes K (by omega) w
theorem impl_TwiceTriangle_any (k : Int) (w : World) :
    Calls Try.prog 11 #[.int .i64 k] w fun e w' => e = .returned (.tuple #[.int .i64 (tpV k), .int .i64 (tqV k), .bool (prB k)]) ∧ Below w.heap.size w w' := by
  by_cases h : k < 0 ∨ 12 < k
  · have e : prB k = false := by simp [prB]; omega
    rw [show tpV k = 0 from by simp [tpV, e], show tqV k = 0 from by simp [tqV, e], e]
    exact impl_TwiceTriangle_no k w h
  · obtain ⟨K, rfl⟩ := Int.eq_ofNat_of_zero_le (show 0 ≤ k by omega)
    have e : prB (K : Int) = true := by simp [prB]; omega
    rw [show tpV (K : Int) = (tx (2 * K + 1) - 1) / 2 from by simp [tpV, e], show tqV (K : Int) = (ty (2 * K + 1) - 1) / 2 from by simp [tqV, e], e]
    exact impl_TwiceTriangle_yes K (by omega) w
theorem impl_NearRight_any (k : Int) (w : World) : Calls Try.prog 13 #[.int .i64 k] w (ResI (prB k) (nrL k) w) := by
  by_cases h : k < 0 ∨ 12 < k
  · have e : prB k = false := by simp [prB]; omega
    rw [show nrL k = [] from by simp [nrL, e], e]
    exact impl_NearRight_no k w h
  · obtain ⟨K, rfl⟩ := Int.eq_ofNat_of_zero_le (show 0 ≤ k by omega)
    have e : prB (K : Int) = true := by simp [prB]; omega
    rw [show nrL (K : Int) = nrt K from by simp [nrL, e], e]
    exact impl_NearRight_yes K (by omega) w
theorem impl_HexagonsAre_any (p : Int) (w : World) :
    Calls Try.prog 20 #[.int .i64 p] w fun e w' => e = .returned (.tuple #[.int .i64 (hxV p), .bool (hxB p)]) ∧ Below w.heap.size w w' := by
  by_cases h : p < 1 ∨ 50000 < p
  · have e : hxB p = false := by simp [hxB]; omega
    rw [show hxV p = 0 from by simp [hxV, e], e]
    exact impl_HexagonsAre_no p w h
  · have e : hxB p = true := by simp [hxB]; omega
    rw [show hxV p = 2 * p - 1 from by simp [hxV, e], e]
    exact impl_HexagonsAre_yes p (by omega) (by omega) w
theorem impl_SquareOfOdd_any (k : Int) (w : World) :
    Calls Try.prog 22 #[.int .i64 k] w fun e w' => e = .returned (.tuple #[.int .i64 (odV k), .int .i64 (odW k), .bool (odB k)]) ∧ Below w.heap.size w w' := by
  by_cases h : k < 0 ∨ 100000 < k
  · have e : odB k = false := by simp [odB]; omega
    rw [show odV k = 0 from by simp [odV, e], show odW k = 0 from by simp [odW, e], e]
    exact impl_SquareOfOdd_no k w h
  · have e : odB k = true := by simp [odB]; omega
    rw [show odV k = (2 * k + 1) * (2 * k + 1) from by simp [odV, e], show odW k = k from by simp [odW, e], e]
    exact impl_SquareOfOdd_yes k (by omega) (by omega) w
end Go.Proofs.Ytmpeembnjpgcgaa
