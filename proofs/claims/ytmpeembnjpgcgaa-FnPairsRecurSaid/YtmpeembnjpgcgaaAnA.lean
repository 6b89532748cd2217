/- The functions of chapter 1 that take numbers, each with one contract: whatever the arguments, what it answers is said by plain functions. No condition. -/
import Derived.Test.YtmpeembnjpgcgaaLwD
import Derived.Test.YtmpeembnjpgcgaaAnD
namespace Go.Proofs.Ytmpeembnjpgcgaa
open Go.ChangeShapes Go.WideShapes Go.ChangeAt Go.RowKit


theorem tsB_no {s n : Int} (h : (s < 3 ∨ 24 < s) ∨ (n < 0 ∨ 1000000000000 < n)) : tsB s n = false := by simp [tsB]; omega
theorem tsB_yes {s n : Int} (h : ¬ ((s < 3 ∨ 24 < s) ∨ (n < 0 ∨ 1000000000000 < n))) : tsB s n = true := by simp [tsB]; omega
theorem pnB_no {s n : Int} (h : (s < 3 ∨ 24 < s) ∨ (n < 0 ∨ 100000 < n)) : pnB s n = false := by simp [pnB]; omega
theorem pnB_yes {s n : Int} (h : ¬ ((s < 3 ∨ 24 < s) ∨ (n < 0 ∨ 100000 < n))) : pnB s n = true := by simp [pnB]; omega
theorem wnB_no {s n : Int} (h : (s < 3 ∨ 24 < s) ∨ (n < -100000 ∨ 100000 < n)) : wnB s n = false := by simp [wnB]; omega
theorem wnB_yes {s n : Int} (h : ¬ ((s < 3 ∨ 24 < s) ∨ (n < -100000 ∨ 100000 < n))) : wnB s n = true := by simp [wnB]; omega
theorem gnB_no {s n : Int} (h : (s < 3 ∨ 24 < s) ∨ (n < 1 ∨ 100000 < n)) : gnB s n = false := by simp [gnB]; omega
theorem gnB_yes {s n : Int} (h : ¬ ((s < 3 ∨ 24 < s) ∨ (n < 1 ∨ 100000 < n))) : gnB s n = true := by simp [gnB]; omega
theorem impl_PolygonNumber_any (s n : Int) (w : World) :
    Calls Try.prog 24 #[.int .i64 s, .int .i64 n] w fun e w' => e = .returned (.tuple #[.int .i64 (pnV s n), .bool (pnB s n)]) ∧ Below w.heap.size w w' := by
  by_cases h : (s < 3 ∨ 24 < s) ∨ (n < 0 ∨ 100000 < n)
  · have e := pnB_no h
    rw [show pnV s n = 0 from by simp [pnV, e], e]
    first | exact impl_PolygonNumber_no s n w h | exact (impl_PolygonNumber_no s n w h).mono (fun e w' h => ⟨h.1, by rw [← h.2]; exact Below.refl _ _⟩)
  · have e := pnB_yes h
    rw [show pnV s n = num s n from by simp [pnV, e], e]
    first | exact impl_PolygonNumber_yes s n w (by omega) (by omega) (by omega) (by omega) | exact (impl_PolygonNumber_yes s n w (by omega) (by omega) (by omega) (by omega)).mono (fun e w' h => ⟨h.1, by rw [← h.2]; exact Below.refl _ _⟩)
end Go.Proofs.Ytmpeembnjpgcgaa
