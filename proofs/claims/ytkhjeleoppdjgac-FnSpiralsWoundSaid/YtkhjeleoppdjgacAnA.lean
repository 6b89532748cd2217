/- The functions of chapter 1 that take numbers, each with one contract: whatever the arguments, what it answers is said by plain functions. No condition. -/
import Derived.Test.YtkhjeleoppdjgacLwD
import Derived.Test.YtkhjeleoppdjgacAnD
namespace Go.Proofs.Ytkhjeleoppdjgac
open Go.ChangeShapes Go.WideShapes Go.ChangeAt Go.RowKit


theorem tsB_no {s n : Int} (h : (s < 3 ∨ 24 < s) ∨ (n < 0 ∨ 1000000000000 < n)) : tsB s n = false := by simp [tsB]; omega
theorem tsB_yes {s n : Int} (h : ¬ ((s < 3 ∨ 24 < s) ∨ (n < 0 ∨ 1000000000000 < n))) : tsB s n = true := by simp [tsB]; omega
theorem pnB_no {s n : Int} (h : (s < 3 ∨ 24 < s) ∨ (n < 0 ∨ 100000 < n)) : pnB s n = false := by simp [pnB]; omega
theorem pnB_yes {s n : Int} (h : ¬ ((s < 3 ∨ 24 < s) ∨ (n < 0 ∨ 100000 < n))) : pnB s n = true := by simp [pnB]; omega
theorem wnB_no {s n : Int} (h : (s < 3 ∨ 24 < s) ∨ (n < -100000 ∨ 100000 < n)) : wnB s n = false := by simp [wnB]; omega
theorem wnB_yes {s n : Int} (h : ¬ ((s < 3 ∨ 24 < s) ∨ (n < -100000 ∨ 100000 < n))) : wnB s n = true := by simp [wnB]; omega
theorem gnB_no {s n : Int} (h : (s < 3 ∨ 24 < s) ∨ (n < 1 ∨ 100000 < n)) : gnB s n = false := by simp [gnB]; omega
theorem gnB_yes {s n : Int} (h : ¬ ((s < 3 ∨ 24 < s) ∨ (n < 1 ∨ 100000 < n))) : gnB s n = true := by simp [gnB]; omega
theorem impl_PolygonNumber_any (s n : Int) (w : World) :
    Calls Try.prog 81 #[.int .i64 s, .int .i64 n] w fun e w' => e = .returned (.tuple #[.int .i64 (pnV s n), .bool (pnB s n)]) ∧ Below w.heap.size w w' := by
  by_cases h : (s < 3 ∨ 24 < s) ∨ (n < 0 ∨ 100000 < n)
  · have e := pnB_no h
    rw [show pnV s n = 0 from by simp [pnV, e], e]
    first | exact impl_PolygonNumber_no s n w h | exact (impl_PolygonNumber_no s n w h).mono (fun e w' h => ⟨h.1, by rw [← h.2]; exact Below.refl _ _⟩)
  · have e := pnB_yes h
    rw [show pnV s n = num s n from by simp [pnV, e], e]
    first | exact impl_PolygonNumber_yes s n w (by omega) (by omega) (by omega) (by omega) | exact (impl_PolygonNumber_yes s n w (by omega) (by omega) (by omega) (by omega)).mono (fun e w' h => ⟨h.1, by rw [← h.2]; exact Below.refl _ _⟩)
theorem impl_CentredNumber_any (s n : Int) (w : World) :
    Calls Try.prog 45 #[.int .i64 s, .int .i64 n] w fun e w' => e = .returned (.tuple #[.int .i64 (cnV s n), .bool (gnB s n)]) ∧ Below w.heap.size w w' := by
  by_cases h : (s < 3 ∨ 24 < s) ∨ (n < 1 ∨ 100000 < n)
  · have e := gnB_no h
    rw [show cnV s n = 0 from by simp [cnV, e], e]
    first | exact impl_CentredNumber_no s n w h | exact (impl_CentredNumber_no s n w h).mono (fun e w' h => ⟨h.1, by rw [← h.2]; exact Below.refl _ _⟩)
  · have e := gnB_yes h
    rw [show cnV s n = cen s n from by simp [cnV, e], e]
    first | exact impl_CentredNumber_yes s n w (by omega) (by omega) (by omega) (by omega) | exact (impl_CentredNumber_yes s n w (by omega) (by omega) (by omega) (by omega)).mono (fun e w' h => ⟨h.1, by rw [← h.2]; exact Below.refl _ _⟩)
theorem impl_RootOf_any (n : Int) (w : World) :
    Calls Try.prog 36 #[.int .i64 n] w fun e w' => e = .returned (.tuple #[.int .i64 (rtV n), .bool (rtB n)]) ∧ Below w.heap.size w w' := by
  by_cases h : n < 0 ∨ 4000000000000000000 < n
  · have e : rtB n = false := by simp [rtB]; omega
    rw [show rtV n = 0 from by simp [rtV, e], e]
    first | exact impl_RootOf_no n w h | exact (impl_RootOf_no n w h).mono (fun e w' h => ⟨h.1, by rw [← h.2]; exact Below.refl _ _⟩)
  · have e : rtB n = true := by simp [rtB]; omega
    rw [show rtV n = rt n from by simp [rtV, e], e]
    first | exact impl_RootOf_yes n w (by omega) (by omega) | exact (impl_RootOf_yes n w (by omega) (by omega)).mono (fun e w' h => ⟨h.1, by rw [← h.2]; exact Below.refl _ _⟩)
end Go.Proofs.Ytkhjeleoppdjgac
