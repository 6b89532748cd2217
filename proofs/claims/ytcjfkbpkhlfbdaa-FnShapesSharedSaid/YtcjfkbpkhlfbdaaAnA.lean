/- The functions of chapter 1 that take numbers, each with one contract: whatever the arguments, what it answers is said by plain functions. No condition. -/
import Derived.Test.YtcjfkbpkhlfbdaaLwD
import Derived.Test.YtcjfkbpkhlfbdaaAnD
namespace Go.Proofs.Ytcjfkbpkhlfbdaa
open Go.ChangeShapes Go.WideShapes Go.ChangeAt Go.RowKit


theorem tsB_no {s n : Int} (h : (s < 3 ∨ 24 < s) ∨ (n < 0 ∨ 1000000000000 < n)) : tsB s n = false := by simp [tsB]; omega
theorem tsB_yes {s n : Int} (h : ¬ ((s < 3 ∨ 24 < s) ∨ (n < 0 ∨ 1000000000000 < n))) : tsB s n = true := by simp [tsB]; omega
theorem pnB_no {s n : Int} (h : (s < 3 ∨ 24 < s) ∨ (n < 0 ∨ 100000 < n)) : pnB s n = false := by simp [pnB]; omega
theorem pnB_yes {s n : Int} (h : ¬ ((s < 3 ∨ 24 < s) ∨ (n < 0 ∨ 100000 < n))) : pnB s n = true := by simp [pnB]; omega
theorem wnB_no {s n : Int} (h : (s < 3 ∨ 24 < s) ∨ (n < -100000 ∨ 100000 < n)) : wnB s n = false := by simp [wnB]; omega
theorem wnB_yes {s n : Int} (h : ¬ ((s < 3 ∨ 24 < s) ∨ (n < -100000 ∨ 100000 < n))) : wnB s n = true := by simp [wnB]; omega
theorem gnB_no {s n : Int} (h : (s < 3 ∨ 24 < s) ∨ (n < 1 ∨ 100000 < n)) : gnB s n = false := by simp [gnB]; omega
theorem gnB_yes {s n : Int} (h : ¬ ((s < 3 ∨ 24 < s) ∨ (n < 1 ∨ 100000 < n))) : gnB s n = true := by simp [gnB]; omega
theorem impl_PolygonNumber_any (s n : Int) (w : World) :
    Calls Try.prog 12 #[.int .i64 s, .int .i64 n] w fun e w' => e = .returned (.tuple #[.int .i64 (pnV s n), .bool (pnB s n)]) ∧ Below w.heap.size w w' := by
  by_cases h : (s < 3 ∨ 24 < s) ∨ (n < 0 ∨ 100000 < n)
  · have e := pnB_no h
    rw [show pnV s n = 0 from by simp [pnV, e], e]
    first | exact impl_PolygonNumber_no s n w h | exact (impl_PolygonNumber_no s n w h).mono (fun e w' h => ⟨h.1, by rw [← h.2]; exact Below.refl _ _⟩)
  · have e := pnB_yes h
    rw [show pnV s n = num s n from by simp [pnV, e], e]
    first | exact impl_PolygonNumber_yes s n w (by omega) (by omega) (by omega) (by omega) | exact (impl_PolygonNumber_yes s n w (by omega) (by omega) (by omega) (by omega)).mono (fun e w' h => ⟨h.1, by rw [← h.2]; exact Below.refl _ _⟩)
theorem impl_PlaceOf_any (s n : Int) (w : World) :
    Calls Try.prog 32 #[.int .i64 s, .int .i64 n] w fun e w' => e = .returned (.tuple #[.int .i64 (poV s n), .bool (poB s n)]) ∧ Below w.heap.size w w' := by
  by_cases h : (s < 3 ∨ 24 < s) ∨ (n < 0 ∨ 1000000000000 < n)
  · have e := tsB_no h
    rw [show poV s n = 0 from by simp [poV, poB, e], show poB s n = false from by simp [poB, e]]
    first | exact impl_PlaceOf_no s n w h | exact (impl_PlaceOf_no s n w h).mono (fun e w' h => ⟨h.1, by rw [← h.2]; exact Below.refl _ _⟩)
  · have e := tsB_yes h
    by_cases c : num s (pl s n) = n
    · rw [show poV s n = pl s n from by simp [poV, poB, e, c], show poB s n = true from by simp [poB, e, c]]
      first | exact impl_PlaceOf_yes s n w (by omega) (by omega) (by omega) (by omega) c | exact (impl_PlaceOf_yes s n w (by omega) (by omega) (by omega) (by omega) c).mono (fun e w' h => ⟨h.1, by rw [← h.2]; exact Below.refl _ _⟩)
    · rw [show poV s n = 0 from by simp [poV, poB, e, c], show poB s n = false from by simp [poB, e, c]]
      first | exact impl_PlaceOf_miss s n w (by omega) (by omega) (by omega) (by omega) c | exact (impl_PlaceOf_miss s n w (by omega) (by omega) (by omega) (by omega) c).mono (fun e w' h => ⟨h.1, by rw [← h.2]; exact Below.refl _ _⟩)
theorem impl_IsPolygonal_any (s n : Int) (w : World) :
    Calls Try.prog 22 #[.int .i64 s, .int .i64 n] w fun e w' => e = .returned (.tuple #[.bool (poB s n), .bool (tsB s n)]) ∧ Below w.heap.size w w' := by
  by_cases h : (s < 3 ∨ 24 < s) ∨ (n < 0 ∨ 1000000000000 < n)
  · have e := tsB_no h
    rw [show poB s n = false from by simp [poB, e], e]
    first | exact impl_IsPolygonal_no s n w h | exact (impl_IsPolygonal_no s n w h).mono (fun e w' h => ⟨h.1, by rw [← h.2]; exact Below.refl _ _⟩)
  · have e := tsB_yes h
    by_cases c : num s (pl s n) = n
    · rw [show poB s n = true from by simp [poB, e, c], e]
      first | exact impl_IsPolygonal_yes s n w (by omega) (by omega) (by omega) (by omega) c | exact (impl_IsPolygonal_yes s n w (by omega) (by omega) (by omega) (by omega) c).mono (fun e w' h => ⟨h.1, by rw [← h.2]; exact Below.refl _ _⟩)
    · rw [show poB s n = false from by simp [poB, e, c], e]
      first | exact impl_IsPolygonal_miss s n w (by omega) (by omega) (by omega) (by omega) c | exact (impl_IsPolygonal_miss s n w (by omega) (by omega) (by omega) (by omega) c).mono (fun e w' h => ⟨h.1, by rw [← h.2]; exact Below.refl _ _⟩)
end Go.Proofs.Ytcjfkbpkhlfbdaa
