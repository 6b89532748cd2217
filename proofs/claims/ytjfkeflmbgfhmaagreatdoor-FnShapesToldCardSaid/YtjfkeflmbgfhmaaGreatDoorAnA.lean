/- The functions of chapter 1 that take numbers, each with one contract: whatever the arguments, what it answers is said by plain functions. No condition. -/
import Derived.Test.YtjfkeflmbgfhmaaGreatDoorLwD
import Derived.Test.YtjfkeflmbgfhmaaGreatDoorAnD
namespace Go.Proofs.YtjfkeflmbgfhmaaGreatDoor
open Go.ChangeShapes Go.WideShapes Go.ChangeAt Go.RowKit


theorem tsB_no {s n : Int} (h : (s < 3 ∨ 24 < s) ∨ (n < 0 ∨ 1000000000000 < n)) : tsB s n = false := by simp [tsB]; omega
theorem tsB_yes {s n : Int} (h : ¬ ((s < 3 ∨ 24 < s) ∨ (n < 0 ∨ 1000000000000 < n))) : tsB s n = true := by simp [tsB]; omega
theorem pnB_no {s n : Int} (h : (s < 3 ∨ 24 < s) ∨ (n < 0 ∨ 100000 < n)) : pnB s n = false := by simp [pnB]; omega
theorem pnB_yes {s n : Int} (h : ¬ ((s < 3 ∨ 24 < s) ∨ (n < 0 ∨ 100000 < n))) : pnB s n = true := by simp [pnB]; omega
theorem wnB_no {s n : Int} (h : (s < 3 ∨ 24 < s) ∨ (n < -100000 ∨ 100000 < n)) : wnB s n = false := by simp [wnB]; omega
theorem wnB_yes {s n : Int} (h : ¬ ((s < 3 ∨ 24 < s) ∨ (n < -100000 ∨ 100000 < n))) : wnB s n = true := by simp [wnB]; omega
theorem gnB_no {s n : Int} (h : (s < 3 ∨ 24 < s) ∨ (n < 1 ∨ 100000 < n)) : gnB s n = false := by simp [gnB]; omega
theorem gnB_yes {s n : Int} (h : ¬ ((s < 3 ∨ 24 < s) ∨ (n < 1 ∨ 100000 < n))) : gnB s n = true := by simp [gnB]; omega
theorem spec_WideNumber_any (s n : Int) (w : World) :
    Calls Tryz.prog 17 #[.int .i64 s, .int .i64 n] w fun e w' => e = .returned (.tuple #[.int .i64 (wnV s n), .bool (wnB s n)]) ∧ w = w' := by
  by_cases h : (s < 3 ∨ 24 < s) ∨ (n < -100000 ∨ 100000 < n)
  · have e := wnB_no h
    rw [show wnV s n = 0 from by simp [wnV, e], e]
    exact spec_WideNumber_no s n w h
  · have e := wnB_yes h
    rw [show wnV s n = num s n from by simp [wnV, e], e]
    exact spec_WideNumber_yes s n w (by omega) (by omega) (by omega) (by omega)
theorem spec_CentredNumber_any (s n : Int) (w : World) :
    Calls Tryz.prog 20 #[.int .i64 s, .int .i64 n] w fun e w' => e = .returned (.tuple #[.int .i64 (cnV s n), .bool (gnB s n)]) ∧ w = w' := by
  by_cases h : (s < 3 ∨ 24 < s) ∨ (n < 1 ∨ 100000 < n)
  · have e := gnB_no h
    rw [show cnV s n = 0 from by simp [cnV, e], e]
    exact spec_CentredNumber_no s n w h
  · have e := gnB_yes h
    rw [show cnV s n = cen s n from by simp [cnV, e], e]
    exact spec_CentredNumber_yes s n w (by omega) (by omega) (by omega) (by omega)
theorem spec_CentredPlace_any (s n : Int) (w : World) :
    Calls Tryz.prog 23 #[.int .i64 s, .int .i64 n] w fun e w' => e = .returned (.tuple #[.int .i64 (cpV s n), .bool (cpB s n)]) ∧ w = w' := by
  by_cases h : (s < 3 ∨ 24 < s) ∨ (n < 0 ∨ 1000000000000 < n)
  · have e := tsB_no h
    rw [show cpV s n = 0 from by simp [cpV, cpB, e], show cpB s n = false from by simp [cpB, e]]
    exact spec_CentredPlace_no s n w h
  · have e := tsB_yes h
    by_cases c : cen s (cpl s n) = n
    · rw [show cpV s n = cpl s n from by simp [cpV, cpB, e, c], show cpB s n = true from by simp [cpB, e, c]]
      exact spec_CentredPlace_yes s n w (by omega) (by omega) (by omega) (by omega) c
    · rw [show cpV s n = 0 from by simp [cpV, cpB, e, c], show cpB s n = false from by simp [cpB, e, c]]
      exact spec_CentredPlace_miss s n w (by omega) (by omega) (by omega) (by omega) c
theorem impl_PolygonNumber_any (s n : Int) (w : World) :
    Calls Tryz.prog 9 #[.int .i64 s, .int .i64 n] w fun e w' => e = .returned (.tuple #[.int .i64 (pnV s n), .bool (pnB s n)]) ∧ Below w.heap.size w w' := by
  by_cases h : (s < 3 ∨ 24 < s) ∨ (n < 0 ∨ 100000 < n)
  · have e := pnB_no h
    rw [show pnV s n = 0 from by simp [pnV, e], e]
    first | exact impl_PolygonNumber_no s n w h | exact (impl_PolygonNumber_no s n w h).mono (fun e w' h => ⟨h.1, by rw [← h.2]; exact Below.refl _ _⟩)
  · have e := pnB_yes h
    rw [show pnV s n = num s n from by simp [pnV, e], e]
    first | exact impl_PolygonNumber_yes s n w (by omega) (by omega) (by omega) (by omega) | exact (impl_PolygonNumber_yes s n w (by omega) (by omega) (by omega) (by omega)).mono (fun e w' h => ⟨h.1, by rw [← h.2]; exact Below.refl _ _⟩)
theorem impl_CountUpTo_any (s n : Int) (w : World) :
    Calls Tryz.prog 29 #[.int .i64 s, .int .i64 n] w fun e w' => e = .returned (.tuple #[.int .i64 (cuV s n), .bool (tsB s n)]) ∧ Below w.heap.size w w' := by
  by_cases h : (s < 3 ∨ 24 < s) ∨ (n < 0 ∨ 1000000000000 < n)
  · have e := tsB_no h
    rw [show cuV s n = 0 from by simp [cuV, e], e]
    first | exact impl_CountUpTo_no s n w h | exact (impl_CountUpTo_no s n w h).mono (fun e w' h => ⟨h.1, by rw [← h.2]; exact Below.refl _ _⟩)
  · have e := tsB_yes h
    rw [show cuV s n = pl s n from by simp [cuV, e], e]
    first | exact impl_CountUpTo_yes s n w (by omega) (by omega) (by omega) (by omega) | exact (impl_CountUpTo_yes s n w (by omega) (by omega) (by omega) (by omega)).mono (fun e w' h => ⟨h.1, by rw [← h.2]; exact Below.refl _ _⟩)
theorem impl_WideNumber_any (s n : Int) (w : World) :
    Calls Tryz.prog 16 #[.int .i64 s, .int .i64 n] w fun e w' => e = .returned (.tuple #[.int .i64 (wnV s n), .bool (wnB s n)]) ∧ Below w.heap.size w w' := by
  by_cases h : (s < 3 ∨ 24 < s) ∨ (n < -100000 ∨ 100000 < n)
  · have e := wnB_no h
    rw [show wnV s n = 0 from by simp [wnV, e], e]
    first | exact impl_WideNumber_no s n w h | exact (impl_WideNumber_no s n w h).mono (fun e w' h => ⟨h.1, by rw [← h.2]; exact Below.refl _ _⟩)
  · have e := wnB_yes h
    rw [show wnV s n = num s n from by simp [wnV, e], e]
    first | exact impl_WideNumber_yes s n w (by omega) (by omega) (by omega) (by omega) | exact (impl_WideNumber_yes s n w (by omega) (by omega) (by omega) (by omega)).mono (fun e w' h => ⟨h.1, by rw [← h.2]; exact Below.refl _ _⟩)
theorem impl_GnomonOf_any (s n : Int) (w : World) :
    Calls Tryz.prog 30 #[.int .i64 s, .int .i64 n] w fun e w' => e = .returned (.tuple #[.int .i64 (gnV s n), .bool (gnB s n)]) ∧ Below w.heap.size w w' := by
  by_cases h : (s < 3 ∨ 24 < s) ∨ (n < 1 ∨ 100000 < n)
  · have e := gnB_no h
    rw [show gnV s n = 0 from by simp [gnV, e], e]
    first | exact impl_GnomonOf_no s n w h | exact (impl_GnomonOf_no s n w h).mono (fun e w' h => ⟨h.1, by rw [← h.2]; exact Below.refl _ _⟩)
  · have e := gnB_yes h
    rw [show gnV s n = (s - 2) * (n - 1) + 1 from by simp [gnV, e], e]
    first | exact impl_GnomonOf_yes s n w (by omega) (by omega) (by omega) (by omega) | exact (impl_GnomonOf_yes s n w (by omega) (by omega) (by omega) (by omega)).mono (fun e w' h => ⟨h.1, by rw [← h.2]; exact Below.refl _ _⟩)
theorem impl_CentredNumber_any (s n : Int) (w : World) :
    Calls Tryz.prog 19 #[.int .i64 s, .int .i64 n] w fun e w' => e = .returned (.tuple #[.int .i64 (cnV s n), .bool (gnB s n)]) ∧ Below w.heap.size w w' := by
  by_cases h : (s < 3 ∨ 24 < s) ∨ (n < 1 ∨ 100000 < n)
  · have e := gnB_no h
    rw [show cnV s n = 0 from by simp [cnV, e], e]
    first | exact impl_CentredNumber_no s n w h | exact (impl_CentredNumber_no s n w h).mono (fun e w' h => ⟨h.1, by rw [← h.2]; exact Below.refl _ _⟩)
  · have e := gnB_yes h
    rw [show cnV s n = cen s n from by simp [cnV, e], e]
    first | exact impl_CentredNumber_yes s n w (by omega) (by omega) (by omega) (by omega) | exact (impl_CentredNumber_yes s n w (by omega) (by omega) (by omega) (by omega)).mono (fun e w' h => ⟨h.1, by rw [← h.2]; exact Below.refl _ _⟩)
theorem impl_CentredPlace_any (s n : Int) (w : World) :
    Calls Tryz.prog 22 #[.int .i64 s, .int .i64 n] w fun e w' => e = .returned (.tuple #[.int .i64 (cpV s n), .bool (cpB s n)]) ∧ Below w.heap.size w w' := by
  by_cases h : (s < 3 ∨ 24 < s) ∨ (n < 0 ∨ 1000000000000 < n)
  · have e := tsB_no h
    rw [show cpV s n = 0 from by simp [cpV, cpB, e], show cpB s n = false from by simp [cpB, e]]
    first | exact impl_CentredPlace_no s n w h | exact (impl_CentredPlace_no s n w h).mono (fun e w' h => ⟨h.1, by rw [← h.2]; exact Below.refl _ _⟩)
  · have e := tsB_yes h
    by_cases c : cen s (cpl s n) = n
    · rw [show cpV s n = cpl s n from by simp [cpV, cpB, e, c], show cpB s n = true from by simp [cpB, e, c]]
      first | exact impl_CentredPlace_yes s n w (by omega) (by omega) (by omega) (by omega) c | exact (impl_CentredPlace_yes s n w (by omega) (by omega) (by omega) (by omega) c).mono (fun e w' h => ⟨h.1, by rw [← h.2]; exact Below.refl _ _⟩)
    · rw [show cpV s n = 0 from by simp [cpV, cpB, e, c], show cpB s n = false from by simp [cpB, e, c]]
      first | exact impl_CentredPlace_miss s n w (by omega) (by omega) (by omega) (by omega) c | exact (impl_CentredPlace_miss s n w (by omega) (by omega) (by omega) (by omega) c).mono (fun e w' h => ⟨h.1, by rw [← h.2]; exact Below.refl _ _⟩)
theorem impl_WidePlace_any (s n : Int) (w : World) :
    Calls Tryz.prog 31 #[.int .i64 s, .int .i64 n] w fun e w' => e = .returned (.tuple #[.int .i64 (wdV s n), .bool (wdB s n)]) ∧ Below w.heap.size w w' := by
  by_cases h : (s < 3 ∨ 24 < s) ∨ (n < 0 ∨ 1000000000000 < n)
  · have e := tsB_no h
    rw [show wdV s n = 0 from by simp [wdV, wdB, poB, e], show wdB s n = false from by simp [wdB, e]]
    first | exact impl_WidePlace_no s n w h | exact (impl_WidePlace_no s n w h).mono (fun e w' h => ⟨h.1, by rw [← h.2]; exact Below.refl _ _⟩)
  · have e := tsB_yes h
    by_cases c : num s (pl s n) = n <;> by_cases c2 : num s (-wl s n) = n
    · rw [show wdV s n = pl s n from by simp [wdV, poB, e, c], show wdB s n = true from by simp [wdB, e, c]]
      first | exact impl_WidePlace_A1 s n w (by omega) (by omega) (by omega) (by omega) c c2 | exact (impl_WidePlace_A1 s n w (by omega) (by omega) (by omega) (by omega) c c2).mono (fun e w' h => ⟨h.1, by rw [← h.2]; exact Below.refl _ _⟩)
    · rw [show wdV s n = pl s n from by simp [wdV, poB, e, c], show wdB s n = true from by simp [wdB, e, c]]
      first | exact impl_WidePlace_A2 s n w (by omega) (by omega) (by omega) (by omega) c c2 | exact (impl_WidePlace_A2 s n w (by omega) (by omega) (by omega) (by omega) c c2).mono (fun e w' h => ⟨h.1, by rw [← h.2]; exact Below.refl _ _⟩)
    · rw [show wdV s n = -wl s n from by simp [wdV, wdB, poB, e, c, c2], show wdB s n = true from by simp [wdB, e, c2]]
      first | exact impl_WidePlace_B s n w (by omega) (by omega) (by omega) (by omega) c c2 | exact (impl_WidePlace_B s n w (by omega) (by omega) (by omega) (by omega) c c2).mono (fun e w' h => ⟨h.1, by rw [← h.2]; exact Below.refl _ _⟩)
    · rw [show wdV s n = 0 from by simp [wdV, wdB, poB, e, c, c2], show wdB s n = false from by simp [wdB, e, c, c2]]
      first | exact impl_WidePlace_C s n w (by omega) (by omega) (by omega) (by omega) c c2 | exact (impl_WidePlace_C s n w (by omega) (by omega) (by omega) (by omega) c c2).mono (fun e w' h => ⟨h.1, by rw [← h.2]; exact Below.refl _ _⟩)
end Go.Proofs.YtjfkeflmbgfhmaaGreatDoor
