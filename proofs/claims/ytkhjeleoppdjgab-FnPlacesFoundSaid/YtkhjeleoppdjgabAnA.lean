/- The functions of chapter 1 that take numbers, each with one contract: whatever the arguments, what it answers is said by plain functions. No condition. -/
import Derived.Test.YtkhjeleoppdjgabLwD
import Derived.Test.YtkhjeleoppdjgabAnD
namespace Go.Proofs.Ytkhjeleoppdjgab
open Go.ChangeShapes Go.WideShapes Go.ChangeAt Go.RowKit


theorem tsB_no {s n : Int} (h : (s < 3 ∨ 24 < s) ∨ (n < 0 ∨ 1000000000000 < n)) : tsB s n = false := by simp [tsB]; omega
theorem tsB_yes {s n : Int} (h : ¬ ((s < 3 ∨ 24 < s) ∨ (n < 0 ∨ 1000000000000 < n))) : tsB s n = true := by simp [tsB]; omega
theorem pnB_no {s n : Int} (h : (s < 3 ∨ 24 < s) ∨ (n < 0 ∨ 100000 < n)) : pnB s n = false := by simp [pnB]; omega
theorem pnB_yes {s n : Int} (h : ¬ ((s < 3 ∨ 24 < s) ∨ (n < 0 ∨ 100000 < n))) : pnB s n = true := by simp [pnB]; omega
theorem wnB_no {s n : Int} (h : (s < 3 ∨ 24 < s) ∨ (n < -100000 ∨ 100000 < n)) : wnB s n = false := by simp [wnB]; omega
theorem wnB_yes {s n : Int} (h : ¬ ((s < 3 ∨ 24 < s) ∨ (n < -100000 ∨ 100000 < n))) : wnB s n = true := by simp [wnB]; omega
theorem gnB_no {s n : Int} (h : (s < 3 ∨ 24 < s) ∨ (n < 1 ∨ 100000 < n)) : gnB s n = false := by simp [gnB]; omega
theorem gnB_yes {s n : Int} (h : ¬ ((s < 3 ∨ 24 < s) ∨ (n < 1 ∨ 100000 < n))) : gnB s n = true := by simp [gnB]; omega
theorem spec_PolygonNumber_any (s n : Int) (w : World) :
    Calls Try.prog 47 #[.int .i64 s, .int .i64 n] w fun e w' => e = .returned (.tuple #[.int .i64 (pnV s n), .bool (pnB s n)]) ∧ w = w' := by
  by_cases h : (s < 3 ∨ 24 < s) ∨ (n < 0 ∨ 100000 < n)
  · have e := pnB_no h
    rw [show pnV s n = 0 from by simp [pnV, e], e]
    exact spec_PolygonNumber_no s n w h
  · have e := pnB_yes h
    rw [show pnV s n = num s n from by simp [pnV, e], e]
    exact spec_PolygonNumber_yes s n w (by omega) (by omega) (by omega) (by omega)
theorem spec_PlaceOf_any (s n : Int) (w : World) :
    Calls Try.prog 29 #[.int .i64 s, .int .i64 n] w fun e w' => e = .returned (.tuple #[.int .i64 (poV s n), .bool (poB s n)]) ∧ w = w' := by
  by_cases h : (s < 3 ∨ 24 < s) ∨ (n < 0 ∨ 1000000000000 < n)
  · have e := tsB_no h
    rw [show poV s n = 0 from by simp [poV, poB, e], show poB s n = false from by simp [poB, e]]
    exact spec_PlaceOf_no s n w h
  · have e := tsB_yes h
    by_cases c : num s (pl s n) = n
    · rw [show poV s n = pl s n from by simp [poV, poB, e, c], show poB s n = true from by simp [poB, e, c]]
      exact spec_PlaceOf_yes s n w (by omega) (by omega) (by omega) (by omega) c
    · rw [show poV s n = 0 from by simp [poV, poB, e, c], show poB s n = false from by simp [poB, e, c]]
      exact spec_PlaceOf_miss s n w (by omega) (by omega) (by omega) (by omega) c
theorem spec_IsPolygonal_any (s n : Int) (w : World) :
    Calls Try.prog 31 #[.int .i64 s, .int .i64 n] w fun e w' => e = .returned (.tuple #[.bool (poB s n), .bool (tsB s n)]) ∧ w = w' := by
  by_cases h : (s < 3 ∨ 24 < s) ∨ (n < 0 ∨ 1000000000000 < n)
  · have e := tsB_no h
    rw [show poB s n = false from by simp [poB, e], e]
    exact spec_IsPolygonal_no s n w h
  · have e := tsB_yes h
    by_cases c : num s (pl s n) = n
    · rw [show poB s n = true from by simp [poB, e, c], e]
      exact spec_IsPolygonal_yes s n w (by omega) (by omega) (by omega) (by omega) c
    · rw [show poB s n = false from by simp [poB, e, c], e]
      exact spec_IsPolygonal_miss s n w (by omega) (by omega) (by omega) (by omega) c
theorem spec_NextPolygonal_any (s n : Int) (w : World) :
    Calls Try.prog 33 #[.int .i64 s, .int .i64 n] w fun e w' => e = .returned (.tuple #[.int .i64 (npV s n), .bool (tsB s n)]) ∧ w = w' := by
  by_cases h : (s < 3 ∨ 24 < s) ∨ (n < 0 ∨ 1000000000000 < n)
  · have e := tsB_no h
    rw [show npV s n = 0 from by simp [npV, e], e]
    exact spec_NextPolygonal_no s n w h
  · have e := tsB_yes h
    rw [show npV s n = num s (pl s n + 1) from by simp [npV, e], e]
    exact spec_NextPolygonal_yes s n w (by omega) (by omega) (by omega) (by omega)
theorem spec_CountUpTo_any (s n : Int) (w : World) :
    Calls Try.prog 35 #[.int .i64 s, .int .i64 n] w fun e w' => e = .returned (.tuple #[.int .i64 (cuV s n), .bool (tsB s n)]) ∧ w = w' := by
  by_cases h : (s < 3 ∨ 24 < s) ∨ (n < 0 ∨ 1000000000000 < n)
  · have e := tsB_no h
    rw [show cuV s n = 0 from by simp [cuV, e], e]
    exact spec_CountUpTo_no s n w h
  · have e := tsB_yes h
    rw [show cuV s n = pl s n from by simp [cuV, e], e]
    exact spec_CountUpTo_yes s n w (by omega) (by omega) (by omega) (by omega)
theorem spec_SquareTest_any (s n : Int) (w : World) :
    Calls Try.prog 37 #[.int .i64 s, .int .i64 n] w fun e w' => e = .returned (.tuple #[.int .i64 (stV s n), .bool (tsB s n)]) ∧ w = w' := by
  by_cases h : (s < 3 ∨ 24 < s) ∨ (n < 0 ∨ 1000000000000 < n)
  · have e := tsB_no h
    rw [show stV s n = 0 from by simp [stV, e], e]
    exact spec_SquareTest_no s n w h
  · have e := tsB_yes h
    rw [show stV s n = 8 * (s - 2) * n + (s - 4) * (s - 4) from by simp [stV, e], e]
    exact spec_SquareTest_yes s n w (by omega) (by omega) (by omega) (by omega)
theorem spec_GnomonOf_any (s n : Int) (w : World) :
    Calls Try.prog 46 #[.int .i64 s, .int .i64 n] w fun e w' => e = .returned (.tuple #[.int .i64 (gnV s n), .bool (gnB s n)]) ∧ w = w' := by
  by_cases h : (s < 3 ∨ 24 < s) ∨ (n < 1 ∨ 100000 < n)
  · have e := gnB_no h
    rw [show gnV s n = 0 from by simp [gnV, e], e]
    exact spec_GnomonOf_no s n w h
  · have e := gnB_yes h
    rw [show gnV s n = (s - 2) * (n - 1) + 1 from by simp [gnV, e], e]
    exact spec_GnomonOf_yes s n w (by omega) (by omega) (by omega) (by omega)
theorem spec_WidePlace_any (s n : Int) (w : World) :
    Calls Try.prog 39 #[.int .i64 s, .int .i64 n] w fun e w' => e = .returned (.tuple #[.int .i64 (wdV s n), .bool (wdB s n)]) ∧ w = w' := by
  by_cases h : (s < 3 ∨ 24 < s) ∨ (n < 0 ∨ 1000000000000 < n)
  · have e := tsB_no h
    rw [show wdV s n = 0 from by simp [wdV, wdB, poB, e], show wdB s n = false from by simp [wdB, e]]
    exact spec_WidePlace_no s n w h
  · have e := tsB_yes h
    by_cases c : num s (pl s n) = n <;> by_cases c2 : num s (-wl s n) = n
    · rw [show wdV s n = pl s n from by simp [wdV, poB, e, c], show wdB s n = true from by simp [wdB, e, c]]
      exact spec_WidePlace_A1 s n w (by omega) (by omega) (by omega) (by omega) c c2
    · rw [show wdV s n = pl s n from by simp [wdV, poB, e, c], show wdB s n = true from by simp [wdB, e, c]]
      exact spec_WidePlace_A2 s n w (by omega) (by omega) (by omega) (by omega) c c2
    · rw [show wdV s n = -wl s n from by simp [wdV, wdB, poB, e, c, c2], show wdB s n = true from by simp [wdB, e, c2]]
      exact spec_WidePlace_B s n w (by omega) (by omega) (by omega) (by omega) c c2
    · rw [show wdV s n = 0 from by simp [wdV, wdB, poB, e, c, c2], show wdB s n = false from by simp [wdB, e, c, c2]]
      exact spec_WidePlace_C s n w (by omega) (by omega) (by omega) (by omega) c c2
theorem spec_RootOf_any (n : Int) (w : World) :
    Calls Try.prog 49 #[.int .i64 n] w fun e w' => e = .returned (.tuple #[.int .i64 (rtV n), .bool (rtB n)]) ∧ w = w' := by
  by_cases h : n < 0 ∨ 4000000000000000000 < n
  · have e : rtB n = false := by simp [rtB]; omega
    rw [show rtV n = 0 from by simp [rtV, e], e]
    exact spec_RootOf_no n w h
  · have e : rtB n = true := by simp [rtB]; omega
    rw [show rtV n = rt n from by simp [rtV, e], e]
    exact spec_RootOf_yes n w (by omega) (by omega)
theorem impl_PolygonNumber_any (s n : Int) (w : World) :
    Calls Try.prog 41 #[.int .i64 s, .int .i64 n] w fun e w' => e = .returned (.tuple #[.int .i64 (pnV s n), .bool (pnB s n)]) ∧ Below w.heap.size w w' := by
  by_cases h : (s < 3 ∨ 24 < s) ∨ (n < 0 ∨ 100000 < n)
  · have e := pnB_no h
    rw [show pnV s n = 0 from by simp [pnV, e], e]
    first | exact impl_PolygonNumber_no s n w h | exact (impl_PolygonNumber_no s n w h).mono (fun e w' h => ⟨h.1, by rw [← h.2]; exact Below.refl _ _⟩)
  · have e := pnB_yes h
    rw [show pnV s n = num s n from by simp [pnV, e], e]
    first | exact impl_PolygonNumber_yes s n w (by omega) (by omega) (by omega) (by omega) | exact (impl_PolygonNumber_yes s n w (by omega) (by omega) (by omega) (by omega)).mono (fun e w' h => ⟨h.1, by rw [← h.2]; exact Below.refl _ _⟩)
theorem impl_PlaceOf_any (s n : Int) (w : World) :
    Calls Try.prog 28 #[.int .i64 s, .int .i64 n] w fun e w' => e = .returned (.tuple #[.int .i64 (poV s n), .bool (poB s n)]) ∧ Below w.heap.size w w' := by
  by_cases h : (s < 3 ∨ 24 < s) ∨ (n < 0 ∨ 1000000000000 < n)
  · have e := tsB_no h
    rw [show poV s n = 0 from by simp [poV, poB, e], show poB s n = false from by simp [poB, e]]
    first | exact impl_PlaceOf_no s n w h | exact (impl_PlaceOf_no s n w h).mono (fun e w' h => ⟨h.1, by rw [← h.2]; exact Below.refl _ _⟩)
  · have e := tsB_yes h
    by_cases c : num s (pl s n) = n
    · rw [show poV s n = pl s n from by simp [poV, poB, e, c], show poB s n = true from by simp [poB, e, c]]
      first | exact impl_PlaceOf_yes s n w (by omega) (by omega) (by omega) (by omega) c | exact (impl_PlaceOf_yes s n w (by omega) (by omega) (by omega) (by omega) c).mono (fun e w' h => ⟨h.1, by rw [← h.2]; exact Below.refl _ _⟩)
    · rw [show poV s n = 0 from by simp [poV, poB, e, c], show poB s n = false from by simp [poB, e, c]]
      first | exact impl_PlaceOf_miss s n w (by omega) (by omega) (by omega) (by omega) c | exact (impl_PlaceOf_miss s n w (by omega) (by omega) (by omega) (by omega) c).mono (fun e w' h => ⟨h.1, by rw [← h.2]; exact Below.refl _ _⟩)
theorem impl_IsPolygonal_any (s n : Int) (w : World) :
    Calls Try.prog 30 #[.int .i64 s, .int .i64 n] w fun e w' => e = .returned (.tuple #[.bool (poB s n), .bool (tsB s n)]) ∧ Below w.heap.size w w' := by
  by_cases h : (s < 3 ∨ 24 < s) ∨ (n < 0 ∨ 1000000000000 < n)
  · have e := tsB_no h
    rw [show poB s n = false from by simp [poB, e], e]
    first | exact impl_IsPolygonal_no s n w h | exact (impl_IsPolygonal_no s n w h).mono (fun e w' h => ⟨h.1, by rw [← h.2]; exact Below.refl _ _⟩)
  · have e := tsB_yes h
    by_cases c : num s (pl s n) = n
    · rw [show poB s n = true from by simp [poB, e, c], e]
      first | exact impl_IsPolygonal_yes s n w (by omega) (by omega) (by omega) (by omega) c | exact (impl_IsPolygonal_yes s n w (by omega) (by omega) (by omega) (by omega) c).mono (fun e w' h => ⟨h.1, by rw [← h.2]; exact Below.refl _ _⟩)
    · rw [show poB s n = false from by simp [poB, e, c], e]
      first | exact impl_IsPolygonal_miss s n w (by omega) (by omega) (by omega) (by omega) c | exact (impl_IsPolygonal_miss s n w (by omega) (by omega) (by omega) (by omega) c).mono (fun e w' h => ⟨h.1, by rw [← h.2]; exact Below.refl _ _⟩)
theorem impl_NextPolygonal_any (s n : Int) (w : World) :
    Calls Try.prog 32 #[.int .i64 s, .int .i64 n] w fun e w' => e = .returned (.tuple #[.int .i64 (npV s n), .bool (tsB s n)]) ∧ Below w.heap.size w w' := by
  by_cases h : (s < 3 ∨ 24 < s) ∨ (n < 0 ∨ 1000000000000 < n)
  · have e := tsB_no h
    rw [show npV s n = 0 from by simp [npV, e], e]
    first | exact impl_NextPolygonal_no s n w h | exact (impl_NextPolygonal_no s n w h).mono (fun e w' h => ⟨h.1, by rw [← h.2]; exact Below.refl _ _⟩)
  · have e := tsB_yes h
    rw [show npV s n = num s (pl s n + 1) from by simp [npV, e], e]
    first | exact impl_NextPolygonal_yes s n w (by omega) (by omega) (by omega) (by omega) | exact (impl_NextPolygonal_yes s n w (by omega) (by omega) (by omega) (by omega)).mono (fun e w' h => ⟨h.1, by rw [← h.2]; exact Below.refl _ _⟩)
theorem impl_CountUpTo_any (s n : Int) (w : World) :
    Calls Try.prog 34 #[.int .i64 s, .int .i64 n] w fun e w' => e = .returned (.tuple #[.int .i64 (cuV s n), .bool (tsB s n)]) ∧ Below w.heap.size w w' := by
  by_cases h : (s < 3 ∨ 24 < s) ∨ (n < 0 ∨ 1000000000000 < n)
  · have e := tsB_no h
    rw [show cuV s n = 0 from by simp [cuV, e], e]
    first | exact impl_CountUpTo_no s n w h | exact (impl_CountUpTo_no s n w h).mono (fun e w' h => ⟨h.1, by rw [← h.2]; exact Below.refl _ _⟩)
  · have e := tsB_yes h
    rw [show cuV s n = pl s n from by simp [cuV, e], e]
    first | exact impl_CountUpTo_yes s n w (by omega) (by omega) (by omega) (by omega) | exact (impl_CountUpTo_yes s n w (by omega) (by omega) (by omega) (by omega)).mono (fun e w' h => ⟨h.1, by rw [← h.2]; exact Below.refl _ _⟩)
theorem impl_SquareTest_any (s n : Int) (w : World) :
    Calls Try.prog 36 #[.int .i64 s, .int .i64 n] w fun e w' => e = .returned (.tuple #[.int .i64 (stV s n), .bool (tsB s n)]) ∧ Below w.heap.size w w' := by
  by_cases h : (s < 3 ∨ 24 < s) ∨ (n < 0 ∨ 1000000000000 < n)
  · have e := tsB_no h
    rw [show stV s n = 0 from by simp [stV, e], e]
    first | exact impl_SquareTest_no s n w h | exact (impl_SquareTest_no s n w h).mono (fun e w' h => ⟨h.1, by rw [← h.2]; exact Below.refl _ _⟩)
  · have e := tsB_yes h
    rw [show stV s n = 8 * (s - 2) * n + (s - 4) * (s - 4) from by simp [stV, e], e]
    first | exact impl_SquareTest_yes s n w (by omega) (by omega) (by omega) (by omega) | exact (impl_SquareTest_yes s n w (by omega) (by omega) (by omega) (by omega)).mono (fun e w' h => ⟨h.1, by rw [← h.2]; exact Below.refl _ _⟩)
theorem impl_WideNumber_any (s n : Int) (w : World) :
    Calls Try.prog 42 #[.int .i64 s, .int .i64 n] w fun e w' => e = .returned (.tuple #[.int .i64 (wnV s n), .bool (wnB s n)]) ∧ Below w.heap.size w w' := by
  by_cases h : (s < 3 ∨ 24 < s) ∨ (n < -100000 ∨ 100000 < n)
  · have e := wnB_no h
    rw [show wnV s n = 0 from by simp [wnV, e], e]
    first | exact impl_WideNumber_no s n w h | exact (impl_WideNumber_no s n w h).mono (fun e w' h => ⟨h.1, by rw [← h.2]; exact Below.refl _ _⟩)
  · have e := wnB_yes h
    rw [show wnV s n = num s n from by simp [wnV, e], e]
    first | exact impl_WideNumber_yes s n w (by omega) (by omega) (by omega) (by omega) | exact (impl_WideNumber_yes s n w (by omega) (by omega) (by omega) (by omega)).mono (fun e w' h => ⟨h.1, by rw [← h.2]; exact Below.refl _ _⟩)
theorem impl_GnomonOf_any (s n : Int) (w : World) :
    Calls Try.prog 45 #[.int .i64 s, .int .i64 n] w fun e w' => e = .returned (.tuple #[.int .i64 (gnV s n), .bool (gnB s n)]) ∧ Below w.heap.size w w' := by
  by_cases h : (s < 3 ∨ 24 < s) ∨ (n < 1 ∨ 100000 < n)
  · have e := gnB_no h
    rw [show gnV s n = 0 from by simp [gnV, e], e]
    first | exact impl_GnomonOf_no s n w h | exact (impl_GnomonOf_no s n w h).mono (fun e w' h => ⟨h.1, by rw [← h.2]; exact Below.refl _ _⟩)
  · have e := gnB_yes h
    rw [show gnV s n = (s - 2) * (n - 1) + 1 from by simp [gnV, e], e]
    first | exact impl_GnomonOf_yes s n w (by omega) (by omega) (by omega) (by omega) | exact (impl_GnomonOf_yes s n w (by omega) (by omega) (by omega) (by omega)).mono (fun e w' h => ⟨h.1, by rw [← h.2]; exact Below.refl _ _⟩)
theorem impl_WidePlace_any (s n : Int) (w : World) :
    Calls Try.prog 38 #[.int .i64 s, .int .i64 n] w fun e w' => e = .returned (.tuple #[.int .i64 (wdV s n), .bool (wdB s n)]) ∧ Below w.heap.size w w' := by
  by_cases h : (s < 3 ∨ 24 < s) ∨ (n < 0 ∨ 1000000000000 < n)
  · have e := tsB_no h
    rw [show wdV s n = 0 from by simp [wdV, wdB, poB, e], show wdB s n = false from by simp [wdB, e]]
    first | exact impl_WidePlace_no s n w h | exact (impl_WidePlace_no s n w h).mono (fun e w' h => ⟨h.1, by rw [← h.2]; exact Below.refl _ _⟩)
  · have e := tsB_yes h
    by_cases c : num s (pl s n) = n <;> by_cases c2 : num s (-wl s n) = n
    · rw [show wdV s n = pl s n from by simp [wdV, poB, e, c], show wdB s n = true from by simp [wdB, e, c]]
      first | exact impl_WidePlace_A1 s n w (by omega) (by omega) (by omega) (by omega) c c2 | exact (impl_WidePlace_A1 s n w (by omega) (by omega) (by omega) (by omega) c c2).mono (fun e w' h => ⟨h.1, by rw [← h.2]; exact Below.refl _ _⟩)
    · rw [show wdV s n = pl s n from by simp [wdV, poB, e, c], show wdB s n = true from by simp [wdB, e, c]]
      first | exact impl_WidePlace_A2 s n w (by omega) (by omega) (by omega) (by omega) c c2 | exact (impl_WidePlace_A2 s n w (by omega) (by omega) (by omega) (by omega) c c2).mono (fun e w' h => ⟨h.1, by rw [← h.2]; exact Below.refl _ _⟩)
    · rw [show wdV s n = -wl s n from by simp [wdV, wdB, poB, e, c, c2], show wdB s n = true from by simp [wdB, e, c2]]
      first | exact impl_WidePlace_B s n w (by omega) (by omega) (by omega) (by omega) c c2 | exact (impl_WidePlace_B s n w (by omega) (by omega) (by omega) (by omega) c c2).mono (fun e w' h => ⟨h.1, by rw [← h.2]; exact Below.refl _ _⟩)
    · rw [show wdV s n = 0 from by simp [wdV, wdB, poB, e, c, c2], show wdB s n = false from by simp [wdB, e, c, c2]]
      first | exact impl_WidePlace_C s n w (by omega) (by omega) (by omega) (by omega) c c2 | exact (impl_WidePlace_C s n w (by omega) (by omega) (by omega) (by omega) c c2).mono (fun e w' h => ⟨h.1, by rw [← h.2]; exact Below.refl _ _⟩)
theorem impl_RootOf_any (n : Int) (w : World) :
    Calls Try.prog 40 #[.int .i64 n] w fun e w' => e = .returned (.tuple #[.int .i64 (rtV n), .bool (rtB n)]) ∧ Below w.heap.size w w' := by
  by_cases h : n < 0 ∨ 4000000000000000000 < n
  · have e : rtB n = false := by simp [rtB]; omega
    rw [show rtV n = 0 from by simp [rtV, e], e]
    first | exact impl_RootOf_no n w h | exact (impl_RootOf_no n w h).mono (fun e w' h => ⟨h.1, by rw [← h.2]; exact Below.refl _ _⟩)
  · have e : rtB n = true := by simp [rtB]; omega
    rw [show rtV n = rt n from by simp [rtV, e], e]
    first | exact impl_RootOf_yes n w (by omega) (by omega) | exact (impl_RootOf_yes n w (by omega) (by omega)).mono (fun e w' h => ⟨h.1, by rw [← h.2]; exact Below.refl _ _⟩)
end Go.Proofs.Ytkhjeleoppdjgab
