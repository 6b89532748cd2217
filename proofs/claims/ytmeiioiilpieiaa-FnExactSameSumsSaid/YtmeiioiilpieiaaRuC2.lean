/- Chapter 5: the law SameSums. -/
import Derived.Test.YtmeiioiilpieiaaRuC
namespace Go.Proofs.Ytmeiioiilpieiaa
open Go.ChangeShapes Go.WideShapes Go.ChangeAt Go.RowKit

set_option maxHeartbeats 1600000 in
theorem lawR_SameSums (l : Int) (ok : Bool) (x y z t : Int)
    (hs : ∀ w : World, Calls Try.prog 54 #[.int .i64 l] w fun e w' => e = .returned (.tuple #[.agg #[.int .i64 x, .int .i64 y], .agg #[.int .i64 z, .int .i64 t], .bool ok]) ∧ Below w.heap.size w w')
    (hi : ∀ w : World, Calls Try.prog 55 #[.int .i64 l] w fun e w' => e = .returned (.tuple #[.agg #[.int .i64 x, .int .i64 y], .agg #[.int .i64 z, .int .i64 t], .bool ok]) ∧ Below w.heap.size w w') (w : World) :
    Calls Try.prog 17 #[.int .i64 l] w fun e w' => e = .returned (.bool true) ∧ Below w.heap.size w w' := by
  have HS := Lib.hid hs
  have HI := Lib.hid hi
  clear hs hi
  go_enter Try.func17, Try.ntmps17
  go_wp2_with fail
  refine (HS.out _).mono ?_
  rintro e w1 ⟨rfl, hb1⟩
  go_wp2_with fail
  have hbA : Below w.heap.size w ((w1.alloc (.cells #[.int .i64 x, .int .i64 y] 26)).alloc (.cells #[.int .i64 z, .int .i64 t] 26)) := (hb1.alloc hb1.size _).alloc (by have := hb1.size; simp; omega) _
  have zA : w1.heap.size + 1 < ((w1.alloc (.cells #[.int .i64 x, .int .i64 y] 26)).alloc (.cells #[.int .i64 z, .int .i64 t] 26)).heap.size := by simp
  have p0 : ((w1.alloc (.cells #[.int .i64 x, .int .i64 y] 26)).alloc (.cells #[.int .i64 z, .int .i64 t] 26)).cell? ⟨w1.heap.size, 0, none⟩ = some (.int .i64 x) := by simp [go_sem]
  have p1 : ((w1.alloc (.cells #[.int .i64 x, .int .i64 y] 26)).alloc (.cells #[.int .i64 z, .int .i64 t] 26)).cell? ⟨w1.heap.size, 1, none⟩ = some (.int .i64 y) := by simp [go_sem]
  have p2 : ((w1.alloc (.cells #[.int .i64 x, .int .i64 y] 26)).alloc (.cells #[.int .i64 z, .int .i64 t] 26)).cell? ⟨w1.heap.size + 1, 0, none⟩ = some (.int .i64 z) := by simp [go_sem]
  have p3 : ((w1.alloc (.cells #[.int .i64 x, .int .i64 y] 26)).alloc (.cells #[.int .i64 z, .int .i64 t] 26)).cell? ⟨w1.heap.size + 1, 1, none⟩ = some (.int .i64 t) := by simp [go_sem]
  generalize (w1.alloc (.cells #[.int .i64 x, .int .i64 y] 26)).alloc (.cells #[.int .i64 z, .int .i64 t] 26) = wA at *
  obtain ⟨R, hR⟩ : ∃ R, R = w1.heap.size := ⟨_, rfl⟩
  rw [← hR] at zA p0 p1 p2 p3 ⊢
  clear hR hb1
  refine (HI.out _).mono ?_
  rintro e w2 ⟨rfl, hb2⟩
  have zz := hbA.size
  have hbB : Below wA.heap.size wA ((w2.alloc (.cells #[.int .i64 x, .int .i64 y] 26)).alloc (.cells #[.int .i64 z, .int .i64 t] 26)) := (hb2.alloc hb2.size _).alloc (by have := hb2.size; simp; omega) _
  have hb2B : Below w2.heap.size w2 ((w2.alloc (.cells #[.int .i64 x, .int .i64 y] 26)).alloc (.cells #[.int .i64 z, .int .i64 t] 26)) := ((Below.refl _ _).alloc (Nat.le_refl _) _).alloc (by simp) _
  have zB : w2.heap.size + 1 < ((w2.alloc (.cells #[.int .i64 x, .int .i64 y] 26)).alloc (.cells #[.int .i64 z, .int .i64 t] 26)).heap.size := by simp
  have s0 : ((w2.alloc (.cells #[.int .i64 x, .int .i64 y] 26)).alloc (.cells #[.int .i64 z, .int .i64 t] 26)).cell? ⟨w2.heap.size, 0, none⟩ = some (.int .i64 x) := by simp [go_sem]
  have s1 : ((w2.alloc (.cells #[.int .i64 x, .int .i64 y] 26)).alloc (.cells #[.int .i64 z, .int .i64 t] 26)).cell? ⟨w2.heap.size, 1, none⟩ = some (.int .i64 y) := by simp [go_sem]
  have s2 : ((w2.alloc (.cells #[.int .i64 x, .int .i64 y] 26)).alloc (.cells #[.int .i64 z, .int .i64 t] 26)).cell? ⟨w2.heap.size + 1, 0, none⟩ = some (.int .i64 z) := by simp [go_sem]
  have s3 : ((w2.alloc (.cells #[.int .i64 x, .int .i64 y] 26)).alloc (.cells #[.int .i64 z, .int .i64 t] 26)).cell? ⟨w2.heap.size + 1, 1, none⟩ = some (.int .i64 t) := by simp [go_sem]
  have r0 := (hbB.cell (p := ⟨R, 0, none⟩) (by simp; omega)).trans p0
  have r1 := (hbB.cell (p := ⟨R, 1, none⟩) (by simp; omega)).trans p1
  have r2 := (hbB.cell (p := ⟨R + 1, 0, none⟩) zA).trans p2
  have r3 := (hbB.cell (p := ⟨R + 1, 1, none⟩) zA).trans p3
  have hzR : R + 1 < w2.heap.size := Nat.lt_of_lt_of_le zA hb2.size
  go_wp2_with fail
  generalize (w2.alloc (.cells #[.int .i64 x, .int .i64 y] 26)).alloc (.cells #[.int .i64 z, .int .i64 t] 26) = wB at *
  obtain ⟨T, hT⟩ : ∃ T, T = w2.heap.size := ⟨_, rfl⟩
  rw [← hT] at zB s0 s1 s2 s3 hzR ⊢
  clear hT hb2 hb2B
  refine (eqRun_any x y _).mono ?_
  rintro e w3 ⟨rfl, hb3⟩
  have t2 := (hb3.cell (p := ⟨T + 1, 0, none⟩) zB).trans s2
  have t3 := (hb3.cell (p := ⟨T + 1, 1, none⟩) zB).trans s3
  have v2 := (hb3.cell (p := ⟨R + 1, 0, none⟩) (by simp; omega)).trans r2
  have v3 := (hb3.cell (p := ⟨R + 1, 1, none⟩) (by simp; omega)).trans r3
  go_wp2_with fail
  refine (eqRun_any z t _).mono ?_
  rintro e w4 ⟨rfl, hb4⟩
  go_wp2
  go_ret
  exact ⟨rfl, hbA.trans ((hbB.trans ((hb3.trans (hb4.mono hb3.size)).mono hbB.size)).mono zz)⟩
theorem walk_SameSums (l : Int) (w : World) : Calls Try.prog 17 #[.int .i64 l] w fun e w' => e = .returned (.bool true) ∧ Below w.heap.size w w' := by
  by_cases h : l < 1 ∨ 1000 < l
  · exact lawR_SameSums l false 0 0 0 0 (fun w => spec_SameSums_no l w h) (fun w => impl_SameSums_no l w h) w
  · have hb := same_b l (by omega) (by omega)
    exact lawR_SameSums l true _ _ _ _ (fun w => spec_SameSums_yes l w hb) (fun w => impl_SameSums_yes l w hb) w
end Go.Proofs.Ytmeiioiilpieiaa
