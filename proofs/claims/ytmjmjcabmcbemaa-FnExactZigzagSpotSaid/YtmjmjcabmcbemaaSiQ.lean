/- Chapter 6: the frames of the laws. -/
import Derived.Test.YtmjmjcabmcbemaaSiA
import Derived.BigRegion
namespace Go.Proofs.Ytmjmjcabmcbemaa
open Go.ChangeShapes Go.WideShapes Go.ChangeAt Go.RowKit

set_option maxHeartbeats 800000 in
theorem lawS_ZigzagSpot (n : Int) (ok : Bool) (x y : Int)
    (hs : ∀ w : World, Calls Try.prog 4 #[.int .i64 n] w fun e w' => e = .returned (.tuple #[.agg #[.int .i64 x, .int .i64 y], .bool ok]) ∧ Below w.heap.size w w')
    (hi : ∀ w : World, Calls Try.prog 5 #[.int .i64 n] w fun e w' => e = .returned (.tuple #[.agg #[.int .i64 x, .int .i64 y], .bool ok]) ∧ Below w.heap.size w w') (w : World) :
    Calls Try.prog 3 #[.int .i64 n] w fun e w' => e = .returned (.bool true) ∧ Below w.heap.size w w' := by
  have HS := Lib.hid hs
  have HI := Lib.hid hi
  clear hs hi
  go_enter Try.func3, Try.ntmps3
  go_wp2_with fail
  refine (HS.out _).mono ?_
  rintro e w1 ⟨rfl, hb1⟩
  go_wp2_with fail
  have hbA : Below w.heap.size w (w1.alloc (.cells #[.int .i64 x, .int .i64 y] 23)) := hb1.alloc hb1.size _
  have zA : w1.heap.size < (w1.alloc (.cells #[.int .i64 x, .int .i64 y] 23)).heap.size := by simp
  have p0 : (w1.alloc (.cells #[.int .i64 x, .int .i64 y] 23)).cell? ⟨w1.heap.size, 0, none⟩ = some (.int .i64 x) := by simp [go_sem]
  have p1 : (w1.alloc (.cells #[.int .i64 x, .int .i64 y] 23)).cell? ⟨w1.heap.size, 1, none⟩ = some (.int .i64 y) := by simp [go_sem]
  generalize (w1.alloc (.cells #[.int .i64 x, .int .i64 y] 23)) = wA at *
  obtain ⟨R, hR⟩ : ∃ R, R = w1.heap.size := ⟨_, rfl⟩
  rw [← hR] at zA p0 p1 ⊢
  clear hR hb1
  refine (HI.out _).mono ?_
  rintro e w2 ⟨rfl, hb2⟩
  have q0 := (hb2.cell (p := ⟨R, 0, none⟩) zA).trans p0
  have q1 := (hb2.cell (p := ⟨R, 1, none⟩) zA).trans p1
  have zB : R < w2.heap.size := Nat.lt_of_lt_of_le zA hb2.size
  have q2 : (w2.alloc (.cells #[.int .i64 x, .int .i64 y] 23)).cell? ⟨R, 0, none⟩ = some (.int .i64 x) := (((Below.refl w2.heap.size w2).alloc (Nat.le_refl _) _).cell (p := ⟨R, 0, none⟩) zB).trans q0
  have q3 : (w2.alloc (.cells #[.int .i64 x, .int .i64 y] 23)).cell? ⟨R, 1, none⟩ = some (.int .i64 y) := (((Below.refl w2.heap.size w2).alloc (Nat.le_refl _) _).cell (p := ⟨R, 1, none⟩) zB).trans q1
  go_wp2_with fail
  refine (eqSpot_same x y _).mono ?_
  rintro e w3 ⟨rfl, hb3⟩
  go_wp2
  go_ret
  have zz := hbA.size
  have hz2 := hb2.size
  exact ⟨rfl, hbA.trans ((hb2.trans ((((Below.refl _ _).alloc (Nat.le_refl _) _).trans (hb3.mono (by simp))).mono hz2)).mono zz)⟩
end Go.Proofs.Ytmjmjcabmcbemaa
