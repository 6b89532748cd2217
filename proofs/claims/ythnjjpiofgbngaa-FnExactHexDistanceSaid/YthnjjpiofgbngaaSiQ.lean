/- Chapter 6: the frames of the laws. -/
import Derived.Test.YthnjjpiofgbngaaSiA
import Derived.BigRegion
namespace Go.Proofs.Ythnjjpiofgbngaa
open Go.ChangeShapes Go.WideShapes Go.ChangeAt Go.RowKit

set_option maxHeartbeats 800000 in
theorem lawS_SpotOf (n : Int) (ok : Bool) (x y : Int)
    (hs : ∀ w : World, Calls Try.prog 20 #[.int .i64 n] w fun e w' => e = .returned (.tuple #[.agg #[.int .i64 x, .int .i64 y], .bool ok]) ∧ Below w.heap.size w w')
    (hi : ∀ w : World, Calls Try.prog 21 #[.int .i64 n] w fun e w' => e = .returned (.tuple #[.agg #[.int .i64 x, .int .i64 y], .bool ok]) ∧ Below w.heap.size w w') (w : World) :
    Calls Try.prog 3 #[.int .i64 n] w fun e w' => e = .returned (.bool true) ∧ Below w.heap.size w w' := by
  have HS := Lib.hid hs
  have HI := Lib.hid hi
  clear hs hi
  go_enter Try.func3, Try.ntmps3
  go_wp2_with fail
  refine (HS.out _).mono ?_
  rintro e w1 ⟨rfl, hb1⟩
  go_wp2_with fail
  have hbA : Below w.heap.size w (w1.alloc (.cells #[.int .i64 x, .int .i64 y] 23)) := hb1.alloc hb1.size _
  have zA : w1.heap.size < (w1.alloc (.cells #[.int .i64 x, .int .i64 y] 23)).heap.size := by simp
  have p0 : (w1.alloc (.cells #[.int .i64 x, .int .i64 y] 23)).cell? ⟨w1.heap.size, 0, none⟩ = some (.int .i64 x) := by simp [go_sem]
  have p1 : (w1.alloc (.cells #[.int .i64 x, .int .i64 y] 23)).cell? ⟨w1.heap.size, 1, none⟩ = some (.int .i64 y) := by simp [go_sem]
  generalize (w1.alloc (.cells #[.int .i64 x, .int .i64 y] 23)) = wA at *
  obtain ⟨R, hR⟩ : ∃ R, R = w1.heap.size := ⟨_, rfl⟩
  rw [← hR] at zA p0 p1 ⊢
  clear hR hb1
  refine (HI.out _).mono ?_
  rintro e w2 ⟨rfl, hb2⟩
  have q0 := (hb2.cell (p := ⟨R, 0, none⟩) zA).trans p0
  have q1 := (hb2.cell (p := ⟨R, 1, none⟩) zA).trans p1
  have zB : R < w2.heap.size := Nat.lt_of_lt_of_le zA hb2.size
  have q2 : (w2.alloc (.cells #[.int .i64 x, .int .i64 y] 23)).cell? ⟨R, 0, none⟩ = some (.int .i64 x) := (((Below.refl w2.heap.size w2).alloc (Nat.le_refl _) _).cell (p := ⟨R, 0, none⟩) zB).trans q0
  have q3 : (w2.alloc (.cells #[.int .i64 x, .int .i64 y] 23)).cell? ⟨R, 1, none⟩ = some (.int .i64 y) := (((Below.refl w2.heap.size w2).alloc (Nat.le_refl _) _).cell (p := ⟨R, 1, none⟩) zB).trans q1
  go_wp2_with fail
  refine (eqSpot_same x y _).mono ?_
  rintro e w3 ⟨rfl, hb3⟩
  go_wp2
  go_ret
  have zz := hbA.size
  have hz2 := hb2.size
  exact ⟨rfl, hbA.trans ((hb2.trans ((((Below.refl _ _).alloc (Nat.le_refl _) _).trans (hb3.mono (by simp))).mono hz2)).mono zz)⟩
set_option maxHeartbeats 800000 in
theorem lawS_StepFrom (n : Int) (ok : Bool) (x y : Int)
    (hs : ∀ w : World, Calls Try.prog 30 #[.int .i64 n] w fun e w' => e = .returned (.tuple #[.agg #[.int .i64 x, .int .i64 y], .bool ok]) ∧ Below w.heap.size w w')
    (hi : ∀ w : World, Calls Try.prog 31 #[.int .i64 n] w fun e w' => e = .returned (.tuple #[.agg #[.int .i64 x, .int .i64 y], .bool ok]) ∧ Below w.heap.size w w') (w : World) :
    Calls Try.prog 7 #[.int .i64 n] w fun e w' => e = .returned (.bool true) ∧ Below w.heap.size w w' := by
  have HS := Lib.hid hs
  have HI := Lib.hid hi
  clear hs hi
  go_enter Try.func7, Try.ntmps7
  go_wp2_with fail
  refine (HS.out _).mono ?_
  rintro e w1 ⟨rfl, hb1⟩
  go_wp2_with fail
  have hbA : Below w.heap.size w (w1.alloc (.cells #[.int .i64 x, .int .i64 y] 23)) := hb1.alloc hb1.size _
  have zA : w1.heap.size < (w1.alloc (.cells #[.int .i64 x, .int .i64 y] 23)).heap.size := by simp
  have p0 : (w1.alloc (.cells #[.int .i64 x, .int .i64 y] 23)).cell? ⟨w1.heap.size, 0, none⟩ = some (.int .i64 x) := by simp [go_sem]
  have p1 : (w1.alloc (.cells #[.int .i64 x, .int .i64 y] 23)).cell? ⟨w1.heap.size, 1, none⟩ = some (.int .i64 y) := by simp [go_sem]
  generalize (w1.alloc (.cells #[.int .i64 x, .int .i64 y] 23)) = wA at *
  obtain ⟨R, hR⟩ : ∃ R, R = w1.heap.size := ⟨_, rfl⟩
  rw [← hR] at zA p0 p1 ⊢
  clear hR hb1
  refine (HI.out _).mono ?_
  rintro e w2 ⟨rfl, hb2⟩
  have q0 := (hb2.cell (p := ⟨R, 0, none⟩) zA).trans p0
  have q1 := (hb2.cell (p := ⟨R, 1, none⟩) zA).trans p1
  have zB : R < w2.heap.size := Nat.lt_of_lt_of_le zA hb2.size
  have q2 : (w2.alloc (.cells #[.int .i64 x, .int .i64 y] 23)).cell? ⟨R, 0, none⟩ = some (.int .i64 x) := (((Below.refl w2.heap.size w2).alloc (Nat.le_refl _) _).cell (p := ⟨R, 0, none⟩) zB).trans q0
  have q3 : (w2.alloc (.cells #[.int .i64 x, .int .i64 y] 23)).cell? ⟨R, 1, none⟩ = some (.int .i64 y) := (((Below.refl w2.heap.size w2).alloc (Nat.le_refl _) _).cell (p := ⟨R, 1, none⟩) zB).trans q1
  go_wp2_with fail
  refine (eqSpot_same x y _).mono ?_
  rintro e w3 ⟨rfl, hb3⟩
  go_wp2
  go_ret
  have zz := hbA.size
  have hz2 := hb2.size
  exact ⟨rfl, hbA.trans ((hb2.trans ((((Below.refl _ _).alloc (Nat.le_refl _) _).trans (hb3.mono (by simp))).mono hz2)).mono zz)⟩
set_option maxHeartbeats 800000 in
theorem lawS_HexSpotOf (n : Int) (ok : Bool) (x y : Int)
    (hs : ∀ w : World, Calls Try.prog 46 #[.int .i64 n] w fun e w' => e = .returned (.tuple #[.agg #[.int .i64 x, .int .i64 y], .bool ok]) ∧ Below w.heap.size w w')
    (hi : ∀ w : World, Calls Try.prog 47 #[.int .i64 n] w fun e w' => e = .returned (.tuple #[.agg #[.int .i64 x, .int .i64 y], .bool ok]) ∧ Below w.heap.size w w') (w : World) :
    Calls Try.prog 12 #[.int .i64 n] w fun e w' => e = .returned (.bool true) ∧ Below w.heap.size w w' := by
  have HS := Lib.hid hs
  have HI := Lib.hid hi
  clear hs hi
  go_enter Try.func12, Try.ntmps12
  go_wp2_with fail
  refine (HS.out _).mono ?_
  rintro e w1 ⟨rfl, hb1⟩
  go_wp2_with fail
  have hbA : Below w.heap.size w (w1.alloc (.cells #[.int .i64 x, .int .i64 y] 23)) := hb1.alloc hb1.size _
  have zA : w1.heap.size < (w1.alloc (.cells #[.int .i64 x, .int .i64 y] 23)).heap.size := by simp
  have p0 : (w1.alloc (.cells #[.int .i64 x, .int .i64 y] 23)).cell? ⟨w1.heap.size, 0, none⟩ = some (.int .i64 x) := by simp [go_sem]
  have p1 : (w1.alloc (.cells #[.int .i64 x, .int .i64 y] 23)).cell? ⟨w1.heap.size, 1, none⟩ = some (.int .i64 y) := by simp [go_sem]
  generalize (w1.alloc (.cells #[.int .i64 x, .int .i64 y] 23)) = wA at *
  obtain ⟨R, hR⟩ : ∃ R, R = w1.heap.size := ⟨_, rfl⟩
  rw [← hR] at zA p0 p1 ⊢
  clear hR hb1
  refine (HI.out _).mono ?_
  rintro e w2 ⟨rfl, hb2⟩
  have q0 := (hb2.cell (p := ⟨R, 0, none⟩) zA).trans p0
  have q1 := (hb2.cell (p := ⟨R, 1, none⟩) zA).trans p1
  have zB : R < w2.heap.size := Nat.lt_of_lt_of_le zA hb2.size
  have q2 : (w2.alloc (.cells #[.int .i64 x, .int .i64 y] 23)).cell? ⟨R, 0, none⟩ = some (.int .i64 x) := (((Below.refl w2.heap.size w2).alloc (Nat.le_refl _) _).cell (p := ⟨R, 0, none⟩) zB).trans q0
  have q3 : (w2.alloc (.cells #[.int .i64 x, .int .i64 y] 23)).cell? ⟨R, 1, none⟩ = some (.int .i64 y) := (((Below.refl w2.heap.size w2).alloc (Nat.le_refl _) _).cell (p := ⟨R, 1, none⟩) zB).trans q1
  go_wp2_with fail
  refine (eqSpot_same x y _).mono ?_
  rintro e w3 ⟨rfl, hb3⟩
  go_wp2
  go_ret
  have zz := hbA.size
  have hz2 := hb2.size
  exact ⟨rfl, hbA.trans ((hb2.trans ((((Below.refl _ _).alloc (Nat.le_refl _) _).trans (hb3.mono (by simp))).mono hz2)).mono zz)⟩
set_option maxHeartbeats 800000 in
theorem lawS_TriangleSpot (n : Int) (ok : Bool) (x y : Int)
    (hs : ∀ w : World, Calls Try.prog 56 #[.int .i64 n] w fun e w' => e = .returned (.tuple #[.agg #[.int .i64 x, .int .i64 y], .bool ok]) ∧ Below w.heap.size w w')
    (hi : ∀ w : World, Calls Try.prog 57 #[.int .i64 n] w fun e w' => e = .returned (.tuple #[.agg #[.int .i64 x, .int .i64 y], .bool ok]) ∧ Below w.heap.size w w') (w : World) :
    Calls Try.prog 17 #[.int .i64 n] w fun e w' => e = .returned (.bool true) ∧ Below w.heap.size w w' := by
  have HS := Lib.hid hs
  have HI := Lib.hid hi
  clear hs hi
  go_enter Try.func17, Try.ntmps17
  go_wp2_with fail
  refine (HS.out _).mono ?_
  rintro e w1 ⟨rfl, hb1⟩
  go_wp2_with fail
  have hbA : Below w.heap.size w (w1.alloc (.cells #[.int .i64 x, .int .i64 y] 23)) := hb1.alloc hb1.size _
  have zA : w1.heap.size < (w1.alloc (.cells #[.int .i64 x, .int .i64 y] 23)).heap.size := by simp
  have p0 : (w1.alloc (.cells #[.int .i64 x, .int .i64 y] 23)).cell? ⟨w1.heap.size, 0, none⟩ = some (.int .i64 x) := by simp [go_sem]
  have p1 : (w1.alloc (.cells #[.int .i64 x, .int .i64 y] 23)).cell? ⟨w1.heap.size, 1, none⟩ = some (.int .i64 y) := by simp [go_sem]
  generalize (w1.alloc (.cells #[.int .i64 x, .int .i64 y] 23)) = wA at *
  obtain ⟨R, hR⟩ : ∃ R, R = w1.heap.size := ⟨_, rfl⟩
  rw [← hR] at zA p0 p1 ⊢
  clear hR hb1
  refine (HI.out _).mono ?_
  rintro e w2 ⟨rfl, hb2⟩
  have q0 := (hb2.cell (p := ⟨R, 0, none⟩) zA).trans p0
  have q1 := (hb2.cell (p := ⟨R, 1, none⟩) zA).trans p1
  have zB : R < w2.heap.size := Nat.lt_of_lt_of_le zA hb2.size
  have q2 : (w2.alloc (.cells #[.int .i64 x, .int .i64 y] 23)).cell? ⟨R, 0, none⟩ = some (.int .i64 x) := (((Below.refl w2.heap.size w2).alloc (Nat.le_refl _) _).cell (p := ⟨R, 0, none⟩) zB).trans q0
  have q3 : (w2.alloc (.cells #[.int .i64 x, .int .i64 y] 23)).cell? ⟨R, 1, none⟩ = some (.int .i64 y) := (((Below.refl w2.heap.size w2).alloc (Nat.le_refl _) _).cell (p := ⟨R, 1, none⟩) zB).trans q1
  go_wp2_with fail
  refine (eqSpot_same x y _).mono ?_
  rintro e w3 ⟨rfl, hb3⟩
  go_wp2
  go_ret
  have zz := hbA.size
  have hz2 := hb2.size
  exact ⟨rfl, hbA.trans ((hb2.trans ((((Below.refl _ _).alloc (Nat.le_refl _) _).trans (hb3.mono (by simp))).mono hz2)).mono zz)⟩
set_option maxHeartbeats 800000 in
theorem lawN_RingOf (n : Int) (ok : Bool) (r : Int)
    (hs : ∀ w : World, Calls Try.prog 26 #[.int .i64 n] w fun e w' => e = .returned (.tuple #[.int .i64 r, .bool ok]) ∧ Below w.heap.size w w')
    (hi : ∀ w : World, Calls Try.prog 27 #[.int .i64 n] w fun e w' => e = .returned (.tuple #[.int .i64 r, .bool ok]) ∧ Below w.heap.size w w') (w : World) :
    Calls Try.prog 5 #[.int .i64 n] w fun e w' => e = .returned (.bool true) ∧ Below w.heap.size w w' := by
  have HS := Lib.hid hs
  have HI := Lib.hid hi
  clear hs hi
  go_enter Try.func5, Try.ntmps5
  go_wp2_with (first
    | (go_at_call 26; refine (HS.out _).mono ?_; rintro e w1 ⟨rfl, hb1⟩)
    | (go_at_call 27; refine (HI.out _).mono ?_; rintro e w2 ⟨rfl, hb2⟩))
  go_ret
  exact ⟨rfl, hb1.trans (hb2.mono hb1.size)⟩
set_option maxHeartbeats 800000 in
theorem lawN_HexRingOf (n : Int) (ok : Bool) (r : Int)
    (hs : ∀ w : World, Calls Try.prog 50 #[.int .i64 n] w fun e w' => e = .returned (.tuple #[.int .i64 r, .bool ok]) ∧ Below w.heap.size w w')
    (hi : ∀ w : World, Calls Try.prog 51 #[.int .i64 n] w fun e w' => e = .returned (.tuple #[.int .i64 r, .bool ok]) ∧ Below w.heap.size w w') (w : World) :
    Calls Try.prog 14 #[.int .i64 n] w fun e w' => e = .returned (.bool true) ∧ Below w.heap.size w w' := by
  have HS := Lib.hid hs
  have HI := Lib.hid hi
  clear hs hi
  go_enter Try.func14, Try.ntmps14
  go_wp2_with (first
    | (go_at_call 50; refine (HS.out _).mono ?_; rintro e w1 ⟨rfl, hb1⟩)
    | (go_at_call 51; refine (HI.out _).mono ?_; rintro e w2 ⟨rfl, hb2⟩))
  go_ret
  exact ⟨rfl, hb1.trans (hb2.mono hb1.size)⟩
set_option maxHeartbeats 800000 in
theorem lawN_DistanceOf (a b : Int) (ok : Bool) (r : Int)
    (hs : ∀ w : World, Calls Try.prog 37 #[.int .i64 a, .int .i64 b] w fun e w' => e = .returned (.tuple #[.int .i64 r, .bool ok]) ∧ Below w.heap.size w w')
    (hi : ∀ w : World, Calls Try.prog 38 #[.int .i64 a, .int .i64 b] w fun e w' => e = .returned (.tuple #[.int .i64 r, .bool ok]) ∧ Below w.heap.size w w') (w : World) :
    Calls Try.prog 9 #[.int .i64 a, .int .i64 b] w fun e w' => e = .returned (.bool true) ∧ Below w.heap.size w w' := by
  have HS := Lib.hid hs
  have HI := Lib.hid hi
  clear hs hi
  go_enter Try.func9, Try.ntmps9
  go_wp2_with (first
    | (go_at_call 37; refine (HS.out _).mono ?_; rintro e w1 ⟨rfl, hb1⟩)
    | (go_at_call 38; refine (HI.out _).mono ?_; rintro e w2 ⟨rfl, hb2⟩))
  go_ret
  exact ⟨rfl, hb1.trans (hb2.mono hb1.size)⟩
set_option maxHeartbeats 800000 in
theorem lawN_HexDistance (a b : Int) (ok : Bool) (r : Int)
    (hs : ∀ w : World, Calls Try.prog 54 #[.int .i64 a, .int .i64 b] w fun e w' => e = .returned (.tuple #[.int .i64 r, .bool ok]) ∧ Below w.heap.size w w')
    (hi : ∀ w : World, Calls Try.prog 55 #[.int .i64 a, .int .i64 b] w fun e w' => e = .returned (.tuple #[.int .i64 r, .bool ok]) ∧ Below w.heap.size w w') (w : World) :
    Calls Try.prog 16 #[.int .i64 a, .int .i64 b] w fun e w' => e = .returned (.bool true) ∧ Below w.heap.size w w' := by
  have HS := Lib.hid hs
  have HI := Lib.hid hi
  clear hs hi
  go_enter Try.func16, Try.ntmps16
  go_wp2_with (first
    | (go_at_call 54; refine (HS.out _).mono ?_; rintro e w1 ⟨rfl, hb1⟩)
    | (go_at_call 55; refine (HI.out _).mono ?_; rintro e w2 ⟨rfl, hb2⟩))
  go_ret
  exact ⟨rfl, hb1.trans (hb2.mono hb1.size)⟩
set_option maxHeartbeats 800000 in
theorem lawN_NumberAt (f l : Int) (ok : Bool) (r : Int)
    (hs : ∀ w : World, Calls Try.prog 23 #[.agg #[.int .i64 f, .int .i64 l]] w fun e w' => e = .returned (.tuple #[.int .i64 r, .bool ok]) ∧ Below w.heap.size w w')
    (hi : ∀ w : World, Calls Try.prog 25 #[.agg #[.int .i64 f, .int .i64 l]] w fun e w' => e = .returned (.tuple #[.int .i64 r, .bool ok]) ∧ Below w.heap.size w w') (w : World) :
    Calls Try.prog 4 #[.agg #[.int .i64 f, .int .i64 l]] w fun e w' => e = .returned (.bool true) ∧ Below w.heap.size w w' := by
  have HS := Lib.hid hs
  have HI := Lib.hid hi
  clear hs hi
  go_enter Try.func4, Try.ntmps4
  go_wp2_with fail
  have c0 : (w.alloc (.cells #[.int .i64 f, .int .i64 l] 28)).cell? ⟨w.heap.size, 0, none⟩ = some (.int .i64 f) := by simp [go_sem]
  have c1 : (w.alloc (.cells #[.int .i64 f, .int .i64 l] 28)).cell? ⟨w.heap.size, 1, none⟩ = some (.int .i64 l) := by simp [go_sem]
  have hz : w.heap.size < (w.alloc (.cells #[.int .i64 f, .int .i64 l] 28)).heap.size := by simp
  have hb : Below w.heap.size w (w.alloc (.cells #[.int .i64 f, .int .i64 l] 28)) := (Below.refl _ _).alloc (Nat.le_refl _) _
  generalize w.alloc (.cells #[.int .i64 f, .int .i64 l] 28) = W at *
  obtain ⟨R, hR⟩ : ∃ R, R = w.heap.size := ⟨_, rfl⟩
  rw [← hR] at c0 c1 hz ⊢
  have HR := Lib.hid hR
  clear hR
  refine (toSpot_any f l W).mono ?_
  rintro e w1 ⟨rfl, hb1⟩
  go_wp2_with fail
  refine (HS.out w1).mono ?_
  rintro e w2 ⟨rfl, hb2⟩
  have hb12 := hb1.trans (hb2.mono hb1.size)
  have d0 := (hb12.cell (p := ⟨R, 0, none⟩) hz).trans c0
  have d1 := (hb12.cell (p := ⟨R, 1, none⟩) hz).trans c1
  go_wp2_with fail
  refine (toSpot_any f l w2).mono ?_
  rintro e w3 ⟨rfl, hb3⟩
  go_wp2_with fail
  refine (HI.out w3).mono ?_
  rintro e w4 ⟨rfl, hb4⟩
  go_wp2
  go_ret
  exact ⟨rfl, hb.trans ((hb12.trans ((hb3.trans (hb4.mono hb3.size)).mono hb12.size)).mono hb.size)⟩
set_option maxHeartbeats 800000 in
theorem lawN_HexNumberAt (f l : Int) (ok : Bool) (r : Int)
    (hs : ∀ w : World, Calls Try.prog 48 #[.agg #[.int .i64 f, .int .i64 l]] w fun e w' => e = .returned (.tuple #[.int .i64 r, .bool ok]) ∧ Below w.heap.size w w')
    (hi : ∀ w : World, Calls Try.prog 49 #[.agg #[.int .i64 f, .int .i64 l]] w fun e w' => e = .returned (.tuple #[.int .i64 r, .bool ok]) ∧ Below w.heap.size w w') (w : World) :
    Calls Try.prog 13 #[.agg #[.int .i64 f, .int .i64 l]] w fun e w' => e = .returned (.bool true) ∧ Below w.heap.size w w' := by
  have HS := Lib.hid hs
  have HI := Lib.hid hi
  clear hs hi
  go_enter Try.func13, Try.ntmps13
  go_wp2_with fail
  have c0 : (w.alloc (.cells #[.int .i64 f, .int .i64 l] 28)).cell? ⟨w.heap.size, 0, none⟩ = some (.int .i64 f) := by simp [go_sem]
  have c1 : (w.alloc (.cells #[.int .i64 f, .int .i64 l] 28)).cell? ⟨w.heap.size, 1, none⟩ = some (.int .i64 l) := by simp [go_sem]
  have hz : w.heap.size < (w.alloc (.cells #[.int .i64 f, .int .i64 l] 28)).heap.size := by simp
  have hb : Below w.heap.size w (w.alloc (.cells #[.int .i64 f, .int .i64 l] 28)) := (Below.refl _ _).alloc (Nat.le_refl _) _
  generalize w.alloc (.cells #[.int .i64 f, .int .i64 l] 28) = W at *
  obtain ⟨R, hR⟩ : ∃ R, R = w.heap.size := ⟨_, rfl⟩
  rw [← hR] at c0 c1 hz ⊢
  have HR := Lib.hid hR
  clear hR
  refine (toSpot_any f l W).mono ?_
  rintro e w1 ⟨rfl, hb1⟩
  go_wp2_with fail
  refine (HS.out w1).mono ?_
  rintro e w2 ⟨rfl, hb2⟩
  have hb12 := hb1.trans (hb2.mono hb1.size)
  have d0 := (hb12.cell (p := ⟨R, 0, none⟩) hz).trans c0
  have d1 := (hb12.cell (p := ⟨R, 1, none⟩) hz).trans c1
  go_wp2_with fail
  refine (toSpot_any f l w2).mono ?_
  rintro e w3 ⟨rfl, hb3⟩
  go_wp2_with fail
  refine (HI.out w3).mono ?_
  rintro e w4 ⟨rfl, hb4⟩
  go_wp2
  go_ret
  exact ⟨rfl, hb.trans ((hb12.trans ((hb3.trans (hb4.mono hb3.size)).mono hb12.size)).mono hb.size)⟩
set_option maxHeartbeats 800000 in
theorem lawN_TriangleNumber (f l : Int) (ok : Bool) (r : Int)
    (hs : ∀ w : World, Calls Try.prog 58 #[.agg #[.int .i64 f, .int .i64 l]] w fun e w' => e = .returned (.tuple #[.int .i64 r, .bool ok]) ∧ Below w.heap.size w w')
    (hi : ∀ w : World, Calls Try.prog 59 #[.agg #[.int .i64 f, .int .i64 l]] w fun e w' => e = .returned (.tuple #[.int .i64 r, .bool ok]) ∧ Below w.heap.size w w') (w : World) :
    Calls Try.prog 18 #[.agg #[.int .i64 f, .int .i64 l]] w fun e w' => e = .returned (.bool true) ∧ Below w.heap.size w w' := by
  have HS := Lib.hid hs
  have HI := Lib.hid hi
  clear hs hi
  go_enter Try.func18, Try.ntmps18
  go_wp2_with fail
  have c0 : (w.alloc (.cells #[.int .i64 f, .int .i64 l] 28)).cell? ⟨w.heap.size, 0, none⟩ = some (.int .i64 f) := by simp [go_sem]
  have c1 : (w.alloc (.cells #[.int .i64 f, .int .i64 l] 28)).cell? ⟨w.heap.size, 1, none⟩ = some (.int .i64 l) := by simp [go_sem]
  have hz : w.heap.size < (w.alloc (.cells #[.int .i64 f, .int .i64 l] 28)).heap.size := by simp
  have hb : Below w.heap.size w (w.alloc (.cells #[.int .i64 f, .int .i64 l] 28)) := (Below.refl _ _).alloc (Nat.le_refl _) _
  generalize w.alloc (.cells #[.int .i64 f, .int .i64 l] 28) = W at *
  obtain ⟨R, hR⟩ : ∃ R, R = w.heap.size := ⟨_, rfl⟩
  rw [← hR] at c0 c1 hz ⊢
  have HR := Lib.hid hR
  clear hR
  refine (toSpot_any f l W).mono ?_
  rintro e w1 ⟨rfl, hb1⟩
  go_wp2_with fail
  refine (HS.out w1).mono ?_
  rintro e w2 ⟨rfl, hb2⟩
  have hb12 := hb1.trans (hb2.mono hb1.size)
  have d0 := (hb12.cell (p := ⟨R, 0, none⟩) hz).trans c0
  have d1 := (hb12.cell (p := ⟨R, 1, none⟩) hz).trans c1
  go_wp2_with fail
  refine (toSpot_any f l w2).mono ?_
  rintro e w3 ⟨rfl, hb3⟩
  go_wp2_with fail
  refine (HI.out w3).mono ?_
  rintro e w4 ⟨rfl, hb4⟩
  go_wp2
  go_ret
  exact ⟨rfl, hb.trans ((hb12.trans ((hb3.trans (hb4.mono hb3.size)).mono hb12.size)).mono hb.size)⟩
set_option maxHeartbeats 800000 in
theorem lawN_ZigzagNumber (f l : Int) (ok : Bool) (r : Int)
    (hs : ∀ w : World, Calls Try.prog 60 #[.agg #[.int .i64 f, .int .i64 l]] w fun e w' => e = .returned (.tuple #[.int .i64 r, .bool ok]) ∧ Below w.heap.size w w')
    (hi : ∀ w : World, Calls Try.prog 61 #[.agg #[.int .i64 f, .int .i64 l]] w fun e w' => e = .returned (.tuple #[.int .i64 r, .bool ok]) ∧ Below w.heap.size w w') (w : World) :
    Calls Try.prog 19 #[.agg #[.int .i64 f, .int .i64 l]] w fun e w' => e = .returned (.bool true) ∧ Below w.heap.size w w' := by
  have HS := Lib.hid hs
  have HI := Lib.hid hi
  clear hs hi
  go_enter Try.func19, Try.ntmps19
  go_wp2_with fail
  have c0 : (w.alloc (.cells #[.int .i64 f, .int .i64 l] 28)).cell? ⟨w.heap.size, 0, none⟩ = some (.int .i64 f) := by simp [go_sem]
  have c1 : (w.alloc (.cells #[.int .i64 f, .int .i64 l] 28)).cell? ⟨w.heap.size, 1, none⟩ = some (.int .i64 l) := by simp [go_sem]
  have hz : w.heap.size < (w.alloc (.cells #[.int .i64 f, .int .i64 l] 28)).heap.size := by simp
  have hb : Below w.heap.size w (w.alloc (.cells #[.int .i64 f, .int .i64 l] 28)) := (Below.refl _ _).alloc (Nat.le_refl _) _
  generalize w.alloc (.cells #[.int .i64 f, .int .i64 l] 28) = W at *
  obtain ⟨R, hR⟩ : ∃ R, R = w.heap.size := ⟨_, rfl⟩
  rw [← hR] at c0 c1 hz ⊢
  have HR := Lib.hid hR
  clear hR
  refine (toSpot_any f l W).mono ?_
  rintro e w1 ⟨rfl, hb1⟩
  go_wp2_with fail
  refine (HS.out w1).mono ?_
  rintro e w2 ⟨rfl, hb2⟩
  have hb12 := hb1.trans (hb2.mono hb1.size)
  have d0 := (hb12.cell (p := ⟨R, 0, none⟩) hz).trans c0
  have d1 := (hb12.cell (p := ⟨R, 1, none⟩) hz).trans c1
  go_wp2_with fail
  refine (toSpot_any f l w2).mono ?_
  rintro e w3 ⟨rfl, hb3⟩
  go_wp2_with fail
  refine (HI.out w3).mono ?_
  rintro e w4 ⟨rfl, hb4⟩
  go_wp2
  go_ret
  exact ⟨rfl, hb.trans ((hb12.trans ((hb3.trans (hb4.mono hb3.size)).mono hb12.size)).mono hb.size)⟩
set_option maxHeartbeats 800000 in
theorem lawN_RingNumbers (n : Int) (ok : Bool) (p q : Int)
    (hs : ∀ w : World, Calls Try.prog 28 #[.int .i64 n] w fun e w' => e = .returned (.tuple #[.int .i64 p, .int .i64 q, .bool ok]) ∧ Below w.heap.size w w')
    (hi : ∀ w : World, Calls Try.prog 29 #[.int .i64 n] w fun e w' => e = .returned (.tuple #[.int .i64 p, .int .i64 q, .bool ok]) ∧ Below w.heap.size w w') (w : World) :
    Calls Try.prog 6 #[.int .i64 n] w fun e w' => e = .returned (.bool true) ∧ Below w.heap.size w w' := by
  have HS := Lib.hid hs
  have HI := Lib.hid hi
  clear hs hi
  go_enter Try.func6, Try.ntmps6
  go_wp2_with (first
    | (go_at_call 28; refine (HS.out _).mono ?_; rintro e w1 ⟨rfl, hb1⟩)
    | (go_at_call 29; refine (HI.out _).mono ?_; rintro e w2 ⟨rfl, hb2⟩))
  go_ret
  exact ⟨rfl, hb1.trans (hb2.mono hb1.size)⟩
set_option maxHeartbeats 800000 in
theorem lawI_BesideNumbers (n : Int) (ok : Bool) (xs : List Int) (hl : xs.length ≤ 1000000000) 
    (hs : ∀ w : World, Calls Try.prog 32 #[.int .i64 n] w (ResI ok xs w))
    (hi : ∀ w : World, Calls Try.prog 33 #[.int .i64 n] w (ResI ok xs w)) (w : World) :
    Calls Try.prog 8 #[.int .i64 n] w fun e w' => e = .returned (.bool true) ∧ Below w.heap.size w w' := by
  have HS := Lib.hid hs
  have HI := Lib.hid hi
  clear hs hi
  obtain ⟨n, hn⟩ : ∃ n, n = xs.length := ⟨_, rfl⟩
  have HN := Lib.hid hn.symm
  rw [← hn] at hl
  clear hn
  go_enter Try.func8, Try.ntmps8
  go_wp2_with fail
  refine (HS.out _).mono ?_
  rintro e w1 ⟨A1, c1, rfl, o1, b1⟩
  rw [HN.out]
  go_wp2_with fail
  refine (HI.out _).mono ?_
  rintro e w2 ⟨A2, c2, rfl, o2, b2⟩
  rw [HN.out]
  have o1a : Own w2 w.heap.size w1.heap.size A1 (i64s xs) := o1.below b2 (Nat.le_refl _)
  clear o1
  go_wp2_with fail
  refine (eqIntS_same A2 A1 n c2 c1 _ _ _ _ xs _ HN.out hl o2 o1a).mono ?_
  rintro e w3 ⟨rfl, q3, rfl⟩
  go_wp2_with fail
  refine (markIntS_any A2 n c2 _ _ (i64s xs) 1 _ (by simp [HN.out]) hl (by omega) (by omega) (o2.drewN _)).mono ?_
  rintro e w4 ⟨rfl, o3, b4⟩
  have o1b : Own w4 w.heap.size w1.heap.size A1 (i64s xs) := (o1a.drewN _).below b4 (Nat.le_refl _)
  clear o1a o2
  go_wp2_with fail
  refine (heldIntS_any A2 n c2 _ _ 1 _ hl (by omega) (by omega) o3).mono ?_
  rintro e w5 ⟨rfl, rfl⟩
  go_wp2_with fail
  refine (HI.out _).mono ?_
  rintro e w6 ⟨A6, c6, rfl, o6, b6⟩
  rw [HN.out]
  have o1c : Own w6 w.heap.size w1.heap.size A1 (i64s xs) := o1b.below b6 (Nat.le_trans b2.size b4.size)
  have o3c : Own w6 w1.heap.size w2.heap.size A2 (i64s (marks 1 n)) := o3.below b6 b4.size
  clear o1b o3
  go_wp2_with fail
  refine (eqIntS_same A6 A1 n c6 c1 _ _ _ _ xs _ HN.out hl o6 o1c).mono ?_
  rintro e w7 ⟨rfl, q7, rfl⟩
  go_wp2_with fail
  refine (heldIntS_any A2 n c2 _ _ 1 _ hl (by omega) (by omega) (o3c.drewN _)).mono ?_
  rintro e w8 ⟨rfl, rfl⟩
  go_wp2
  go_ret
  have s2 : w.heap.size ≤ w1.heap.size := b1.size
  have s4 : w.heap.size ≤ w4.heap.size := Nat.le_trans (Nat.le_trans b1.size b2.size) b4.size
  exact ⟨rfl, below_drewN ((b1.trans (b2.mono s2)).trans ((below_drewN (Below.refl _ _) _).trans ((b4.mono s2).trans (b6.mono s4)))) _⟩
set_option maxHeartbeats 800000 in
theorem lawI_HexBeside (n : Int) (ok : Bool) (xs : List Int) (hl : xs.length ≤ 1000000000) 
    (hs : ∀ w : World, Calls Try.prog 52 #[.int .i64 n] w (ResI ok xs w))
    (hi : ∀ w : World, Calls Try.prog 53 #[.int .i64 n] w (ResI ok xs w)) (w : World) :
    Calls Try.prog 15 #[.int .i64 n] w fun e w' => e = .returned (.bool true) ∧ Below w.heap.size w w' := by
  have HS := Lib.hid hs
  have HI := Lib.hid hi
  clear hs hi
  obtain ⟨n, hn⟩ : ∃ n, n = xs.length := ⟨_, rfl⟩
  have HN := Lib.hid hn.symm
  rw [← hn] at hl
  clear hn
  go_enter Try.func15, Try.ntmps15
  go_wp2_with fail
  refine (HS.out _).mono ?_
  rintro e w1 ⟨A1, c1, rfl, o1, b1⟩
  rw [HN.out]
  go_wp2_with fail
  refine (HI.out _).mono ?_
  rintro e w2 ⟨A2, c2, rfl, o2, b2⟩
  rw [HN.out]
  have o1a : Own w2 w.heap.size w1.heap.size A1 (i64s xs) := o1.below b2 (Nat.le_refl _)
  clear o1
  go_wp2_with fail
  refine (eqIntS_same A2 A1 n c2 c1 _ _ _ _ xs _ HN.out hl o2 o1a).mono ?_
  rintro e w3 ⟨rfl, q3, rfl⟩
  go_wp2_with fail
  refine (markIntS_any A2 n c2 _ _ (i64s xs) 1 _ (by simp [HN.out]) hl (by omega) (by omega) (o2.drewN _)).mono ?_
  rintro e w4 ⟨rfl, o3, b4⟩
  have o1b : Own w4 w.heap.size w1.heap.size A1 (i64s xs) := (o1a.drewN _).below b4 (Nat.le_refl _)
  clear o1a o2
  go_wp2_with fail
  refine (heldIntS_any A2 n c2 _ _ 1 _ hl (by omega) (by omega) o3).mono ?_
  rintro e w5 ⟨rfl, rfl⟩
  go_wp2_with fail
  refine (HI.out _).mono ?_
  rintro e w6 ⟨A6, c6, rfl, o6, b6⟩
  rw [HN.out]
  have o1c : Own w6 w.heap.size w1.heap.size A1 (i64s xs) := o1b.below b6 (Nat.le_trans b2.size b4.size)
  have o3c : Own w6 w1.heap.size w2.heap.size A2 (i64s (marks 1 n)) := o3.below b6 b4.size
  clear o1b o3
  go_wp2_with fail
  refine (eqIntS_same A6 A1 n c6 c1 _ _ _ _ xs _ HN.out hl o6 o1c).mono ?_
  rintro e w7 ⟨rfl, q7, rfl⟩
  go_wp2_with fail
  refine (heldIntS_any A2 n c2 _ _ 1 _ hl (by omega) (by omega) (o3c.drewN _)).mono ?_
  rintro e w8 ⟨rfl, rfl⟩
  go_wp2
  go_ret
  have s2 : w.heap.size ≤ w1.heap.size := b1.size
  have s4 : w.heap.size ≤ w4.heap.size := Nat.le_trans (Nat.le_trans b1.size b2.size) b4.size
  exact ⟨rfl, below_drewN ((b1.trans (b2.mono s2)).trans ((below_drewN (Below.refl _ _) _).trans ((b4.mono s2).trans (b6.mono s4)))) _⟩
set_option maxHeartbeats 800000 in
theorem lawI_DiagonalOf (dx dy n : Int) (ok : Bool) (xs : List Int) (hl : xs.length ≤ 1000000000) 
    (hs : ∀ w : World, Calls Try.prog 39 #[.int .i64 dx, .int .i64 dy, .int .i64 n] w (ResI ok xs w))
    (hi : ∀ w : World, Calls Try.prog 40 #[.int .i64 dx, .int .i64 dy, .int .i64 n] w (ResI ok xs w)) (w : World) :
    Calls Try.prog 10 #[.int .i64 dx, .int .i64 dy, .int .i64 n] w fun e w' => e = .returned (.bool true) ∧ Below w.heap.size w w' := by
  have HS := Lib.hid hs
  have HI := Lib.hid hi
  clear hs hi
  obtain ⟨n, hn⟩ : ∃ n, n = xs.length := ⟨_, rfl⟩
  have HN := Lib.hid hn.symm
  rw [← hn] at hl
  clear hn
  go_enter Try.func10, Try.ntmps10
  go_wp2_with fail
  refine (HS.out _).mono ?_
  rintro e w1 ⟨A1, c1, rfl, o1, b1⟩
  rw [HN.out]
  go_wp2_with fail
  refine (HI.out _).mono ?_
  rintro e w2 ⟨A2, c2, rfl, o2, b2⟩
  rw [HN.out]
  have o1a : Own w2 w.heap.size w1.heap.size A1 (i64s xs) := o1.below b2 (Nat.le_refl _)
  clear o1
  go_wp2_with fail
  refine (eqIntS_same A2 A1 n c2 c1 _ _ _ _ xs _ HN.out hl o2 o1a).mono ?_
  rintro e w3 ⟨rfl, q3, rfl⟩
  go_wp2_with fail
  refine (markIntS_any A2 n c2 _ _ (i64s xs) 1 _ (by simp [HN.out]) hl (by omega) (by omega) (o2.drewN _)).mono ?_
  rintro e w4 ⟨rfl, o3, b4⟩
  have o1b : Own w4 w.heap.size w1.heap.size A1 (i64s xs) := (o1a.drewN _).below b4 (Nat.le_refl _)
  clear o1a o2
  go_wp2_with fail
  refine (heldIntS_any A2 n c2 _ _ 1 _ hl (by omega) (by omega) o3).mono ?_
  rintro e w5 ⟨rfl, rfl⟩
  go_wp2_with fail
  refine (HI.out _).mono ?_
  rintro e w6 ⟨A6, c6, rfl, o6, b6⟩
  rw [HN.out]
  have o1c : Own w6 w.heap.size w1.heap.size A1 (i64s xs) := o1b.below b6 (Nat.le_trans b2.size b4.size)
  have o3c : Own w6 w1.heap.size w2.heap.size A2 (i64s (marks 1 n)) := o3.below b6 b4.size
  clear o1b o3
  go_wp2_with fail
  refine (eqIntS_same A6 A1 n c6 c1 _ _ _ _ xs _ HN.out hl o6 o1c).mono ?_
  rintro e w7 ⟨rfl, q7, rfl⟩
  go_wp2_with fail
  refine (heldIntS_any A2 n c2 _ _ 1 _ hl (by omega) (by omega) (o3c.drewN _)).mono ?_
  rintro e w8 ⟨rfl, rfl⟩
  go_wp2
  go_ret
  have s2 : w.heap.size ≤ w1.heap.size := b1.size
  have s4 : w.heap.size ≤ w4.heap.size := Nat.le_trans (Nat.le_trans b1.size b2.size) b4.size
  exact ⟨rfl, below_drewN ((b1.trans (b2.mono s2)).trans ((below_drewN (Below.refl _ _) _).trans ((b4.mono s2).trans (b6.mono s4)))) _⟩
end Go.Proofs.Ythnjjpiofgbngaa
