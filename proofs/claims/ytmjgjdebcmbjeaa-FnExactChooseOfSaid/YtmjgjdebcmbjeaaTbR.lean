/- Chapter 8: the frames of the laws FormOfShape and ChooseOf. -/
import Derived.Test.YtmjgjdebcmbjeaaTbN
namespace Go.Proofs.Ytmjgjdebcmbjeaa
open Go.ChangeShapes Go.WideShapes Go.ChangeAt Go.RowKit

set_option maxHeartbeats 800000 in
theorem lawI_FormOfShape (s : Int) (ok : Bool) (xs : List Int) (hl : xs.length ≤ 1000000000) 
    (hs : ∀ w : World, Calls Try.prog 52 #[.int .i64 s] w (ResI ok xs w))
    (hi : ∀ w : World, Calls Try.prog 53 #[.int .i64 s] w (ResI ok xs w)) (w : World) :
    Calls Try.prog 16 #[.int .i64 s] w fun e w' => e = .returned (.bool true) ∧ Below w.heap.size w w' := by
  have HS := Lib.hid hs
  have HI := Lib.hid hi
  clear hs hi
  obtain ⟨n, hn⟩ : ∃ n, n = xs.length := ⟨_, rfl⟩
  have HN := Lib.hid hn.symm
  rw [← hn] at hl
  clear hn
  go_enter Try.func16, Try.ntmps16
  go_wp2_with fail
  refine (HS.out _).mono ?_
  rintro e w1 ⟨A1, c1, rfl, o1, b1⟩
  rw [HN.out]
  go_wp2_with fail
  refine (HI.out _).mono ?_
  rintro e w2 ⟨A2, c2, rfl, o2, b2⟩
  rw [HN.out]
  have o1a : Own w2 w.heap.size w1.heap.size A1 (i64s xs) := o1.below b2 (Nat.le_refl _)
  clear o1
  go_wp2_with fail
  refine (eqIntS_same A2 A1 n c2 c1 _ _ _ _ xs _ HN.out hl o2 o1a).mono ?_
  rintro e w3 ⟨rfl, q3, rfl⟩
  go_wp2_with fail
  refine (markIntS_any A2 n c2 _ _ (i64s xs) 1 _ (by simp [HN.out]) hl (by omega) (by omega) (o2.drewN _)).mono ?_
  rintro e w4 ⟨rfl, o3, b4⟩
  have o1b : Own w4 w.heap.size w1.heap.size A1 (i64s xs) := (o1a.drewN _).below b4 (Nat.le_refl _)
  clear o1a o2
  go_wp2_with fail
  refine (heldIntS_any A2 n c2 _ _ 1 _ hl (by omega) (by omega) o3).mono ?_
  rintro e w5 ⟨rfl, rfl⟩
  go_wp2_with fail
  refine (HI.out _).mono ?_
  rintro e w6 ⟨A6, c6, rfl, o6, b6⟩
  rw [HN.out]
  have o1c : Own w6 w.heap.size w1.heap.size A1 (i64s xs) := o1b.below b6 (Nat.le_trans b2.size b4.size)
  have o3c : Own w6 w1.heap.size w2.heap.size A2 (i64s (marks 1 n)) := o3.below b6 b4.size
  clear o1b o3
  go_wp2_with fail
  refine (eqIntS_same A6 A1 n c6 c1 _ _ _ _ xs _ HN.out hl o6 o1c).mono ?_
  rintro e w7 ⟨rfl, q7, rfl⟩
  go_wp2_with fail
  refine (heldIntS_any A2 n c2 _ _ 1 _ hl (by omega) (by omega) (o3c.drewN _)).mono ?_
  rintro e w8 ⟨rfl, rfl⟩
  go_wp2
  go_ret
  have s2 : w.heap.size ≤ w1.heap.size := b1.size
  have s4 : w.heap.size ≤ w4.heap.size := Nat.le_trans (Nat.le_trans b1.size b2.size) b4.size
  exact ⟨rfl, below_drewN ((b1.trans (b2.mono s2)).trans ((below_drewN (Below.refl _ _) _).trans ((b4.mono s2).trans (b6.mono s4)))) _⟩
set_option maxHeartbeats 800000 in
theorem lawN_ChooseOf (n k : Int) (ok : Bool) (r : Int)
    (hs : ∀ w : World, Calls Try.prog 56 #[.int .i64 n, .int .i64 k] w fun e w' => e = .returned (.tuple #[.int .i64 r, .bool ok]) ∧ Below w.heap.size w w')
    (hi : ∀ w : World, Calls Try.prog 57 #[.int .i64 n, .int .i64 k] w fun e w' => e = .returned (.tuple #[.int .i64 r, .bool ok]) ∧ Below w.heap.size w w') (w : World) :
    Calls Try.prog 18 #[.int .i64 n, .int .i64 k] w fun e w' => e = .returned (.bool true) ∧ Below w.heap.size w w' := by
  have HS := Lib.hid hs
  have HI := Lib.hid hi
  clear hs hi
  go_enter Try.func18, Try.ntmps18
  go_wp2_with (first
    | (go_at_call 56; refine (HS.out _).mono ?_; rintro e w1 ⟨rfl, hb1⟩)
    | (go_at_call 57; refine (HI.out _).mono ?_; rintro e w2 ⟨rfl, hb2⟩))
  go_ret
  exact ⟨rfl, hb1.trans (hb2.mono hb1.size)⟩
end Go.Proofs.Ytmjgjdebcmbjeaa
