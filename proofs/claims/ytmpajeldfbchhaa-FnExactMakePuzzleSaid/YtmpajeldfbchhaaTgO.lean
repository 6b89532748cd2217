/- Chapter 9: the frame of the law MakePuzzle, and the law. -/
import Derived.Test.YtmpajeldfbchhaaTgN
import Derived.Test.YtmpajeldfbchhaaTgE
namespace Go.Proofs.Ytmpajeldfbchhaa
open Go.ChangeShapes Go.WideShapes Go.ChangeAt Go.RowKit

set_option maxHeartbeats 6400000 in
theorem lawM_MakePuzzle (a b c : Int) (m' nn : Int) (ys : List Clu) (ok : Bool) (w : World) (hl : ys.length ≤ 1048577)
    (hs : ∀ w : World, Calls Try.prog 25 #[.int .i64 a, .int .i64 b, .int .i64 c] w (ResM ok m' nn ys w))
    (hi : ∀ w : World, Calls Try.prog 26 #[.int .i64 a, .int .i64 b, .int .i64 c] w (ResM ok m' nn ys w)) :
    Calls Try.prog 8 #[.int .i64 a, .int .i64 b, .int .i64 c] w fun e w' => e = .returned (.bool true) ∧ Below w.heap.size w w' := by
  have HS := Lib.hid hs
  have HI := Lib.hid hi
  obtain ⟨p, hp⟩ : ∃ p, p = ys.length := ⟨_, rfl⟩
  have HP := Lib.hid hp.symm
  rw [← hp] at hl
  clear hs hi hp
  have hpi : (p : Int) ≤ 1048577 := by omega
  go_enter Try.func8, Try.ntmps8
  go_wp2_with fail
  refine (HS.out w).mono ?_
  rintro e w3 ⟨A3, c3, rfl, g3, b3⟩
  rw [HP.out]
  have wb := Bx.new w3 m' A3 p c3 35
  have b34 : Below w3.heap.size w3 (w3.alloc (.cells #[.int .i64 m', .slice A3 p c3] 35)) := (Below.refl _ _).alloc (Nat.le_refl _) _
  have wo := g3.below b34 (Nat.le_refl _)
  have b04 := b3.trans (b34.mono b3.size)
  have z4 : (w3.alloc (.cells #[.int .i64 m', .slice A3 p c3] 35)).heap.size = w3.heap.size + 1 := by simp
  have s23 := b3.size
  clear b34 g3 b3
  go_wp2_with fail
  refine (HI.out _).mono ?_
  rintro e w5 ⟨A5, c5, rfl, g5, b5⟩
  rw [HP.out]
  have b5s := b5.size
  rw [z4] at b5s g5
  have wb6 := wb.below b5 (by rw [z4]; exact Nat.le_refl _)
  have wo6 := wo.below b5 (by omega)
  have b05 := b04.trans (b5.mono b04.size)
  clear b5 wb wo b04 z4
  have gb := Bx.new w5 m' A5 p c5 35
  have b56 : Below w5.heap.size w5 (w5.alloc (.cells #[.int .i64 m', .slice A5 p c5] 35)) := (Below.refl _ _).alloc (Nat.le_refl _) _
  have F0 : G9 w (w5.alloc (.cells #[.int .i64 m', .slice A5 p c5] 35)) w.heap.size w.heap.size w3.heap.size (w3.heap.size + 1) w5.heap.size m' p A3 c3 A5 c5 ys (c64 ys) :=
    ⟨b05.trans (b56.mono b05.size), wb6.below b56 (by omega), wo6.below b56 (by omega), gb, g5.below b56 (Nat.le_refl _), Nat.le_refl _, Nat.le_refl _, s23, Nat.lt_succ_self _, b5s, by simp⟩
  clear b56 gb wb6 wo6 b05 g5 b5s s23
  generalize hW3 : w3.heap.size = s3 at F0 ⊢
  clear hW3
  obtain ⟨c10, c11⟩ := F0.wb.cells
  obtain ⟨x10, x11⟩ := F0.gb.cells
  go_wp2_with fail
  refine (eqPuzzle_same m' A5 A3 p c5 c3 _ _ _ _ ys _ HP.out (by omega) F0.go F0.wo (by have := F0.z5; omega) (by have := F0.z3; have := F0.z4; have := F0.z5; omega)).mono ?_
  rintro e w7 ⟨rfl, b7⟩
  have F1 := F0.below b7
  clear F0 b7 c10 c11 x10 x11
  generalize hW5 : w5.heap.size = s5 at F1 ⊢
  clear hW5
  obtain ⟨x10, x11⟩ := F1.gb.cells
  go_wp2_with fail
  refine (markPuzzle_any m' A5 p c5 (s3 + 1) s5 (c64 ys) 1 w7 (by rw [c64_len, HP.out]) (by omega) (by omega) (by omega) F1.go (by have := F1.z4; have := F1.z5; omega) (by have := F1.z5; omega)).mono ?_
  rintro e w12 ⟨rfl, y12, b12, k12⟩
  have F5 := F1.mark b12 k12 y12
  clear F1 b12 k12 y12 x10 x11
  obtain ⟨x10, x11⟩ := F5.gb.cells
  go_wp2_with fail
  refine (heldPuzzle_any m' A5 p c5 _ _ 1 _ (by omega) (by omega) (by omega) F5.go (by have := F5.z5; omega)).mono ?_
  rintro e w13 ⟨rfl, b13⟩
  have F7 := F5.below b13
  clear F5 b13 x10 x11
  go_wp2_with fail
  refine (HI.out w13).mono ?_
  rintro e w15 ⟨A15, c15, rfl, g15, b15⟩
  rw [HP.out]
  have F8 := F7.below b15
  clear F7 b15
  have hb := Bx.new w15 m' A15 p c15 35
  have b16 : Below w15.heap.size w15 (w15.alloc (.cells #[.int .i64 m', .slice A15 p c15] 35)) := (Below.refl _ _).alloc (Nat.le_refl _) _
  have F10 := F8.below b16
  have g16 := g15.below b16 (Nat.le_refl _)
  have z16 := b16.size
  clear F8 b16 g15
  obtain ⟨c10, c11⟩ := F10.wb.cells
  obtain ⟨x10, x11⟩ := hb.cells
  go_wp2_with fail
  refine (eqPuzzle_same m' A15 A3 p c15 c3 _ _ _ _ ys _ HP.out (by omega) g16 F10.wo z16 (by have := F10.z3; have := F10.z4; have := F10.z5; omega)).mono ?_
  rintro e w17 ⟨rfl, b17⟩
  have F11 := F10.below b17
  clear F10 b17 g16 z16 hb c10 c11 x10 x11
  obtain ⟨x10, x11⟩ := F11.gb.cells
  go_wp2_with fail
  refine (heldPuzzle_any m' A5 p c5 _ _ 1 _ (by omega) (by omega) (by omega) F11.go (by have := F11.z5; omega)).mono ?_
  rintro e w18 ⟨rfl, b18⟩
  have F12 := F11.below b18
  clear F11 b18 x10 x11
  go_wp2
  go_ret
  exact ⟨rfl, F12.b⟩
theorem walk_MakePuzzle (a b c : Int) (w : World) :
    Calls Try.prog 8 #[.int .i64 a, .int .i64 b, .int .i64 c] w fun e w' => e = .returned (.bool true) ∧ Below w.heap.size w w' := by
  by_cases hno : ((a < 1 ∨ 500 < a) ∨ (b < 0 ∨ 6 < b)) ∨ (c < 0 ∨ 9999 < c)
  · exact lawM_MakePuzzle a b c 0 0 [] false w (by simp) (fun w => spec_MakePuzzle_no a b c w hno) (fun w => impl_MakePuzzle_no a b c w hno)
  · obtain ⟨M, rfl⟩ : ∃ M : Nat, a = (M : Int) := ⟨a.toNat, by omega⟩
    obtain ⟨K, rfl⟩ : ∃ K : Nat, b = (K : Int) := ⟨b.toNat, by omega⟩
    obtain ⟨sd, rfl⟩ : ∃ sd : Nat, c = (sd : Int) := ⟨c.toNat, by omega⟩
    exact lawM_MakePuzzle M K sd M ((nx9 sd % M + 1 : Nat) : Int) (mks9 (nx9 sd % M + 1) K (nx9 sd)).1 true w (by rw [mks9_len]; omega) (fun w => spec_MakePuzzle_yes M K sd w (by omega) (by omega) (by omega) (by omega)) (fun w => impl_MakePuzzle_yes M K sd w (by omega) (by omega) (by omega) (by omega))
end Go.Proofs.Ytmpajeldfbchhaa
