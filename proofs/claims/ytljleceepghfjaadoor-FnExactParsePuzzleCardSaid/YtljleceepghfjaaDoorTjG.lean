/- Chapter 9: the frame of the law ParsePuzzle, and the law. -/
import Derived.Test.YtljleceepghfjaaDoorTjD
import Derived.Test.YtljleceepghfjaaDoorTjF
import Derived.Test.YtljleceepghfjaaDoorTgE
namespace Go.Proofs.YtljleceepghfjaaDoor
open Go.ChangeShapes Go.WideShapes Go.ChangeAt Go.RowKit

set_option maxHeartbeats 6400000 in
theorem lawQ_ParsePuzzle (s : ByteArray) (m' : Int) (ys : List Clu) (ok : Bool) (w : World) (hsz : s.size ≤ 1048576) (hl : ys.length ≤ 1048577) (hL : Lib9 w)
    (hs : ∀ w : World, Calls Tryd.prog 4 #[.string s] w (ResZ ok m' ys w))
    (hi : ∀ w : World, Lib9 w → Calls Tryd.prog 5 #[.string s] w (ResZ ok m' ys w)) :
    Calls Tryd.prog 3 #[.string s] w fun e w' => e = .returned (.bool true) ∧ Below w.heap.size w w' := by
  have HS := Lib.hid hs
  have HI := Lib.hid hi
  have HL := Lib.hid hL
  obtain ⟨p, hp⟩ : ∃ p, p = ys.length := ⟨_, rfl⟩
  have HP := Lib.hid hp.symm
  rw [← hp] at hl
  clear hs hi hp hL
  have hpi : (p : Int) ≤ 1048577 := by omega
  have hsi : ¬ (1048576 : Int) < (s.size : Int) := by omega
  go_enter Tryd.func3, Tryd.ntmps3
  go_wp2_with fail
  refine (HS.out w).mono ?_
  rintro e w3 ⟨A3, c3, rfl, g3, b3⟩
  rw [HP.out]
  have wb := Bx.new w3 m' A3 p c3 24
  have b34 : Below w3.heap.size w3 (w3.alloc (.cells #[.int .i64 m', .slice A3 p c3] 24)) := (Below.refl _ _).alloc (Nat.le_refl _) _
  have wo := g3.below b34 (Nat.le_refl _)
  have b04 := b3.trans (b34.mono b3.size)
  have z4 : (w3.alloc (.cells #[.int .i64 m', .slice A3 p c3] 24)).heap.size = w3.heap.size + 1 := by simp
  have s23 := b3.size
  clear b34 g3 b3
  go_wp2_with fail
  refine (HI.out _ (HL.out.below b04)).mono ?_
  rintro e w5 ⟨A5, c5, rfl, g5, b5⟩
  rw [HP.out]
  have b5s := b5.size
  rw [z4] at b5s g5
  have wb6 := wb.below b5 (by rw [z4]; exact Nat.le_refl _)
  have wo6 := wo.below b5 (by omega)
  have b05 := b04.trans (b5.mono b04.size)
  clear b5 wb wo b04 z4
  have gb := Bx.new w5 m' A5 p c5 24
  have b56 : Below w5.heap.size w5 (w5.alloc (.cells #[.int .i64 m', .slice A5 p c5] 24)) := (Below.refl _ _).alloc (Nat.le_refl _) _
  have F0 : G9 w (w5.alloc (.cells #[.int .i64 m', .slice A5 p c5] 24)) w.heap.size w.heap.size w3.heap.size (w3.heap.size + 1) w5.heap.size m' p A3 c3 A5 c5 ys (c64 ys) :=
    ⟨b05.trans (b56.mono b05.size), wb6.below b56 (by omega), wo6.below b56 (by omega), gb, g5.below b56 (Nat.le_refl _), Nat.le_refl _, Nat.le_refl _, s23, Nat.lt_succ_self _, b5s, by simp⟩
  clear b56 gb wb6 wo6 b05 g5 b5s s23
  generalize hW3 : w3.heap.size = s3 at F0 ⊢
  clear hW3
  obtain ⟨c10, c11⟩ := F0.wb.cells
  obtain ⟨x10, x11⟩ := F0.gb.cells
  go_wp2_with fail
  refine (eqPuzzle_same m' A5 A3 p c5 c3 _ _ _ _ ys _ HP.out (by omega) F0.go F0.wo (by have := F0.z5; omega) (by have := F0.z3; have := F0.z4; have := F0.z5; omega)).mono ?_
  rintro e w7 ⟨rfl, b7⟩
  have F1 := F0.below b7
  clear F0 b7 c10 c11 x10 x11
  generalize hW5 : w5.heap.size = s5 at F1 ⊢
  clear hW5
  obtain ⟨x10, x11⟩ := F1.gb.cells
  go_wp2_with fail
  refine (markPuzzle_any m' A5 p c5 (s3 + 1) s5 (c64 ys) 1 w7 (by rw [c64_len, HP.out]) (by omega) (by omega) (by omega) F1.go (by have := F1.z4; have := F1.z5; omega) (by have := F1.z5; omega)).mono ?_
  rintro e w12 ⟨rfl, y12, b12, k12⟩
  have F5 := F1.mark b12 k12 y12
  clear F1 b12 k12 y12 x10 x11
  obtain ⟨x10, x11⟩ := F5.gb.cells
  go_wp2_with fail
  refine (heldPuzzle_any m' A5 p c5 _ _ 1 _ (by omega) (by omega) (by omega) F5.go (by have := F5.z5; omega)).mono ?_
  rintro e w13 ⟨rfl, b13⟩
  have F7 := F5.below b13
  clear F5 b13 x10 x11
  go_wp2_with fail
  refine (HI.out w13 (HL.out.below F7.b)).mono ?_
  rintro e w15 ⟨A15, c15, rfl, g15, b15⟩
  rw [HP.out]
  have F8 := F7.below b15
  clear F7 b15
  have hb := Bx.new w15 m' A15 p c15 24
  have b16 : Below w15.heap.size w15 (w15.alloc (.cells #[.int .i64 m', .slice A15 p c15] 24)) := (Below.refl _ _).alloc (Nat.le_refl _) _
  have F10 := F8.below b16
  have g16 := g15.below b16 (Nat.le_refl _)
  have z16 := b16.size
  clear F8 b16 g15
  obtain ⟨c10, c11⟩ := F10.wb.cells
  obtain ⟨x10, x11⟩ := hb.cells
  go_wp2_with fail
  refine (eqPuzzle_same m' A15 A3 p c15 c3 _ _ _ _ ys _ HP.out (by omega) g16 F10.wo z16 (by have := F10.z3; have := F10.z4; have := F10.z5; omega)).mono ?_
  rintro e w17 ⟨rfl, b17⟩
  have F11 := F10.below b17
  clear F10 b17 g16 z16 hb c10 c11 x10 x11
  obtain ⟨x10, x11⟩ := F11.gb.cells
  go_wp2_with fail
  refine (heldPuzzle_any m' A5 p c5 _ _ 1 _ (by omega) (by omega) (by omega) F11.go (by have := F11.z5; omega)).mono ?_
  rintro e w18 ⟨rfl, b18⟩
  have F12 := F11.below b18
  clear F11 b18 x10 x11
  go_wp2
  go_ret
  exact ⟨rfl, F12.b⟩
theorem walk_ParsePuzzle (s : ByteArray) (_ : s.size ≤ maxLen) (w : World) (hL : Lib9 w) :
    Calls Tryd.prog 3 #[.string s] w fun e w' => e = .returned (.bool true) ∧ Below w.heap.size w w' := by
  by_cases hs : s.size ≤ 1048576
  · cases h : rdP s.data.toList with
    | none => exact lawQ_ParsePuzzle s 0 [] false w hs (by simp) hL (fun w => spec_ParsePuzzle_no s w hs h) (fun w hw => impl_ParsePuzzle_none s w hs hw h)
    | some r =>
      obtain ⟨m, cs⟩ := r
      have h6 := (okp9_parts (rdP_some h).1).2.1
      exact lawQ_ParsePuzzle s m cs true w hs (by omega) hL (fun w => spec_ParsePuzzle_yes s m cs w h) (fun w hw => impl_ParsePuzzle_some s m cs w hs hw h)
  · have hs' : 1048576 < s.size := by omega
    clear hs hL
    go_enter Tryd.func3, Tryd.ntmps3
    go_wp2
    go_ret
    exact ⟨rfl, Below.refl _ _⟩
end Go.Proofs.YtljleceepghfjaaDoor
