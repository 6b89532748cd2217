/- Chapter 9: the frame of the law DropClue. -/
import Derived.Test.YtmpajeldfbchhaaTgE
namespace Go.Proofs.Ytmpajeldfbchhaa
open Go.ChangeShapes Go.WideShapes Go.ChangeAt Go.RowKit

set_option maxHeartbeats 6400000 in
theorem lawZ_DropClue (m : Int) (A : Option Addr) (n c : Nat) (xs : List Clu) (k m' : Int) (ys : List Clu) (ok : Bool) (w : World) (hn : xs.length = n) (hm : n ≤ 1048576) (hl : ys.length ≤ 1048577) (ha : Rd w w.heap.size A (c64 xs))
    (hs : ∀ (B : Option Addr) (lo : Nat) (w : World), Own w lo w.heap.size B (c64 xs) → Calls Try.prog 19 #[.agg #[.int .i64 m, .slice B n n], .int .i64 k] w (ResZ ok m' ys w))
    (hi : ∀ (B : Option Addr) (lo : Nat) (w : World), Own w lo w.heap.size B (c64 xs) → Calls Try.prog 20 #[.agg #[.int .i64 m, .slice B n n], .int .i64 k] w (ResZ ok m' ys w)) :
    Calls Try.prog 6 #[.agg #[.int .i64 m, .slice A n c], .int .i64 k] w fun e w' => e = .returned (.bool true) ∧ Below w.heap.size w w' := by
  have HS := Lib.hid hs
  have HI := Lib.hid hi
  have HA := Lib.hid ha
  have HN := Lib.hid hn
  obtain ⟨p, hp⟩ : ∃ p, p = ys.length := ⟨_, rfl⟩
  have HP := Lib.hid hp.symm
  rw [← hp] at hl
  have HZ : Hid (∀ W, Calls Try.prog 12 #[.agg #[.int .i64 m, .slice A n c], .int .i64 1048576] W fun e w' => e = .returned (.int .i64 (1048576 - n)) ∧ Below W.heap.size W w') := Lib.hid fun W => by
    have h := szPuzzle_any m A n c 1048576 W (by omega) (by omega) (by omega)
    rwa [if_neg (by omega)] at h
  clear hs hi ha hn hp
  have hmi : (n : Int) ≤ 1048576 := by omega
  have hpi : (p : Int) ≤ 1048577 := by omega
  have q0 := Bx.new w m A n c 30
  have b0 : Below w.heap.size w (w.alloc (.cells #[.int .i64 m, .slice A n c] 30)) := (Below.refl _ _).alloc (Nat.le_refl _) _
  have s0 : w.heap.size + 1 ≤ (w.alloc (.cells #[.int .i64 m, .slice A n c] 30)).heap.size := by simp
  go_enter Try.func6, Try.ntmps6
  go_wp2_with fail
  refine (HZ.out _).mono ?_
  rintro e w1 ⟨rfl, b1⟩
  have q1 := q0.below b1 s0
  have b01 : Below w.heap.size w w1 := b0.trans (b1.mono b0.size)
  have s1 := Nat.le_trans s0 b1.size
  clear q0 b0 b1 s0
  obtain ⟨c10, c11⟩ := q1.cells
  go_wp2_with fail
  refine (toPuzzle_cap m A n c xs w1 HN.out hm (rd_up9 HA.out b01)).mono ?_
  rintro e w2 ⟨B2, rfl, o2, b2⟩
  have q2 := q1.below b2 s1
  have b02 : Below w.heap.size w w2 := b01.trans (b2.mono b01.size)
  have s2 := Nat.le_trans s1 b2.size
  clear b2 c10 c11 q1 b01 s1
  go_wp2_with fail
  refine (HS.out B2 _ w2 o2).mono ?_
  rintro e w3 ⟨A3, c3, rfl, g3, b3⟩
  rw [HP.out]
  have q3 := q2.below b3 s2
  have b03 : Below w.heap.size w w3 := b02.trans (b3.mono b02.size)
  have s23 := b3.size
  clear b3 b02 o2 q2
  -- the specification's answer in its box
  have wb := Bx.new w3 m' A3 p c3 35
  have b34 : Below w3.heap.size w3 (w3.alloc (.cells #[.int .i64 m', .slice A3 p c3] 35)) := (Below.refl _ _).alloc (Nat.le_refl _) _
  have wo := g3.below b34 (Nat.le_refl _)
  have q4 := q3.below b34 (by omega)
  have b04 : Below w.heap.size w (w3.alloc (.cells #[.int .i64 m', .slice A3 p c3] 35)) := b03.trans (b34.mono b03.size)
  have z4 : (w3.alloc (.cells #[.int .i64 m', .slice A3 p c3] 35)).heap.size = w3.heap.size + 1 := by simp
  obtain ⟨c10, c11⟩ := q4.cells
  clear b34 g3 q3 b03
  go_wp2_with fail
  refine (toPuzzle_cap m A n c xs _ HN.out hm (rd_up9 HA.out b04)).mono ?_
  rintro e w4 ⟨B4, rfl, xo, b4⟩
  have b4s := b4.size
  rw [z4] at b4s
  have wb4 := wb.below b4 (by rw [z4]; exact Nat.le_refl _)
  have wo4 := wo.below b4 (by omega)
  have q5 := q4.below b4 (by omega)
  rw [z4] at xo
  have b05 : Below w.heap.size w w4 := b04.trans (b4.mono b04.size)
  clear b4 c10 c11 q4 b04 wb wo z4
  -- the copy in its box
  have xb := Bx.new w4 m B4 n n 35
  have b45 : Below w4.heap.size w4 (w4.alloc (.cells #[.int .i64 m, .slice B4 n n] 35)) := (Below.refl _ _).alloc (Nat.le_refl _) _
  have z5 : (w4.alloc (.cells #[.int .i64 m, .slice B4 n n] 35)).heap.size = w4.heap.size + 1 := by simp
  have xo5 := xo.below b45 (Nat.le_refl _)
  have wb5 := wb4.below b45 (by omega)
  have wo5 := wo4.below b45 (by omega)
  have q6 := q5.below b45 (by omega)
  have b06 : Below w.heap.size w (w4.alloc (.cells #[.int .i64 m, .slice B4 n n] 35)) := b05.trans (b45.mono b05.size)
  clear b45 xo wb4 wo4 q5 b05
  obtain ⟨c10, c11⟩ := xb.cells
  go_wp2_with fail
  refine (HI.out B4 _ _ (xo5.wide (Nat.le_refl _) (by omega))).mono ?_
  rintro e w5 ⟨A5, c5, rfl, g5, b5⟩
  rw [HP.out]
  have b5s := b5.size
  rw [z5] at b5s g5
  have xb6 := xb.below b5 (by omega)
  have xo6 := xo5.below b5 (by omega)
  have wb6 := wb5.below b5 (by omega)
  have wo6 := wo5.below b5 (by omega)
  have q7 := q6.below b5 (by omega)
  have b07 : Below w.heap.size w w5 := b06.trans (b5.mono b06.size)
  clear b5 c10 c11 xb xo5 wb5 wo5 q6 b06 z5
  -- the program's answer in its box
  have gb := Bx.new w5 m' A5 p c5 35
  have b56 : Below w5.heap.size w5 (w5.alloc (.cells #[.int .i64 m', .slice A5 p c5] 35)) := (Below.refl _ _).alloc (Nat.le_refl _) _
  have F0 : F9 w (w5.alloc (.cells #[.int .i64 m', .slice A5 p c5] 35)) w.heap.size w2.heap.size w3.heap.size w4.heap.size w5.heap.size m n A c B4 n m' p A3 c3 A5 c5 ys (c64 xs) (c64 ys) :=
    ⟨⟨b07.trans (b56.mono b07.size), wb6.below b56 (by omega), wo6.below b56 (by omega), gb, g5.below b56 (Nat.le_refl _), Nat.le_refl _, by omega, s23, by omega, b5s, by simp⟩, q7.below b56 (by omega), xb6.below b56 (by omega), xo6.below b56 (by omega), by omega, by omega⟩
  clear b56 gb xb6 xo6 wb6 wo6 q7 b07 g5 b5s b4s s2 s23
  generalize hW2 : w2.heap.size = s2 at F0
  generalize hW3 : w3.heap.size = s3 at F0 ⊢
  generalize hW4 : w4.heap.size = s4 at F0 ⊢
  clear hW2 hW3 hW4
  obtain ⟨c10, c11⟩ := F0.wb.cells
  obtain ⟨x10, x11⟩ := F0.gb.cells
  go_wp2_with fail
  refine (eqPuzzle_same m' A5 A3 p c5 c3 _ _ _ _ ys _ HP.out (by omega) F0.go F0.wo (by have := F0.z5; omega) (by have := F0.z3; have := F0.z4; have := F0.z5; omega)).mono ?_
  rintro e w7 ⟨rfl, b7⟩
  have F1 := F0.below b7
  clear F0 b7 c10 c11 x10 x11
  generalize hW5 : w5.heap.size = s5 at F1 ⊢
  clear hW5
  go_wp2_with fail
  obtain ⟨c10, c11⟩ := F1.pb.cells
  obtain ⟨x10, x11⟩ := F1.xb.cells
  have HF := Lib.hid F1.drew
  have z1 : w.heap.size < w7.drew.heap.size := by have := F1.drew.z5; have := F1.y1; have := F1.y2; have := F1.z2; have := F1.z4; omega
  have z2 : s4 < w7.drew.heap.size := by have := F1.drew.z5; have := F1.z4; omega
  have z3 : s4 ≤ w7.drew.heap.size := Nat.le_of_lt z2
  have r6 : Rd w7.drew w7.drew.heap.size A (c64 xs) := rd_up9 HA.out F1.drew.b
  have HO6 : Hid (∀ w8, Below w7.drew.heap.size w7.drew w8 → Own w8 _ _ B4 (c64 xs)) := Lib.hid fun w8 b8 => Own.below (w := w7.drew) F1.drew.xo b8 z3
  clear F1
  go_region_held3 (fun w' => w'.cell? ⟨w.heap.size, 0, none⟩ = some (.int .i64 m) ∧ w'.cell? ⟨w.heap.size, 1, none⟩ = some (.slice A n c) ∧ w'.cell? ⟨s4, 0, none⟩ = some (.int .i64 m) ∧ w'.cell? ⟨s4, 1, none⟩ = some (.slice B4 n n))
    (first | exact ⟨c10, c11, x10, x11⟩ | exact ⟨(b8.cell (p := ⟨w.heap.size, 0, none⟩) z1).trans c10, (b8.cell (p := ⟨w.heap.size, 1, none⟩) z1).trans c11, (b8.cell (p := ⟨s4, 0, none⟩) z2).trans x10, (b8.cell (p := ⟨s4, 1, none⟩) z2).trans x11⟩ | exact ⟨(b9.cell (p := ⟨w.heap.size, 0, none⟩) (Nat.lt_of_lt_of_le z1 b8.size)).trans ((b8.cell (p := ⟨w.heap.size, 0, none⟩) z1).trans c10), (b9.cell (p := ⟨w.heap.size, 1, none⟩) (Nat.lt_of_lt_of_le z1 b8.size)).trans ((b8.cell (p := ⟨w.heap.size, 1, none⟩) z1).trans c11), (b9.cell (p := ⟨s4, 0, none⟩) (Nat.lt_of_lt_of_le z2 b8.size)).trans ((b8.cell (p := ⟨s4, 0, none⟩) z2).trans x10), (b9.cell (p := ⟨s4, 1, none⟩) (Nat.lt_of_lt_of_le z2 b8.size)).trans ((b8.cell (p := ⟨s4, 1, none⟩) z2).trans x11)⟩)
    (first
      | (go_at_call 14; refine (toPuzzle_cap m A n c xs _ HN.out hm r6).mono ?_; rintro e w8 ⟨B8, rfl, o8, b8⟩)
      | (go_at_call 16; refine (eqPuzzle_same m B4 B8 n n n _ _ _ _ xs _ HN.out (by omega) (HO6.out _ b8) o8 (Nat.le_trans z3 b8.size) (Nat.le_refl _)).mono ?_; rintro e w9 ⟨rfl, b9⟩))
  have F2 := (HF.out.below b8).below b9
  clear HF HO6 b8 b9 r6 c10 c11 x10 x11 z1 z2 z3 o8
  obtain ⟨c10, c11⟩ := F2.xb.cells
  go_wp2_with fail
  refine (markPuzzle_any m B4 n n (s3 + 1) s4 (c64 xs) 1 w9 (by rw [c64_len, HN.out]) (by omega) (by omega) (by omega) F2.xo (by have := F2.y2; have := F2.z4; have := F2.z5; omega) (by have := F2.z4; have := F2.z5; omega)).mono ?_
  rintro e w10 ⟨rfl, x10, b10, k10⟩
  have F3 := F2.markX b10 k10 x10
  clear F2 x10 b10 k10 c10 c11
  obtain ⟨c10, c11⟩ := F3.wb.cells
  obtain ⟨x10, x11⟩ := F3.gb.cells
  go_wp2_with fail
  refine (eqPuzzle_same m' A5 A3 p c5 c3 _ _ _ _ ys _ HP.out (by omega) F3.go F3.wo (by have := F3.z5; omega) (by have := F3.z3; have := F3.z4; have := F3.z5; omega)).mono ?_
  rintro e w11 ⟨rfl, b11⟩
  have F4 := F3.below b11
  clear F3 b11 c10 c11 x10 x11
  obtain ⟨x10, x11⟩ := F4.gb.cells
  go_wp2_with fail
  refine (markPuzzle_any m' A5 p c5 (s4 + 1) s5 (c64 ys) 1 w11 (by rw [c64_len, HP.out]) (by omega) (by omega) (by omega) F4.go (by have := F4.z4; have := F4.z5; omega) (by have := F4.z5; omega)).mono ?_
  rintro e w12 ⟨rfl, y12, b12, k12⟩
  have F5 := F4.markG b12 k12 y12
  clear F4 b12 k12 y12 x10 x11
  obtain ⟨x10, x11⟩ := F5.gb.cells
  go_wp2_with fail
  refine (heldPuzzle_any m' A5 p c5 _ _ 1 _ (by omega) (by omega) (by omega) F5.go (by have := F5.z5; omega)).mono ?_
  rintro e w13 ⟨rfl, b13⟩
  have F6 := F5.below b13
  clear F5 b13 x10 x11
  obtain ⟨c10, c11⟩ := F6.pb.cells
  go_wp2_with fail
  refine (toPuzzle_cap m A n c xs w13 HN.out hm (rd_up9 HA.out F6.b)).mono ?_
  rintro e w14 ⟨B14, rfl, o14, b14⟩
  have F7 := F6.below b14
  clear F6 b14 c10 c11
  go_wp2_with fail
  refine (HI.out B14 _ w14 o14).mono ?_
  rintro e w15 ⟨A15, c15, rfl, g15, b15⟩
  rw [HP.out]
  have F8 := F7.below b15
  clear F7 b15 o14
  have hb := Bx.new w15 m' A15 p c15 35
  have b16 : Below w15.heap.size w15 (w15.alloc (.cells #[.int .i64 m', .slice A15 p c15] 35)) := (Below.refl _ _).alloc (Nat.le_refl _) _
  have F10 := F8.below b16
  have g16 := g15.below b16 (Nat.le_refl _)
  have z16 := b16.size
  clear F8 b16 g15
  obtain ⟨c10, c11⟩ := F10.wb.cells
  obtain ⟨x10, x11⟩ := hb.cells
  go_wp2_with fail
  refine (eqPuzzle_same m' A15 A3 p c15 c3 _ _ _ _ ys _ HP.out (by omega) g16 F10.wo z16 (by have := F10.z3; have := F10.z4; have := F10.z5; omega)).mono ?_
  rintro e w17 ⟨rfl, b17⟩
  have F11 := F10.below b17
  clear F10 b17 g16 z16 hb c10 c11 x10 x11
  obtain ⟨x10, x11⟩ := F11.gb.cells
  go_wp2_with fail
  refine (heldPuzzle_any m' A5 p c5 _ _ 1 _ (by omega) (by omega) (by omega) F11.go (by have := F11.z5; omega)).mono ?_
  rintro e w18 ⟨rfl, b18⟩
  have F12 := F11.below b18
  clear F11 b18 x10 x11
  go_wp2
  go_ret
  exact ⟨rfl, F12.b⟩
theorem lawZ_DropClue_big (m : Int) (A : Option Addr) (n c : Nat) (k : Int) (w : World) (h1 : 1048576 < n) (h2 : n ≤ 9223372036854775807) :
    Calls Try.prog 6 #[.agg #[.int .i64 m, .slice A n c], .int .i64 k] w fun e w' => e = .returned (.bool true) ∧ Below w.heap.size w w' := by
  have HZ : Hid (∀ W, Calls Try.prog 12 #[.agg #[.int .i64 m, .slice A n c], .int .i64 1048576] W fun e w' => e = .returned (.int .i64 (-1)) ∧ Below W.heap.size W w') := Lib.hid fun W => by
    have h := szPuzzle_any m A n c 1048576 W h2 (by omega) (by omega)
    rwa [if_pos (by omega)] at h
  have b0 : Below w.heap.size w (w.alloc (.cells #[.int .i64 m, .slice A n c] 30)) := (Below.refl _ _).alloc (Nat.le_refl _) _
  go_enter Try.func6, Try.ntmps6
  go_wp2_with (go_at_call 12; refine (HZ.out _).mono ?_; rintro e w1 ⟨rfl, b1⟩)
  go_ret
  exact ⟨rfl, b0.trans (b1.mono b0.size)⟩
end Go.Proofs.Ytmpajeldfbchhaa
