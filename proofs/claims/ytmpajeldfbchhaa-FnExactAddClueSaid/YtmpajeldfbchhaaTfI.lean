/- Chapter 9: the frame of the law IsPuzzle. -/
import Derived.Test.YtmpajeldfbchhaaTfH
import Derived.Deep.RegionHeld3
namespace Go.Proofs.Ytmpajeldfbchhaa
open Go.ChangeShapes Go.WideShapes Go.ChangeAt Go.RowKit

theorem rd_up9 {w w' : World} {A : Option Addr} {cs : List Value} (h : Rd w w.heap.size A cs) (hb : Below w.heap.size w w') : Rd w' w'.heap.size A cs := fun hn => by
  obtain ⟨ad, e1, e2, e3⟩ := (h.below hb (Nat.le_refl _)) hn
  exact ⟨ad, e1, Nat.lt_of_lt_of_le e2 hb.size, e3⟩
/-- The cells of the puzzle that is handed in. -/
def Arg9 (w : World) (Q : Nat) (m : Int) (A : Option Addr) (n c : Nat) : Prop := w.cell? ⟨Q, 0, none⟩ = some (.int .i64 m) ∧ w.cell? ⟨Q, 1, none⟩ = some (.slice A n c) ∧ Q < w.heap.size
theorem Arg9.below {w w' : World} {Q B : Nat} {m : Int} {A : Option Addr} {n c : Nat} (h : Arg9 w Q m A n c) (hb : Below B w w') (hB : w.heap.size ≤ B) : Arg9 w' Q m A n c :=
  ⟨(hb.cell (p := ⟨Q, 0, none⟩) (Nat.lt_of_lt_of_le h.2.2 hB)).trans h.1, (hb.cell (p := ⟨Q, 1, none⟩) (Nat.lt_of_lt_of_le h.2.2 hB)).trans h.2.1, Nat.lt_of_lt_of_le h.2.2 hb.size⟩
theorem Arg9.new (w : World) (m : Int) (A : Option Addr) (n c : Nat) (t : TypeId) : Arg9 (w.alloc (.cells #[.int .i64 m, .slice A n c] t)) w.heap.size m A n c :=
  ⟨by simp [go_sem], by simp [go_sem], by simp⟩
set_option maxHeartbeats 3200000 in
theorem lawP_IsPuzzle (m : Int) (A : Option Addr) (n c : Nat) (xs : List Clu) (r : Bool) (w : World) (hn : xs.length = n) (hm : n ≤ 1048576) (ha : Rd w w.heap.size A (c64 xs))
    (hs : ∀ (B : Option Addr) (d lo : Nat) (w : World), Own w lo w.heap.size B (c64 xs) → Calls Try.prog 13 #[.agg #[.int .i64 m, .slice B n d]] w fun e w' => e = .returned (.bool r) ∧ Below w.heap.size w w')
    (hi : ∀ (B : Option Addr) (d lo : Nat) (w : World), Own w lo w.heap.size B (c64 xs) → Calls Try.prog 15 #[.agg #[.int .i64 m, .slice B n d]] w fun e w' => e = .returned (.bool r) ∧ Below w.heap.size w w') :
    Calls Try.prog 4 #[.agg #[.int .i64 m, .slice A n c]] w fun e w' => e = .returned (.bool true) ∧ Below w.heap.size w w' := by
  have HS := Lib.hid hs
  have HI := Lib.hid hi
  have HA := Lib.hid ha
  have HN := Lib.hid hn
  have HZ : Hid (∀ W, Calls Try.prog 12 #[.agg #[.int .i64 m, .slice A n c], .int .i64 1048576] W fun e w' => e = .returned (.int .i64 (1048576 - n)) ∧ Below W.heap.size W w') := Lib.hid fun W => by
    have h := szPuzzle_any m A n c 1048576 W (by omega) (by omega) (by omega)
    rwa [if_neg (by omega)] at h
  clear hs hi ha hn
  have hmi : (n : Int) ≤ 1048576 := by omega
  have q0 := Arg9.new w m A n c 30
  have b0 : Below w.heap.size w (w.alloc (.cells #[.int .i64 m, .slice A n c] 30)) := (Below.refl _ _).alloc (Nat.le_refl _) _
  go_enter Try.func4, Try.ntmps4
  go_wp2_with fail
  refine (HZ.out _).mono ?_
  rintro e w1 ⟨rfl, b1⟩
  have q1 := q0.below b1 (Nat.le_refl _)
  have b01 : Below w.heap.size w w1 := b0.trans (b1.mono b0.size)
  clear q0 b0 b1
  obtain ⟨c10, c11, z1⟩ := q1
  go_wp2_with fail
  refine (toPuzzle_any m A n c xs w1 HN.out hm (rd_up9 HA.out b01)).mono ?_
  rintro e w2 ⟨B2, d2, rfl, o2, b2⟩
  have q2 := Arg9.below (w := w1) ⟨c10, c11, z1⟩ b2 (Nat.le_refl _)
  have b02 : Below w.heap.size w w2 := b01.trans (b2.mono b01.size)
  clear b2 c10 c11 z1
  go_wp2_with fail
  refine (HS.out B2 d2 _ w2 o2).mono ?_
  rintro e w3 ⟨rfl, b3⟩
  have q3 := q2.below b3 (Nat.le_refl _)
  have b03 : Below w.heap.size w w3 := b02.trans (b3.mono b02.size)
  clear b3 b02 o2 b01 q2
  obtain ⟨c10, c11, z1⟩ := q3
  go_wp2_with fail
  refine (toPuzzle_any m A n c xs w3 HN.out hm (rd_up9 HA.out b03)).mono ?_
  rintro e w4 ⟨B4, d4, rfl, o4, b4⟩
  have q4 := Arg9.below (w := w3) ⟨c10, c11, z1⟩ b4 (Nat.le_refl _)
  have b04 : Below w.heap.size w w4 := b03.trans (b4.mono b03.size)
  have x4 := Arg9.new w4 m B4 n d4 35
  have b45 : Below w4.heap.size w4 (w4.alloc (.cells #[.int .i64 m, .slice B4 n d4] 35)) := (Below.refl _ _).alloc (Nat.le_refl _) _
  have q5 := q4.below b45 (Nat.le_refl _)
  have o5 := o4.below b45 (Nat.le_refl _)
  have b05 := b04.trans (b45.mono b04.size)
  have s45 := b45.size
  clear b4 c10 c11 z1 b03 q4 o4 b45 b04
  go_wp2_with fail
  refine (HI.out B4 d4 _ _ (o5.wide (Nat.le_refl _) s45)).mono ?_
  rintro e w6 ⟨rfl, b6⟩
  have q6 := q5.below b6 (Nat.le_refl _)
  have x6 := x4.below b6 (Nat.le_refl _)
  have o6 := o5.below b6 s45
  have b06 := b05.trans (b6.mono b05.size)
  have s46 : w4.heap.size ≤ w6.heap.size := Nat.le_trans s45 b6.size
  clear b6 q5 x4 o5 b05 s45
  obtain ⟨c10, c11, z1⟩ := q6
  obtain ⟨x10, x11, z2⟩ := x6
  go_wp2_with fail
  have r6 : Rd w6.drew w6.drew.heap.size A (c64 xs) := rd_up9 HA.out b06.drew
  have o6d : Own w6.drew w4.heap.size w4.heap.size.succ B4 (c64 xs) → True := fun _ => trivial
  have HO6 : Hid (∀ w7, Below w6.drew.heap.size w6.drew w7 → Own w7 _ _ B4 (c64 xs)) := Lib.hid fun w7 b7 => Own.below (w := w6.drew) o6 b7 s46
  clear o6d
  go_region_held3 (fun w' => w'.cell? ⟨w.heap.size, 0, none⟩ = some (.int .i64 m) ∧ w'.cell? ⟨w.heap.size, 1, none⟩ = some (.slice A n c) ∧ w'.cell? ⟨w4.heap.size, 0, none⟩ = some (.int .i64 m) ∧ w'.cell? ⟨w4.heap.size, 1, none⟩ = some (.slice B4 n d4))
    (first | exact ⟨c10, c11, x10, x11⟩ | exact ⟨(b7.cell (p := ⟨w.heap.size, 0, none⟩) z1).trans c10, (b7.cell (p := ⟨w.heap.size, 1, none⟩) z1).trans c11, (b7.cell (p := ⟨w4.heap.size, 0, none⟩) z2).trans x10, (b7.cell (p := ⟨w4.heap.size, 1, none⟩) z2).trans x11⟩ | exact ⟨(b8.cell (p := ⟨w.heap.size, 0, none⟩) (Nat.lt_of_lt_of_le z1 b7.size)).trans ((b7.cell (p := ⟨w.heap.size, 0, none⟩) z1).trans c10), (b8.cell (p := ⟨w.heap.size, 1, none⟩) (Nat.lt_of_lt_of_le z1 b7.size)).trans ((b7.cell (p := ⟨w.heap.size, 1, none⟩) z1).trans c11), (b8.cell (p := ⟨w4.heap.size, 0, none⟩) (Nat.lt_of_lt_of_le z2 b7.size)).trans ((b7.cell (p := ⟨w4.heap.size, 0, none⟩) z2).trans x10), (b8.cell (p := ⟨w4.heap.size, 1, none⟩) (Nat.lt_of_lt_of_le z2 b7.size)).trans ((b7.cell (p := ⟨w4.heap.size, 1, none⟩) z2).trans x11)⟩)
    (first
      | (go_at_call 14; refine (toPuzzle_any m A n c xs _ HN.out hm r6).mono ?_; rintro e w7 ⟨B7, d7, rfl, o7, b7⟩)
      | (go_at_call 16; refine (eqPuzzle_same m B4 B7 n d4 d7 _ _ _ _ xs _ HN.out (by omega) (HO6.out _ b7) o7 (Nat.le_trans s46 b7.size) (Nat.le_refl _)).mono ?_; rintro e w8 ⟨rfl, b8⟩))
  have b08 : Below w.heap.size w w8 := (b06.drew.trans (b7.mono b06.size)).trans (b8.mono (Nat.le_trans b06.size b7.size))
  have HB := Lib.hid b08
  clear b08 b8 b7 b06 r6 c10 c11 x10 x11 z1 z2 o6 o7 s46
  go_wp2
  go_ret
  exact ⟨rfl, HB.out⟩
theorem lawP_IsPuzzle_big (m : Int) (A : Option Addr) (n c : Nat) (w : World) (h1 : 1048576 < n) (h2 : n ≤ 9223372036854775807) :
    Calls Try.prog 4 #[.agg #[.int .i64 m, .slice A n c]] w fun e w' => e = .returned (.bool true) ∧ Below w.heap.size w w' := by
  have HZ : Hid (∀ W, Calls Try.prog 12 #[.agg #[.int .i64 m, .slice A n c], .int .i64 1048576] W fun e w' => e = .returned (.int .i64 (-1)) ∧ Below W.heap.size W w') := Lib.hid fun W => by
    have h := szPuzzle_any m A n c 1048576 W h2 (by omega) (by omega)
    rwa [if_pos (by omega)] at h
  have b0 : Below w.heap.size w (w.alloc (.cells #[.int .i64 m, .slice A n c] 30)) := (Below.refl _ _).alloc (Nat.le_refl _) _
  go_enter Try.func4, Try.ntmps4
  go_wp2_with (go_at_call 12; refine (HZ.out _).mono ?_; rintro e w1 ⟨rfl, b1⟩)
  go_ret
  exact ⟨rfl, b0.trans (b1.mono b0.size)⟩
theorem spec_IsPuzzle (m : Int) (A : Option Addr) (n c lo : Nat) (xs : List Clu) (w : World) (hn : xs.length = n) (hm : n ≤ 1048576) (ha : Own w lo w.heap.size A (c64 xs)) :
    Calls Try.prog 13 #[.agg #[.int .i64 m, .slice A n c]] w fun e w' => e = .returned (.bool (okp9 m xs)) ∧ Below w.heap.size w w' := by
  have b0 : Below w.heap.size w (w.alloc (.cells #[.int .i64 m, .slice A n c] 35)) := (Below.refl _ _).alloc (Nat.le_refl _) _
  have HP := Lib.hid (pzGood_any m A n c _ _ xs _ hn hm (ha.below b0 (Nat.le_refl _)) b0.size)
  go_enter Try.func13, Try.ntmps13
  go_wp2_with (go_at_call 31; refine HP.out.mono ?_; rintro e w1 ⟨rfl, b1⟩)
  go_ret
  exact ⟨rfl, b0.trans (b1.mono b0.size)⟩
end Go.Proofs.Ytmpajeldfbchhaa
