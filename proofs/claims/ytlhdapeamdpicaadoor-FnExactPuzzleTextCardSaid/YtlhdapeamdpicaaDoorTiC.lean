/- Chapter 9: the law PuzzleText, walked. -/
import Derived.Test.YtlhdapeamdpicaaDoorTiB
import Derived.Test.YtlhdapeamdpicaaDoorTfH
namespace Go.Proofs.YtlhdapeamdpicaaDoor
open Go.ChangeShapes Go.WideShapes Go.ChangeAt Go.RowKit

theorem rd_upT {w w' : World} {A : Option Addr} {cs : List Value} (h : Rd w w.heap.size A cs) (hb : Below w.heap.size w w') : Rd w' w'.heap.size A cs := fun hc => by
  obtain ⟨ad, e1, e2, e3⟩ := (h.below hb (Nat.le_refl _)) hc
  exact ⟨ad, e1, Nat.lt_of_lt_of_le e2 hb.size, e3⟩
theorem lawT_PuzzleText_big (m : Int) (A : Option Addr) (n c : Nat) (w : World) (h1 : 1048576 < n) (h2 : n ≤ 9223372036854775807) :
    Calls Tryd.prog 3 #[.agg #[.int .i64 m, .slice A n c]] w fun e w' => e = .returned (.bool true) ∧ Below w.heap.size w w' := by
  have HZ : Hid (∀ W, Calls Tryd.prog 5 #[.agg #[.int .i64 m, .slice A n c], .int .i64 1048576] W fun e w' => e = .returned (.int .i64 (-1)) ∧ Below W.heap.size W w') := Lib.hid fun W => by
    have h := szPuzzle_any m A n c 1048576 W h2 (by omega) (by omega)
    rwa [if_pos (by omega)] at h
  have b0 : Below w.heap.size w (w.alloc (.cells #[.int .i64 m, .slice A n c] 24)) := (Below.refl _ _).alloc (Nat.le_refl _) _
  go_enter Tryd.func3, Tryd.ntmps3
  go_wp2_with (go_at_call 5; refine (HZ.out _).mono ?_; rintro e w1 ⟨rfl, b1⟩)
  go_ret
  exact ⟨rfl, b0.trans (b1.mono b0.size)⟩
set_option maxRecDepth 4000 in
set_option maxHeartbeats 3200000 in
theorem lawT_PuzzleText (m : Int) (A : Option Addr) (n c : Nat) (xs : List Clu) (s : ByteArray) (ok : Bool) (w : World) (hn : xs.length = n) (hm : n ≤ 1048576) (ha : Rd w w.heap.size A (c64 xs))
    (hs : ∀ (B : Option Addr) (W : World), Below w.heap.size w W → Own W 0 W.heap.size B (c64 xs) → Calls Tryd.prog 6 #[.agg #[.int .i64 m, .slice B n n]] W fun e w' => e = .returned (.tuple #[.string s, .bool ok]) ∧ Below W.heap.size W w')
    (hi : ∀ (B : Option Addr) (W : World), Below w.heap.size w W → Own W 0 W.heap.size B (c64 xs) → Calls Tryd.prog 8 #[.agg #[.int .i64 m, .slice B n n]] W fun e w' => e = .returned (.tuple #[.string s, .bool ok]) ∧ Below W.heap.size W w') :
    Calls Tryd.prog 3 #[.agg #[.int .i64 m, .slice A n c]] w fun e w' => e = .returned (.bool true) ∧ Below w.heap.size w w' := by
  have HS := Lib.hid hs
  have HI := Lib.hid hi
  have HA := Lib.hid ha
  have HN := Lib.hid hn
  have HZ : Hid (∀ W, Calls Tryd.prog 5 #[.agg #[.int .i64 m, .slice A n c], .int .i64 1048576] W fun e w' => e = .returned (.int .i64 (1048576 - n)) ∧ Below W.heap.size W w') := Lib.hid fun W => by
    have h := szPuzzle_any m A n c 1048576 W (by omega) (by omega) (by omega)
    rwa [if_neg (by omega)] at h
  clear hs hi ha hn
  have hmi : (n : Int) ≤ 1048576 := by omega
  have b0 : Below w.heap.size w (w.alloc (.cells #[.int .i64 m, .slice A n c] 24)) := (Below.refl _ _).alloc (Nat.le_refl _) _
  have c00 : (w.alloc (.cells #[.int .i64 m, .slice A n c] 24)).cell? ⟨w.heap.size, 0, none⟩ = some (.int .i64 m) := by simp [go_sem]
  have c01 : (w.alloc (.cells #[.int .i64 m, .slice A n c] 24)).cell? ⟨w.heap.size, 1, none⟩ = some (.slice A n c) := by simp [go_sem]
  have s0 : w.heap.size < (w.alloc (.cells #[.int .i64 m, .slice A n c] 24)).heap.size := by simp
  have HC0 := Lib.hid c00
  have HC1 := Lib.hid c01
  clear c00 c01
  go_enter Tryd.func3, Tryd.ntmps3
  go_wp2_with fail
  refine (HZ.out _).mono ?_
  rintro e w1 ⟨rfl, b1⟩
  have c10 := (b1.cell (p := ⟨w.heap.size, 0, none⟩) s0).trans HC0.out
  have c11 := (b1.cell (p := ⟨w.heap.size, 1, none⟩) s0).trans HC1.out
  have b01 : Below w.heap.size w w1 := b0.trans (b1.mono b0.size)
  have s1 := Nat.lt_of_lt_of_le s0 b1.size
  clear b0 b1 s0 HC0 HC1
  go_wp2_with fail
  refine (toPuzzle_cap m A n c xs w1 HN.out hm (rd_upT HA.out b01)).mono ?_
  rintro e w2 ⟨B2, rfl, o2, b2⟩
  have c20 := (b2.cell (p := ⟨w.heap.size, 0, none⟩) s1).trans c10
  have c21 := (b2.cell (p := ⟨w.heap.size, 1, none⟩) s1).trans c11
  have b02 : Below w.heap.size w w2 := b01.trans (b2.mono b01.size)
  have s2 := Nat.lt_of_lt_of_le s1 b2.size
  clear b2 c10 c11 b01 s1
  go_wp2_with fail
  refine (HS.out B2 w2 b02 (o2.wide (Nat.zero_le _) (Nat.le_refl _))).mono ?_
  rintro e w3 ⟨rfl, b3⟩
  have c30 := (b3.cell (p := ⟨w.heap.size, 0, none⟩) s2).trans c20
  have c31 := (b3.cell (p := ⟨w.heap.size, 1, none⟩) s2).trans c21
  have b03 : Below w.heap.size w w3 := b02.trans (b3.mono b02.size)
  have s3 := Nat.lt_of_lt_of_le s2 b3.size
  clear b3 c20 c21 b02 s2 o2
  go_wp2_with fail
  refine (toPuzzle_cap m A n c xs w3 HN.out hm (rd_upT HA.out b03)).mono ?_
  rintro e w4 ⟨B4, rfl, o4, b4⟩
  have c40 := (b4.cell (p := ⟨w.heap.size, 0, none⟩) s3).trans c30
  have c41 := (b4.cell (p := ⟨w.heap.size, 1, none⟩) s3).trans c31
  have b04 : Below w.heap.size w w4 := b03.trans (b4.mono b03.size)
  have s4 := Nat.lt_of_lt_of_le s3 b4.size
  clear b4 c30 c31 b03 s3
  -- the copy in its box
  have b45 : Below w4.heap.size w4 (w4.alloc (.cells #[.int .i64 m, .slice B4 n n] 30)) := (Below.refl _ _).alloc (Nat.le_refl _) _
  have HX : Hid ((w4.alloc (.cells #[.int .i64 m, .slice B4 n n] 30)).cell? ⟨w4.heap.size, 0, none⟩ = some (.int .i64 m) ∧ (w4.alloc (.cells #[.int .i64 m, .slice B4 n n] 30)).cell? ⟨w4.heap.size, 1, none⟩ = some (.slice B4 n n)) := Lib.hid ⟨by simp [go_sem], by simp [go_sem]⟩
  have HZ5 : Hid ((w4.alloc (.cells #[.int .i64 m, .slice B4 n n] 30)).heap.size = w4.heap.size + 1) := Lib.hid (by simp)
  have HO5 := Lib.hid (o4.below b45 (Nat.le_refl _))
  have HB5 := Lib.hid (b04.trans (b45.mono b04.size))
  have HC5 := Lib.hid (And.intro ((b45.cell (p := ⟨w.heap.size, 0, none⟩) s4).trans c40) ((b45.cell (p := ⟨w.heap.size, 1, none⟩) s4).trans c41))
  have h45 := b45.size
  clear b45 o4 b04 c40 c41
  go_wp2_with fail
  refine (HI.out B4 _ HB5.out (HO5.out.wide (Nat.zero_le _) h45)).mono ?_
  rintro e w5 ⟨rfl, b5⟩
  have HX6 : Hid (w5.cell? ⟨w4.heap.size, 0, none⟩ = some (.int .i64 m) ∧ w5.cell? ⟨w4.heap.size, 1, none⟩ = some (.slice B4 n n)) := Lib.hid ⟨(b5.cell (p := ⟨w4.heap.size, 0, none⟩) (by rw [HZ5.out]; exact Nat.lt_succ_self _)).trans HX.out.1, (b5.cell (p := ⟨w4.heap.size, 1, none⟩) (by rw [HZ5.out]; exact Nat.lt_succ_self _)).trans HX.out.2⟩
  have HC6 : Hid (w5.cell? ⟨w.heap.size, 0, none⟩ = some (.int .i64 m) ∧ w5.cell? ⟨w.heap.size, 1, none⟩ = some (.slice A n c)) := Lib.hid ⟨(b5.cell (p := ⟨w.heap.size, 0, none⟩) (Nat.lt_of_lt_of_le s4 h45)).trans HC5.out.1, (b5.cell (p := ⟨w.heap.size, 1, none⟩) (Nat.lt_of_lt_of_le s4 h45)).trans HC5.out.2⟩
  have HO6 := Lib.hid (HO5.out.below b5 h45)
  have HB6 := Lib.hid (HB5.out.trans (b5.mono HB5.out.size))
  have z2 : w4.heap.size < w5.heap.size := by have := b5.size; rw [HZ5.out] at this; omega
  clear b5 HX HZ5 HO5 HB5 HC5 h45
  go_wp2_with fail
  obtain ⟨c10, c11⟩ := HC6.out
  obtain ⟨x10, x11⟩ := HX6.out
  have z1 : w.heap.size < w5.drew.heap.size := Nat.lt_trans s4 z2
  have z3 : w4.heap.size < w5.drew.heap.size := z2
  have r6 : Rd w5.drew w5.drew.heap.size A (c64 xs) := rd_upT HA.out HB6.out.drew
  have HO7 : Hid (∀ w8, Below w5.drew.heap.size w5.drew w8 → Own w8 _ _ B4 (c64 xs)) := Lib.hid fun w8 b8 => Own.below (w := w5.drew) HO6.out b8 (Nat.le_of_lt z3)
  clear z2 s4
  go_region_held3 (fun w' => w'.cell? ⟨w.heap.size, 0, none⟩ = some (.int .i64 m) ∧ w'.cell? ⟨w.heap.size, 1, none⟩ = some (.slice A n c) ∧ w'.cell? ⟨w4.heap.size, 0, none⟩ = some (.int .i64 m) ∧ w'.cell? ⟨w4.heap.size, 1, none⟩ = some (.slice B4 n n))
    (first | exact ⟨c10, c11, x10, x11⟩ | exact ⟨(b8.cell (p := ⟨w.heap.size, 0, none⟩) z1).trans c10, (b8.cell (p := ⟨w.heap.size, 1, none⟩) z1).trans c11, (b8.cell (p := ⟨w4.heap.size, 0, none⟩) z3).trans x10, (b8.cell (p := ⟨w4.heap.size, 1, none⟩) z3).trans x11⟩ | exact ⟨(b9.cell (p := ⟨w.heap.size, 0, none⟩) (Nat.lt_of_lt_of_le z1 b8.size)).trans ((b8.cell (p := ⟨w.heap.size, 0, none⟩) z1).trans c10), (b9.cell (p := ⟨w.heap.size, 1, none⟩) (Nat.lt_of_lt_of_le z1 b8.size)).trans ((b8.cell (p := ⟨w.heap.size, 1, none⟩) z1).trans c11), (b9.cell (p := ⟨w4.heap.size, 0, none⟩) (Nat.lt_of_lt_of_le z3 b8.size)).trans ((b8.cell (p := ⟨w4.heap.size, 0, none⟩) z3).trans x10), (b9.cell (p := ⟨w4.heap.size, 1, none⟩) (Nat.lt_of_lt_of_le z3 b8.size)).trans ((b8.cell (p := ⟨w4.heap.size, 1, none⟩) z3).trans x11)⟩)
    (first
      | (go_at_call 7; refine (toPuzzle_cap m A n c xs _ HN.out hm r6).mono ?_; rintro e w8 ⟨B8, rfl, o8, b8⟩)
      | (go_at_call 9; refine (eqPuzzle_same m B4 B8 n n n _ _ _ _ xs _ HN.out (by omega) (HO7.out _ b8) o8 (Nat.le_trans (Nat.le_of_lt z3) b8.size) (Nat.le_refl _)).mono ?_; rintro e w9 ⟨rfl, b9⟩))
  have HB9 := Lib.hid ((HB6.out.drew.trans (b8.mono HB6.out.drew.size)).trans (b9.mono (HB6.out.drew.trans (b8.mono HB6.out.drew.size)).size))
  clear b8 b9 o8 r6 c10 c11 x10 x11 z1 z3
  go_wp2
  go_ret
  exact ⟨rfl, HB9.out⟩
theorem walk_PuzzleText (m : Int) (A : Option Addr) (n c : Nat) (xs : List Clu) (w : World) (hn : xs.length = n) (h2 : n ≤ 9223372036854775807) (ha : Rd w w.heap.size A (c64 xs)) (ht : Lib.TabIs Tryd.prog w "internal/strconv.uint64pow10" .u64 Lib.pow10Tab) :
    Calls Tryd.prog 3 #[.agg #[.int .i64 m, .slice A n c]] w fun e w' => e = .returned (.bool true) ∧ Below w.heap.size w w' := by
  by_cases hb : 1048576 < n
  · exact lawT_PuzzleText_big m A n c w hb h2
  · cases hok : okp9 m xs with
    | false => exact lawT_PuzzleText m A n c xs ⟨#[]⟩ false w hn (by omega) ha (fun B W _ ho => spec_PuzzleText_no m B n n 0 xs W hn (by omega) ho hok) (fun B W _ ho => impl_PuzzleText_no m B n n 0 xs W hn (by omega) ho hok)
    | true => exact lawT_PuzzleText m A n c xs (pzR m xs n) true w hn (by omega) ha (fun B W _ ho => spec_PuzzleText_yes m B n n 0 xs W hn ho hok) (fun B W hW ho => impl_PuzzleText_yes m B n n 0 xs W hn ho hok (tab_below9 ht hW))
end Go.Proofs.YtlhdapeamdpicaaDoor
