/- Chapter 9, by the program: the law DropClue. -/
import Derived.Test.YtmpajeldfbchhaaTgJ
import Derived.Test.YtmpajeldfbchhaaTfJ
namespace Go.Proofs.Ytmpajeldfbchhaa
open Go.ChangeShapes Go.WideShapes Go.ChangeAt Go.RowKit

set_option maxRecDepth 4000 in
set_option maxHeartbeats 1600000 in
theorem impl_DropClue_no (m : Int) (A : Option Addr) (n c lo : Nat) (xs : List Clu) (k : Int) (w : World) (hn : xs.length = n) (hm : n ≤ 1048576) (ha : Own w lo w.heap.size A (c64 xs)) (hno : okp9 m xs = false ∨ (k < 0 ∨ (n : Int) - 1 < k)) :
    Calls Try.prog 20 #[.agg #[.int .i64 m, .slice A n c], .int .i64 k] w (ResZ false 0 [] w) := by
  obtain ⟨bx, rm, b0, z0⟩ := entry9 w m A n c 35 35
  have HP := Lib.hid (isPuzzle_any m A n c _ _ xs _ hn hm (ha.below b0 (Nat.le_refl _)) b0.size)
  cases hok : okp9 m xs with
  | false =>
    rw [hok] at HP
    obtain ⟨c0, c1⟩ := bx.cells
    have HB0 := Lib.hid b0
    have HR0 := Lib.hid rm
    clear ha bx rm b0 hno hok
    go_enter Try.func20, Try.ntmps20
    go_wp2_with (go_at_call 15; refine HP.out.mono ?_; rintro e w1 ⟨rfl, b1⟩; have HB1 := Lib.hid b1; obtain ⟨r0, r1, f0, f1⟩ := HR0.out.below b1 (by rw [z0]; exact Nat.le_refl _); clear b1)
    have hb := set2_below9 (HB0.out.trans (HB1.out.mono HB0.out.size)) (Nat.le_succ w.heap.size) (.int .i64 0) (.slice none 0 0)
    have HB := Lib.hid hb
    clear hb
    exact bodyPost_ret (v := .tuple #[.agg #[.int .i64 0, .slice none 0 0], .bool false]) (by simp [results, Try.results20, go_sem, r0, r1]) rfl ⟨none, 0, rfl, Own.none_, HB.out⟩
  | true =>
    rw [hok] at HP
    have HK := Lib.hid fun W => hasClue_any m A n c k W hm
    rw [betr_no (x := k) (lo := 0) (hi := (n : Int) - 1) (hno.resolve_left (by rw [hok]; simp))] at HK
    obtain ⟨c0, c1⟩ := bx.cells
    have HB0 := Lib.hid b0
    have HR0 := Lib.hid rm
    have HX0 := Lib.hid bx
    clear ha bx rm b0 hno hok
    go_enter Try.func20, Try.ntmps20
    go_wp2_with (first
      | (go_at_call 15; refine HP.out.mono ?_; rintro e w1 ⟨rfl, b1⟩; have HB1 := Lib.hid (HB0.out.trans (b1.mono HB0.out.size)); have HR1 := Lib.hid (HR0.out.below b1 (by rw [z0]; exact Nat.le_refl _)); have hz1 : w.heap.size + 2 ≤ w1.heap.size := (by have := b1.size; rw [z0] at this; exact this); obtain ⟨d0, d1⟩ := (HX0.out.below b1 (by rw [z0]; omega)).cells; clear b1)
      | (go_at_call 41; refine (HK.out _).mono ?_; rintro e w2 ⟨rfl, b2⟩; have HB2 := Lib.hid (HB1.out.trans (b2.mono HB1.out.size)); obtain ⟨r0, r1, f0, f1⟩ := HR1.out.below b2 hz1; clear b2))
    have hb := set2_below9 HB2.out (Nat.le_succ w.heap.size) (.int .i64 0) (.slice none 0 0)
    have HB := Lib.hid hb
    clear hb
    exact bodyPost_ret (v := .tuple #[.agg #[.int .i64 0, .slice none 0 0], .bool false]) (by simp [results, Try.results20, go_sem, r0, r1]) rfl ⟨none, 0, rfl, Own.none_, HB.out⟩
theorem okp9_len {m : Int} {xs : List Clu} (h : okp9 m xs = true) : xs.length ≤ 6 := by
  unfold okp9 at h
  simp only [Bool.and_eq_true, decide_eq_true_iff] at h
  exact h.1.2
set_option maxRecDepth 4000 in
set_option maxHeartbeats 1600000 in
theorem impl_DropClue_yes (m : Int) (A : Option Addr) (n c lo : Nat) (xs : List Clu) (k : Nat) (w : World) (hn : xs.length = n) (hm : n ≤ 1048576) (hnc : n ≤ c) (hc2 : c ≤ 9223372036854775807) (ha : Own w lo w.heap.size A (c64 xs)) (hok : okp9 m xs = true) (hk : k < n) :
    Calls Try.prog 20 #[.agg #[.int .i64 m, .slice A n c], .int .i64 (k : Int)] w (ResZ true m (without9 xs k) w) := by
  obtain ⟨g, o, rfl, _, _, _⟩ := ha (by rw [c64_len]; omega)
  obtain ⟨bx, rm, b0, z0⟩ := entry9 w m (some ⟨g, o, none⟩) n c 35 35
  have HP := Lib.hid (isPuzzle_any m (some ⟨g, o, none⟩) n c _ _ xs _ hn hm (ha.below b0 (Nat.le_refl _)) b0.size)
  have h6 := okp9_len hok
  rw [hok] at HP
  have HK := Lib.hid fun W => hasClue_any m (some ⟨g, o, none⟩) n c (k : Int) W hm
  rw [betr_yes (x := (k : Int)) (lo := 0) (hi := (n : Int) - 1) (by omega) (by omega)] at HK
  have HW := Lib.hid fun W (hb : Below w.heap.size w W) => withoutClue_any m g o n c _ _ xs k W hn hm hk hnc hc2 (by omega) (ha.below hb (Nat.le_refl _)) hb.size
  have HWL : Hid ((without9 xs k).length = n - 1) := Lib.hid (by rw [without9_len xs k (by omega)]; omega)
  obtain ⟨c0, c1⟩ := bx.cells
  have HB0 := Lib.hid b0
  have HR0 := Lib.hid rm
  have HX0 := Lib.hid bx
  clear ha bx rm b0 hok h6
  go_enter Try.func20, Try.ntmps20
  go_wp2_with (first
    | (go_at_call 15; refine HP.out.mono ?_; rintro e w1 ⟨rfl, b1⟩; have HB1 := Lib.hid (HB0.out.trans (b1.mono HB0.out.size)); have HR1 := Lib.hid (HR0.out.below b1 (by rw [z0]; exact Nat.le_refl _)); have HX1 := Lib.hid (HX0.out.below b1 (by rw [z0]; omega)); have hz1 : w.heap.size + 2 ≤ w1.heap.size := (by have := b1.size; rw [z0] at this; exact this); obtain ⟨d0, d1⟩ := HX1.out.cells; clear b1)
    | (go_at_call 41; refine (HK.out _).mono ?_; rintro e w2 ⟨rfl, b2⟩; have HB2 := Lib.hid (HB1.out.trans (b2.mono HB1.out.size)); have HR2 := Lib.hid (HR1.out.below b2 hz1); obtain ⟨x0, x1⟩ := (HX1.out.below b2 (by omega)).cells; have hz2 := Nat.le_trans hz1 b2.size; clear b2)
    | (go_at_call 42; refine (HW.out _ HB2.out).mono ?_; rintro e w3 ⟨B, d, rfl, ho, _, _, b3⟩; have HO := Lib.hid ho; have HB3 := Lib.hid (HB2.out.trans (b3.mono HB2.out.size)); obtain ⟨r0, r1, f0, f1⟩ := HR2.out.below b3 hz2; clear b3 ho))
  have HBf := Lib.hid (set2_below9 HB3.out (Nat.le_succ w.heap.size) (.int .i64 m) (.slice B (n - 1) d))
  have HOf := Lib.hid (own_far9 HO.out (Q := w.heap.size + 1) hz2 (.int .i64 m) (.slice B (n - 1) d))
  have HZf := Lib.hid (set2_size9 w3 (w.heap.size + 1) (.int .i64 m) (.slice B (n - 1) d))
  exact bodyPost_ret (v := .tuple #[.agg #[.int .i64 m, .slice B (n - 1) d], .bool true]) (by simp [results, Try.results20, go_sem, r0, r1]) rfl ⟨B, d, by rw [HWL.out], (by rw [HZf.out]; exact HOf.out.wide (Nat.le_trans (by omega) hz2) (Nat.le_refl _)), HBf.out⟩
theorem walk_DropClue (m : Int) (A : Option Addr) (n c : Nat) (xs : List Clu) (k : Int) (w : World) (hn : xs.length = n) (h2 : n ≤ 9223372036854775807) (ha : Rd w w.heap.size A (c64 xs)) :
    Calls Try.prog 6 #[.agg #[.int .i64 m, .slice A n c], .int .i64 k] w fun e w' => e = .returned (.bool true) ∧ Below w.heap.size w w' := by
  by_cases hb : 1048576 < n
  · exact lawZ_DropClue_big m A n c k w hb h2
  · by_cases hno : okp9 m xs = false ∨ (k < 0 ∨ (n : Int) - 1 < k)
    · exact lawZ_DropClue m A n c xs k 0 [] false w hn (by omega) (by simp) ha (fun B lo w ho => spec_DropClue_no m B n n lo xs k w hn (by omega) ho hno) (fun B lo w ho => impl_DropClue_no m B n n lo xs k w hn (by omega) ho hno)
    · have hok : okp9 m xs = true := by
        cases h : okp9 m xs with
        | true => rfl
        | false => exact absurd (.inl h) hno
      obtain ⟨j, rfl⟩ : ∃ j : Nat, k = (j : Int) := ⟨k.toNat, by omega⟩
      have hj : j < n := by omega
      exact lawZ_DropClue m A n c xs j m (without9 xs j) true w hn (by omega) (by rw [without9_len xs j (by omega)]; omega) ha (fun B lo w ho => spec_DropClue_yes m B n n lo xs j w hn (by omega) (Nat.le_refl _) (by omega) ho hok hj) (fun B lo w ho => impl_DropClue_yes m B n n lo xs j w hn (by omega) (Nat.le_refl _) (by omega) ho hok hj)
end Go.Proofs.Ytmpajeldfbchhaa
