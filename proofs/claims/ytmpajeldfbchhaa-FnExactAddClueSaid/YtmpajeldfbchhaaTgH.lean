/- Chapter 9, by the specification: DropClue. -/
import Derived.Test.YtmpajeldfbchhaaTgG
namespace Go.Proofs.Ytmpajeldfbchhaa
open Go.ChangeShapes Go.WideShapes Go.ChangeAt Go.RowKit

/-- The room of an answer that is a puzzle. -/
def Rm (w : World) (Q : Nat) : Prop := w.cell? ⟨Q, 0, none⟩ = some (.int .i64 0) ∧ w.cell? ⟨Q, 1, none⟩ = some (.slice none 0 0) ∧ w.frozen? ⟨Q, 0, none⟩ = false ∧ w.frozen? ⟨Q, 1, none⟩ = false
theorem Rm.new (w : World) (t : TypeId) : Rm (w.alloc (.cells #[.int .i64 0, .slice none 0 0] t)) w.heap.size := ⟨by simp [go_sem], by simp [go_sem], by simp [go_sem], by simp [go_sem]⟩
theorem Rm.below {w w' : World} {Q B : Nat} (h : Rm w Q) (hb : Below B w w') (hB : Q + 1 ≤ B) : Rm w' Q :=
  ⟨(hb.cell (p := ⟨Q, 0, none⟩) hB).trans h.1, (hb.cell (p := ⟨Q, 1, none⟩) hB).trans h.2.1, (hb.frozen (p := ⟨Q, 0, none⟩) hB).trans h.2.2.1, (hb.frozen (p := ⟨Q, 1, none⟩) hB).trans h.2.2.2⟩
theorem set2_size9 (w : World) (Q : Nat) (u v : Value) : ((w.setCell ⟨Q, 0, none⟩ u).setCell ⟨Q, 1, none⟩ v).heap.size = w.heap.size := by simp [World.setCell]
theorem set2_below9 {B : Nat} {w0 w : World} {Q : Nat} (h : Below B w0 w) (hQ : B ≤ Q) (u v : Value) : Below B w0 ((w.setCell ⟨Q, 0, none⟩ u).setCell ⟨Q, 1, none⟩ v) :=
  (h.setCell (p := ⟨Q, 0, none⟩) hQ u).setCell (p := ⟨Q, 1, none⟩) hQ v
theorem own_far9 {w : World} {lo hi Q : Nat} {A : Option Addr} {cs : List Value} (h : Own w lo hi A cs) (hQ : Q < lo) (u v : Value) : Own ((w.setCell ⟨Q, 0, none⟩ u).setCell ⟨Q, 1, none⟩ v) lo hi A cs :=
  own_set9 (own_set9 h (by show Q < lo; exact hQ)) (by show Q < lo; exact hQ)
/-- The box of the argument and the room of the answer, behind the entry. -/
theorem entry9 (w : World) (m : Int) (A : Option Addr) (n c : Nat) (t u : TypeId) :
    Bx ((w.alloc (.cells #[.int .i64 m, .slice A n c] t)).alloc (.cells #[.int .i64 0, .slice none 0 0] u)) w.heap.size m A n c ∧ Rm ((w.alloc (.cells #[.int .i64 m, .slice A n c] t)).alloc (.cells #[.int .i64 0, .slice none 0 0] u)) (w.heap.size + 1) ∧
    Below w.heap.size w ((w.alloc (.cells #[.int .i64 m, .slice A n c] t)).alloc (.cells #[.int .i64 0, .slice none 0 0] u)) ∧ ((w.alloc (.cells #[.int .i64 m, .slice A n c] t)).alloc (.cells #[.int .i64 0, .slice none 0 0] u)).heap.size = w.heap.size + 2 := by
  have z : (w.alloc (.cells #[.int .i64 m, .slice A n c] t)).heap.size = w.heap.size + 1 := by simp
  refine ⟨(Bx.new w m A n c t).below ((Below.refl _ _).alloc (Nat.le_refl _) _) (by rw [z]; exact Nat.le_refl _), ?_, ((Below.refl _ _).alloc (Nat.le_refl _) _).alloc (by simp) _, by simp⟩
  have h := Rm.new (w.alloc (.cells #[.int .i64 m, .slice A n c] t)) u
  rw [z] at h
  exact h
set_option maxHeartbeats 1600000 in
theorem spec_DropClue_no (m : Int) (A : Option Addr) (n c lo : Nat) (xs : List Clu) (k : Int) (w : World) (hn : xs.length = n) (hm : n ≤ 1048576) (ha : Own w lo w.heap.size A (c64 xs)) (hno : okp9 m xs = false ∨ (k < 0 ∨ (n : Int) - 1 < k)) :
    Calls Try.prog 19 #[.agg #[.int .i64 m, .slice A n c], .int .i64 k] w (ResZ false 0 [] w) := by
  obtain ⟨bx, rm, b0, z0⟩ := entry9 w m A n c 35 35
  have HP := Lib.hid (pzGood_any m A n c _ _ xs _ hn hm (ha.below b0 (Nat.le_refl _)) b0.size)
  have e1 : IntKind.i64.wrap ((n : Int) - 1) = (n : Int) - 1 := IntWalk.i64_in _ (by omega)
  cases hok : okp9 m xs with
  | false =>
    rw [hok] at HP
    have HB0 := Lib.hid b0
    have HR0 := Lib.hid rm
    clear ha bx rm b0 hno hok
    go_enter Try.func19, Try.ntmps19
    go_wp2_with (go_at_call 31; refine HP.out.mono ?_; rintro e w1 ⟨rfl, b1⟩; have HB1 := Lib.hid b1; obtain ⟨r0, r1, f0, f1⟩ := HR0.out.below b1 (by rw [z0]; exact Nat.le_refl _); clear b1)
    have hb := set2_below9 (HB0.out.trans (HB1.out.mono HB0.out.size)) (Nat.le_succ w.heap.size) (.int .i64 0) (.slice none 0 0)
    have HB := Lib.hid hb
    clear hb
    exact bodyPost_ret (v := .tuple #[.agg #[.int .i64 0, .slice none 0 0], .bool false]) (by simp [results, Try.results19, go_sem, r0, r1]) rfl ⟨none, 0, rfl, Own.none_, HB.out⟩
  | true =>
    rw [hok] at HP
    have HK := Lib.hid (betr_no (x := k) (lo := 0) (hi := (n : Int) - 1) (hno.resolve_left (by rw [hok]; simp)))
    obtain ⟨c0, c1⟩ := bx.cells
    have HB0 := Lib.hid b0
    have HR0 := Lib.hid rm
    have HX0 := Lib.hid bx
    clear ha bx rm b0 hno hok c0 c1
    go_enter Try.func19, Try.ntmps19
    go_wp2_with (first
      | (go_at_call 31; refine HP.out.mono ?_; rintro e w1 ⟨rfl, b1⟩; have HB1 := Lib.hid b1; obtain ⟨r0, r1, f0, f1⟩ := HR0.out.below b1 (by rw [z0]; exact Nat.le_refl _); obtain ⟨c0, c1⟩ := (HX0.out.below b1 (by rw [z0]; omega)).cells; clear b1)
      | (go_at_call 37; refine (rin_any _ _ _ _).mono ?_; rw [HK.out]; rintro e w' ⟨rfl, rfl⟩))
    have hb := set2_below9 (HB0.out.trans (HB1.out.mono HB0.out.size)) (Nat.le_succ w.heap.size) (.int .i64 0) (.slice none 0 0)
    have HB := Lib.hid hb
    clear hb
    exact bodyPost_ret (v := .tuple #[.agg #[.int .i64 0, .slice none 0 0], .bool false]) (by simp [results, Try.results19, go_sem, r0, r1]) rfl ⟨none, 0, rfl, Own.none_, HB.out⟩
set_option maxRecDepth 8000 in
set_option maxHeartbeats 1600000 in
theorem spec_DropClue_yes (m : Int) (A : Option Addr) (n c lo : Nat) (xs : List Clu) (k : Nat) (w : World) (hn : xs.length = n) (hm : n ≤ 1048576) (hnc : n ≤ c) (hc2 : c ≤ 9223372036854775807) (ha : Own w lo w.heap.size A (c64 xs)) (hok : okp9 m xs = true) (hk : k < n) :
    Calls Try.prog 19 #[.agg #[.int .i64 m, .slice A n c], .int .i64 (k : Int)] w (ResZ true m (without9 xs k) w) := by
  obtain ⟨g, o, rfl, _, _, _⟩ := ha (by rw [c64_len]; omega)
  obtain ⟨bx, rm, b0, z0⟩ := entry9 w m (some ⟨g, o, none⟩) n c 35 35
  have HP := Lib.hid (pzGood_any m (some ⟨g, o, none⟩) n c _ _ xs _ hn hm (ha.below b0 (Nat.le_refl _)) b0.size)
  rw [hok] at HP
  have e1 : IntKind.i64.wrap ((n : Int) - 1) = (n : Int) - 1 := IntWalk.i64_in _ (by omega)
  have HK := Lib.hid (betr_yes (x := (k : Int)) (lo := 0) (hi := (n : Int) - 1) (by omega) (by omega))
  have HW := Lib.hid fun W (hb : Below w.heap.size w W) => pzWithout_any g o n c _ _ xs k W hn hm hk hnc hc2 (ha.below hb (Nat.le_refl _)) hb.size
  have HWL : Hid ((without9 xs k).length = n - 1) := Lib.hid (by rw [without9_len xs k (by omega)]; omega)
  have HB0 := Lib.hid b0
  have HR0 := Lib.hid rm
  have HX0 := Lib.hid bx
  clear ha bx rm b0 hok
  go_enter Try.func19, Try.ntmps19
  go_wp2_with (first
    | (go_at_call 31; refine HP.out.mono ?_; rintro e w1 ⟨rfl, b1⟩; have HB1 := Lib.hid (HB0.out.trans (b1.mono HB0.out.size)); have HR1 := Lib.hid (HR0.out.below b1 (by rw [z0]; exact Nat.le_refl _)); have HX1 := Lib.hid (HX0.out.below b1 (by rw [z0]; omega)); have hz1 : w.heap.size + 2 ≤ w1.heap.size := (by have := b1.size; rw [z0] at this; exact this); obtain ⟨c0, c1⟩ := HX1.out.cells; clear b1)
    | (go_at_call 37; refine (rin_any _ _ _ _).mono ?_; rw [HK.out]; rintro e w' ⟨rfl, rfl⟩))
  go_region_law (first
    | (go_simp; go_at_call 40; refine (HW.out _ HB1.out.drew).mono ?_; rintro e w3 ⟨B, d, rfl, ho, b3⟩; have HO := Lib.hid (own_of_row ho); have HB3 := Lib.hid (HB1.out.drew.trans (b3.mono HB1.out.size)); obtain ⟨r0, r1, f0, f1⟩ := Rm.below (w := w1.drew) HR1.out b3 hz1; obtain ⟨d0, d1⟩ := (Bx.below (w := w1.drew) HX1.out b3 (Nat.le_of_succ_le hz1)).cells; have hz3 := Nat.le_trans hz1 b3.size; clear b3 ho)
    | fail)
  all_goals
    have HBf := Lib.hid (set2_below9 HB3.out (Nat.le_succ w.heap.size) (.int .i64 m) (.slice B (n - 1) d))
    have HOf := Lib.hid (own_far9 HO.out (Q := w.heap.size + 1) hz1 (.int .i64 m) (.slice B (n - 1) d))
    have HZf := Lib.hid (set2_size9 w3 (w.heap.size + 1) (.int .i64 m) (.slice B (n - 1) d))
    clear c0 c1 d0 d1
    go_wp2
    exact bodyPost_ret (v := .tuple #[.agg #[.int .i64 m, .slice B (n - 1) d], .bool true]) (by simp [results, Try.results19, go_sem, r0, r1]) rfl ⟨B, d, by rw [HWL.out], (by rw [HZf.out]; exact HOf.out.wide (Nat.le_trans (by omega) hz1) (Nat.le_refl _)), HBf.out⟩
end Go.Proofs.Ytmpajeldfbchhaa
