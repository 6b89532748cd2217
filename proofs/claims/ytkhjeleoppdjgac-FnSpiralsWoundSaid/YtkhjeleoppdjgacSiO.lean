/- Chapter 6: the specification's sides: HexSpotOf, HexNumberAt, HexDistance, HexBeside. -/
import Derived.Test.YtkhjeleoppdjgacSiL
import Derived.OwnWalk
namespace Go.Proofs.Ytkhjeleoppdjgac
open Go.ChangeShapes Go.WideShapes Go.ChangeAt Go.RowKit

theorem hp_600 (n : Int) (h0 : 0 ≤ n) (h1 : n ≤ 1003000) : -600 ≤ (hp n).1 ∧ (hp n).1 ≤ 600 ∧ -600 ≤ (hp n).2 ∧ (hp n).2 ≤ 600 := by
  have := hp_bds n h0
  have := hx_le n h0 h1
  omega
theorem spec_HexSpotOf_no (n : Int) (w : World) (h : n < 0 ∨ 1000000 < n) :
    Calls Try.prog 38 #[.int .i64 n] w fun e w' => e = .returned (.tuple #[.agg #[.int .i64 0, .int .i64 0], .bool false]) ∧ Below w.heap.size w w' := by
  have HA := Lib.hid (betr_no h)
  clear h
  go_enter Try.func38, Try.ntmps38
  go_wp2_with (go_at_call 87; refine (spGood_any _ _).mono ?_; rw [HA.out]; rintro e w' ⟨rfl, rfl⟩)
  exact bodyPost_ret (v := .tuple #[.agg #[.int .i64 0, .int .i64 0], .bool false]) (by simp [results, Try.results38, go_sem]) rfl ⟨rfl, (Below.refl _ _).alloc (Nat.le_refl _) _⟩
theorem spec_HexSpotOf_yes (n : Int) (w : World) (h0 : 0 ≤ n) (h1 : n ≤ 1000000) :
    Calls Try.prog 38 #[.int .i64 n] w fun e w' => e = .returned (.tuple #[.agg #[.int .i64 (hp n).1, .int .i64 (hp n).2], .bool true]) ∧ Below w.heap.size w w' := by
  have HA := Lib.hid (betr_yes h0 h1)
  have HS := Lib.hid fun W => spHexSpot_any n W h0 (by omega)
  generalize (hp n).1 = x at *
  generalize (hp n).2 = y at *
  go_enter Try.func38, Try.ntmps38
  have hB : Below w.heap.size w (w.alloc (.cells #[.int .i64 0, .int .i64 0] 26)) := (Below.refl _ _).alloc (Nat.le_refl _) _
  go_wp2_with (first
    | (go_at_call 87; refine (spGood_any _ _).mono ?_; rw [HA.out]; rintro e w' ⟨rfl, rfl⟩)
    | (go_at_call 113; refine (HS.out _).mono ?_; rintro e w1 ⟨rfl, hb1⟩; obtain ⟨c1, f1⟩ := bcell hb1; have z1 : w.heap.size < w1.heap.size := by have := hb1.size; simp at this; omega))
  exact bodyPost_ret (v := .tuple #[.agg #[.int .i64 x, .int .i64 y], .bool true]) (by simp [results, Try.results38, go_sem, c1]) rfl ⟨rfl, ((hB.trans (hb1.mono hB.size)).setCell (by simp) _).setCell (by simp) _⟩
/-- Whether there is a spot of the hexagon spiral. -/
def isHexSpot (x y : Int) : Bool := isSpot x y && betr (x + y) (-400) 400
theorem isHexSpot_bds {x y : Int} (h : isHexSpot x y = true) : -400 ≤ x ∧ x ≤ 400 ∧ -400 ≤ y ∧ y ≤ 400 ∧ hsz x y ≤ 600 ∧ isSpot x y = true ∧ betr (x + y) (-400) 400 = true := by
  have g : isSpot x y = true ∧ betr (x + y) (-400) 400 = true := by simpa [isHexSpot] using h
  have g1 := g.1
  have g2 := g.2
  simp [isSpot, betr] at g1 g2
  refine ⟨by omega, by omega, by omega, by omega, ?_, g.1, g.2⟩
  unfold hsz ab
  omega
theorem spec_HexNumberAt_no (x y : Int) (w : World) (h : isHexSpot x y = false) :
    Calls Try.prog 46 #[.agg #[.int .i64 x, .int .i64 y]] w fun e w' => e = .returned (.tuple #[.int .i64 0, .bool false]) ∧ Below w.heap.size w w' := by
  cases hx : isSpot x y
  · have HX := Lib.hid hx
    clear h hx
    go_enter Try.func46, Try.ntmps46
    go_wp2_with (go_at_call 100; refine (spIs_any _ _ _).mono ?_; rw [HX.out]; rintro e w1 ⟨rfl, hb1⟩; obtain ⟨bc1, bf1⟩ := bcell hb1; have z1 : w.heap.size < w1.heap.size := by have := hb1.size; simp at this; omega)
    go_ret2
    exact ⟨rfl, ((Below.refl _ _).alloc (Nat.le_refl _) _).trans (hb1.mono (by simp))⟩
  · have HY : Hid (betr (x + y) (-400) 400 = false) := Lib.hid (by simpa [isHexSpot, hx] using h)
    have hbd : -400 ≤ x ∧ x ≤ 400 ∧ -400 ≤ y ∧ y ≤ 400 := by
      have g := hx
      simp [isSpot, betr] at g
      omega
    obtain ⟨a0, a1, a2, a3⟩ := hbd
    have HX := Lib.hid hx
    clear h hx
    go_enter Try.func46, Try.ntmps46
    go_wp2_with (first
      | (go_at_call 100; refine (spIs_any _ _ _).mono ?_; rw [HX.out]; rintro e w1 ⟨rfl, hb1⟩; obtain ⟨bc1, bf1⟩ := bcell hb1; have z1 : w.heap.size < w1.heap.size := by have := hb1.size; simp at this; omega)
      | (go_at_call 104; refine (rin_any _ _ _ _).mono ?_; rw [HY.out]; rintro e w' ⟨rfl, rfl⟩))
    go_ret2
    exact ⟨rfl, ((Below.refl _ _).alloc (Nat.le_refl _) _).trans (hb1.mono (by simp))⟩
theorem spec_HexNumberAt_yes (x y : Int) (w : World) (h : isHexSpot x y = true) :
    Calls Try.prog 46 #[.agg #[.int .i64 x, .int .i64 y]] w fun e w' => e = .returned (.tuple #[.int .i64 (hn x y), .bool true]) ∧ Below w.heap.size w w' := by
  obtain ⟨a0, a1, a2, a3, a4, hx, hy⟩ := isHexSpot_bds h
  have HX := Lib.hid hx
  have HY := Lib.hid hy
  clear h hx hy
  have HS := Lib.hid fun W => spHexNumber_any x y W (by omega) (by omega) (by omega) (by omega) a4
  clear a4
  generalize hn x y = u at *
  go_enter Try.func46, Try.ntmps46
  go_wp2_with (first
    | (go_at_call 100; refine (spIs_any _ _ _).mono ?_; rw [HX.out]; rintro e w1 ⟨rfl, hb1⟩; obtain ⟨bc1, bf1⟩ := bcell hb1; have z1 : w.heap.size < w1.heap.size := by have := hb1.size; simp at this; omega)
    | (go_at_call 104; refine (rin_any _ _ _ _).mono ?_; rw [HY.out]; rintro e w' ⟨rfl, rfl⟩)
    | (go_at_call 115; refine (HS.out _).mono ?_; rintro e w2 ⟨rfl, hb2⟩))
  go_ret2
  exact ⟨rfl, (((Below.refl _ _).alloc (Nat.le_refl _) _).trans (hb1.mono (by simp))).trans (hb2.mono (by omega))⟩
/-- The fewest steps between two numbers. -/
noncomputable def hdst (a b : Int) : Int := hsz ((hp a).1 - (hp b).1) ((hp a).2 - (hp b).2)
theorem spec_HexDistance_no (a b : Int) (w : World) (h : (a < 0 ∨ 1000000 < a) ∨ (b < 0 ∨ 1000000 < b)) :
    Calls Try.prog 47 #[.int .i64 a, .int .i64 b] w fun e w' => e = .returned (.tuple #[.int .i64 0, .bool false]) ∧ Below w.heap.size w w' := by
  by_cases ha : a < 0 ∨ 1000000 < a
  · have HA := Lib.hid (betr_no ha)
    clear h ha
    go_enter Try.func47, Try.ntmps47
    go_wp2_with (go_at_call 87; refine (spGood_any _ _).mono ?_; rw [HA.out]; rintro e w' ⟨rfl, rfl⟩)
    go_ret2
    exact ⟨rfl, Below.refl _ _⟩
  · have HA := Lib.hid (betr_yes (x := a) (lo := 0) (hi := 1000000) (by omega) (by omega))
    have HA2 := Lib.hid (betr_no (h.resolve_left ha))
    clear h ha
    go_enter Try.func47, Try.ntmps47
    go_wp2_with (go_at_call 87; refine (spGood_any _ _).mono ?_; (first | rw [HA.out] | rw [HA2.out]); rintro e w' ⟨rfl, rfl⟩)
    go_ret2
    exact ⟨rfl, Below.refl _ _⟩
set_option maxHeartbeats 800000 in
theorem spec_HexDistance_yes (a b : Int) (w : World) (a0 : 0 ≤ a) (a1 : a ≤ 1000000) (b0 : 0 ≤ b) (b1 : b ≤ 1000000) :
    Calls Try.prog 47 #[.int .i64 a, .int .i64 b] w fun e w' => e = .returned (.tuple #[.int .i64 (hdst a b), .bool true]) ∧ Below w.heap.size w w' := by
  have HA := Lib.hid (betr_yes a0 a1)
  have HA2 := Lib.hid (betr_yes b0 b1)
  obtain ⟨x0, x1, y0, y1⟩ := hp_600 a a0 (by omega)
  obtain ⟨u0, u1, v0, v1⟩ := hp_600 b b0 (by omega)
  have HD : Hid (∀ W : World, Calls Try.prog 120 #[.agg #[.int .i64 ((hp a).1 - (hp b).1), .int .i64 ((hp a).2 - (hp b).2)]] W fun e w' => e = .returned (.int .i64 (hdst a b)) ∧ Below W.heap.size W w') := Lib.hid fun W => spHexSize_any _ _ W (by omega) (by omega) (by omega) (by omega)
  have HSa := Lib.hid fun W => spHexSpot_any a W a0 (by omega)
  have HSb := Lib.hid fun W => spHexSpot_any b W b0 (by omega)
  generalize hdst a b = d at *
  generalize (hp a).1 = x at *
  generalize (hp a).2 = y at *
  generalize (hp b).1 = u at *
  generalize (hp b).2 = v at *
  go_enter Try.func47, Try.ntmps47
  go_wp2_with (first
    | (go_at_call 87; refine (spGood_any _ _).mono ?_; (first | rw [HA.out] | rw [HA2.out]); rintro e w' ⟨rfl, rfl⟩)
    | (go_at_call_of 113 a; refine (HSa.out _).mono ?_; rintro e w1 ⟨rfl, hb1⟩)
    | (go_at_call_of 113 b; refine (HSb.out _).mono ?_; rintro e w2 ⟨rfl, hb2⟩)
    | (go_at_call 120; refine (HD.out _).mono ?_; rintro e w3 ⟨rfl, hb3⟩))
  go_ret2
  have s1 := hb1.size
  have s2 := hb2.size
  exact ⟨rfl, (((hb1.trans (hb2.mono s1)).alloc (Nat.le_trans s1 s2) _).alloc (by simp; omega) _).trans (hb3.mono (by simp; omega))⟩
end Go.Proofs.Ytkhjeleoppdjgac
