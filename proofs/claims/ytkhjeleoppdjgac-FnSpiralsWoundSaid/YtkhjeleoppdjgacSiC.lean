/- Chapter 6: the specification's sides: SpotOf, NumberAt, RingOf, RingNumbers, StepFrom, DistanceOf. -/
import Derived.Test.YtkhjeleoppdjgacSiB
namespace Go.Proofs.Ytkhjeleoppdjgac
open Go.ChangeShapes Go.WideShapes Go.ChangeAt Go.RowKit

/-- Two cells of a box that are written. -/
theorem set_two {W : World} {R : Nat} {u v : Value} (p q : Value) (c0 : W.cell? ⟨R, 0, none⟩ = some u) (c1 : W.cell? ⟨R, 1, none⟩ = some v) :
    ((W.setCell ⟨R, 0, none⟩ p).setCell ⟨R, 1, none⟩ q).cell? ⟨R, 0, none⟩ = some p ∧ ((W.setCell ⟨R, 0, none⟩ p).setCell ⟨R, 1, none⟩ q).cell? ⟨R, 1, none⟩ = some q := by
  refine ⟨?_, ?_⟩
  · rw [World.cell?_setCell_other _ _ _ _ (by intro e; simp only [Addr.mk.injEq] at e; omega)]
    exact World.cell?_setCell_same W _ _ c0
  · exact World.cell?_setCell_same _ _ _ ((World.cell?_setCell_other W _ _ _ (by intro e; simp only [Addr.mk.injEq] at e; omega)).trans c1)
/-- A new box of two numbers, as it was made. -/
structure Fresh (W : World) (R : Nat) : Prop where
  c0 : W.cell? ⟨R, 0, none⟩ = some (.int .i64 0)
  c1 : W.cell? ⟨R, 1, none⟩ = some (.int .i64 0)
  f0 : W.frozen? ⟨R, 0, none⟩ = false
  f1 : W.frozen? ⟨R, 1, none⟩ = false
  z : R < W.heap.size
theorem fresh_new (w : World) (t : TypeId) : Fresh (w.alloc (.cells #[.int .i64 0, .int .i64 0] t)) w.heap.size := ⟨by simp [go_sem], by simp [go_sem], by simp [go_sem], by simp [go_sem], by simp⟩
theorem Fresh.below {W W' : World} {R : Nat} (h : Fresh W R) (hb : Below W.heap.size W W') : Fresh W' R :=
  ⟨(hb.cell (p := ⟨R, 0, none⟩) h.z).trans h.c0, (hb.cell (p := ⟨R, 1, none⟩) h.z).trans h.c1, (hb.frozen (p := ⟨R, 0, none⟩) h.z).trans h.f0, (hb.frozen (p := ⟨R, 1, none⟩) h.z).trans h.f1, Nat.lt_of_lt_of_le h.z hb.size⟩
theorem spec_SpotOf_no (n : Int) (w : World) (h : n < 0 ∨ 1000000 < n) :
    Calls Try.prog 10 #[.int .i64 n] w fun e w' => e = .returned (.tuple #[.agg #[.int .i64 0, .int .i64 0], .bool false]) ∧ Below w.heap.size w w' := by
  have HA := Lib.hid (betr_no h)
  clear h
  go_enter Try.func10, Try.ntmps10
  go_wp2_with (go_at_call 87; refine (spGood_any _ _).mono ?_; rw [HA.out]; rintro e w' ⟨rfl, rfl⟩)
  exact bodyPost_ret (v := .tuple #[.agg #[.int .i64 0, .int .i64 0], .bool false]) (by simp [results, Try.results10, go_sem]) rfl ⟨rfl, (Below.refl _ _).alloc (Nat.le_refl _) _⟩
theorem spec_StepFrom_no (n : Int) (w : World) (h : n < 0 ∨ 1000000 < n) :
    Calls Try.prog 14 #[.int .i64 n] w fun e w' => e = .returned (.tuple #[.agg #[.int .i64 0, .int .i64 0], .bool false]) ∧ Below w.heap.size w w' := by
  have HA := Lib.hid (betr_no h)
  clear h
  go_enter Try.func14, Try.ntmps14
  go_wp2_with (go_at_call 87; refine (spGood_any _ _).mono ?_; rw [HA.out]; rintro e w' ⟨rfl, rfl⟩)
  exact bodyPost_ret (v := .tuple #[.agg #[.int .i64 0, .int .i64 0], .bool false]) (by simp [results, Try.results14, go_sem]) rfl ⟨rfl, (Below.refl _ _).alloc (Nat.le_refl _) _⟩
theorem spec_RingOf_no (n : Int) (w : World) (h : n < 0 ∨ 1000000 < n) :
    Calls Try.prog 12 #[.int .i64 n] w fun e w' => e = .returned (.tuple #[.int .i64 0, .bool false]) ∧ Below w.heap.size w w' := by
  have HA := Lib.hid (betr_no h)
  clear h
  go_enter Try.func12, Try.ntmps12
  go_wp2_with (go_at_call 87; refine (spGood_any _ _).mono ?_; rw [HA.out]; rintro e w' ⟨rfl, rfl⟩)
  go_ret2
  exact ⟨rfl, Below.refl _ _⟩
theorem spec_SpotOf_yes (n : Int) (w : World) (h0 : 0 ≤ n) (h1 : n ≤ 1000000) :
    Calls Try.prog 10 #[.int .i64 n] w fun e w' => e = .returned (.tuple #[.agg #[.int .i64 (sp n).1, .int .i64 (sp n).2], .bool true]) ∧ Below w.heap.size w w' := by
  have HA := Lib.hid (betr_yes h0 h1)
  have HS := Lib.hid fun W => spSpot_any n W h0 (by omega)
  generalize (sp n).1 = x at *
  generalize (sp n).2 = y at *
  go_enter Try.func10, Try.ntmps10
  have hB : Below w.heap.size w (w.alloc (.cells #[.int .i64 0, .int .i64 0] 26)) := (Below.refl _ _).alloc (Nat.le_refl _) _
  go_wp2_with (first
    | (go_at_call 87; refine (spGood_any _ _).mono ?_; rw [HA.out]; rintro e w' ⟨rfl, rfl⟩)
    | (go_at_call 88; refine (HS.out _).mono ?_; rintro e w1 ⟨rfl, hb1⟩; obtain ⟨c1, f1⟩ := bcell hb1; have z1 : w.heap.size < w1.heap.size := by have := hb1.size; simp at this; omega))
  exact bodyPost_ret (v := .tuple #[.agg #[.int .i64 x, .int .i64 y], .bool true]) (by simp [results, Try.results10, go_sem, c1]) rfl ⟨rfl, ((hB.trans (hb1.mono hB.size)).setCell (by simp) _).setCell (by simp) _⟩
theorem spec_RingOf_yes (n : Int) (w : World) (h0 : 0 ≤ n) (h1 : n ≤ 1000000) :
    Calls Try.prog 12 #[.int .i64 n] w fun e w' => e = .returned (.tuple #[.int .i64 (rg n), .bool true]) ∧ Below w.heap.size w w' := by
  have HA := Lib.hid (betr_yes h0 h1)
  have HS := Lib.hid fun W => spRing_any n W h0 (by omega)
  generalize rg n = x at *
  go_enter Try.func12, Try.ntmps12
  go_wp2_with (first
    | (go_at_call 87; refine (spGood_any _ _).mono ?_; rw [HA.out]; rintro e w' ⟨rfl, rfl⟩)
    | (go_at_call 90; refine (HS.out _).mono ?_; rintro e w1 ⟨rfl, rfl⟩))
  go_ret2
  exact ⟨rfl, Below.refl _ _⟩
theorem spec_RingNumbers_no (n : Int) (w : World) (h : n < 0 ∨ 499 < n) :
    Calls Try.prog 25 #[.int .i64 n] w fun e w' => e = .returned (.tuple #[.int .i64 0, .int .i64 0, .bool false]) ∧ Below w.heap.size w w' := by
  have HA := Lib.hid (betr_no h)
  clear h
  go_enter Try.func25, Try.ntmps25
  go_wp2_with (go_at_call 104; refine (rin_any _ _ _ _).mono ?_; rw [HA.out]; rintro e w' ⟨rfl, rfl⟩)
  go_ret3
  exact ⟨rfl, Below.refl _ _⟩
/-- The first and the last number of a ring. -/
def ringLo (r : Int) : Int := if r = 0 then 0 else (2 * r - 1) * (2 * r - 1)
def ringHi (r : Int) : Int := if r = 0 then 0 else (2 * r + 1) * (2 * r + 1) - 1
theorem spec_RingNumbers_yes (n : Int) (w : World) (h0 : 0 ≤ n) (h1 : n ≤ 499) :
    Calls Try.prog 25 #[.int .i64 n] w fun e w' => e = .returned (.tuple #[.int .i64 (ringLo n), .int .i64 (ringHi n), .bool true]) ∧ Below w.heap.size w w' := by
  have HA := Lib.hid (betr_yes h0 h1)
  by_cases hz : n = 0
  · subst hz
    go_enter Try.func25, Try.ntmps25
    go_wp2_with (go_at_call 104; refine (rin_any _ _ _ _).mono ?_; rw [HA.out]; rintro e w' ⟨rfl, rfl⟩)
    go_ret3
    exact ⟨rfl, Below.refl _ _⟩
  · have HL : Hid (ringLo n = (2 * n - 1) * (2 * n - 1)) := Lib.hid (if_neg hz)
    have HH : Hid (ringHi n = (2 * n + 1) * (2 * n + 1) - 1) := Lib.hid (if_neg hz)
    have q0 := sq_nn (2 * n - 1)
    have q1 := sq_le (2 * n - 1) 1000 (by omega) (by omega)
    have q2 := sq_nn (2 * n + 1)
    have q3 := sq_le (2 * n + 1) 1000 (by omega) (by omega)
    rw [HL.out, HH.out]
    clear HL HH
    go_enter Try.func25, Try.ntmps25
    go_wp2_with (go_at_call 104; refine (rin_any _ _ _ _).mono ?_; rw [HA.out]; rintro e w' ⟨rfl, rfl⟩)
    go_ret3
    exact ⟨rfl, Below.refl _ _⟩
theorem sp_1000 (n : Int) (h0 : 0 ≤ n) (h1 : n ≤ 2000000) : -1000 ≤ (sp n).1 ∧ (sp n).1 ≤ 1000 ∧ -1000 ≤ (sp n).2 ∧ (sp n).2 ≤ 1000 := by
  have := sp_bds n h0
  have := rg_le n h0 h1
  omega
set_option maxHeartbeats 1600000 in
theorem spec_StepFrom_yes (n : Int) (w : World) (h0 : 0 ≤ n) (h1 : n ≤ 1000000) :
    Calls Try.prog 14 #[.int .i64 n] w fun e w' => e = .returned (.tuple #[.agg #[.int .i64 ((sp (n + 1)).1 - (sp n).1), .int .i64 ((sp (n + 1)).2 - (sp n).2)], .bool true]) ∧ Below w.heap.size w w' := by
  have HA := Lib.hid (betr_yes h0 h1)
  obtain ⟨a0, a1, a2, a3⟩ := sp_1000 n h0 (by omega)
  obtain ⟨b0, b1, b2, b3⟩ := sp_1000 (n + 1) (by omega) (by omega)
  obtain ⟨x, hx⟩ : ∃ x, (sp n).1 = x := ⟨_, rfl⟩
  obtain ⟨y, hy⟩ : ∃ y, (sp n).2 = y := ⟨_, rfl⟩
  obtain ⟨u, hu⟩ : ∃ u, (sp (n + 1)).1 = u := ⟨_, rfl⟩
  obtain ⟨v, hv⟩ : ∃ v, (sp (n + 1)).2 = v := ⟨_, rfl⟩
  rw [hx] at a0 a1
  rw [hy] at a2 a3
  rw [hu] at b0 b1
  rw [hv] at b2 b3
  rw [hx, hy, hu, hv]
  have HX := Lib.hid (And.intro hx hy)
  have HU := Lib.hid (And.intro hu hv)
  clear hx hy hu hv
  have F := Lib.hid (fresh_new w 26)
  have HB : Hid (Below w.heap.size w (w.alloc (.cells #[.int .i64 0, .int .i64 0] 26))) := Lib.hid ((Below.refl _ _).alloc (Nat.le_refl _) _)
  go_enter Try.func14, Try.ntmps14
  go_wp2_with (first
    | (go_at_call 87; refine (spGood_any _ _).mono ?_; rw [HA.out]; rintro e w' ⟨rfl, rfl⟩)
    | (go_at_call 88; refine (spSpot_any _ _ (by omega) (by omega)).mono ?_; (first | rw [HX.out.1, HX.out.2] | rw [HU.out.1, HU.out.2]); rintro e wn ⟨rfl, hbn⟩; have F := Lib.hid (F.out.below hbn); have HB := Lib.hid (HB.out.trans (hbn.mono HB.out.size)); obtain ⟨e0, e1, g0, g1, z⟩ := F.out; clear hbn))
  have hc := set_two (.int .i64 (u - x)) (.int .i64 (v - y)) e0 e1
  have zz : w.heap.size < wn.heap.size + 1 := Nat.lt_succ_of_lt z
  exact bodyPost_ret (v := .tuple #[.agg #[.int .i64 (u - x), .int .i64 (v - y)], .bool true]) (by simp [results, Try.results14, go_sem, z, zz, hc.1, hc.2]) rfl ⟨rfl, (((HB.out.setCell (Nat.le_refl _) _).setCell (Nat.le_refl _) _).alloc (by simp; omega) _).alloc (by simp; omega) _⟩
end Go.Proofs.Ytkhjeleoppdjgac
