/- Chapter 6: the specification's sides: NumberAt, DistanceOf, DiagonalOf. -/
import Derived.Test.YtkhjeleoppdjgacSiC
import Derived.OwnWalk
namespace Go.Proofs.Ytkhjeleoppdjgac
open Go.ChangeShapes Go.WideShapes Go.ChangeAt Go.RowKit

theorem isSpot_bds {x y : Int} (h : isSpot x y = true) : -400 ≤ x ∧ x ≤ 400 ∧ -400 ≤ y ∧ y ≤ 400 := by
  simp [isSpot, betr] at h
  omega
theorem spec_NumberAt_no (x y : Int) (w : World) (h : isSpot x y = false) :
    Calls Try.prog 23 #[.agg #[.int .i64 x, .int .i64 y]] w fun e w' => e = .returned (.tuple #[.int .i64 0, .bool false]) ∧ Below w.heap.size w w' := by
  have HA := Lib.hid h
  clear h
  go_enter Try.func23, Try.ntmps23
  go_wp2_with (go_at_call 100; refine (spIs_any _ _ _).mono ?_; rw [HA.out]; rintro e w1 ⟨rfl, hb1⟩)
  go_ret2
  exact ⟨rfl, ((Below.refl _ _).alloc (Nat.le_refl _) _).trans (hb1.mono (by simp))⟩
theorem spec_NumberAt_yes (x y : Int) (w : World) (h : isSpot x y = true) :
    Calls Try.prog 23 #[.agg #[.int .i64 x, .int .i64 y]] w fun e w' => e = .returned (.tuple #[.int .i64 (nu x y), .bool true]) ∧ Below w.heap.size w w' := by
  obtain ⟨a0, a1, a2, a3⟩ := isSpot_bds h
  have HA := Lib.hid h
  clear h
  obtain ⟨u, hu⟩ : ∃ u, nu x y = u := ⟨_, rfl⟩
  have HU := Lib.hid hu
  rw [hu]
  clear hu
  have hB : Below w.heap.size w (w.alloc (.cells #[.int .i64 x, .int .i64 y] 26)) := (Below.refl _ _).alloc (Nat.le_refl _) _
  go_enter Try.func23, Try.ntmps23
  go_wp2_with (first
    | (go_at_call 100; refine (spIs_any _ _ _).mono ?_; rw [HA.out]; rintro e w1 ⟨rfl, hb1⟩; obtain ⟨c1, f1⟩ := bcell hb1; have z1 : w.heap.size < w1.heap.size := by have := hb1.size; simp at this; omega)
    | (go_at_call 93; refine (spNumber_any _ _ _ (by omega) (by omega) (by omega) (by omega)).mono ?_; rw [HU.out]; rintro e w2 ⟨rfl, hb2⟩))
  go_ret2
  exact ⟨rfl, (hB.trans (hb1.mono hB.size)).trans (hb2.mono (by omega))⟩

/-- How far two numbers lie apart. -/
noncomputable def dst (a b : Int) : Int := ab ((sp a).1 - (sp b).1) + ab ((sp a).2 - (sp b).2)
theorem spec_DistanceOf_no (a b : Int) (w : World) (h : (a < 0 ∨ 1000000 < a) ∨ (b < 0 ∨ 1000000 < b)) :
    Calls Try.prog 28 #[.int .i64 a, .int .i64 b] w fun e w' => e = .returned (.tuple #[.int .i64 0, .bool false]) ∧ Below w.heap.size w w' := by
  by_cases ha : a < 0 ∨ 1000000 < a
  · have HA := Lib.hid (betr_no ha)
    clear h ha
    go_enter Try.func28, Try.ntmps28
    go_wp2_with (go_at_call 87; refine (spGood_any _ _).mono ?_; rw [HA.out]; rintro e w' ⟨rfl, rfl⟩)
    go_ret2
    exact ⟨rfl, Below.refl _ _⟩
  · have HA := Lib.hid (betr_yes (x := a) (lo := 0) (hi := 1000000) (by omega) (by omega))
    have HA2 := Lib.hid (betr_no (h.resolve_left ha))
    clear h ha
    go_enter Try.func28, Try.ntmps28
    go_wp2_with (go_at_call 87; refine (spGood_any _ _).mono ?_; (first | rw [HA.out] | rw [HA2.out]); rintro e w' ⟨rfl, rfl⟩)
    go_ret2
    exact ⟨rfl, Below.refl _ _⟩
set_option maxHeartbeats 800000 in
theorem spec_DistanceOf_yes (a b : Int) (w : World) (a0 : 0 ≤ a) (a1 : a ≤ 1000000) (b0 : 0 ≤ b) (b1 : b ≤ 1000000) :
    Calls Try.prog 28 #[.int .i64 a, .int .i64 b] w fun e w' => e = .returned (.tuple #[.int .i64 (dst a b), .bool true]) ∧ Below w.heap.size w w' := by
  have HA := Lib.hid (betr_yes a0 a1)
  have HA2 := Lib.hid (betr_yes b0 b1)
  have HD : Hid (dst a b = ab ((sp a).1 - (sp b).1) + ab ((sp a).2 - (sp b).2)) := Lib.hid rfl
  obtain ⟨x0, x1, y0, y1⟩ := sp_1000 a a0 (by omega)
  obtain ⟨u0, u1, v0, v1⟩ := sp_1000 b b0 (by omega)
  have HSa := Lib.hid fun W => spSpot_any a W a0 (by omega)
  have HSb := Lib.hid fun W => spSpot_any b W b0 (by omega)
  generalize dst a b = d at *
  generalize (sp a).1 = x at *
  generalize (sp a).2 = y at *
  generalize (sp b).1 = u at *
  generalize (sp b).2 = v at *
  have m0 : 0 ≤ ab (x - u) ∧ ab (x - u) ≤ 2000 := by unfold ab; omega
  have m1 : 0 ≤ ab (y - v) ∧ ab (y - v) ≤ 2000 := by unfold ab; omega
  obtain ⟨m0, m2⟩ := m0
  obtain ⟨m1, m3⟩ := m1
  have HP := Lib.hid fun W => siAbs_any (x - u) W (by omega) (by omega)
  have HQ := Lib.hid fun W => siAbs_any (y - v) W (by omega) (by omega)
  generalize ab (x - u) = p at *
  generalize ab (y - v) = q at *
  go_enter Try.func28, Try.ntmps28
  go_wp2_with (first
    | (go_at_call 87; refine (spGood_any _ _).mono ?_; (first | rw [HA.out] | rw [HA2.out]); rintro e w' ⟨rfl, rfl⟩)
    | (go_at_call_of 88 a; refine (HSa.out _).mono ?_; rintro e w1 ⟨rfl, hb1⟩)
    | (go_at_call_of 88 b; refine (HSb.out _).mono ?_; rintro e w2 ⟨rfl, hb2⟩))
  have hB : Below w.heap.size w ((w2.alloc (.cells #[.int .i64 x, .int .i64 y] 26)).alloc (.cells #[.int .i64 u, .int .i64 v] 26)) := ((hb1.trans (hb2.mono hb1.size)).alloc (Nat.le_trans hb1.size hb2.size) _).alloc (by have := hb1.size; have := hb2.size; simp; omega) _
  have hc : ((w2.alloc (.cells #[.int .i64 x, .int .i64 y] 26)).alloc (.cells #[.int .i64 u, .int .i64 v] 26)).cell? ⟨w2.heap.size, 0, none⟩ = some (.int .i64 x) ∧ ((w2.alloc (.cells #[.int .i64 x, .int .i64 y] 26)).alloc (.cells #[.int .i64 u, .int .i64 v] 26)).cell? ⟨w2.heap.size, 1, none⟩ = some (.int .i64 y) ∧ ((w2.alloc (.cells #[.int .i64 x, .int .i64 y] 26)).alloc (.cells #[.int .i64 u, .int .i64 v] 26)).cell? ⟨w2.heap.size + 1, 0, none⟩ = some (.int .i64 u) ∧ ((w2.alloc (.cells #[.int .i64 x, .int .i64 y] 26)).alloc (.cells #[.int .i64 u, .int .i64 v] 26)).cell? ⟨w2.heap.size + 1, 1, none⟩ = some (.int .i64 v) := by simp [go_sem]
  generalize (w2.alloc (.cells #[.int .i64 x, .int .i64 y] 26)).alloc (.cells #[.int .i64 u, .int .i64 v] 26) = w3 at *
  obtain ⟨c0, c1, d0, d1⟩ := hc
  have HB := Lib.hid hB
  clear hB hb1 hb2
  go_quiet (first
    | (go_at_call_of 106 x; refine (HP.out _).mono ?_; rintro e w' ⟨rfl, rfl⟩; exact ⟨rfl, _, rfl⟩)
    | (go_at_call_of 106 y; refine (HQ.out _).mono ?_; rintro e w' ⟨rfl, rfl⟩; exact ⟨rfl, _, rfl⟩))
  go_wp2
  rw [HD.out]
  go_ret2
  exact ⟨rfl, below_drewN HB.out _⟩
end Go.Proofs.Ytkhjeleoppdjgac
