/- Chapter 6: the specification's numbers in the triangle and in the zigzag. -/
import Derived.Test.YtkhjeleoppdjgacSiI
namespace Go.Proofs.Ytkhjeleoppdjgac
open Go.ChangeShapes Go.WideShapes Go.ChangeAt Go.RowKit

theorem num3_b (k : Int) (h0 : 0 ≤ k) (h1 : k ≤ 800) : 0 ≤ num 3 k ∧ num 3 k ≤ 400000 := by
  have a := num_nn 3 k (by omega)
  have t := num_twice 3 k
  have s := sq_le k 800 (by omega) h1
  have e : (3 - 2) * k * k - (3 - 4) * k = k * k + k := by grind
  omega
def triOk (x y : Int) : Bool := betr y 0 400 && betr x 0 y
theorem triOk_bds {x y : Int} (h : triOk x y = true) : 0 ≤ y ∧ y ≤ 400 ∧ 0 ≤ x ∧ x ≤ y := by
  simp [triOk, betr] at h
  omega
theorem spec_TriangleNumber_no (x y : Int) (w : World) (h : triOk x y = false) :
    Calls Try.prog 51 #[.agg #[.int .i64 x, .int .i64 y]] w fun e w' => e = .returned (.tuple #[.int .i64 0, .bool false]) ∧ Below w.heap.size w w' := by
  cases hx : betr y 0 400
  · have HX := Lib.hid hx
    clear h hx
    go_enter Try.func51, Try.ntmps51
    go_wp2_with (go_at_call 104; refine (rin_any _ _ _ _).mono ?_; rw [HX.out]; rintro e w' ⟨rfl, rfl⟩)
    go_ret2
    exact ⟨rfl, (Below.refl _ _).alloc (Nat.le_refl _) _⟩
  · have HY : Hid (betr x 0 y = false) := Lib.hid (by simpa [triOk, hx] using h)
    have HX := Lib.hid hx
    clear h hx
    go_enter Try.func51, Try.ntmps51
    go_wp2_with (go_at_call 104; refine (rin_any _ _ _ _).mono ?_; (first | rw [HX.out] | rw [HY.out]); rintro e w' ⟨rfl, rfl⟩)
    go_ret2
    exact ⟨rfl, (Below.refl _ _).alloc (Nat.le_refl _) _⟩
def zzOk (x y : Int) : Bool := betr x 0 400 && betr y 0 400
theorem zzOk_bds {x y : Int} (h : zzOk x y = true) : 0 ≤ x ∧ x ≤ 400 ∧ 0 ≤ y ∧ y ≤ 400 := by
  simp [zzOk, betr] at h
  omega
theorem spec_ZigzagNumber_no (x y : Int) (w : World) (h : zzOk x y = false) :
    Calls Try.prog 53 #[.agg #[.int .i64 x, .int .i64 y]] w fun e w' => e = .returned (.tuple #[.int .i64 0, .bool false]) ∧ Below w.heap.size w w' := by
  cases hx : betr x 0 400
  · have HX := Lib.hid hx
    clear h hx
    go_enter Try.func53, Try.ntmps53
    go_wp2_with (go_at_call 104; refine (rin_any _ _ _ _).mono ?_; rw [HX.out]; rintro e w' ⟨rfl, rfl⟩)
    go_ret2
    exact ⟨rfl, (Below.refl _ _).alloc (Nat.le_refl _) _⟩
  · have HY : Hid (betr y 0 400 = false) := Lib.hid (by simpa [zzOk, hx] using h)
    have HX := Lib.hid hx
    clear h hx
    go_enter Try.func53, Try.ntmps53
    go_wp2_with (go_at_call 104; refine (rin_any _ _ _ _).mono ?_; (first | rw [HX.out] | rw [HY.out]); rintro e w' ⟨rfl, rfl⟩)
    go_ret2
    exact ⟨rfl, (Below.refl _ _).alloc (Nat.le_refl _) _⟩
theorem spec_TriangleNumber_yes (x y : Int) (w : World) (h : triOk x y = true) :
    Calls Try.prog 51 #[.agg #[.int .i64 x, .int .i64 y]] w fun e w' => e = .returned (.tuple #[.int .i64 (num 3 y + x), .bool true]) ∧ Below w.heap.size w w' := by
  obtain ⟨y0, y1, x0, x1⟩ := triOk_bds h
  have HX := Lib.hid (betr_yes y0 y1)
  have HY := Lib.hid (betr_yes x0 x1)
  have HM := Lib.hid fun W => shNumber_any 3 y W (by omega) (by omega) (by omega) (by omega)
  obtain ⟨m0, m1⟩ := num3_b y y0 (by omega)
  clear h
  generalize num 3 y = m at *
  go_enter Try.func51, Try.ntmps51
  go_wp2_with (go_at_call 104; refine (rin_any _ _ _ _).mono ?_; (first | rw [HX.out] | rw [HY.out]); rintro e w' ⟨rfl, rfl⟩)
  have hB : Below w.heap.size w (w.alloc (.cells #[.int .i64 x, .int .i64 y] 26)) := (Below.refl _ _).alloc (Nat.le_refl _) _
  have c0 : (w.alloc (.cells #[.int .i64 x, .int .i64 y] 26)).cell? ⟨w.heap.size, 0, none⟩ = some (.int .i64 x) := by simp [go_sem]
  have c1 : (w.alloc (.cells #[.int .i64 x, .int .i64 y] 26)).cell? ⟨w.heap.size, 1, none⟩ = some (.int .i64 y) := by simp [go_sem]
  generalize w.alloc (.cells #[.int .i64 x, .int .i64 y] 26) = w2 at *
  have HB := Lib.hid hB
  clear hB
  go_quiet (first | (go_at_call 123; refine (HM.out _).mono ?_; rintro e w' ⟨rfl, rfl⟩; exact ⟨rfl, _, rfl⟩))
  go_wp2
  go_ret2
  exact ⟨rfl, below_drewN HB.out _⟩
set_option maxHeartbeats 800000 in
theorem spec_ZigzagNumber_yes (x y : Int) (w : World) (h : zzOk x y = true) :
    Calls Try.prog 53 #[.agg #[.int .i64 x, .int .i64 y]] w fun e w' => e = .returned (.tuple #[.int .i64 (zzN x y), .bool true]) ∧ Below w.heap.size w w' := by
  obtain ⟨x0, x1, y0, y1⟩ := zzOk_bds h
  have HX := Lib.hid (betr_yes x0 x1)
  have HY := Lib.hid (betr_yes y0 y1)
  have HM := Lib.hid fun W => shNumber_any 3 (x + y) W (by omega) (by omega) (by omega) (by omega)
  obtain ⟨m0, m1⟩ := num3_b (x + y) (by omega) (by omega)
  have HN : Hid (zzN x y = if (x + y) % 2 = 1 then num 3 (x + y) + x else num 3 (x + y) + y) := Lib.hid rfl
  rw [HN.out]
  clear h HN
  generalize num 3 (x + y) = m at *
  by_cases ho : (x + y) % 2 = 1
  · rw [if_pos ho]
    have hob : ((x + y) % 2 == 1) = true := by simpa using ho
    clear ho
    go_enter Try.func53, Try.ntmps53
    go_wp2_with (go_at_call 104; refine (rin_any _ _ _ _).mono ?_; (first | rw [HX.out] | rw [HY.out]); rintro e w' ⟨rfl, rfl⟩)
    have hB : Below w.heap.size w (w.alloc (.cells #[.int .i64 x, .int .i64 y] 26)) := (Below.refl _ _).alloc (Nat.le_refl _) _
    have c0 : (w.alloc (.cells #[.int .i64 x, .int .i64 y] 26)).cell? ⟨w.heap.size, 0, none⟩ = some (.int .i64 x) := by simp [go_sem]
    have c1 : (w.alloc (.cells #[.int .i64 x, .int .i64 y] 26)).cell? ⟨w.heap.size, 1, none⟩ = some (.int .i64 y) := by simp [go_sem]
    generalize w.alloc (.cells #[.int .i64 x, .int .i64 y] 26) = w2 at *
    have HB := Lib.hid hB
    clear hB
    go_quiet (first | (go_at_call 123; refine (HM.out _).mono ?_; rintro e w' ⟨rfl, rfl⟩; exact ⟨rfl, _, rfl⟩))
    go_wp2
    go_ret2
    exact ⟨rfl, below_drewN HB.out _⟩
  · rw [if_neg ho]
    have hob : ((x + y) % 2 == 1) = false := by simpa using ho
    clear ho
    go_enter Try.func53, Try.ntmps53
    go_wp2_with (go_at_call 104; refine (rin_any _ _ _ _).mono ?_; (first | rw [HX.out] | rw [HY.out]); rintro e w' ⟨rfl, rfl⟩)
    have hB : Below w.heap.size w (w.alloc (.cells #[.int .i64 x, .int .i64 y] 26)) := (Below.refl _ _).alloc (Nat.le_refl _) _
    have c0 : (w.alloc (.cells #[.int .i64 x, .int .i64 y] 26)).cell? ⟨w.heap.size, 0, none⟩ = some (.int .i64 x) := by simp [go_sem]
    have c1 : (w.alloc (.cells #[.int .i64 x, .int .i64 y] 26)).cell? ⟨w.heap.size, 1, none⟩ = some (.int .i64 y) := by simp [go_sem]
    generalize w.alloc (.cells #[.int .i64 x, .int .i64 y] 26) = w2 at *
    have HB := Lib.hid hB
    clear hB
    go_quiet (first | (go_at_call 123; refine (HM.out _).mono ?_; rintro e w' ⟨rfl, rfl⟩; exact ⟨rfl, _, rfl⟩))
    go_wp2
    go_ret2
    exact ⟨rfl, below_drewN HB.out _⟩
end Go.Proofs.Ytkhjeleoppdjgac
