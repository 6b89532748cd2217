/- Chapter 6: the two spirals of the program: spots of numbers, numbers of spots; bounds. -/
import Derived.Test.YthnjjpiofgbngaaSjA
namespace Go.Proofs.Ythnjjpiofgbngaa
open Go.ChangeShapes Go.WideShapes Go.ChangeAt Go.RowKit

theorem isOn_any (n : Int) (w : World) : Calls Try.prog 64 #[.int .i64 n] w fun e w' => e = .returned (.bool (betr n 0 1000000)) ∧ w = w' := by
  go_enter Try.func64, Try.ntmps64
  go_wp2_with (go_at_call 76; refine (rwithin_any _ _ _ _).mono ?_; rintro e w' ⟨rfl, rfl⟩)
  go_ret
  exact ⟨rfl, rfl⟩
theorem imSpot_any (x y : Int) (w : World) : Calls Try.prog 70 #[.agg #[.int .i64 x, .int .i64 y]] w fun e w' => e = .returned (.bool (isSpot x y)) ∧ Below w.heap.size w w' := by
  have H : Hid (isSpot x y = (betr x (-400) 400 && betr y (-400) 400)) := Lib.hid rfl
  cases hx : betr x (-400) 400
  · rw [hx] at H
    have HX := Lib.hid hx
    clear hx
    go_enter Try.func70, Try.ntmps70
    go_wp2_with (go_at_call 82; refine (rofSize_any _ _ _ (by omega) (by omega)).mono ?_; rw [HX.out]; rintro e w' ⟨rfl, rfl⟩)
    go_ret
    exact ⟨ret_bool H.out.symm, (Below.refl _ _).alloc (Nat.le_refl _) _⟩
  · rw [hx] at H
    have HX := Lib.hid hx
    clear hx
    obtain ⟨b, hb⟩ : ∃ b, b = betr y (-400) 400 := ⟨_, rfl⟩
    rw [← hb] at H
    have HB := Lib.hid hb.symm
    clear hb
    go_enter Try.func70, Try.ntmps70
    go_wp2_with (go_at_call 82; refine (rofSize_any _ _ _ (by omega) (by omega)).mono ?_; (first | rw [HX.out] | rw [HB.out]); rintro e w' ⟨rfl, rfl⟩)
    go_ret
    exact ⟨ret_bool (by rw [H.out]; simp), (Below.refl _ _).alloc (Nat.le_refl _) _⟩
theorem sq_sp {W : World} {lo hi R : Nat} (h : Own W lo hi (some ⟨R, 0, none⟩) (prs sqK.ss)) (hh : hi ≤ W.heap.size) : IsSp sqK R 4 2 8 W lo hi :=
  ⟨sq_good, rfl, rfl, by decide, by omega, by omega, h, hh⟩
theorem hx_sp {W : World} {lo hi R : Nat} (h : Own W lo hi (some ⟨R, 0, none⟩) (prs hxK.ss)) (hh : hi ≤ W.heap.size) : IsSp hxK R 6 1 6 W lo hi :=
  ⟨hx_good, rfl, rfl, by decide, by omega, by omega, h, hh⟩
theorem rr_b {r : Int} (h0 : 0 ≤ r) (h1 : r ≤ 2000) : 0 ≤ r * r ∧ r * r ≤ 4000000 ∧ r ≤ r * r := by
  have := Int.mul_le_mul (a := r) (b := r) (c := 2000) (d := 2000) h1 h1 h0 (by omega)
  have := Int.mul_nonneg h0 h0
  rcases Int.lt_or_le 0 r with h | h
  · have := Int.mul_le_mul_of_nonneg_right (a := 1) (b := r) (c := r) (by omega) (by omega)
    omega
  · obtain rfl : r = 0 := by omega
    omega
theorem sq_rg (r : Int) (h0 : 0 ≤ r) (h1 : r ≤ 2000) : IsRg 8 r ((2 * r - 1) * (2 * r - 1) - 1) := by
  have e := sq_exp r
  obtain ⟨a, b, c⟩ := rr_b h0 h1
  exact ⟨by rw [show (2 * r - 1) * (2 * r - 1) - 1 + 1 = (2 * r - 1) * (2 * r - 1) by omega]; exact sq_bds h0 (by omega), h0, h1, by omega, by omega⟩
theorem hx_rg (r : Int) (h0 : 0 ≤ r) (h1 : r ≤ 2000) : IsRg 6 r (3 * r * (r - 1)) := by
  have e := (hex_prod r).2
  obtain ⟨a, b, c⟩ := rr_b h0 h1
  exact ⟨hx_bds h0 (by omega), h0, h1, by omega, by omega⟩
theorem sq_at {W : World} {lo hi R : Nat} (h : Own W lo hi (some ⟨R, 0, none⟩) (prs sqK.ss)) (hh : hi ≤ W.heap.size) (n : Int) (h0 : 0 ≤ n) (h1 : n ≤ 1000001) :
    At sqK R 4 2 8 n (rg n) ((2 * rg n - 1) * (2 * rg n - 1) - 1) (2 * rg n) (sp n).1 (sp n).2 (fun k => (2 * k - 1) * (2 * k - 1)) W lo hi :=
  ⟨sq_sp h hh, sq_fits n h0 (by omega), sq_rg _ (rg_is n h0).nn (by have := rg_le n h0 (by omega); omega), rfl, sq_told n h0, h0, by omega⟩
theorem hx_at {W : World} {lo hi R : Nat} (h : Own W lo hi (some ⟨R, 0, none⟩) (prs hxK.ss)) (hh : hi ≤ W.heap.size) (n : Int) (h0 : 0 ≤ n) (h1 : n ≤ 1000001) :
    At hxK R 6 1 6 n (hx n) (3 * hx n * (hx n - 1)) (1 * hx n) (hp n).1 (hp n).2 (fun k => 3 * k * (k - 1) + 1) W lo hi :=
  ⟨hx_sp h hh, hx_fits n h0 (by omega), hx_rg _ (hx_is n h0).nn (by have := hx_le n h0 (by omega); omega), rfl, hx_told n h0, h0, by omega⟩
theorem sqVec {W : World} {lo hi R : Nat} (F : Nat) (h : Own W lo hi (some ⟨R, 0, none⟩) (prs sqK.ss)) (hh : hi ≤ W.heap.size) (n : Int) (h0 : 0 ≤ n) (h1 : n ≤ 1000001) :
    Calls Try.prog 66 #[.agg #[.slice (some ⟨R, 0, none⟩) 4 4, .int .i64 2, .func (.func F) #[] #[]], .int .i64 n] W fun e w' => e = .returned (.agg #[.int .i64 (sp n).1, .int .i64 (sp n).2]) ∧ Below W.heap.size W w' :=
  vectorOf_any sqK R F 4 2 8 n _ _ _ _ _ _ W lo hi (sq_at h hh n h0 h1)
theorem hxVec {W : World} {lo hi R : Nat} (F : Nat) (h : Own W lo hi (some ⟨R, 0, none⟩) (prs hxK.ss)) (hh : hi ≤ W.heap.size) (n : Int) (h0 : 0 ≤ n) (h1 : n ≤ 1000001) :
    Calls Try.prog 66 #[.agg #[.slice (some ⟨R, 0, none⟩) 6 6, .int .i64 1, .func (.func F) #[] #[]], .int .i64 n] W fun e w' => e = .returned (.agg #[.int .i64 (hp n).1, .int .i64 (hp n).2]) ∧ Below W.heap.size W w' :=
  vectorOf_any hxK R F 6 1 6 n _ _ _ _ _ _ W lo hi (hx_at h hh n h0 h1)
theorem sqNum {W : World} {lo hi R : Nat} (h : Own W lo hi (some ⟨R, 0, none⟩) (prs sqK.ss)) (hh : hi ≤ W.heap.size) (x y : Int) (x0 : -2000 ≤ x) (x1 : x ≤ 2000) (y0 : -2000 ≤ y) (y1 : y ≤ 2000) :
    Calls Try.prog 71 #[.agg #[.slice (some ⟨R, 0, none⟩) 4 4, .int .i64 2, .func (.func 96) #[] #[]], .agg #[.int .i64 x, .int .i64 y]] W fun e w' => e = .returned (.int .i64 (nu x y)) ∧ Below W.heap.size W w' :=
  spNumberAt_any sqK R _ 4 2 8 (sz x y) ((2 * sz x y - 1) * (2 * sz x y - 1) - 1) (2 * sz x y) x y (nu x y) W lo hi (sq_sp h hh) (sq_rg _ (sz_nn x y) (by unfold sz ab; omega)) rfl cf_square (fun W => squareRing_any x y W (by omega) (by omega) (by omega) (by omega)) (sq_tell x y) (by omega) (by omega) (by omega) (by omega)
theorem hxNum {W : World} {lo hi R : Nat} (h : Own W lo hi (some ⟨R, 0, none⟩) (prs hxK.ss)) (hh : hi ≤ W.heap.size) (x y : Int) (x0 : -1000 ≤ x) (x1 : x ≤ 1000) (y0 : -1000 ≤ y) (y1 : y ≤ 1000) :
    Calls Try.prog 71 #[.agg #[.slice (some ⟨R, 0, none⟩) 6 6, .int .i64 1, .func (.func 90) #[] #[]], .agg #[.int .i64 x, .int .i64 y]] W fun e w' => e = .returned (.int .i64 (hn x y)) ∧ Below W.heap.size W w' :=
  spNumberAt_any hxK R _ 6 1 6 (hsz x y) (3 * hsz x y * (hsz x y - 1)) (1 * hsz x y) x y (hn x y) W lo hi (hx_sp h hh) (hx_rg _ (hsz_nn x y) (by unfold hsz ab; omega)) rfl cf_hexagon (fun W => hexagonRing_any x y W (by omega) (by omega) (by omega) (by omega)) (hx_tell x y) (by omega) (by omega) (by omega) (by omega)
/-- The refusals of numbers. -/
theorem impl_SpotOf_no (n : Int) (w : World) (h : n < 0 ∨ 1000000 < n) :
    Calls Try.prog 21 #[.int .i64 n] w fun e w' => e = .returned (.tuple #[.agg #[.int .i64 0, .int .i64 0], .bool false]) ∧ Below w.heap.size w w' := by
  have HA := Lib.hid (betr_no h)
  clear h
  go_enter Try.func21, Try.ntmps21
  go_wp2_with (go_at_call 64; refine (isOn_any _ _).mono ?_; rw [HA.out]; rintro e w' ⟨rfl, rfl⟩)
  exact bodyPost_ret (v := .tuple #[.agg #[.int .i64 0, .int .i64 0], .bool false]) (by simp [results, Try.results21, go_sem]) rfl ⟨rfl, (Below.refl _ _).alloc (Nat.le_refl _) _⟩
theorem impl_StepFrom_no (n : Int) (w : World) (h : n < 0 ∨ 1000000 < n) :
    Calls Try.prog 31 #[.int .i64 n] w fun e w' => e = .returned (.tuple #[.agg #[.int .i64 0, .int .i64 0], .bool false]) ∧ Below w.heap.size w w' := by
  have HA := Lib.hid (betr_no h)
  clear h
  go_enter Try.func31, Try.ntmps31
  go_wp2_with (go_at_call 64; refine (isOn_any _ _).mono ?_; rw [HA.out]; rintro e w' ⟨rfl, rfl⟩)
  exact bodyPost_ret (v := .tuple #[.agg #[.int .i64 0, .int .i64 0], .bool false]) (by simp [results, Try.results31, go_sem]) rfl ⟨rfl, (Below.refl _ _).alloc (Nat.le_refl _) _⟩
theorem impl_HexSpotOf_no (n : Int) (w : World) (h : n < 0 ∨ 1000000 < n) :
    Calls Try.prog 47 #[.int .i64 n] w fun e w' => e = .returned (.tuple #[.agg #[.int .i64 0, .int .i64 0], .bool false]) ∧ Below w.heap.size w w' := by
  have HA := Lib.hid (betr_no h)
  clear h
  go_enter Try.func47, Try.ntmps47
  go_wp2_with (go_at_call 64; refine (isOn_any _ _).mono ?_; rw [HA.out]; rintro e w' ⟨rfl, rfl⟩)
  exact bodyPost_ret (v := .tuple #[.agg #[.int .i64 0, .int .i64 0], .bool false]) (by simp [results, Try.results47, go_sem]) rfl ⟨rfl, (Below.refl _ _).alloc (Nat.le_refl _) _⟩
theorem impl_TriangleSpot_no (n : Int) (w : World) (h : n < 0 ∨ 1000000 < n) :
    Calls Try.prog 57 #[.int .i64 n] w fun e w' => e = .returned (.tuple #[.agg #[.int .i64 0, .int .i64 0], .bool false]) ∧ Below w.heap.size w w' := by
  have HA := Lib.hid (betr_no h)
  clear h
  go_enter Try.func57, Try.ntmps57
  go_wp2_with (go_at_call 64; refine (isOn_any _ _).mono ?_; rw [HA.out]; rintro e w' ⟨rfl, rfl⟩)
  exact bodyPost_ret (v := .tuple #[.agg #[.int .i64 0, .int .i64 0], .bool false]) (by simp [results, Try.results57, go_sem]) rfl ⟨rfl, (Below.refl _ _).alloc (Nat.le_refl _) _⟩
theorem impl_RingOf_no (n : Int) (w : World) (h : n < 0 ∨ 1000000 < n) :
    Calls Try.prog 27 #[.int .i64 n] w fun e w' => e = .returned (.tuple #[.int .i64 0, .bool false]) ∧ Below w.heap.size w w' := by
  have HA := Lib.hid (betr_no h)
  clear h
  go_enter Try.func27, Try.ntmps27
  go_wp2_with (go_at_call 64; refine (isOn_any _ _).mono ?_; rw [HA.out]; rintro e w' ⟨rfl, rfl⟩)
  go_ret2
  exact ⟨rfl, Below.refl _ _⟩
theorem impl_HexRingOf_no (n : Int) (w : World) (h : n < 0 ∨ 1000000 < n) :
    Calls Try.prog 51 #[.int .i64 n] w fun e w' => e = .returned (.tuple #[.int .i64 0, .bool false]) ∧ Below w.heap.size w w' := by
  have HA := Lib.hid (betr_no h)
  clear h
  go_enter Try.func51, Try.ntmps51
  go_wp2_with (go_at_call 64; refine (isOn_any _ _).mono ?_; rw [HA.out]; rintro e w' ⟨rfl, rfl⟩)
  go_ret2
  exact ⟨rfl, Below.refl _ _⟩
theorem impl_BesideNumbers_no (n : Int) (w : World) (h : n < 0 ∨ 1000000 < n) :
    Calls Try.prog 33 #[.int .i64 n] w (ResI false [] w) := by
  have HA := Lib.hid (betr_no h)
  clear h
  go_enter Try.func33, Try.ntmps33
  go_wp2_with (go_at_call 64; refine (isOn_any _ _).mono ?_; rw [HA.out]; rintro e w' ⟨rfl, rfl⟩)
  go_ret2
  exact resI_nil (Below.refl _ _)
theorem impl_HexBeside_no (n : Int) (w : World) (h : n < 0 ∨ 1000000 < n) :
    Calls Try.prog 53 #[.int .i64 n] w (ResI false [] w) := by
  have HA := Lib.hid (betr_no h)
  clear h
  go_enter Try.func53, Try.ntmps53
  go_wp2_with (go_at_call 64; refine (isOn_any _ _).mono ?_; rw [HA.out]; rintro e w' ⟨rfl, rfl⟩)
  go_ret2
  exact resI_nil (Below.refl _ _)
theorem impl_DistanceOf_no (a b : Int) (w : World) (h : (a < 0 ∨ 1000000 < a) ∨ (b < 0 ∨ 1000000 < b)) :
    Calls Try.prog 38 #[.int .i64 a, .int .i64 b] w fun e w' => e = .returned (.tuple #[.int .i64 0, .bool false]) ∧ Below w.heap.size w w' := by
  by_cases ha : a < 0 ∨ 1000000 < a
  · have HA := Lib.hid (betr_no ha)
    clear h ha
    go_enter Try.func38, Try.ntmps38
    go_wp2_with (go_at_call 64; refine (isOn_any _ _).mono ?_; rw [HA.out]; rintro e w' ⟨rfl, rfl⟩)
    go_ret2
    exact ⟨rfl, Below.refl _ _⟩
  · have HA := Lib.hid (betr_yes (x := a) (lo := 0) (hi := 1000000) (by omega) (by omega))
    have HB := Lib.hid (betr_no (x := b) (lo := 0) (hi := 1000000) (by omega))
    clear h ha
    go_enter Try.func38, Try.ntmps38
    go_wp2_with (go_at_call 64; refine (isOn_any _ _).mono ?_; (first | rw [HA.out] | rw [HB.out]); rintro e w' ⟨rfl, rfl⟩)
    go_ret2
    exact ⟨rfl, Below.refl _ _⟩
theorem impl_HexDistance_no (a b : Int) (w : World) (h : (a < 0 ∨ 1000000 < a) ∨ (b < 0 ∨ 1000000 < b)) :
    Calls Try.prog 55 #[.int .i64 a, .int .i64 b] w fun e w' => e = .returned (.tuple #[.int .i64 0, .bool false]) ∧ Below w.heap.size w w' := by
  by_cases ha : a < 0 ∨ 1000000 < a
  · have HA := Lib.hid (betr_no ha)
    clear h ha
    go_enter Try.func55, Try.ntmps55
    go_wp2_with (go_at_call 64; refine (isOn_any _ _).mono ?_; rw [HA.out]; rintro e w' ⟨rfl, rfl⟩)
    go_ret2
    exact ⟨rfl, Below.refl _ _⟩
  · have HA := Lib.hid (betr_yes (x := a) (lo := 0) (hi := 1000000) (by omega) (by omega))
    have HB := Lib.hid (betr_no (x := b) (lo := 0) (hi := 1000000) (by omega))
    clear h ha
    go_enter Try.func55, Try.ntmps55
    go_wp2_with (go_at_call 64; refine (isOn_any _ _).mono ?_; (first | rw [HA.out] | rw [HB.out]); rintro e w' ⟨rfl, rfl⟩)
    go_ret2
    exact ⟨rfl, Below.refl _ _⟩
theorem impl_RingNumbers_no (n : Int) (w : World) (h : n < 0 ∨ 499 < n) :
    Calls Try.prog 29 #[.int .i64 n] w fun e w' => e = .returned (.tuple #[.int .i64 0, .int .i64 0, .bool false]) ∧ Below w.heap.size w w' := by
  have HA := Lib.hid (betr_no h)
  clear h
  go_enter Try.func29, Try.ntmps29
  go_wp2_with (go_at_call 76; refine (rwithin_any _ _ _ _).mono ?_; rw [HA.out]; rintro e w' ⟨rfl, rfl⟩)
  go_ret3
  exact ⟨rfl, Below.refl _ _⟩
theorem impl_NumberAt_no (x y : Int) (w : World) (h : isSpot x y = false) :
    Calls Try.prog 25 #[.agg #[.int .i64 x, .int .i64 y]] w fun e w' => e = .returned (.tuple #[.int .i64 0, .bool false]) ∧ Below w.heap.size w w' := by
  have HA := Lib.hid h
  clear h
  go_enter Try.func25, Try.ntmps25
  go_wp2_with (go_at_call 70; refine (imSpot_any _ _ _).mono ?_; rw [HA.out]; rintro e w1 ⟨rfl, hb1⟩)
  go_ret2
  exact ⟨rfl, ((Below.refl _ _).alloc (Nat.le_refl _) _).trans (hb1.mono (by simp))⟩
end Go.Proofs.Ythnjjpiofgbngaa
