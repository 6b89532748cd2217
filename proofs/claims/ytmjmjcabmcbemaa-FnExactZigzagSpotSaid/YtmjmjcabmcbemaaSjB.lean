/- Chapter 6: the two spirals of the program: spots of numbers, numbers of spots; bounds. -/
import Derived.Test.YtmjmjcabmcbemaaSjA
namespace Go.Proofs.Ytmjmjcabmcbemaa
open Go.ChangeShapes Go.WideShapes Go.ChangeAt Go.RowKit

theorem isOn_any (n : Int) (w : World) : Calls Try.prog 10 #[.int .i64 n] w fun e w' => e = .returned (.bool (betr n 0 1000000)) ∧ w = w' := by
  go_enter Try.func10, Try.ntmps10
  go_wp2_with (go_at_call 14; refine (rwithin_any _ _ _ _).mono ?_; rintro e w' ⟨rfl, rfl⟩)
  go_ret
  exact ⟨rfl, rfl⟩
theorem sq_sp {W : World} {lo hi R : Nat} (h : Own W lo hi (some ⟨R, 0, none⟩) (prs sqK.ss)) (hh : hi ≤ W.heap.size) : IsSp sqK R 4 2 8 W lo hi :=
  ⟨sq_good, rfl, rfl, by decide, by omega, by omega, h, hh⟩
theorem hx_sp {W : World} {lo hi R : Nat} (h : Own W lo hi (some ⟨R, 0, none⟩) (prs hxK.ss)) (hh : hi ≤ W.heap.size) : IsSp hxK R 6 1 6 W lo hi :=
  ⟨hx_good, rfl, rfl, by decide, by omega, by omega, h, hh⟩
theorem rr_b {r : Int} (h0 : 0 ≤ r) (h1 : r ≤ 2000) : 0 ≤ r * r ∧ r * r ≤ 4000000 ∧ r ≤ r * r := by
  have := Int.mul_le_mul (a := r) (b := r) (c := 2000) (d := 2000) h1 h1 h0 (by omega)
  have := Int.mul_nonneg h0 h0
  rcases Int.lt_or_le 0 r with h | h
  · have := Int.mul_le_mul_of_nonneg_right (a := 1) (b := r) (c := r) (by omega) (by omega)
    omega
  · obtain rfl : r = 0 := by omega
    omega
theorem sq_rg (r : Int) (h0 : 0 ≤ r) (h1 : r ≤ 2000) : IsRg 8 r ((2 * r - 1) * (2 * r - 1) - 1) := by
  have e := sq_exp r
  obtain ⟨a, b, c⟩ := rr_b h0 h1
  exact ⟨by rw [show (2 * r - 1) * (2 * r - 1) - 1 + 1 = (2 * r - 1) * (2 * r - 1) by omega]; exact sq_bds h0 (by omega), h0, h1, by omega, by omega⟩
theorem hx_rg (r : Int) (h0 : 0 ≤ r) (h1 : r ≤ 2000) : IsRg 6 r (3 * r * (r - 1)) := by
  have e := (hex_prod r).2
  obtain ⟨a, b, c⟩ := rr_b h0 h1
  exact ⟨hx_bds h0 (by omega), h0, h1, by omega, by omega⟩
theorem sq_at {W : World} {lo hi R : Nat} (h : Own W lo hi (some ⟨R, 0, none⟩) (prs sqK.ss)) (hh : hi ≤ W.heap.size) (n : Int) (h0 : 0 ≤ n) (h1 : n ≤ 1000001) :
    At sqK R 4 2 8 n (rg n) ((2 * rg n - 1) * (2 * rg n - 1) - 1) (2 * rg n) (sp n).1 (sp n).2 (fun k => (2 * k - 1) * (2 * k - 1)) W lo hi :=
  ⟨sq_sp h hh, sq_fits n h0 (by omega), sq_rg _ (rg_is n h0).nn (by have := rg_le n h0 (by omega); omega), rfl, sq_told n h0, h0, by omega⟩
theorem hx_at {W : World} {lo hi R : Nat} (h : Own W lo hi (some ⟨R, 0, none⟩) (prs hxK.ss)) (hh : hi ≤ W.heap.size) (n : Int) (h0 : 0 ≤ n) (h1 : n ≤ 1000001) :
    At hxK R 6 1 6 n (hx n) (3 * hx n * (hx n - 1)) (1 * hx n) (hp n).1 (hp n).2 (fun k => 3 * k * (k - 1) + 1) W lo hi :=
  ⟨hx_sp h hh, hx_fits n h0 (by omega), hx_rg _ (hx_is n h0).nn (by have := hx_le n h0 (by omega); omega), rfl, hx_told n h0, h0, by omega⟩
theorem impl_ZigzagSpot_no (n : Int) (w : World) (h : n < 0 ∨ 1000000 < n) :
    Calls Try.prog 5 #[.int .i64 n] w fun e w' => e = .returned (.tuple #[.agg #[.int .i64 0, .int .i64 0], .bool false]) ∧ Below w.heap.size w w' := by
  have HA := Lib.hid (betr_no h)
  clear h
  go_enter Try.func5, Try.ntmps5
  go_wp2_with (go_at_call 10; refine (isOn_any _ _).mono ?_; rw [HA.out]; rintro e w' ⟨rfl, rfl⟩)
  exact bodyPost_ret (v := .tuple #[.agg #[.int .i64 0, .int .i64 0], .bool false]) (by simp [results, Try.results5, go_sem]) rfl ⟨rfl, (Below.refl _ _).alloc (Nat.le_refl _) _⟩
end Go.Proofs.Ytmjmjcabmcbemaa
