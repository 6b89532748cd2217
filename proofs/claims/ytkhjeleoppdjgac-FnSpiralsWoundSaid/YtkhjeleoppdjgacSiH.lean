/- Chapter 6: the specification's hexagon rings and sizes, the triangle, the zigzag. -/
import Derived.Test.YtkhjeleoppdjgacSiA
namespace Go.Proofs.Ytkhjeleoppdjgac
open Go.ChangeShapes Go.WideShapes Go.ChangeAt Go.RowKit

theorem hx_step {n x : Int} (hn : 0 ≤ n) (h0 : 0 ≤ x) (_h1 : x ≤ hx n) : 3 * x * (x + 1) < n ↔ x < hx n := by
  have h := hx_is n hn
  have hi := h.hi
  constructor
  · intro g
    rcases Int.lt_or_le x (hx n) with k | k
    · exact k
    · have := hex_mono (a := hx n) (b := x) h.nn k
      omega
  · intro g
    have lo := h.lo (by omega)
    rw [hex_below] at lo
    have := hex_mono (a := x) (b := hx n - 1) h0 (by omega)
    omega
theorem spHexRing_any (n : Int) (w : World) (h0 : 0 ≤ n) (h1 : n ≤ 1003000) :
    Calls Try.prog 114 #[.int .i64 n] w fun e w' => e = .returned (.int .i64 (hx n)) ∧ w = w' := by
  have HST := Lib.hid fun (x : Int) => hx_step (n := n) (x := x) h0
  have hle := hx_le n h0 h1
  have hnn := (hx_is n h0).nn
  generalize hx n = r at *
  go_enter Try.func114, Try.ntmps114
  go_wp2
  go_loop [3] (fun v => ∃ x : Int, v = .int .i64 x ∧ 0 ≤ x ∧ x ≤ r) (fun v => (r - intOf v).toNat)
  case atStart => exact ⟨0, rfl, by omega, hnn⟩
  case round =>
    obtain ⟨x, rfl, x0, x1⟩ := hrel
    have hs := HST.out x x0 x1
    have q0 := hex_mono (a := 0) (b := x) (by omega) x0
    have q1 := hex_mono (a := x) (b := 578) x0 (by omega)
    by_cases hc : 3 * x * (x + 1) < n
    · have hl := hs.1 hc
      clear hs
      go_wp2
      go_round
      case rel => exact ⟨x + 1, rfl, by omega, by omega⟩
      case measure => simp [intOf]; omega
    · have hl : x = r := by
        rcases Int.lt_or_le x r with k | k
        · exact absurd (hs.2 k) hc
        · omega
      have HL := Lib.hid hl
      clear hs hl
      go_wp2
      go_ret
      exact ⟨ret_int HL.out, rfl⟩
theorem spec_HexRingOf_no (n : Int) (w : World) (h : n < 0 ∨ 1000000 < n) :
    Calls Try.prog 40 #[.int .i64 n] w fun e w' => e = .returned (.tuple #[.int .i64 0, .bool false]) ∧ Below w.heap.size w w' := by
  have HA := Lib.hid (betr_no h)
  clear h
  go_enter Try.func40, Try.ntmps40
  go_wp2_with (go_at_call 87; refine (spGood_any _ _).mono ?_; rw [HA.out]; rintro e w' ⟨rfl, rfl⟩)
  go_ret2
  exact ⟨rfl, Below.refl _ _⟩
theorem spec_HexRingOf_yes (n : Int) (w : World) (h0 : 0 ≤ n) (h1 : n ≤ 1000000) :
    Calls Try.prog 40 #[.int .i64 n] w fun e w' => e = .returned (.tuple #[.int .i64 (hx n), .bool true]) ∧ Below w.heap.size w w' := by
  have HA := Lib.hid (betr_yes h0 h1)
  have HS := Lib.hid fun W => spHexRing_any n W h0 (by omega)
  generalize hx n = x at *
  go_enter Try.func40, Try.ntmps40
  go_wp2_with (first
    | (go_at_call 87; refine (spGood_any _ _).mono ?_; rw [HA.out]; rintro e w' ⟨rfl, rfl⟩)
    | (go_at_call 114; refine (HS.out _).mono ?_; rintro e w1 ⟨rfl, rfl⟩))
  go_ret2
  exact ⟨rfl, Below.refl _ _⟩
set_option maxHeartbeats 800000 in
set_option maxRecDepth 4000 in
theorem spHexSize_any (x y : Int) (w : World) (x0 : -2000 ≤ x) (x1 : x ≤ 2000) (y0 : -2000 ≤ y) (y1 : y ≤ 2000) :
    Calls Try.prog 120 #[.agg #[.int .i64 x, .int .i64 y]] w fun e w' => e = .returned (.int .i64 (hsz x y)) ∧ Below w.heap.size w w' := by
  have HR : Hid (max (max (ab x) (ab y)) (ab (x + y)) = hsz x y) := Lib.hid rfl
  have HAX := Lib.hid fun W => siAbs_any x W (by omega) (by omega)
  have HAY := Lib.hid fun W => siAbs_any y W (by omega) (by omega)
  have HAZ := Lib.hid fun W => siAbs_any (x + y) W (by omega) (by omega)
  generalize hsz x y = r at *
  generalize ab (x + y) = c at *
  generalize ab x = a at *
  generalize ab y = b at *
  obtain ⟨m, hm⟩ : ∃ m, max a b = m := ⟨_, rfl⟩
  rw [hm] at HR
  have HM : Hid (∀ W : World, Calls Try.prog 155 #[.int .i64 a, .int .i64 b] W fun e w' => e = .returned (.int .i64 m) ∧ W = w') := Lib.hid fun W => hm ▸ siMost_any a b W
  have HM2 : Hid (∀ W : World, Calls Try.prog 155 #[.int .i64 m, .int .i64 c] W fun e w' => e = .returned (.int .i64 r) ∧ W = w') := Lib.hid fun W => HR.out ▸ siMost_any m c W
  clear hm
  have e1 : IntKind.i64.wrap (x + y) = x + y := IntWalk.i64_in _ (by omega)
  go_enter Try.func120, Try.ntmps120
  go_wp2_with fail
  have hB : Below w.heap.size w (w.alloc (.cells #[.int .i64 x, .int .i64 y] 26)) := (Below.refl _ _).alloc (Nat.le_refl _) _
  have c0 : (w.alloc (.cells #[.int .i64 x, .int .i64 y] 26)).cell? ⟨w.heap.size, 0, none⟩ = some (.int .i64 x) := by simp [go_sem]
  have c1 : (w.alloc (.cells #[.int .i64 x, .int .i64 y] 26)).cell? ⟨w.heap.size, 1, none⟩ = some (.int .i64 y) := by simp [go_sem]
  generalize w.alloc (.cells #[.int .i64 x, .int .i64 y] 26) = w2 at *
  have HB := Lib.hid hB
  clear hB
  go_quiet (first
    | (go_at_call 106; refine (HAX.out _).mono ?_; rintro e w' ⟨rfl, rfl⟩; exact ⟨rfl, _, rfl⟩)
    | (go_at_call 106; refine (HAY.out _).mono ?_; rintro e w' ⟨rfl, rfl⟩; exact ⟨rfl, _, rfl⟩)
    | (go_at_call 106; refine (HAZ.out _).mono ?_; rintro e w' ⟨rfl, rfl⟩; exact ⟨rfl, _, rfl⟩)
    | (go_at_call 155; refine (HM.out _).mono ?_; rintro e w' ⟨rfl, rfl⟩; exact ⟨rfl, _, rfl⟩)
    | (go_at_call 155; refine (HM2.out _).mono ?_; rintro e w' ⟨rfl, rfl⟩; exact ⟨rfl, _, rfl⟩))
  go_wp2
  go_ret
  exact ⟨rfl, below_drewN HB.out _⟩
end Go.Proofs.Ytkhjeleoppdjgac
