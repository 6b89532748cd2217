/- Chapter 4: shared numbers: the program's search, and the law NextShared. -/
import Derived.Test.YtcjfkbpkhlfbdaaSdQ
import Derived.Test.YtcjfkbpkhlfbdaaSuB
import Derived.Deep.RegionWith
namespace Go.Proofs.Ytcjfkbpkhlfbdaa
open Go.ChangeShapes Go.WideShapes Go.ChangeAt Go.RowKit

theorem areSides_any (s : Int) (w : World) :
    Calls Try.prog 44 #[.int .i64 s] w fun e w' => e = .returned (.bool (decide (3 ≤ s ∧ s ≤ 24))) ∧ w = w' := by
  by_cases h : s < 3 ∨ 24 < s
  · rw [decide_eq_false (by omega)]; exact areSides_no s w h
  · rw [decide_eq_true (by omega)]; exact areSides_yes s w (by omega) (by omega)
/-- Two different numbers of sides, as the program asks it. -/
theorem diff_any (a b : Int) (w : World) :
    Calls Try.prog 26 #[.int .i64 a, .int .i64 b] w fun e w' => e = .returned (.bool (two a b)) ∧ w = w' := by
  by_cases h1 : a < 3 ∨ 24 < a
  · have HA : Hid (decide (3 ≤ a ∧ a ≤ 24) = false) := Lib.hid (decide_eq_false (by omega))
    rw [two_no a b (.inl h1)]
    clear h1
    go_enter Try.func26, Try.ntmps26
    go_wp2_with (go_at_call 44; refine (areSides_any _ _).mono ?_; rw [HA.out]; rintro e w' ⟨rfl, rfl⟩)
    go_ret
    exact ⟨rfl, rfl⟩
  · have HA : Hid (decide (3 ≤ a ∧ a ≤ 24) = true) := Lib.hid (decide_eq_true (by omega))
    by_cases h2 : b < 3 ∨ 24 < b
    · have HB : Hid (decide (3 ≤ b ∧ b ≤ 24) = false) := Lib.hid (decide_eq_false (by omega))
      rw [two_no a b (.inr (.inl h2))]
      clear h1 h2
      go_enter Try.func26, Try.ntmps26
      go_wp2_with (go_at_call 44; refine (areSides_any _ _).mono ?_; (first | rw [HA.out] | rw [HB.out]); rintro e w' ⟨rfl, rfl⟩)
      go_ret
      exact ⟨rfl, rfl⟩
    · have HB : Hid (decide (3 ≤ b ∧ b ≤ 24) = true) := Lib.hid (decide_eq_true (by omega))
      by_cases h3 : a = b
      · rw [two_no a b (.inr (.inr h3))]
        have hd : (a != b) = false := by simpa using h3
        clear h1 h2 h3
        go_enter Try.func26, Try.ntmps26
        go_wp2_with (go_at_call 44; refine (areSides_any _ _).mono ?_; (first | rw [HA.out] | rw [HB.out]); rintro e w' ⟨rfl, rfl⟩)
        go_ret
        exact ⟨rfl, rfl⟩
      · rw [two_yes a b (by omega)]
        have hd : (a != b) = true := by simpa using h3
        clear h1 h2 h3
        go_enter Try.func26, Try.ntmps26
        go_wp2_with (go_at_call 44; refine (areSides_any _ _).mono ?_; (first | rw [HA.out] | rw [HB.out]); rintro e w' ⟨rfl, rfl⟩)
        go_ret
        exact ⟨rfl, rfl⟩
theorem six_below {w w' : World} {B R Q : Nat} {a b c d e f : Value} (hb : Below B w w') (hR : R < B) (hQ : Q < B)
    (h : w.cell? ⟨R, 0, none⟩ = some a ∧ w.cell? ⟨R, 1, none⟩ = some b ∧ w.cell? ⟨R, 2, none⟩ = some c ∧ w.cell? ⟨Q, 0, none⟩ = some d ∧ w.cell? ⟨Q, 1, none⟩ = some e ∧ w.cell? ⟨Q, 2, none⟩ = some f) :
    w'.cell? ⟨R, 0, none⟩ = some a ∧ w'.cell? ⟨R, 1, none⟩ = some b ∧ w'.cell? ⟨R, 2, none⟩ = some c ∧ w'.cell? ⟨Q, 0, none⟩ = some d ∧ w'.cell? ⟨Q, 1, none⟩ = some e ∧ w'.cell? ⟨Q, 2, none⟩ = some f :=
  ⟨(hb.cell (p := ⟨R, 0, none⟩) hR).trans h.1, (hb.cell (p := ⟨R, 1, none⟩) hR).trans h.2.1, (hb.cell (p := ⟨R, 2, none⟩) hR).trans h.2.2.1, (hb.cell (p := ⟨Q, 0, none⟩) hQ).trans h.2.2.2.1, (hb.cell (p := ⟨Q, 1, none⟩) hQ).trans h.2.2.2.2.1, (hb.cell (p := ⟨Q, 2, none⟩) hQ).trans h.2.2.2.2.2⟩
set_option maxHeartbeats 3200000 in
theorem sharedAfter_any (a b n top r : Int) (ok : Bool) (w : World) (h1 : 3 ≤ a) (h2 : a ≤ 24) (g1 : 3 ≤ b) (g2 : b ≤ 24) (h3 : 0 ≤ n) (h4 : n ≤ top) (h5 : top ≤ 1000000000) (_hne : a ≠ b) (hx : Nxt top a b n r ok) :
    Calls Try.prog 28 #[.int .i64 a, .int .i64 b, .int .i64 n, .int .i64 top] w fun e w' => e = .returned (.tuple #[.int .i64 r, .bool ok]) ∧ Below w.heap.size w w' := by
  have HX := Lib.hid hx
  clear hx _hne
  have FA := Lib.hid (poly_fits a n h1 h2 h3 (by omega))
  have FB := Lib.hid (poly_fits b n g1 g2 h3 (by omega))
  have p0 := pl_nn a n h1 h3
  have p1 := pl_le_pl a n top h1 h3 h4
  have p2 := pl_le a top h1 (by omega) (by omega)
  have q0 := pl_nn b n g1 h3
  have q1 := pl_le_pl b n top g1 h3 h4
  have q2 := pl_le b top g1 (by omega) (by omega)
  have HS := Lib.hid (ahead_start a b n h1 g1 h3)
  go_enter Try.func28, Try.ntmps28
  go_wp2_with (first
    | (go_at_call_of 34 a; refine (polygonRule_any _ _ h1 h2).mono ?_; rintro e w1 ⟨rfl, hb1⟩)
    | (go_at_call_of 34 b; refine (polygonRule_any _ _ g1 g2).mono ?_; rintro e w2 ⟨rfl, hb2⟩))
  obtain ⟨R, hR⟩ : ∃ R, R = w2.heap.size := ⟨_, rfl⟩
  have hB : Below w.heap.size w ((w2.alloc (.cells #[.int .i64 0, .int .i64 (4 - a), .int .i64 (a - 2)] 53)).alloc (.cells #[.int .i64 0, .int .i64 (4 - b), .int .i64 (b - 2)] 53)) := ((hb1.trans (hb2.mono hb1.size)).alloc (Nat.le_trans hb1.size hb2.size) _).alloc (by have := hb1.size; have := hb2.size; simp; omega) _
  have hc : ((w2.alloc (.cells #[.int .i64 0, .int .i64 (4 - a), .int .i64 (a - 2)] 53)).alloc (.cells #[.int .i64 0, .int .i64 (4 - b), .int .i64 (b - 2)] 53)).cell? ⟨w2.heap.size, 0, none⟩ = some (.int .i64 0) ∧ ((w2.alloc (.cells #[.int .i64 0, .int .i64 (4 - a), .int .i64 (a - 2)] 53)).alloc (.cells #[.int .i64 0, .int .i64 (4 - b), .int .i64 (b - 2)] 53)).cell? ⟨w2.heap.size, 1, none⟩ = some (.int .i64 (4 - a)) ∧ ((w2.alloc (.cells #[.int .i64 0, .int .i64 (4 - a), .int .i64 (a - 2)] 53)).alloc (.cells #[.int .i64 0, .int .i64 (4 - b), .int .i64 (b - 2)] 53)).cell? ⟨w2.heap.size, 2, none⟩ = some (.int .i64 (a - 2)) ∧ ((w2.alloc (.cells #[.int .i64 0, .int .i64 (4 - a), .int .i64 (a - 2)] 53)).alloc (.cells #[.int .i64 0, .int .i64 (4 - b), .int .i64 (b - 2)] 53)).cell? ⟨w2.heap.size + 1, 0, none⟩ = some (.int .i64 0) ∧ ((w2.alloc (.cells #[.int .i64 0, .int .i64 (4 - a), .int .i64 (a - 2)] 53)).alloc (.cells #[.int .i64 0, .int .i64 (4 - b), .int .i64 (b - 2)] 53)).cell? ⟨w2.heap.size + 1, 1, none⟩ = some (.int .i64 (4 - b)) ∧ ((w2.alloc (.cells #[.int .i64 0, .int .i64 (4 - a), .int .i64 (a - 2)] 53)).alloc (.cells #[.int .i64 0, .int .i64 (4 - b), .int .i64 (b - 2)] 53)).cell? ⟨w2.heap.size + 1, 2, none⟩ = some (.int .i64 (b - 2)) := by simp [go_sem]
  have hz : w2.heap.size + 2 ≤ ((w2.alloc (.cells #[.int .i64 0, .int .i64 (4 - a), .int .i64 (a - 2)] 53)).alloc (.cells #[.int .i64 0, .int .i64 (4 - b), .int .i64 (b - 2)] 53)).heap.size := by simp
  have hwR : w.heap.size ≤ w2.heap.size := Nat.le_trans hb1.size hb2.size
  rw [← hR] at hc hz hwR ⊢
  generalize (w2.alloc (.cells #[.int .i64 0, .int .i64 (4 - a), .int .i64 (a - 2)] 53)).alloc (.cells #[.int .i64 0, .int .i64 (4 - b), .int .i64 (b - 2)] 53) = w3 at *
  clear hb1 hb2 hR
  obtain ⟨c0, c1, c2, d0, d1, d2⟩ := hc
  have e1 : IntKind.i64.wrap (pl a n + 1) = pl a n + 1 := IntWalk.i64_in _ (by omega)
  have e2 : IntKind.i64.wrap (pl b n + 1) = pl b n + 1 := IntWalk.i64_in _ (by omega)
  go_region_held3 (fun w' => w'.cell? ⟨R, 0, none⟩ = some (.int .i64 0) ∧ w'.cell? ⟨R, 1, none⟩ = some (.int .i64 (4 - a)) ∧ w'.cell? ⟨R, 2, none⟩ = some (.int .i64 (a - 2)) ∧ w'.cell? ⟨R + 1, 0, none⟩ = some (.int .i64 0) ∧ w'.cell? ⟨R + 1, 1, none⟩ = some (.int .i64 (4 - b)) ∧ w'.cell? ⟨R + 1, 2, none⟩ = some (.int .i64 (b - 2)))
    (first | exact ⟨c0, c1, c2, d0, d1, d2⟩ | exact hk4 | exact hk5)
    (first
      | (go_at_call_of 45 a; refine (lastPlace_any _ _ _ _ _ _ _ FA.out).mono ?_; rintro e w4 ⟨rfl, hb4⟩; have hk4 := six_below hb4 (show R < w3.heap.size by omega) (show R + 1 < w3.heap.size by omega) ⟨c0, c1, c2, d0, d1, d2⟩)
      | (go_at_call_of 45 b; refine (lastPlace_any _ _ _ _ _ _ _ FB.out).mono ?_; rintro e w5 ⟨rfl, hb5⟩; have hk5 := six_below hb5 (show R < w4.heap.size by have := hb4.size; simp at this; omega) (show R + 1 < w4.heap.size by have := hb4.size; simp at this; omega) hk4))
  have hB5 : Below w.heap.size w w5 := (hB.drew.trans (hb4.mono (Nat.le_trans hwR (by simp; omega)))).trans (hb5.mono (Nat.le_trans (Nat.le_trans hwR (by simp; omega)) hb4.size))
  have hz5 : R + 2 ≤ w5.heap.size := by have := hb4.size; have := hb5.size; simp at *; omega
  clear c0 c1 c2 d0 d1 d2 hk4 hb4 hb5 hB hz e1 e2
  obtain ⟨c0, c1, c2, d0, d1, d2⟩ := hk5
  go_wp2
  go_loopw [12, 13] (fun pa pb wr => ∃ i j : Int, pa = .int .i64 i ∧ pb = .int .i64 j ∧ pl a n < i ∧ i ≤ pl a top + 1 ∧ pl b n < j ∧ j ≤ pl b top + 1 ∧ Hid (Ahead a b n i j) ∧ wr.cell? ⟨R, 0, none⟩ = some (.int .i64 0) ∧ wr.cell? ⟨R, 1, none⟩ = some (.int .i64 (4 - a)) ∧ wr.cell? ⟨R, 2, none⟩ = some (.int .i64 (a - 2)) ∧ wr.cell? ⟨(R + 1), 0, none⟩ = some (.int .i64 0) ∧ wr.cell? ⟨(R + 1), 1, none⟩ = some (.int .i64 (4 - b)) ∧ wr.cell? ⟨(R + 1), 2, none⟩ = some (.int .i64 (b - 2)) ∧ R + 2 ≤ wr.heap.size ∧ Hid (Below w.heap.size w wr)) (fun pa pb _ => (pl a top + 1 - intOf pa + (pl b top + 1 - intOf pb)).toNat)
  case atStart => exact ⟨_, _, rfl, rfl, by omega, by omega, by omega, by omega, HS, c0, c1, c2, d0, d1, d2, hz5, Lib.hid hB5⟩
  case round =>
    clear c0 c1 c2 d0 d1 d2
    obtain ⟨i, j, rfl, rfl, i1, i2, j1, j2, HA, c0, c1, c2, d0, d1, d2, hz, hb⟩ := hrel
    have RA := Lib.hid (polyRule_bds a i h1 h2 (by omega) (by omega))
    have RB := Lib.hid (polyRule_bds b j g1 g2 (by omega) (by omega))
    have fa := fits_iff a top i h1 (by omega) (by omega)
    have fb := fits_iff b top j g1 (by omega) (by omega)
    obtain ⟨x, hx⟩ : ∃ x, x = num a i := ⟨_, rfl⟩
    obtain ⟨y, hy⟩ : ∃ y, y = num b j := ⟨_, rfl⟩
    rw [← hx] at RA fa
    rw [← hy] at RB fb
    have HXY := Lib.hid (And.intro hx hy)
    clear hx hy
    go_wp2_with fail
    go_region_held3 (fun w' => w'.cell? ⟨R, 0, none⟩ = some (.int .i64 0) ∧ w'.cell? ⟨R, 1, none⟩ = some (.int .i64 (4 - a)) ∧ w'.cell? ⟨R, 2, none⟩ = some (.int .i64 (a - 2)) ∧ w'.cell? ⟨R + 1, 0, none⟩ = some (.int .i64 0) ∧ w'.cell? ⟨R + 1, 1, none⟩ = some (.int .i64 (4 - b)) ∧ w'.cell? ⟨R + 1, 2, none⟩ = some (.int .i64 (b - 2)))
      (first | exact ⟨c0, c1, c2, d0, d1, d2⟩ | exact hk4 | exact hk5)
      (first
        | (go_at_call_of 35 a; refine (numberAt_any _ _ _ _ _ _ RA.out).mono ?_; rintro e w4 ⟨rfl, hb4⟩; have hk4 := six_below hb4 (show R < wr.heap.size by omega) (show R + 1 < wr.heap.size by omega) ⟨c0, c1, c2, d0, d1, d2⟩)
        | (go_at_call_of 35 b; refine (numberAt_any _ _ _ _ _ _ RB.out).mono ?_; rintro e w5 ⟨rfl, hb5⟩; have hk5 := six_below hb5 (show R < w4.heap.size by have := hb4.size; simp at this; omega) (show R + 1 < w4.heap.size by have := hb4.size; simp at this; omega) hk4))
    have hB5 : Hid (Below w.heap.size w w5) := Lib.hid ((hb.out.drew.trans (hb4.mono (by have := hb.out.size; simpa using this))).trans (hb5.mono (by have := hb.out.size; have := hb4.size; simp at this; omega)))
    have hz5 : R + 2 ≤ w5.heap.size := by have := hb4.size; have := hb5.size; simp at *; omega
    clear c0 c1 c2 d0 d1 d2 hk4 hb4 hb5 hb hz
    obtain ⟨c0, c1, c2, d0, d1, d2⟩ := hk5
    by_cases t1 : top < x
    · obtain ⟨rfl, rfl⟩ := nxt_no HX.out (ahead_top HA.out (.inl (by rw [← HXY.out.1]; exact t1)))
      clear fa fb
      go_wp2
      all_goals (first | (rw [Exit.noGoto_ret]; go_ret2) | go_ret2)
      all_goals exact ⟨rfl, hB5.out⟩
    · by_cases t2 : top < y
      · obtain ⟨rfl, rfl⟩ := nxt_no HX.out (ahead_top HA.out (.inr (by rw [← HXY.out.2]; exact t2)))
        clear fa fb
        go_wp2
        all_goals (first | (rw [Exit.noGoto_ret]; go_ret2) | go_ret2)
        all_goals exact ⟨rfl, hB5.out⟩
      · have i3 := fa.1 (by omega)
        have j3 := fb.1 (by omega)
        clear fa fb
        by_cases t3 : x < y
        · have HA2 := Lib.hid (ahead_a h1 h3 (by omega) HA.out (by rw [← HXY.out.1, ← HXY.out.2]; exact t3))
          go_wp2
          go_roundw
          case rel => exact ⟨i + 1, j, by go_num, rfl, by omega, by omega, by omega, by omega, HA2, c0, c1, c2, d0, d1, d2, hz5, hB5⟩
          case measure => simp [intOf]; omega
        · by_cases t4 : y < x
          · have HA2 := Lib.hid (ahead_b g1 h3 (by omega) HA.out (by rw [← HXY.out.1, ← HXY.out.2]; exact t4))
            go_wp2
            go_roundw
            case rel => exact ⟨i, j + 1, rfl, by go_num, by omega, by omega, by omega, by omega, HA2, c0, c1, c2, d0, d1, d2, hz5, hB5⟩
            case measure => simp [intOf]; omega
          · have hxy : num a i = num b j := by rw [← HXY.out.1, ← HXY.out.2]; omega
            obtain ⟨hr, rfl⟩ := nxt_is HX.out (ahead_eq (top := top) h1 g1 h3 i1 (by omega) HA.out hxy (by rw [← HXY.out.1]; omega))
            rw [← HXY.out.1] at hr
            subst hr
            clear hxy
            go_wp2
            all_goals (first | (rw [Exit.noGoto_ret]; go_ret2) | go_ret2)
            all_goals exact ⟨rfl, hB5.out⟩
end Go.Proofs.Ytcjfkbpkhlfbdaa
