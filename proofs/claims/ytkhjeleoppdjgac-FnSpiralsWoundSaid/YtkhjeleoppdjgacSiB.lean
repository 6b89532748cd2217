/- Chapter 6: the number at a spot, by the specification. -/
import Derived.Test.YtkhjeleoppdjgacSiA
namespace Go.Proofs.Ytkhjeleoppdjgac
open Go.ChangeShapes Go.WideShapes Go.ChangeAt Go.RowKit

set_option maxRecDepth 4000 in
set_option maxHeartbeats 1600000 in
theorem spNumber_any (x y : Int) (w : World) (x0 : -1000 ≤ x) (x1 : x ≤ 1000) (y0 : -1000 ≤ y) (y1 : y ≤ 1000) :
    Calls Try.prog 93 #[.agg #[.int .i64 x, .int .i64 y]] w fun e w' => e = .returned (.int .i64 (nu x y)) ∧ Below w.heap.size w w' := by
  have hs0 := sz_nn x y
  have hs1 : sz x y ≤ 1000 := by unfold sz ab; omega
  have HA := fun (a : Int) (W : World) (h0 : -1000 ≤ a) (h1 : a ≤ 1000) => siAbs_any a W (by omega) (by omega)
  have HAx := Lib.hid fun W => HA x W x0 x1
  have HAy := Lib.hid fun W => HA y W y0 y1
  clear HA
  have HS : Hid (max (ab x) (ab y) = sz x y) := Lib.hid rfl
  have HN : Hid (nu x y = if sz x y = 0 then 0 else (2 * sz x y - 1) * (2 * sz x y - 1) - 1 + onK (sz x y) x y) := Lib.hid rfl
  have HK : Hid (onK (sz x y) x y = if y = -(sz x y) then x + 7 * sz x y else if x = sz x y then y + sz x y else if y = sz x y then 3 * sz x y - x else 5 * sz x y - y) := Lib.hid rfl
  have q0 := sq_nn (2 * sz x y - 1)
  have q1 : (2 * sz x y - 1) * (2 * sz x y - 1) ≤ 2000 * 2000 := by
    rcases Int.lt_or_le 0 (sz x y) with h | h
    · exact sq_le _ _ (by omega) (by omega)
    · rw [show sz x y = 0 by omega]; omega
  have HM : Hid (∀ W : World, Calls Try.prog 155 #[.int .i64 (ab x), .int .i64 (ab y)] W fun e w' => e = .returned (.int .i64 (sz x y)) ∧ W = w') := Lib.hid fun W => siMost_any _ _ W
  generalize onK (sz x y) x y = k at *
  generalize nu x y = u at *
  generalize sz x y = r at *
  generalize ab x = ax at *
  generalize ab y = ay at *
  by_cases h0 : r = 0
  · have HR : Hid (0 = u) := Lib.hid (by rw [HN.out, if_pos h0])
    clear HK HN
    subst h0
    go_enter Try.func93, Try.ntmps93
    go_wp2_with fail
    have hB : Below w.heap.size w (w.alloc (.cells #[.int .i64 x, .int .i64 y] 26)) := (Below.refl _ _).alloc (Nat.le_refl _) _
    have c0 : (w.alloc (.cells #[.int .i64 x, .int .i64 y] 26)).cell? ⟨w.heap.size, 0, none⟩ = some (.int .i64 x) := by simp [go_sem]
    have c1 : (w.alloc (.cells #[.int .i64 x, .int .i64 y] 26)).cell? ⟨w.heap.size, 1, none⟩ = some (.int .i64 y) := by simp [go_sem]
    generalize w.alloc (.cells #[.int .i64 x, .int .i64 y] 26) = w2 at *
    have HB := Lib.hid hB
    clear hB
    go_quiet (first
      | (go_at_call 106; refine (HAx.out _).mono ?_; rintro e w' ⟨rfl, rfl⟩; exact ⟨rfl, _, rfl⟩)
      | (go_at_call 106; refine (HAy.out _).mono ?_; rintro e w' ⟨rfl, rfl⟩; exact ⟨rfl, _, rfl⟩)
      | (go_at_call 155; refine (HM.out _).mono ?_; rintro e w' ⟨rfl, rfl⟩; exact ⟨rfl, _, rfl⟩))
    go_wp2
    go_ret
    exact ⟨ret_int HR.out, below_drewN HB.out _⟩
  · rw [if_neg h0] at HN
    by_cases ha : y = -r
    · rw [if_pos ha] at HK
      have HR : Hid ((2 * r - 1) * (2 * r - 1) - 1 + (x + 7 * r) = u) := Lib.hid (by rw [HN.out, HK.out])
      clear HK HN
      subst ha
      go_enter Try.func93, Try.ntmps93
      go_wp2_with fail
      have hB : Below w.heap.size w (w.alloc (.cells #[.int .i64 x, .int .i64 (-r)] 26)) := (Below.refl _ _).alloc (Nat.le_refl _) _
      have c0 : (w.alloc (.cells #[.int .i64 x, .int .i64 (-r)] 26)).cell? ⟨w.heap.size, 0, none⟩ = some (.int .i64 x) := by simp [go_sem]
      have c1 : (w.alloc (.cells #[.int .i64 x, .int .i64 (-r)] 26)).cell? ⟨w.heap.size, 1, none⟩ = some (.int .i64 (-r)) := by simp [go_sem]
      generalize w.alloc (.cells #[.int .i64 x, .int .i64 (-r)] 26) = w2 at *
      have HB := Lib.hid hB
      clear hB
      go_quiet (first
        | (go_at_call 106; refine (HAx.out _).mono ?_; rintro e w' ⟨rfl, rfl⟩; exact ⟨rfl, _, rfl⟩)
        | (go_at_call 106; refine (HAy.out _).mono ?_; rintro e w' ⟨rfl, rfl⟩; exact ⟨rfl, _, rfl⟩)
        | (go_at_call 155; refine (HM.out _).mono ?_; rintro e w' ⟨rfl, rfl⟩; exact ⟨rfl, _, rfl⟩))
      go_wp2
      go_ret
      exact ⟨ret_int HR.out, below_drewN HB.out _⟩
    · rw [if_neg ha] at HK
      by_cases hb : x = r
      · rw [if_pos hb] at HK
        have HR : Hid ((2 * r - 1) * (2 * r - 1) - 1 + (y + r) = u) := Lib.hid (by rw [HN.out, HK.out])
        clear HK HN
        subst hb
        go_enter Try.func93, Try.ntmps93
        go_wp2_with fail
        have hB : Below w.heap.size w (w.alloc (.cells #[.int .i64 x, .int .i64 y] 26)) := (Below.refl _ _).alloc (Nat.le_refl _) _
        have c0 : (w.alloc (.cells #[.int .i64 x, .int .i64 y] 26)).cell? ⟨w.heap.size, 0, none⟩ = some (.int .i64 x) := by simp [go_sem]
        have c1 : (w.alloc (.cells #[.int .i64 x, .int .i64 y] 26)).cell? ⟨w.heap.size, 1, none⟩ = some (.int .i64 y) := by simp [go_sem]
        generalize w.alloc (.cells #[.int .i64 x, .int .i64 y] 26) = w2 at *
        have HB := Lib.hid hB
        clear hB
        go_quiet (first
          | (go_at_call 106; refine (HAx.out _).mono ?_; rintro e w' ⟨rfl, rfl⟩; exact ⟨rfl, _, rfl⟩)
          | (go_at_call 106; refine (HAy.out _).mono ?_; rintro e w' ⟨rfl, rfl⟩; exact ⟨rfl, _, rfl⟩)
          | (go_at_call 155; refine (HM.out _).mono ?_; rintro e w' ⟨rfl, rfl⟩; exact ⟨rfl, _, rfl⟩))
        go_wp2
        go_ret
        exact ⟨ret_int HR.out, below_drewN HB.out _⟩
      · rw [if_neg hb] at HK
        by_cases hc : y = r
        · rw [if_pos hc] at HK
          have HR : Hid ((2 * r - 1) * (2 * r - 1) - 1 + (3 * r - x) = u) := Lib.hid (by rw [HN.out, HK.out])
          clear HK HN
          subst hc
          go_enter Try.func93, Try.ntmps93
          go_wp2_with fail
          have hB : Below w.heap.size w (w.alloc (.cells #[.int .i64 x, .int .i64 y] 26)) := (Below.refl _ _).alloc (Nat.le_refl _) _
          have c0 : (w.alloc (.cells #[.int .i64 x, .int .i64 y] 26)).cell? ⟨w.heap.size, 0, none⟩ = some (.int .i64 x) := by simp [go_sem]
          have c1 : (w.alloc (.cells #[.int .i64 x, .int .i64 y] 26)).cell? ⟨w.heap.size, 1, none⟩ = some (.int .i64 y) := by simp [go_sem]
          generalize w.alloc (.cells #[.int .i64 x, .int .i64 y] 26) = w2 at *
          have HB := Lib.hid hB
          clear hB
          go_quiet (first
            | (go_at_call 106; refine (HAx.out _).mono ?_; rintro e w' ⟨rfl, rfl⟩; exact ⟨rfl, _, rfl⟩)
            | (go_at_call 106; refine (HAy.out _).mono ?_; rintro e w' ⟨rfl, rfl⟩; exact ⟨rfl, _, rfl⟩)
            | (go_at_call 155; refine (HM.out _).mono ?_; rintro e w' ⟨rfl, rfl⟩; exact ⟨rfl, _, rfl⟩))
          go_wp2
          go_ret
          exact ⟨ret_int HR.out, below_drewN HB.out _⟩
        · rw [if_neg hc] at HK
          have HR : Hid ((2 * r - 1) * (2 * r - 1) - 1 + (5 * r - y) = u) := Lib.hid (by rw [HN.out, HK.out])
          clear HK HN
          go_enter Try.func93, Try.ntmps93
          go_wp2_with fail
          have hB : Below w.heap.size w (w.alloc (.cells #[.int .i64 x, .int .i64 y] 26)) := (Below.refl _ _).alloc (Nat.le_refl _) _
          have c0 : (w.alloc (.cells #[.int .i64 x, .int .i64 y] 26)).cell? ⟨w.heap.size, 0, none⟩ = some (.int .i64 x) := by simp [go_sem]
          have c1 : (w.alloc (.cells #[.int .i64 x, .int .i64 y] 26)).cell? ⟨w.heap.size, 1, none⟩ = some (.int .i64 y) := by simp [go_sem]
          generalize w.alloc (.cells #[.int .i64 x, .int .i64 y] 26) = w2 at *
          have HB := Lib.hid hB
          clear hB
          go_quiet (first
            | (go_at_call 106; refine (HAx.out _).mono ?_; rintro e w' ⟨rfl, rfl⟩; exact ⟨rfl, _, rfl⟩)
            | (go_at_call 106; refine (HAy.out _).mono ?_; rintro e w' ⟨rfl, rfl⟩; exact ⟨rfl, _, rfl⟩)
            | (go_at_call 155; refine (HM.out _).mono ?_; rintro e w' ⟨rfl, rfl⟩; exact ⟨rfl, _, rfl⟩))
          go_wp2
          go_ret
          exact ⟨ret_int HR.out, below_drewN HB.out _⟩
end Go.Proofs.Ytkhjeleoppdjgac
