/- Chapter 9, by the specification: sums of digits, sums of two polygonal numbers, what fits a clue. -/
import Derived.Test.YtmpajeldfbchhaaTfB
namespace Go.Proofs.Ytmpajeldfbchhaa
open Go.ChangeShapes Go.WideShapes Go.ChangeAt Go.RowKit

theorem dig9_int (n : Nat) (h : 0 < n) : ((dig9 n : Nat) : Int) = (n : Int) % 10 + ((dig9 (n / 10) : Nat) : Int) := by
  rw [dig9_step n h]
  omega
set_option maxHeartbeats 800000 in
theorem pzDigits_any (n : Nat) (w : World) (h : n ≤ 1000000) : Calls Try.prog 47 #[.int .i64 (n : Int)] w fun e w' => e = .returned (.int .i64 ((dig9 n : Nat) : Int)) ∧ w = w' := by
  go_enter Try.func47, Try.ntmps47
  go_wp2
  go_loop [0, 3] (fun a b => ∃ (m s : Nat), a = .int .i64 (m : Int) ∧ b = .int .i64 (s : Int) ∧ m ≤ 1000000 ∧ s + dig9 m ≤ 1000000 ∧ Hid (s + dig9 m = dig9 n)) (fun a _ => (intOf a).toNat)
  case atStart => exact ⟨n, 0, rfl, rfl, h, by have := dig9_le n; omega, Lib.hid (by omega)⟩
  case round =>
    obtain ⟨m, s, rfl, rfl, hm, hs, he⟩ := hrel
    by_cases h0 : 0 < m
    · have e1 := dig9_step m h0
      have t1 : (m : Int).tdiv 10 = ((m / 10 : Nat) : Int) := by rw [Int.tdiv_eq_ediv_of_nonneg (by omega)]; rfl
      have t2 : (m : Int).tmod 10 = ((m % 10 : Nat) : Int) := by rw [Int.tmod_eq_emod_of_nonneg (by omega)]; rfl
      have HE : Hid (s + m % 10 + dig9 (m / 10) = dig9 n) := Lib.hid (by have := he.out; omega)
      have hmi : (0 : Int) < (m : Int) := by omega
      have hs2 : s + m % 10 + dig9 (m / 10) ≤ 1000000 := by omega
      have w1 : IntKind.i64.wrap ((s : Int) + ((m % 10 : Nat) : Int)) = ((s + m % 10 : Nat) : Int) := by rw [IntWalk.i64_in _ (by omega)]; push_cast; rfl
      have w2 : IntKind.i64.wrap ((m / 10 : Nat) : Int) = ((m / 10 : Nat) : Int) := IntWalk.i64_in _ (by omega)
      have w3 : IntKind.i64.wrap ((m % 10 : Nat) : Int) = ((m % 10 : Nat) : Int) := IntWalk.i64_in _ (by omega)
      clear he e1
      go_wp2
      go_round
      case rel => exact ⟨m / 10, s + m % 10, by first | rfl | go_num, by first | rfl | go_num, by omega, hs2, HE⟩
      case measure => simp [intOf]; omega
    · obtain rfl : m = 0 := by omega
      go_wp2
      go_ret
      exact ⟨ret_int (by have := he.out; rw [dig9_zero] at this; omega), rfl⟩
/-- The first place whose number is not less. -/
theorem stop9 (s : Int) (hs : 3 ≤ s) (n : Nat) : n ≤ num s (n : Int) := num_place s hs n
set_option maxHeartbeats 800000 in
theorem pzSum_any (s : Int) (n : Nat) (w : World) (h1 : 3 ≤ s) (h2 : s ≤ 24) (h : n ≤ 1000) : Calls Try.prog 54 #[.int .i64 s, .int .i64 (n : Int)] w fun e w' => e = .returned (.bool (sum9 s n)) ∧ w = w' := by
  have HE : Hid (sum9 s n = two9 s n n) := Lib.hid rfl
  have HT := Lib.hid (two9_end s h1 (n : Int))
  have HF := Lib.hid (two9_found s (n : Int))
  have HP := Lib.hid (num_place s h1)
  go_enter Try.func54, Try.ntmps54
  go_wp2
  go_loop [5] (fun i => ∃ k : Nat, k ≤ n ∧ i = .int .i64 ((k : Int) + 1) ∧ Hid (two9 s n k = false)) (fun i => n + 1 - (intOf i).toNat)
  case atStart => exact ⟨0, by omega, rfl, Lib.hid rfl⟩
  case round =>
    obtain ⟨k, hk, rfl, HK⟩ := hrel
    obtain ⟨x, hx⟩ : ∃ x, x = num s ((k : Int) + 1) := ⟨_, rfl⟩
    have HN : Hid (∀ W, Calls Try.prog 59 #[.int .i64 s, .int .i64 ((k : Int) + 1)] W fun e w' => e = .returned (.int .i64 x) ∧ W = w') := Lib.hid fun W => by
      rw [hx]; exact shNumber_any s _ W h1 h2 (by omega) (by omega)
    have hx0 : (k : Int) + 1 ≤ x := by
      have := HP.out (k + 1)
      rw [hx]
      exact_mod_cast this
    by_cases hlt : x < n
    · have HS : Hid (∀ W, Calls Try.prog 48 #[.int .i64 s, .int .i64 ((n : Int) - x)] W fun e w' => e = .returned (.bool (shp9 s ((n : Int) - x))) ∧ W = w') := Lib.hid fun W => pzShape_any s _ W h1 h2 (by omega)
      have HY : Hid (two9 s n (k + 1) = shp9 s ((n : Int) - x)) := Lib.hid (by
        rw [two9, HK.out, ← hx, decide_eq_true hlt, Bool.false_or, Bool.true_and])
      cases hq : shp9 s ((n : Int) - x) with
      | true =>
        rw [hq] at HS HY
        have HZ : Hid (sum9 s n = true) := Lib.hid (by rw [HE.out]; exact HF.out _ HY.out n (by omega))
        clear hx HK HY hq
        go_wp2_with (first
          | (go_at_call 59; refine (HN.out _).mono ?_; rintro e w' ⟨rfl, rfl⟩)
          | (go_at_call 48; refine (HS.out _).mono ?_; rintro e w' ⟨rfl, rfl⟩))
        go_ret
        exact ⟨ret_bool9 HZ.out.symm, rfl⟩
      | false =>
        rw [hq] at HS HY
        clear hx HK hq
        go_wp2_with (first
          | (go_at_call 59; refine (HN.out _).mono ?_; rintro e w' ⟨rfl, rfl⟩)
          | (go_at_call 48; refine (HS.out _).mono ?_; rintro e w' ⟨rfl, rfl⟩))
        go_round
        case rel => exact ⟨k + 1, by omega, by go_num, HY⟩
        case measure => simp [intOf]; omega
    · have HZ : Hid (sum9 s n = false) := Lib.hid (by rw [HE.out, HT.out k (by rw [← hx]; omega) n hk]; exact HK.out)
      clear hx HK
      go_wp2_with (go_at_call 59; refine (HN.out _).mono ?_; rintro e w' ⟨rfl, rfl⟩)
      go_ret
      exact ⟨ret_bool9 HZ.out.symm, rfl⟩

/-- What a clue's kind asks. -/
theorem fit9_0 (a b : Int) (n : Nat) : fit9 ⟨0, a, b⟩ n = shp9 a n := rfl
theorem fit9_1 (a b : Int) (n : Nat) : fit9 ⟨1, a, b⟩ n = !shp9 a n := rfl
theorem fit9_2 (a b : Int) (n : Nat) : fit9 ⟨2, a, b⟩ n = decide ((n : Int) % a = b) := rfl
theorem fit9_3 (a b : Int) (n : Nat) : fit9 ⟨3, a, b⟩ n = decide ((dig9 n : Int) = a) := rfl
theorem fit9_4 (a b : Int) (n : Nat) : fit9 ⟨4, a, b⟩ n = shp9 b ((n : Int) - a) := rfl
theorem fit9_5 (a b : Int) (n : Nat) : fit9 ⟨5, a, b⟩ n = sum9 a n := rfl
set_option maxHeartbeats 800000 in
theorem pzFits_0 (a b : Int) (n : Nat) (w : World) (h1 : 3 ≤ a) (h2 : a ≤ 24) (h : n ≤ 1000) :
    Calls Try.prog 38 #[.agg #[.int .i64 0, .int .i64 a, .int .i64 b], .int .i64 (n : Int)] w fun e w' => e = .returned (.bool (fit9 ⟨0, a, b⟩ n)) ∧ Below w.heap.size w w' := by
  rw [fit9_0]
  have HS := Lib.hid fun W => pzShape_any a (n : Int) W h1 h2 (by omega)
  go_enter Try.func38, Try.ntmps38
  go_wp2_with (go_at_call 48; refine (HS.out _).mono ?_; rintro e w' ⟨rfl, rfl⟩)
  go_ret
  exact ⟨rfl, (Below.refl _ _).alloc (Nat.le_refl _) _⟩
set_option maxHeartbeats 800000 in
theorem pzFits_1 (a b : Int) (n : Nat) (w : World) (h1 : 3 ≤ a) (h2 : a ≤ 24) (h : n ≤ 1000) :
    Calls Try.prog 38 #[.agg #[.int .i64 1, .int .i64 a, .int .i64 b], .int .i64 (n : Int)] w fun e w' => e = .returned (.bool (fit9 ⟨1, a, b⟩ n)) ∧ Below w.heap.size w w' := by
  rw [fit9_1]
  have HS := Lib.hid fun W => pzShape_any a (n : Int) W h1 h2 (by omega)
  go_enter Try.func38, Try.ntmps38
  go_wp2_with (go_at_call 48; refine (HS.out _).mono ?_; rintro e w' ⟨rfl, rfl⟩)
  go_ret
  exact ⟨rfl, (Below.refl _ _).alloc (Nat.le_refl _) _⟩
set_option maxHeartbeats 800000 in
theorem pzFits_2 (a b : Int) (n : Nat) (w : World) (h1 : 2 ≤ a) (h2 : a ≤ 100) (h : n ≤ 1000) :
    Calls Try.prog 38 #[.agg #[.int .i64 2, .int .i64 a, .int .i64 b], .int .i64 (n : Int)] w fun e w' => e = .returned (.bool (fit9 ⟨2, a, b⟩ n)) ∧ Below w.heap.size w w' := by
  rw [fit9_2]
  have t2 : (n : Int).tmod a = (n : Int) % a := Int.tmod_eq_emod_of_nonneg (by omega)
  have r0 : 0 ≤ (n : Int) % a := Int.emod_nonneg _ (by omega)
  have r1 : (n : Int) % a < a := Int.emod_lt_of_pos _ (by omega)
  have w2 : IntKind.i64.wrap ((n : Int) % a) = (n : Int) % a := IntWalk.i64_in _ (by omega)
  have ha0 : (a == 0) = false := by simp; omega
  have ha1 : a ≠ 0 := by omega
  obtain ⟨r, hr⟩ : ∃ r, r = (n : Int) % a := ⟨_, rfl⟩
  go_enter Try.func38, Try.ntmps38
  go_wp2
  go_quiet (fail)
  go_wp2
  go_ret
  exact ⟨rfl, below_drewN ((Below.refl _ _).alloc (Nat.le_refl _) _) _⟩
set_option maxHeartbeats 800000 in
theorem pzFits_3 (a b : Int) (n : Nat) (w : World) (h : n ≤ 1000) :
    Calls Try.prog 38 #[.agg #[.int .i64 3, .int .i64 a, .int .i64 b], .int .i64 (n : Int)] w fun e w' => e = .returned (.bool (fit9 ⟨3, a, b⟩ n)) ∧ Below w.heap.size w w' := by
  rw [fit9_3]
  have HS := Lib.hid fun W => pzDigits_any n W (by omega)
  go_enter Try.func38, Try.ntmps38
  go_wp2
  go_quiet (first | (go_at_call 47; refine (HS.out _).mono ?_; rintro e w' ⟨rfl, rfl⟩; exact ⟨rfl, _, rfl⟩))
  go_wp2
  go_ret
  exact ⟨rfl, below_drewN ((Below.refl _ _).alloc (Nat.le_refl _) _) _⟩
set_option maxHeartbeats 800000 in
theorem pzFits_4 (a b : Int) (n : Nat) (w : World) (h1 : 3 ≤ b) (h2 : b ≤ 24) (h3 : 0 ≤ a) (h4 : a ≤ 100) (h : n ≤ 1000) :
    Calls Try.prog 38 #[.agg #[.int .i64 4, .int .i64 a, .int .i64 b], .int .i64 (n : Int)] w fun e w' => e = .returned (.bool (fit9 ⟨4, a, b⟩ n)) ∧ Below w.heap.size w w' := by
  rw [fit9_4]
  have HS := Lib.hid fun W => pzShape_any b ((n : Int) - a) W h1 h2 (by omega)
  have w2 : IntKind.i64.wrap ((n : Int) - a) = (n : Int) - a := IntWalk.i64_in _ (by omega)
  go_enter Try.func38, Try.ntmps38
  go_wp2_with (go_at_call 48; refine (HS.out _).mono ?_; rintro e w' ⟨rfl, rfl⟩)
  go_ret
  exact ⟨rfl, (Below.refl _ _).alloc (Nat.le_refl _) _⟩
set_option maxHeartbeats 800000 in
theorem pzFits_5 (a b : Int) (n : Nat) (w : World) (h1 : 3 ≤ a) (h2 : a ≤ 24) (h : n ≤ 1000) :
    Calls Try.prog 38 #[.agg #[.int .i64 5, .int .i64 a, .int .i64 b], .int .i64 (n : Int)] w fun e w' => e = .returned (.bool (fit9 ⟨5, a, b⟩ n)) ∧ Below w.heap.size w w' := by
  rw [fit9_5]
  have HS := Lib.hid fun W => pzSum_any a n W h1 h2 h
  go_enter Try.func38, Try.ntmps38
  go_wp2_with (go_at_call 54; refine (HS.out _).mono ?_; rintro e w' ⟨rfl, rfl⟩)
  go_ret
  exact ⟨rfl, (Below.refl _ _).alloc (Nat.le_refl _) _⟩
theorem betr_is {x lo hi : Int} (h : betr x lo hi = true) : lo ≤ x ∧ x ≤ hi := of_decide_eq_true h
theorem pzFits_any (c : Clu) (n : Nat) (w : World) (hc : okc9 c = true) (h : n ≤ 1000) :
    Calls Try.prog 38 #[.agg #[.int .i64 c.k, .int .i64 c.a, .int .i64 c.b], .int .i64 (n : Int)] w fun e w' => e = .returned (.bool (fit9 c n)) ∧ Below w.heap.size w w' := by
  obtain ⟨k, a, b⟩ := c
  show Calls _ _ #[.agg #[.int .i64 k, .int .i64 a, .int .i64 b], _] _ _
  rcases kinds9 k with q | q | q | q | q | q | q
  · rw [okc9_shape (Or.inl q), Bool.and_eq_true] at hc
    subst q
    exact pzFits_0 a b n w (betr_is hc.1).1 (betr_is hc.1).2 h
  · rw [okc9_shape (Or.inr (Or.inl q)), Bool.and_eq_true] at hc
    subst q
    exact pzFits_1 a b n w (betr_is hc.1).1 (betr_is hc.1).2 h
  · rw [okc9_shape (Or.inr (Or.inr q)), Bool.and_eq_true] at hc
    subst q
    exact pzFits_5 a b n w (betr_is hc.1).1 (betr_is hc.1).2 h
  · subst q
    rw [okc9_rest, Bool.and_eq_true] at hc
    exact pzFits_2 a b n w (betr_is hc.1).1 (betr_is hc.1).2 h
  · subst q
    exact pzFits_3 a b n w h
  · subst q
    rw [okc9_less, Bool.and_eq_true] at hc
    exact pzFits_4 a b n w (betr_is hc.2).1 (betr_is hc.2).2 (betr_is hc.1).1 (betr_is hc.1).2 h
  · rw [okc9_none q] at hc
    cases hc
end Go.Proofs.Ytmpajeldfbchhaa
