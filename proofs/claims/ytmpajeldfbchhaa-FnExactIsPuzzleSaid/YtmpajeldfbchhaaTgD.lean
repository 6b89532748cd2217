/- Chapter 9, by the program: what fits a clue; DoesFit. -/
import Derived.Test.YtmpajeldfbchhaaTgC
import Derived.Test.YtmpajeldfbchhaaTfL
import Derived.Test.YtmpajeldfbchhaaTfI
import Derived.Test.YtmpajeldfbchhaaTfJ
import Derived.Deep.QuietTactic
import Derived.BigQuiet
namespace Go.Proofs.Ytmpajeldfbchhaa
open Go.ChangeShapes Go.WideShapes Go.ChangeAt Go.RowKit

set_option maxHeartbeats 800000 in
set_option maxRecDepth 4000 in
theorem fits_0 (a b : Int) (n : Nat) (w : World) (h1 : 3 ≤ a) (h2 : a ≤ 24) (h : n ≤ 1000) :
    Calls Try.prog 39 #[.agg #[.int .i64 0, .int .i64 a, .int .i64 b], .int .i64 (n : Int)] w fun e w' => e = .returned (.bool (fit9 ⟨0, a, b⟩ n)) ∧ Below w.heap.size w w' := by
  rw [fit9_0]
  have b0 : Below w.heap.size w (w.alloc (.cells #[.int .i64 0, .int .i64 a, .int .i64 b] 25)) := (Below.refl _ _).alloc (Nat.le_refl _) _
  have HS := Lib.hid fun W => hasShape_any a (n : Int) W h1 h2 (by omega)
  go_enter Try.func39, Try.ntmps39
  go_wp2_with (go_at_call 55; refine (HS.out _).mono ?_; rintro e w1 ⟨rfl, b1⟩)
  go_ret
  exact ⟨rfl, b0.trans (b1.mono b0.size)⟩
set_option maxHeartbeats 800000 in
set_option maxRecDepth 4000 in
theorem fits_1 (a b : Int) (n : Nat) (w : World) (h1 : 3 ≤ a) (h2 : a ≤ 24) (h : n ≤ 1000) :
    Calls Try.prog 39 #[.agg #[.int .i64 1, .int .i64 a, .int .i64 b], .int .i64 (n : Int)] w fun e w' => e = .returned (.bool (fit9 ⟨1, a, b⟩ n)) ∧ Below w.heap.size w w' := by
  rw [fit9_1]
  have b0 : Below w.heap.size w (w.alloc (.cells #[.int .i64 1, .int .i64 a, .int .i64 b] 25)) := (Below.refl _ _).alloc (Nat.le_refl _) _
  have HS := Lib.hid fun W => hasShape_any a (n : Int) W h1 h2 (by omega)
  go_enter Try.func39, Try.ntmps39
  go_wp2_with (go_at_call 55; refine (HS.out _).mono ?_; rintro e w1 ⟨rfl, b1⟩)
  go_ret
  exact ⟨rfl, b0.trans (b1.mono b0.size)⟩
set_option maxHeartbeats 800000 in
set_option maxRecDepth 4000 in
theorem fits_2 (a b : Int) (n : Nat) (w : World) (h1 : 2 ≤ a) (h2 : a ≤ 100) (h : n ≤ 1000) :
    Calls Try.prog 39 #[.agg #[.int .i64 2, .int .i64 a, .int .i64 b], .int .i64 (n : Int)] w fun e w' => e = .returned (.bool (fit9 ⟨2, a, b⟩ n)) ∧ Below w.heap.size w w' := by
  rw [fit9_2]
  have b0 : Below w.heap.size w (w.alloc (.cells #[.int .i64 2, .int .i64 a, .int .i64 b] 25)) := (Below.refl _ _).alloc (Nat.le_refl _) _
  have t2 : (n : Int).tmod a = (n : Int) % a := Int.tmod_eq_emod_of_nonneg (by omega)
  have r0 : 0 ≤ (n : Int) % a := Int.emod_nonneg _ (by omega)
  have r1 : (n : Int) % a < a := Int.emod_lt_of_pos _ (by omega)
  have w2 : IntKind.i64.wrap ((n : Int) % a) = (n : Int) % a := IntWalk.i64_in _ (by omega)
  have ha0 : (a == 0) = false := by simp; omega
  have ha1 : a ≠ 0 := by omega
  obtain ⟨r, hr⟩ : ∃ r, r = (n : Int) % a := ⟨_, rfl⟩
  go_enter Try.func39, Try.ntmps39
  go_wp2
  go_quiet (fail)
  go_wp2
  go_ret
  exact ⟨rfl, below_drewN b0 _⟩
set_option maxHeartbeats 800000 in
set_option maxRecDepth 4000 in
theorem fits_3 (a b : Int) (n : Nat) (w : World)  (h : n ≤ 1000) :
    Calls Try.prog 39 #[.agg #[.int .i64 3, .int .i64 a, .int .i64 b], .int .i64 (n : Int)] w fun e w' => e = .returned (.bool (fit9 ⟨3, a, b⟩ n)) ∧ Below w.heap.size w w' := by
  rw [fit9_3]
  have b0 : Below w.heap.size w (w.alloc (.cells #[.int .i64 3, .int .i64 a, .int .i64 b] 25)) := (Below.refl _ _).alloc (Nat.le_refl _) _
  have HS := Lib.hid fun W => sumOfDigits_any n W (by omega)
  go_enter Try.func39, Try.ntmps39
  go_wp2
  go_quiet (first | (go_at_call 56; refine (HS.out _).mono ?_; rintro e w' ⟨rfl, rfl⟩; exact ⟨rfl, _, rfl⟩))
  go_wp2
  go_ret
  exact ⟨rfl, below_drewN b0 _⟩
set_option maxHeartbeats 800000 in
set_option maxRecDepth 4000 in
theorem fits_4 (a b : Int) (n : Nat) (w : World) (h1 : 3 ≤ b) (h2 : b ≤ 24) (h3 : 0 ≤ a) (h4 : a ≤ 100) (h : n ≤ 1000) :
    Calls Try.prog 39 #[.agg #[.int .i64 4, .int .i64 a, .int .i64 b], .int .i64 (n : Int)] w fun e w' => e = .returned (.bool (fit9 ⟨4, a, b⟩ n)) ∧ Below w.heap.size w w' := by
  rw [fit9_4]
  have b0 : Below w.heap.size w (w.alloc (.cells #[.int .i64 4, .int .i64 a, .int .i64 b] 25)) := (Below.refl _ _).alloc (Nat.le_refl _) _
  have HS := Lib.hid fun W => hasShape_any b ((n : Int) - a) W h1 h2 (by omega)
  have w2 : IntKind.i64.wrap ((n : Int) - a) = (n : Int) - a := IntWalk.i64_in _ (by omega)
  go_enter Try.func39, Try.ntmps39
  go_wp2_with (go_at_call 55; refine (HS.out _).mono ?_; rintro e w1 ⟨rfl, b1⟩)
  go_ret
  exact ⟨rfl, b0.trans (b1.mono b0.size)⟩
set_option maxHeartbeats 800000 in
set_option maxRecDepth 4000 in
theorem fits_5 (a b : Int) (n : Nat) (w : World) (h1 : 3 ≤ a) (h2 : a ≤ 24) (h : n ≤ 1000) :
    Calls Try.prog 39 #[.agg #[.int .i64 5, .int .i64 a, .int .i64 b], .int .i64 (n : Int)] w fun e w' => e = .returned (.bool (fit9 ⟨5, a, b⟩ n)) ∧ Below w.heap.size w w' := by
  rw [fit9_5]
  have b0 : Below w.heap.size w (w.alloc (.cells #[.int .i64 5, .int .i64 a, .int .i64 b] 25)) := (Below.refl _ _).alloc (Nat.le_refl _) _
  have HS := Lib.hid fun W => hasTwoShapes_any a n W h1 h2 h
  go_enter Try.func39, Try.ntmps39
  go_wp2_with (go_at_call 57; refine (HS.out _).mono ?_; rintro e w1 ⟨rfl, b1⟩)
  go_ret
  exact ⟨rfl, b0.trans (b1.mono b0.size)⟩
theorem fits_any (c : Clu) (n : Nat) (w : World) (hc : okc9 c = true) (h : n ≤ 1000) :
    Calls Try.prog 39 #[.agg #[.int .i64 c.k, .int .i64 c.a, .int .i64 c.b], .int .i64 (n : Int)] w fun e w' => e = .returned (.bool (fit9 c n)) ∧ Below w.heap.size w w' := by
  obtain ⟨k, a, b⟩ := c
  show Calls _ _ #[.agg #[.int .i64 k, .int .i64 a, .int .i64 b], _] _ _
  rcases kinds9 k with q | q | q | q | q | q | q
  · rw [okc9_shape (Or.inl q), Bool.and_eq_true] at hc
    subst q
    exact fits_0 a b n w (betr_is hc.1).1 (betr_is hc.1).2 h
  · rw [okc9_shape (Or.inr (Or.inl q)), Bool.and_eq_true] at hc
    subst q
    exact fits_1 a b n w (betr_is hc.1).1 (betr_is hc.1).2 h
  · rw [okc9_shape (Or.inr (Or.inr q)), Bool.and_eq_true] at hc
    subst q
    exact fits_5 a b n w (betr_is hc.1).1 (betr_is hc.1).2 h
  · subst q
    rw [okc9_rest, Bool.and_eq_true] at hc
    exact fits_2 a b n w (betr_is hc.1).1 (betr_is hc.1).2 h
  · subst q
    exact fits_3 a b n w h
  · subst q
    rw [okc9_less, Bool.and_eq_true] at hc
    exact fits_4 a b n w (betr_is hc.2).1 (betr_is hc.2).2 (betr_is hc.1).1 (betr_is hc.1).2 h
  · rw [okc9_none q] at hc
    cases hc
set_option maxHeartbeats 800000 in
theorem impl_DoesFit_kind (q : Clu) (n : Int) (w : World) (hk : okc9 q = false) : Calls Try.prog 18 #[.agg #[.int .i64 q.k, .int .i64 q.a, .int .i64 q.b], .int .i64 n] w fun e w' => e = .returned (.tuple #[.bool false, .bool false]) ∧ Below w.heap.size w w' := by
  have HC := Lib.hid fun W => isClue_any q W
  rw [hk] at HC
  clear hk
  have b0 : Below w.heap.size w (w.alloc (.cells #[.int .i64 q.k, .int .i64 q.a, .int .i64 q.b] 25)) := (Below.refl _ _).alloc (Nat.le_refl _) _
  go_enter Try.func18, Try.ntmps18
  go_wp2_with (go_at_call 11; refine (HC.out _).mono ?_; rintro e w1 ⟨rfl, b1⟩)
  go_ret2
  exact ⟨rfl, b0.trans (b1.mono b0.size)⟩
set_option maxHeartbeats 800000 in
theorem impl_DoesFit_far (q : Clu) (n : Int) (w : World) (hk : okc9 q = true) (hn : n < 1 ∨ 500 < n) : Calls Try.prog 18 #[.agg #[.int .i64 q.k, .int .i64 q.a, .int .i64 q.b], .int .i64 n] w fun e w' => e = .returned (.tuple #[.bool false, .bool false]) ∧ Below w.heap.size w w' := by
  have HC := Lib.hid fun W => isClue_any q W
  rw [hk] at HC
  have HN := Lib.hid (betr_no hn)
  clear hk hn
  have b0 : Below w.heap.size w (w.alloc (.cells #[.int .i64 q.k, .int .i64 q.a, .int .i64 q.b] 25)) := (Below.refl _ _).alloc (Nat.le_refl _) _
  go_enter Try.func18, Try.ntmps18
  go_wp2_with (first
    | (go_at_call 11; refine (HC.out _).mono ?_; rintro e w1 ⟨rfl, b1⟩)
    | (go_at_call 33; refine (isGuess_any _ _).mono ?_; rw [HN.out]; rintro e w' ⟨rfl, rfl⟩))
  go_ret2
  exact ⟨rfl, b0.trans (b1.mono b0.size)⟩
set_option maxHeartbeats 800000 in
theorem impl_DoesFit_yes (q : Clu) (n : Nat) (w : World) (hk : okc9 q = true) (h1 : 1 ≤ n) (h2 : n ≤ 500) : Calls Try.prog 18 #[.agg #[.int .i64 q.k, .int .i64 q.a, .int .i64 q.b], .int .i64 (n : Int)] w fun e w' => e = .returned (.tuple #[.bool (fit9 q n), .bool true]) ∧ Below w.heap.size w w' := by
  have HC := Lib.hid fun W => isClue_any q W
  have HF := Lib.hid fun W => fits_any q n W hk (by omega)
  rw [hk] at HC
  have HN := Lib.hid (betr_yes (x := (n : Int)) (lo := 1) (hi := 500) (by omega) (by omega))
  clear hk
  have b0 : Below w.heap.size w (w.alloc (.cells #[.int .i64 q.k, .int .i64 q.a, .int .i64 q.b] 25)) := (Below.refl _ _).alloc (Nat.le_refl _) _
  have c0 : (w.alloc (.cells #[.int .i64 q.k, .int .i64 q.a, .int .i64 q.b] 25)).cell? ⟨w.heap.size, 0, none⟩ = some (.int .i64 q.k) ∧ (w.alloc (.cells #[.int .i64 q.k, .int .i64 q.a, .int .i64 q.b] 25)).cell? ⟨w.heap.size, 1, none⟩ = some (.int .i64 q.a) ∧ (w.alloc (.cells #[.int .i64 q.k, .int .i64 q.a, .int .i64 q.b] 25)).cell? ⟨w.heap.size, 2, none⟩ = some (.int .i64 q.b) := ⟨by simp [go_sem], by simp [go_sem], by simp [go_sem]⟩
  have z0 : w.heap.size < (w.alloc (.cells #[.int .i64 q.k, .int .i64 q.a, .int .i64 q.b] 25)).heap.size := by simp
  go_enter Try.func18, Try.ntmps18
  go_wp2_with fail
  refine (HC.out _).mono ?_
  rintro e w1 ⟨rfl, b1⟩
  have d0 := (b1.cell (p := ⟨w.heap.size, 0, none⟩) z0).trans c0.1
  have d1 := (b1.cell (p := ⟨w.heap.size, 1, none⟩) z0).trans c0.2.1
  have d2 := (b1.cell (p := ⟨w.heap.size, 2, none⟩) z0).trans c0.2.2
  have b01 := b0.trans (b1.mono b0.size)
  clear b1 b0 c0 z0
  go_wp2_with (first
    | (go_at_call 39; refine (HF.out _).mono ?_; rintro e w2 ⟨rfl, b2⟩)
    | (go_at_call 33; refine (isGuess_any _ _).mono ?_; rw [HN.out]; rintro e w' ⟨rfl, rfl⟩))
  go_ret2
  exact ⟨rfl, b01.trans (b2.mono b01.size)⟩
theorem walk_IsClue (a b c : Int) (w : World) : Calls Try.prog 3 #[.agg #[.int .i64 a, .int .i64 b, .int .i64 c]] w fun e w' => e = .returned (.bool true) ∧ Below w.heap.size w w' :=
  lawC_IsClue ⟨a, b, c⟩ (okc9 ⟨a, b, c⟩) w (spec_IsClue ⟨a, b, c⟩) (isClue_any ⟨a, b, c⟩)
theorem walk_DoesFit9 (q : Clu) (n : Int) (w : World) : Calls Try.prog 5 #[.agg #[.int .i64 q.k, .int .i64 q.a, .int .i64 q.b], .int .i64 n] w fun e w' => e = .returned (.bool true) ∧ Below w.heap.size w w' := by
  cases hk : okc9 q with
  | false => exact lawC_DoesFit q n false false w (fun w => spec_DoesFit_kind q n w hk) (fun w => impl_DoesFit_kind q n w hk)
  | true =>
    by_cases hn : n < 1 ∨ 500 < n
    · exact lawC_DoesFit q n false false w (fun w => spec_DoesFit_far q n w hk hn) (fun w => impl_DoesFit_far q n w hk hn)
    · obtain ⟨m, rfl⟩ : ∃ m : Nat, n = (m : Int) := ⟨n.toNat, by omega⟩
      exact lawC_DoesFit q m (fit9 q m) true w (fun w => spec_DoesFit_yes q m w hk (by omega) (by omega)) (fun w => impl_DoesFit_yes q m w hk (by omega) (by omega))
theorem walk_DoesFit (a b c n : Int) (w : World) : Calls Try.prog 5 #[.agg #[.int .i64 a, .int .i64 b, .int .i64 c], .int .i64 n] w fun e w' => e = .returned (.bool true) ∧ Below w.heap.size w w' := walk_DoesFit9 ⟨a, b, c⟩ n w
theorem walk_IsPuzzle (m : Int) (A : Option Addr) (n c : Nat) (xs : List Clu) (w : World) (hn : xs.length = n) (h2 : n ≤ 9223372036854775807) (ha : Rd w w.heap.size A (c64 xs)) :
    Calls Try.prog 4 #[.agg #[.int .i64 m, .slice A n c]] w fun e w' => e = .returned (.bool true) ∧ Below w.heap.size w w' := by
  by_cases hb : 1048576 < n
  · exact lawP_IsPuzzle_big m A n c w hb h2
  · exact lawP_IsPuzzle m A n c xs (okp9 m xs) w hn (by omega) ha (fun B d lo w ho => spec_IsPuzzle m B n d lo xs w hn (by omega) ho) (fun B d lo w ho => isPuzzle_any m B n d lo _ xs w hn (by omega) ho (Nat.le_refl _))
end Go.Proofs.Ytmpajeldfbchhaa
