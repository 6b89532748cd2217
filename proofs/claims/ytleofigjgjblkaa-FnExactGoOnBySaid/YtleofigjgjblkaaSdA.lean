/- Chapter 4: what the specification's functions hand back. -/
import Derived.Test.YtleofigjgjblkaaBase
import Derived.Test.YtleofigjgjblkaaSpA
import Derived.Test.YtleofigjgjblkaaSdN
namespace Go.Proofs.Ytleofigjgjblkaa
open Go.ChangeShapes Go.WideShapes Go.ChangeAt Go.RowKit

theorem sdK_yes (k : Int) (w : World) (h1 : 0 ≤ k) (h2 : k ≤ 12) :
    Calls Try.prog 61 #[.int .i64 k] w fun e w' => e = .returned (.bool true) ∧ w = w' := by
  go_enter Try.func61, Try.ntmps61
  go_wp2_with (go_at_call 50; refine (in_yes _ _ _ _ h1 h2).mono ?_; rintro e w' ⟨rfl, rfl⟩)
  go_ret
  exact ⟨rfl, rfl⟩
theorem sdK_no (k : Int) (w : World) (h : k < 0 ∨ 12 < k) :
    Calls Try.prog 61 #[.int .i64 k] w fun e w' => e = .returned (.bool false) ∧ w = w' := by
  have H := Lib.hid h
  clear h
  go_enter Try.func61, Try.ntmps61
  go_wp2_with (go_at_call 50; refine (in_no _ _ _ _ H.out).mono ?_; rintro e w' ⟨rfl, rfl⟩)
  go_ret
  exact ⟨rfl, rfl⟩
theorem sdTwo_yes (a b : Int) (w : World) (h1 : 3 ≤ a) (h2 : a ≤ 24) (g1 : 3 ≤ b) (g2 : b ≤ 24) (hne : a ≠ b) :
    Calls Try.prog 49 #[.int .i64 a, .int .i64 b] w fun e w' => e = .returned (.bool true) ∧ w = w' := by
  have hb : (a != b) = true := by simpa using hne
  clear hne
  go_enter Try.func49, Try.ntmps49
  go_wp2_with (first
    | (go_at_call 72; refine (shSides_yes _ _ (by assumption) (by assumption)).mono ?_; rintro e w' ⟨rfl, rfl⟩))
  go_ret
  exact ⟨rfl, rfl⟩
theorem sdTwo_no (a b : Int) (w : World) (h : (a < 3 ∨ 24 < a) ∨ (b < 3 ∨ 24 < b) ∨ a = b) :
    Calls Try.prog 49 #[.int .i64 a, .int .i64 b] w fun e w' => e = .returned (.bool false) ∧ w = w' := by
  by_cases hs : a < 3 ∨ 24 < a
  · have H := Lib.hid hs
    clear h hs
    go_enter Try.func49, Try.ntmps49
    go_wp2_with (go_at_call 72; refine (shSides_no _ _ H.out).mono ?_; rintro e w' ⟨rfl, rfl⟩)
    go_ret
    exact ⟨rfl, rfl⟩
  · have h1 : 3 ≤ a := by omega
    have h2 : a ≤ 24 := by omega
    by_cases ht : b < 3 ∨ 24 < b
    · have hab : a ≠ b := by omega
      have H := Lib.hid ht
      clear h hs ht hab
      go_enter Try.func49, Try.ntmps49
      go_wp2_with (first
        | (go_at_call 72; refine (shSides_yes a _ h1 h2).mono ?_; rintro e w' ⟨rfl, rfl⟩)
        | (go_at_call 72; refine (shSides_no b _ H.out).mono ?_; rintro e w' ⟨rfl, rfl⟩))
      go_ret
      exact ⟨rfl, rfl⟩
    · obtain rfl : a = b := by omega
      clear h hs ht
      go_enter Try.func49, Try.ntmps49
      go_wp2_with (first
        | (go_at_call 72; refine (shSides_yes _ _ h1 h2).mono ?_; rintro e w' ⟨rfl, rfl⟩))
      go_ret
      exact ⟨by simp, rfl⟩
theorem sdIs_any (s n : Int) (w : World) (h1 : 3 ≤ s) (h2 : s ≤ 24) (h3 : 0 ≤ n) (h4 : n ≤ 1000000000000) :
    Calls Try.prog 57 #[.int .i64 s, .int .i64 n] w fun e w' => e = .returned (.bool (num s (pl s n) == n)) ∧ w = w' := by
  have p0 := pl_nn s n h1 h3
  have p1 := pl_le s n h1 h3 h4
  go_enter Try.func57, Try.ntmps57
  go_wp2_with (first
    | (go_at_call 55; refine (shBelow_any _ _ _ h1 h2 h3 h4).mono ?_; rintro e w' ⟨rfl, rfl⟩)
    | (go_at_call 56; refine (shNumber_any _ _ _ h1 h2 (by omega) (by omega)).mono ?_; rintro e w' ⟨rfl, rfl⟩))
  go_ret
  exact ⟨rfl, rfl⟩
set_option maxHeartbeats 800000 in
theorem sdPair_any (K : Nat) (w : World) (hK : K ≤ 25) :
    Calls Try.prog 62 #[.int .i64 K] w fun e w' => e = .returned (.tuple #[.int .i64 (tx K), .int .i64 (ty K)]) ∧ w = w' := by
  have HB := Lib.hid fun k h => tp_25 k h
  go_enter Try.func62, Try.ntmps62
  go_wp2
  go_loop [0, 4, 5] (fun k x y => ∃ i : Nat, i ≤ K ∧ k = .int .i64 ((K : Int) - i) ∧ x = .int .i64 (tx i) ∧ y = .int .i64 (ty i)) (fun k _ _ => (intOf k).toNat)
  case atStart => exact ⟨0, by omega, by simp, rfl, rfl⟩
  case round =>
    obtain ⟨i, hi, rfl, rfl, rfl⟩ := hrel
    by_cases hlt : i < K
    · obtain ⟨a0, a1, a2, a3⟩ := HB.out i (by omega)
      obtain ⟨c0, c1, c2, c3⟩ := HB.out (i + 1) (by omega)
      have HX := Lib.hid (tx_succ i)
      have HY := Lib.hid (ty_succ i)
      rw [HX.out] at c0 c1
      rw [HY.out] at c2 c3
      have hkp : 0 < (K : Int) - i := by omega
      generalize tx i = x at *
      generalize ty i = y at *
      go_wp2
      go_round
      case rel => exact ⟨i + 1, by omega, by go_num, by rw [HX.out], by rw [HY.out]⟩
      case measure => simp [intOf]; omega
    · obtain rfl : i = K := by omega
      go_wp2
      go_ret2
      exact ⟨rfl, rfl⟩
end Go.Proofs.Ytleofigjgjblkaa
