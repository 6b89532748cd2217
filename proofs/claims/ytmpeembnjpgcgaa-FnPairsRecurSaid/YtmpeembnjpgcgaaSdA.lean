/- Chapter 4: what the specification's functions hand back. -/
import Derived.Test.YtmpeembnjpgcgaaBase
import Derived.Test.YtmpeembnjpgcgaaSpA
import Derived.Test.YtmpeembnjpgcgaaSdN
namespace Go.Proofs.Ytmpeembnjpgcgaa
open Go.ChangeShapes Go.WideShapes Go.ChangeAt Go.RowKit

theorem sdK_yes (k : Int) (w : World) (h1 : 0 ≤ k) (h2 : k ≤ 12) :
    Calls Try.prog 33 #[.int .i64 k] w fun e w' => e = .returned (.bool true) ∧ w = w' := by
  go_enter Try.func33, Try.ntmps33
  go_wp2_with (go_at_call 40; refine (in_yes _ _ _ _ h1 h2).mono ?_; rintro e w' ⟨rfl, rfl⟩)
  go_ret
  exact ⟨rfl, rfl⟩
theorem sdK_no (k : Int) (w : World) (h : k < 0 ∨ 12 < k) :
    Calls Try.prog 33 #[.int .i64 k] w fun e w' => e = .returned (.bool false) ∧ w = w' := by
  have H := Lib.hid h
  clear h
  go_enter Try.func33, Try.ntmps33
  go_wp2_with (go_at_call 40; refine (in_no _ _ _ _ H.out).mono ?_; rintro e w' ⟨rfl, rfl⟩)
  go_ret
  exact ⟨rfl, rfl⟩
set_option maxHeartbeats 800000 in
theorem sdPair_any (K : Nat) (w : World) (hK : K ≤ 25) :
    Calls Try.prog 34 #[.int .i64 K] w fun e w' => e = .returned (.tuple #[.int .i64 (tx K), .int .i64 (ty K)]) ∧ w = w' := by
  have HB := Lib.hid fun k h => tp_25 k h
  go_enter Try.func34, Try.ntmps34
  go_wp2
  go_loop [0, 4, 5] (fun k x y => ∃ i : Nat, i ≤ K ∧ k = .int .i64 ((K : Int) - i) ∧ x = .int .i64 (tx i) ∧ y = .int .i64 (ty i)) (fun k _ _ => (intOf k).toNat)
  case atStart => exact ⟨0, by omega, by simp, rfl, rfl⟩
  case round =>
    obtain ⟨i, hi, rfl, rfl, rfl⟩ := hrel
    by_cases hlt : i < K
    · obtain ⟨a0, a1, a2, a3⟩ := HB.out i (by omega)
      obtain ⟨c0, c1, c2, c3⟩ := HB.out (i + 1) (by omega)
      have HX := Lib.hid (tx_succ i)
      have HY := Lib.hid (ty_succ i)
      rw [HX.out] at c0 c1
      rw [HY.out] at c2 c3
      have hkp : 0 < (K : Int) - i := by omega
      generalize tx i = x at *
      generalize ty i = y at *
      go_wp2
      go_round
      case rel => exact ⟨i + 1, by omega, by go_num, by rw [HX.out], by rw [HY.out]⟩
      case measure => simp [intOf]; omega
    · obtain rfl : i = K := by omega
      go_wp2
      go_ret2
      exact ⟨rfl, rfl⟩
end Go.Proofs.Ytmpeembnjpgcgaa
