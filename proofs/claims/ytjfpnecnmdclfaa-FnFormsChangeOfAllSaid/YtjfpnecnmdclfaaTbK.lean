/- Chapter 8: ways to choose, by the specification. -/
import Derived.Test.YtjfpnecnmdclfaaMb
namespace Go.Proofs.Ytjfpnecnmdclfaa
open Go.RowKit

theorem chs_up (n k : Nat) : chs n k ≤ chs (n + 1) k := by
  cases k with
  | zero => rw [chs_zero, chs_zero]; exact Nat.le_refl _
  | succ k => rw [chs_succ]; omega
theorem chs_mono {n m : Nat} (h : n ≤ m) (k : Nat) : chs n k ≤ chs m k := by
  induction h with
  | refl => exact Nat.le_refl _
  | step _ ih => exact Nat.le_trans ih (chs_up _ _)
/-- The ways to choose of 60, reckoned one by one. -/
def t60 : Nat → Nat
  | 0 => 1
  | i + 1 => t60 i * (60 - i) / (i + 1)
theorem t60_eq : ∀ i, chs 60 i = t60 i
  | 0 => chs_zero 60
  | i + 1 => by rw [t60, ← t60_eq i, chs_step]
theorem t60_small : ∀ i, i < 30 → t60 (i + 1) * (i + 1) ≤ 9000000000000000000 := by decide
theorem chs_small {n i : Nat} (hn : n ≤ 60) (hi : i < 30) : chs n i * (n - i) ≤ 9000000000000000000 := by
  rw [← chs_mul]
  refine Nat.le_trans (Nat.mul_le_mul_right _ (chs_mono hn (i + 1))) ?_
  rw [t60_eq]
  exact t60_small i hi
set_option maxHeartbeats 800000 in
theorem dfChoose_any (n k : Nat) (w : World) (hn : n ≤ 60) (hk : k ≤ n) (h30 : k ≤ 30) :
    Calls Try.prog 64 #[.int .i64 (n : Int), .int .i64 (k : Int)] w fun e w' => e = .returned (.int .i64 (chs n k : Int)) ∧ w = w' := by
  have HS := Lib.hid fun i => chs_step n i
  have HB := Lib.hid fun i h => chs_small (n := n) (i := i) hn h
  have HL := Lib.hid (show ∀ i, i < 30 → i < n → chs n i ≤ 9000000000000000000 from fun i h h2 => by
    have h1 := chs_small (n := n) (i := i) hn h
    exact Nat.le_trans (Nat.le_mul_of_pos_right _ (by omega)) h1)
  have H0 := Lib.hid (chs_zero n)
  have hki : ¬ (k : Int) > (n : Int) := by omega
  go_enter Try.func64, Try.ntmps64
  go_wp2
  go_loopw [5, 6] (fun v i wr => ∃ j : Nat, j ≤ k ∧ i = .int .i64 (j : Int) ∧ v = .int .i64 (chs n j : Int) ∧ wr = w) (fun _ i _ => k - (intOf i).toNat)
  case atStart => exact ⟨0, by omega, by simp, by rw [H0.out]; rfl, rfl⟩
  case round =>
    obtain ⟨j, hj, rfl, rfl, rfl⟩ := hrel
    by_cases hlt : j < k
    · have hlt2 : (j : Int) < (k : Int) := by omega
      have hs := HS.out j
      have hb := HB.out j (by omega)
      have hl := HL.out j (by omega) (by omega)
      obtain ⟨m, hm⟩ : ∃ m, m = n - j := ⟨_, rfl⟩
      rw [← hm] at hs hb
      have e1 : IntKind.i64.wrap ((n : Int) - j) = (m : Int) := by rw [IntWalk.i64_in _ (by omega)]; omega
      have hx : (chs n j : Int) * (m : Int) = ((chs n j * m : Nat) : Int) := by rw [Int.natCast_mul]
      have e2 : IntKind.i64.wrap ((chs n j : Int) * (m : Int)) = ((chs n j * m : Nat) : Int) := by rw [hx, IntWalk.i64_in _ (by omega)]
      have e3 : IntKind.i64.wrap ((j : Int) + 1) = (j : Int) + 1 := IntWalk.i64_in _ (by omega)
      have hq : ((chs n j * m : Nat) : Int) / ((j : Int) + 1) = (chs n (j + 1) : Int) := by
        rw [← hs, show (j : Int) + 1 = ((j + 1 : Nat) : Int) from by omega]
        rfl
      have hc : chs n (j + 1) ≤ 9000000000000000000 := by
        rw [← hs]
        exact Nat.le_trans (Nat.div_le_self _ _) hb
      have HQ := Lib.hid hq
      have hne : ¬ (j : Int) + 1 = 0 := by omega
      generalize chs n j * m = x at *
      clear hs hb hm hx hq
      go_wp2
      refine ⟨⟨j + 1, by omega, by go_num, ?_, trivial⟩, by simp [intOf]; omega⟩
      rw [HQ.out, ← IntWalk.i64_left, IntWalk.i64_in _ (by omega)]
    · obtain rfl : j = k := by omega
      go_wp2
      go_ret
      exact ⟨rfl, rfl⟩
set_option maxHeartbeats 800000 in
theorem spec_ChooseOf_no (n k : Int) (w : World) (h : (n < 0 ∨ 60 < n) ∨ k < 0) :
    Calls Try.prog 29 #[.int .i64 n, .int .i64 k] w fun e w' => e = .returned (.tuple #[.int .i64 0, .bool false]) ∧ Below w.heap.size w w' := by
  by_cases h1 : n < 0 ∨ 60 < n
  · have H := Lib.hid h1
    clear h h1
    go_enter Try.func29, Try.ntmps29
    go_wp2_with (go_at_call 63; refine (in_no _ _ _ _ H.out).mono ?_; rintro e w' ⟨rfl, rfl⟩)
    go_ret2
    exact ⟨rfl, Below.refl _ _⟩
  · have h2 : 0 ≤ n := by omega
    have h3 : n ≤ 60 := by omega
    have h4 : k < 0 := by omega
    clear h h1
    go_enter Try.func29, Try.ntmps29
    go_wp2_with (go_at_call 63; refine (in_yes _ _ _ _ h2 h3).mono ?_; rintro e w' ⟨rfl, rfl⟩)
    go_ret2
    exact ⟨rfl, Below.refl _ _⟩
theorem least8_any (a b : Int) (w : World) : Calls Try.prog 65 #[.int .i64 a, .int .i64 b] w fun e w' => e = .returned (.int .i64 (if a < b then a else b)) ∧ w = w' := by
  by_cases h : a < b
  · rw [if_pos h]
    go_enter Try.func65, Try.ntmps65
    go_wp2
    go_ret
    exact ⟨rfl, rfl⟩
  · rw [if_neg h]
    go_enter Try.func65, Try.ntmps65
    go_wp2
    go_ret
    exact ⟨rfl, rfl⟩
set_option maxHeartbeats 800000 in
theorem spec_ChooseOf_yes (n : Nat) (k : Int) (w : World) (hn : n ≤ 60) (hk : 0 ≤ k) :
    Calls Try.prog 29 #[.int .i64 (n : Int), .int .i64 k] w fun e w' => e = .returned (.tuple #[.int .i64 (chs n k.toNat : Int), .bool true]) ∧ Below w.heap.size w w' := by
  obtain ⟨k, rfl⟩ := Int.eq_ofNat_of_zero_le hk
  rw [Int.toNat_natCast]
  have h2 : (0 : Int) ≤ (n : Int) := by omega
  have h3 : (n : Int) ≤ 60 := by omega
  by_cases hkn : (k : Int) > (n : Int)
  · rw [chs_none n k (by omega)]
    clear hn hk
    go_enter Try.func29, Try.ntmps29
    go_wp2_with (go_at_call 63; refine (in_yes _ _ _ _ h2 h3).mono ?_; rintro e w' ⟨rfl, rfl⟩)
    go_ret2
    exact ⟨rfl, Below.refl _ _⟩
  · obtain ⟨q, hq1, hq2, hq3⟩ : ∃ q : Nat, (if (k : Int) < (n : Int) - k then (k : Int) else (n : Int) - k) = (q : Int) ∧ chs n q = chs n k ∧ q ≤ 30 ∧ q ≤ n := by
      by_cases h : (k : Int) < (n : Int) - k
      · exact ⟨k, by rw [if_pos h], rfl, by omega, by omega⟩
      · exact ⟨n - k, by rw [if_neg h]; omega, chs_symm n k (by omega), by omega, by omega⟩
    have HC := Lib.hid fun W => dfChoose_any n q W hn hq3.2 hq3.1
    have HL := Lib.hid fun W => least8_any (k : Int) ((n : Int) - k) W
    rw [hq1] at HL
    rw [hq2] at HC
    have e1 : IntKind.i64.wrap ((n : Int) - k) = (n : Int) - k := IntWalk.i64_in _ (by omega)
    clear hq1 hq2 hq3 hn hk
    go_enter Try.func29, Try.ntmps29
    go_wp2_with (first
      | (go_at_call 63; refine (in_yes _ _ _ _ h2 h3).mono ?_; rintro e w' ⟨rfl, rfl⟩)
      | (go_at_call 65; refine (HL.out _).mono ?_; rintro e w' ⟨rfl, rfl⟩)
      | (go_at_call 64; refine (HC.out _).mono ?_; rintro e w' ⟨rfl, rfl⟩))
    go_ret2
    exact ⟨rfl, Below.refl _ _⟩
end Go.Proofs.Ytjfpnecnmdclfaa
