/- Chapter 5: odd runs whose sums are powers, two runs of one sum, and the laws SumOfRun, CubeAsOdds, PowerAsOdds, SameSums. -/
import Derived.Test.YtkhjeleoppdjgabRuA
namespace Go.Proofs.Ytkhjeleoppdjgab
open Go.ChangeShapes Go.WideShapes Go.ChangeAt Go.RowKit

theorem pw_le (k B : Int) (h1 : 1 ≤ k) (h2 : k ≤ B) (j : Nat) : 1 ≤ k ^ j ∧ k ^ j ≤ B ^ j := by
  induction j with
  | zero => simp
  | succ j ih =>
    rw [Int.pow_succ, Int.pow_succ]
    have a := Int.mul_le_mul ih.2 h2 (by omega) (by omega)
    have b := Int.mul_le_mul ih.1 h1 (by omega) (by omega)
    omega
/-- The powers up to the exponent E are not too great. -/
def PwB (k : Int) (E : Nat) : Prop := ∀ j, j ≤ E → 1 ≤ k ^ j ∧ k ^ j ≤ 10000000000
theorem pwB_cube (k : Int) (h1 : 1 ≤ k) (h2 : k ≤ 1000) : PwB k 2 := fun j hj => by
  have h := pw_le k 1000 h1 h2 j
  refine ⟨h.1, Int.le_trans h.2 ?_⟩
  match j, hj with
  | 0, _ => decide
  | 1, _ => decide
  | 2, _ => decide
theorem pwB_power (k : Int) (E : Nat) (h1 : 1 ≤ k) (h2 : k ≤ 100) (h3 : E ≤ 5) : PwB k E := fun j hj => by
  have h := pw_le k 100 h1 h2 j
  refine ⟨h.1, Int.le_trans h.2 ?_⟩
  have hj5 : j ≤ 5 := by omega
  clear hj h
  match j, hj5 with
  | 0, _ => decide
  | 1, _ => decide
  | 2, _ => decide
  | 3, _ => decide
  | 4, _ => decide
  | 5, _ => decide

theorem ruPower_any (k : Int) (E : Nat) (w : World) (k1 : 1 ≤ k) (k2 : k ≤ 1000) (he : E ≤ 10) (h : PwB k E) :
    Calls Try.prog 82 #[.int .i64 k, .int .i64 ((E : Int) + 1)] w fun e w' => e = .returned (.agg #[.int .i64 (k ^ E - k + 1), .int .i64 k]) ∧ Below w.heap.size w w' := by
  have HP := Lib.hid h
  clear h
  go_enter Try.func82, Try.ntmps82
  go_wp2
  go_loopw [1, 5] (fun e m wr => ∃ j : Nat, j ≤ E ∧ e = .int .i64 ((E : Int) + 1 - j) ∧ m = .int .i64 (k ^ j) ∧ wr = w.alloc (.cells #[.int .i64 0, .int .i64 0] 36)) (fun e _ _ => (intOf e).toNat)
  case atStart => exact ⟨0, Nat.zero_le _, by simp, by simp, rfl⟩
  case round =>
    obtain ⟨j, hj, rfl, rfl, rfl⟩ := hrel
    obtain ⟨b1, b2⟩ := HP.out j hj
    obtain ⟨y, hy⟩ : ∃ y, y = k ^ j := ⟨_, rfl⟩
    by_cases hlt : j < E
    · obtain ⟨b3, b4⟩ := HP.out (j + 1) hlt
      have hps : k ^ (j + 1) = k ^ j * k := Int.pow_succ ..
      rw [← hy] at hps b1 b2 ⊢
      rw [hps] at b3 b4
      have HPS := Lib.hid hps
      clear hps hy
      have hjE : (j : Int) < (E : Int) := by omega
      go_wp2
      go_roundw
      case rel => exact ⟨j + 1, hlt, by congr 1; omega, by rw [HPS.out], trivial⟩
      case measure => simp [intOf]; omega
    · obtain rfl : j = E := by omega
      rw [← hy] at b1 b2 ⊢
      have HY := Lib.hid hy
      clear hy
      have q0 : ((j : Int) + 1 - j) = 1 := by omega
      rw [q0]
      go_wp2
      exact bodyPost_ret (v := .agg #[.int .i64 (y - k + 1), .int .i64 k]) (by simp [results, Try.results82, go_sem]) rfl ⟨by rw [HY.out], (Below.refl _ _).alloc (Nat.le_refl _) _⟩
theorem oddsOfPower_any (k : Int) (E : Nat) (w : World) (k1 : 1 ≤ k) (k2 : k ≤ 1000) (he : E ≤ 10) (h : PwB k E) :
    Calls Try.prog 80 #[.int .i64 k, .int .i64 ((E : Int) + 1)] w fun e w' => e = .returned (.agg #[.int .i64 (k ^ E - k + 1), .int .i64 k]) ∧ Below w.heap.size w w' := by
  have HP := Lib.hid h
  clear h
  go_enter Try.func80, Try.ntmps80
  go_wp2
  go_loopw [5, 8] (fun m i wr => ∃ j : Nat, j ≤ E ∧ i = .int .i64 (j : Int) ∧ m = .int .i64 (k ^ j) ∧ wr = w.alloc (.cells #[.int .i64 0, .int .i64 0] 36)) (fun _ i _ => E - (intOf i).toNat)
  case atStart => exact ⟨0, Nat.zero_le _, by simp, by simp, rfl⟩
  case round =>
    obtain ⟨j, hj, rfl, rfl, rfl⟩ := hrel
    obtain ⟨b1, b2⟩ := HP.out j hj
    obtain ⟨y, hy⟩ : ∃ y, y = k ^ j := ⟨_, rfl⟩
    by_cases hlt : j < E
    · obtain ⟨b3, b4⟩ := HP.out (j + 1) hlt
      have hps : k ^ (j + 1) = k ^ j * k := Int.pow_succ ..
      rw [← hy] at hps b1 b2 ⊢
      rw [hps] at b3 b4
      have HPS := Lib.hid hps
      clear hps hy
      have hjE : (j : Int) < (E : Int) := by omega
      go_wp2
      go_roundw
      case rel => exact ⟨j + 1, hlt, by go_num, by rw [HPS.out], trivial⟩
      case measure => simp [intOf]; omega
    · obtain rfl : j = E := by omega
      rw [← hy] at b1 b2 ⊢
      have HY := Lib.hid hy
      clear hy
      go_wp2
      have q0 : y - (k - 1) = y - k + 1 := by omega
      rw [q0]
      exact bodyPost_ret (v := .agg #[.int .i64 (y - k + 1), .int .i64 k]) (by simp [results, Try.results80, go_sem]) rfl ⟨by rw [HY.out], (Below.refl _ _).alloc (Nat.le_refl _) _⟩
theorem spec_CubeAsOdds_yes (k : Int) (w : World) (k1 : 1 ≤ k) (k2 : k ≤ 1000) :
    Calls Try.prog 20 #[.int .i64 k] w fun e w' => e = .returned (.tuple #[.agg #[.int .i64 (k ^ 2 - k + 1), .int .i64 k], .bool true]) ∧ Below w.heap.size w w' := by
  have HA := Lib.hid (betr_yes k1 k2)
  have HC := Lib.hid fun W => ruPower_any k 2 W k1 k2 (by omega) (pwB_cube k k1 k2)
  obtain ⟨y, hy⟩ : ∃ y, y = k ^ 2 - k + 1 := ⟨_, rfl⟩
  rw [← hy] at HC ⊢
  clear hy
  go_enter Try.func20, Try.ntmps20
  go_wp2_with (first
    | (go_at_call 81; refine (rin_any _ _ _ _).mono ?_; rw [HA.out]; rintro e w' ⟨rfl, rfl⟩)
    | (go_at_call 82; refine (HC.out _).mono ?_; rintro e w1 ⟨rfl, hb1⟩; obtain ⟨c1, f1⟩ := bcell hb1; have z1 : w.heap.size < w1.heap.size := by have := hb1.size; simp at this; omega))
  have hB : Below w.heap.size w w1 := ((Below.refl _ _).alloc (Nat.le_refl _) _).trans (hb1.mono (by simp))
  exact bodyPost_ret (v := .tuple #[.agg #[.int .i64 y, .int .i64 k], .bool true]) (by simp [results, Try.results20, go_sem, c1]) rfl ⟨rfl, (hB.setCell (by simp) _).setCell (by simp) _⟩
theorem spec_CubeAsOdds_no (k : Int) (w : World) (h : k < 1 ∨ 1000 < k) :
    Calls Try.prog 20 #[.int .i64 k] w fun e w' => e = .returned (.tuple #[.agg #[.int .i64 0, .int .i64 0], .bool false]) ∧ Below w.heap.size w w' := by
  have HA := Lib.hid (betr_no h)
  clear h
  go_enter Try.func20, Try.ntmps20
  go_wp2_with (go_at_call 81; refine (rin_any _ _ _ _).mono ?_; rw [HA.out]; rintro e w' ⟨rfl, rfl⟩)
  exact bodyPost_ret (v := .tuple #[.agg #[.int .i64 0, .int .i64 0], .bool false]) (by simp [results, Try.results20, go_sem]) rfl ⟨rfl, (Below.refl _ _).alloc (Nat.le_refl _) _⟩
theorem spec_PowerAsOdds_yes (k : Int) (E : Nat) (w : World) (k1 : 1 ≤ k) (k2 : k ≤ 100) (e1 : 1 ≤ E) (e2 : E ≤ 5) :
    Calls Try.prog 22 #[.int .i64 k, .int .i64 ((E : Int) + 1)] w fun e w' => e = .returned (.tuple #[.agg #[.int .i64 (k ^ E - k + 1), .int .i64 k], .bool true]) ∧ Below w.heap.size w w' := by
  have HA := Lib.hid (betr_yes k1 k2)
  have HB := Lib.hid (betr_yes (x := (E : Int) + 1) (lo := 2) (hi := 6) (by omega) (by omega))
  have HC := Lib.hid fun W => ruPower_any k E W k1 (by omega) (by omega) (pwB_power k E k1 k2 e2)
  obtain ⟨y, hy⟩ : ∃ y, y = k ^ E - k + 1 := ⟨_, rfl⟩
  rw [← hy] at HC ⊢
  obtain ⟨z, hz⟩ : ∃ z, z = (E : Int) + 1 := ⟨_, rfl⟩
  rw [← hz] at HC HB ⊢
  clear hy hz
  go_enter Try.func22, Try.ntmps22
  go_wp2_with (first
    | (go_at_call 81; refine (rin_any _ _ _ _).mono ?_; (first | rw [HA.out] | rw [HB.out]); rintro e w' ⟨rfl, rfl⟩)
    | (go_at_call 82; refine (HC.out _).mono ?_; rintro e w1 ⟨rfl, hb1⟩; obtain ⟨c1, f1⟩ := bcell hb1; have z1 : w.heap.size < w1.heap.size := by have := hb1.size; simp at this; omega))
  have hB : Below w.heap.size w w1 := ((Below.refl _ _).alloc (Nat.le_refl _) _).trans (hb1.mono (by simp))
  exact bodyPost_ret (v := .tuple #[.agg #[.int .i64 y, .int .i64 k], .bool true]) (by simp [results, Try.results22, go_sem, c1]) rfl ⟨rfl, (hB.setCell (by simp) _).setCell (by simp) _⟩
theorem spec_PowerAsOdds_no (k e : Int) (w : World) (h : (k < 1 ∨ 100 < k) ∨ (e < 2 ∨ 6 < e)) :
    Calls Try.prog 22 #[.int .i64 k, .int .i64 e] w fun e w' => e = .returned (.tuple #[.agg #[.int .i64 0, .int .i64 0], .bool false]) ∧ Below w.heap.size w w' := by
  by_cases hs : k < 1 ∨ 100 < k
  · have HA := Lib.hid (betr_no hs)
    clear h hs
    go_enter Try.func22, Try.ntmps22
    go_wp2_with (go_at_call 81; refine (rin_any _ _ _ _).mono ?_; rw [HA.out]; rintro e w' ⟨rfl, rfl⟩)
    exact bodyPost_ret (v := .tuple #[.agg #[.int .i64 0, .int .i64 0], .bool false]) (by simp [results, Try.results22, go_sem]) rfl ⟨rfl, (Below.refl _ _).alloc (Nat.le_refl _) _⟩
  · have HA := Lib.hid (betr_yes (x := k) (lo := 1) (hi := 100) (by omega) (by omega))
    have HB := Lib.hid (betr_no (x := e) (lo := 2) (hi := 6) (by omega))
    clear h hs
    go_enter Try.func22, Try.ntmps22
    go_wp2_with (go_at_call 81; refine (rin_any _ _ _ _).mono ?_; (first | rw [HA.out] | rw [HB.out]); rintro e w' ⟨rfl, rfl⟩)
    exact bodyPost_ret (v := .tuple #[.agg #[.int .i64 0, .int .i64 0], .bool false]) (by simp [results, Try.results22, go_sem]) rfl ⟨rfl, (Below.refl _ _).alloc (Nat.le_refl _) _⟩
theorem impl_CubeAsOdds_yes (k : Int) (w : World) (k1 : 1 ≤ k) (k2 : k ≤ 1000) :
    Calls Try.prog 19 #[.int .i64 k] w fun e w' => e = .returned (.tuple #[.agg #[.int .i64 (k ^ 2 - k + 1), .int .i64 k], .bool true]) ∧ Below w.heap.size w w' := by
  have HA := Lib.hid (betr_yes k1 k2)
  have HC := Lib.hid fun W => oddsOfPower_any k 2 W k1 k2 (by omega) (pwB_cube k k1 k2)
  obtain ⟨y, hy⟩ : ∃ y, y = k ^ 2 - k + 1 := ⟨_, rfl⟩
  rw [← hy] at HC ⊢
  clear hy
  go_enter Try.func19, Try.ntmps19
  go_wp2_with (first
    | (go_at_call 79; refine (rwithin_any _ _ _ _).mono ?_; rw [HA.out]; rintro e w' ⟨rfl, rfl⟩)
    | (go_at_call 80; refine (HC.out _).mono ?_; rintro e w1 ⟨rfl, hb1⟩; obtain ⟨c1, f1⟩ := bcell hb1; have z1 : w.heap.size < w1.heap.size := by have := hb1.size; simp at this; omega))
  have hB : Below w.heap.size w w1 := ((Below.refl _ _).alloc (Nat.le_refl _) _).trans (hb1.mono (by simp))
  exact bodyPost_ret (v := .tuple #[.agg #[.int .i64 y, .int .i64 k], .bool true]) (by simp [results, Try.results19, go_sem, c1]) rfl ⟨rfl, (hB.setCell (by simp) _).setCell (by simp) _⟩
theorem impl_CubeAsOdds_no (k : Int) (w : World) (h : k < 1 ∨ 1000 < k) :
    Calls Try.prog 19 #[.int .i64 k] w fun e w' => e = .returned (.tuple #[.agg #[.int .i64 0, .int .i64 0], .bool false]) ∧ Below w.heap.size w w' := by
  have HA := Lib.hid (betr_no h)
  clear h
  go_enter Try.func19, Try.ntmps19
  go_wp2_with (go_at_call 79; refine (rwithin_any _ _ _ _).mono ?_; rw [HA.out]; rintro e w' ⟨rfl, rfl⟩)
  exact bodyPost_ret (v := .tuple #[.agg #[.int .i64 0, .int .i64 0], .bool false]) (by simp [results, Try.results19, go_sem]) rfl ⟨rfl, (Below.refl _ _).alloc (Nat.le_refl _) _⟩
theorem impl_PowerAsOdds_yes (k : Int) (E : Nat) (w : World) (k1 : 1 ≤ k) (k2 : k ≤ 100) (e1 : 1 ≤ E) (e2 : E ≤ 5) :
    Calls Try.prog 21 #[.int .i64 k, .int .i64 ((E : Int) + 1)] w fun e w' => e = .returned (.tuple #[.agg #[.int .i64 (k ^ E - k + 1), .int .i64 k], .bool true]) ∧ Below w.heap.size w w' := by
  have HA := Lib.hid (betr_yes k1 k2)
  have HB := Lib.hid (betr_yes (x := (E : Int) + 1) (lo := 2) (hi := 6) (by omega) (by omega))
  have HC := Lib.hid fun W => oddsOfPower_any k E W k1 (by omega) (by omega) (pwB_power k E k1 k2 e2)
  obtain ⟨y, hy⟩ : ∃ y, y = k ^ E - k + 1 := ⟨_, rfl⟩
  rw [← hy] at HC ⊢
  obtain ⟨z, hz⟩ : ∃ z, z = (E : Int) + 1 := ⟨_, rfl⟩
  rw [← hz] at HC HB ⊢
  clear hy hz
  go_enter Try.func21, Try.ntmps21
  go_wp2_with (first
    | (go_at_call 79; refine (rwithin_any _ _ _ _).mono ?_; (first | rw [HA.out] | rw [HB.out]); rintro e w' ⟨rfl, rfl⟩)
    | (go_at_call 80; refine (HC.out _).mono ?_; rintro e w1 ⟨rfl, hb1⟩; obtain ⟨c1, f1⟩ := bcell hb1; have z1 : w.heap.size < w1.heap.size := by have := hb1.size; simp at this; omega))
  have hB : Below w.heap.size w w1 := ((Below.refl _ _).alloc (Nat.le_refl _) _).trans (hb1.mono (by simp))
  exact bodyPost_ret (v := .tuple #[.agg #[.int .i64 y, .int .i64 k], .bool true]) (by simp [results, Try.results21, go_sem, c1]) rfl ⟨rfl, (hB.setCell (by simp) _).setCell (by simp) _⟩
theorem impl_PowerAsOdds_no (k e : Int) (w : World) (h : (k < 1 ∨ 100 < k) ∨ (e < 2 ∨ 6 < e)) :
    Calls Try.prog 21 #[.int .i64 k, .int .i64 e] w fun e w' => e = .returned (.tuple #[.agg #[.int .i64 0, .int .i64 0], .bool false]) ∧ Below w.heap.size w w' := by
  by_cases hs : k < 1 ∨ 100 < k
  · have HA := Lib.hid (betr_no hs)
    clear h hs
    go_enter Try.func21, Try.ntmps21
    go_wp2_with (go_at_call 79; refine (rwithin_any _ _ _ _).mono ?_; rw [HA.out]; rintro e w' ⟨rfl, rfl⟩)
    exact bodyPost_ret (v := .tuple #[.agg #[.int .i64 0, .int .i64 0], .bool false]) (by simp [results, Try.results21, go_sem]) rfl ⟨rfl, (Below.refl _ _).alloc (Nat.le_refl _) _⟩
  · have HA := Lib.hid (betr_yes (x := k) (lo := 1) (hi := 100) (by omega) (by omega))
    have HB := Lib.hid (betr_no (x := e) (lo := 2) (hi := 6) (by omega))
    clear h hs
    go_enter Try.func21, Try.ntmps21
    go_wp2_with (go_at_call 79; refine (rwithin_any _ _ _ _).mono ?_; (first | rw [HA.out] | rw [HB.out]); rintro e w' ⟨rfl, rfl⟩)
    exact bodyPost_ret (v := .tuple #[.agg #[.int .i64 0, .int .i64 0], .bool false]) (by simp [results, Try.results21, go_sem]) rfl ⟨rfl, (Below.refl _ _).alloc (Nat.le_refl _) _⟩
end Go.Proofs.Ytkhjeleoppdjgab
